/-
  Swap and Scale, of the program and of the reference.
-/
import Derived.Test.YtbgfiejaehpffaaY4
namespace Go.Proofs.Ytbgfiejaehpffaa
open Go.RowKit

theorem allIn_2 (lo hi a b : Int) : allIn lo hi [a, b] = true ↔ (lo ≤ a ∧ a ≤ hi) ∧ (lo ≤ b ∧ b ≤ hi) := by
  unfold allIn outB; simp
theorem PB.whole {w : World} {g n : Nat} {L : List F} (h : PB w g 30 L) (hl : L.length = n) (hn : n ≤ 100000) : Fs w w.heap.size (some ⟨g, 0, none⟩) n n L := by
  have := h.fs (m := n) (c := n) (B := w.heap.size) (by omega) (Nat.le_refl _) (by omega) h.lt
  rwa [List.take_of_length_le (by omega)] at this

set_option maxRecDepth 100000 in
set_option maxHeartbeats 4000000 in
theorem Swap_no (A : Option Addr) (n c : Nat) (fs : List F) (w : World) (h : Fs w w.heap.size A n c fs) (hb : Hid (offB fs = false)) :
    Calls Try.prog 32 #[.slice A n c] w fun e w' => e = .returned (.tuple #[.slice none 0 0, .int .i64 2]) ∧ Below w.heap.size w w' := by
  have hm := h.most; have hcap := h.cap
  have HC := hide (areOffers_any A n c fs w h false hb)
  clear h
  go_enter Try.func32, Try.ntmps32
  go_wp2_with fail
  refine (unhide HC).mono ?_
  rintro e w1 ⟨rfl, b1⟩
  have HB1 := hide b1
  clear b1
  go_wp2_with fail
  exact bodyPost_ret (v := .tuple #[.slice none 0 0, .int .i64 2]) (by simp [results, Try.results32, go_sem]) rfl ⟨rfl, unhide HB1⟩

set_option maxRecDepth 100000 in
set_option maxHeartbeats 4000000 in
theorem Swap_ok (A : Option Addr) (n c : Nat) (fs : List F) (w : World) (h : Fs w w.heap.size A n c fs) (hb : Hid (offB fs = true)) :
    Calls Try.prog 32 #[.slice A n c] w fun e w' => ∃ b, e = .returned (.tuple #[.slice (some ⟨b, 0, none⟩) n n, .int .i64 0]) ∧ Fs w' w'.heap.size (some ⟨b, 0, none⟩) n n (fs.map swF) ∧ Below w.heap.size w w' := by
  have hm := h.most; have hcap := h.cap
  have hn : n ≤ 8 := by have := ((offB_iff fs).1 hb.out).most; have := h.len; omega
  have HL := hide h.len
  have HI := hide h
  have HC := hide (areOffers_any A n c fs w h true hb)
  clear h
  go_enter Try.func32, Try.ntmps32
  go_wp2_with fail
  refine (unhide HC).mono ?_
  rintro e w1 ⟨rfl, b1⟩
  have HB1 := hide b1
  clear b1
  go_wp2_with fail
  refine (each_any 67 #[] swF A n c fs w1 (((unhide HI).below (unhide HB1)).more (unhide HB1).size) (by omega) enter67 (swap_map w1 fs)).mono ?_
  rintro e w2 ⟨b, hbb, rfl, hp, b2⟩
  have HB2 := hide ((unhide HB1).trans (b2.mono (unhide HB1).size))
  have HF2 := hide (hp.whole (n := n) (by simp; exact HL.out) (by omega))
  clear b2 hp
  go_wp2_with fail
  exact bodyPost_ret (v := .tuple #[.slice (some ⟨b, 0, none⟩) n n, .int .i64 0]) (by simp [results, Try.results32, go_sem]) rfl ⟨b, rfl, unhide HF2, unhide HB2⟩

set_option maxHeartbeats 1000000 in
theorem scaling_any (a b : Int) (w : World) :
    Calls Try.prog 65 #[.int .i64 a, .int .i64 b] w fun e w' => e = .returned (.func (.func 78) #[] #[.pointer (some ⟨w.heap.size, 0, none⟩), .pointer (some ⟨w.heap.size + 1, 0, none⟩)]) ∧ w'.heap[w.heap.size]? = some (.cells #[.int .i64 a] 3 (0, 0)) ∧ w'.heap[w.heap.size + 1]? = some (.cells #[.int .i64 b] 3 (0, 0)) ∧ Below w.heap.size w w' := by
  obtain ⟨W0, hW0⟩ : ∃ W0, W0 = (w.alloc (.cells #[.int .i64 a] 3)).alloc (.cells #[.int .i64 b] 3) := ⟨_, rfl⟩
  have HB0 := hide (show Below w.heap.size w W0 from by rw [hW0]; exact ((Below.refl _ w).alloc (Nat.le_refl _) _).alloc (by simp) _)
  have H0 := hide (show W0.heap[w.heap.size]? = some (.cells #[.int .i64 a] 3 (0, 0)) from by rw [hW0, Below.heap_alloc _ _ _ (by simp)]; exact heap_new_ w _)
  have H1 := hide (show W0.heap[w.heap.size + 1]? = some (.cells #[.int .i64 b] 3 (0, 0)) from by
    rw [hW0]
    have := heap_new_ (w.alloc (.cells #[.int .i64 a] 3)) (.cells #[.int .i64 b] 3)
    rwa [World.size_alloc] at this)
  have hW : (w.alloc (.cells #[.int .i64 a] 3)).alloc (.cells #[.int .i64 b] 3) = W0 := hW0.symm
  clear hW0
  go_enter Try.func65, Try.ntmps65
  go_wp2_with fail
  clear hW
  go_ret
  exact ⟨rfl, unhide H0, unhide H1, unhide HB0⟩

theorem one_at {W : World} {b : Nat} {v0 : Value} {t : TypeId} (h : W.heap[b]? = some (.cells #[v0] t (0, 0))) : W.cell? ⟨b, 0, none⟩ = some v0 := by
  rw [cell_row_ h]; rfl

set_option maxRecDepth 100000 in
set_option maxHeartbeats 4000000 in
theorem Scale_no1 (A : Option Addr) (n c : Nat) (fs : List F) (a b : Int) (w : World) (h : Fs w w.heap.size A n c fs) (hb : Hid (offB fs = false)) :
    Calls Try.prog 31 #[.slice A n c, .int .i64 a, .int .i64 b] w fun e w' => e = .returned (.tuple #[.slice none 0 0, .int .i64 2]) ∧ Below w.heap.size w w' := by
  have hm := h.most; have hcap := h.cap
  have HC := hide (areOffers_any A n c fs w h false hb)
  clear h
  go_enter Try.func31, Try.ntmps31
  go_wp2_with fail
  refine (unhide HC).mono ?_
  rintro e w1 ⟨rfl, b1⟩
  have HB1 := hide b1
  clear b1
  go_wp2_with fail
  exact bodyPost_ret (v := .tuple #[.slice none 0 0, .int .i64 2]) (by simp [results, Try.results31, go_sem]) rfl ⟨rfl, unhide HB1⟩

set_option maxRecDepth 100000 in
set_option maxHeartbeats 4000000 in
theorem Scale_no2 (A : Option Addr) (n c : Nat) (fs : List F) (a b : Int) (w : World) (h : Fs w w.heap.size A n c fs) (hb : Hid (offB fs = true)) (hi : Hid (allIn 1 30 [a, b] = false)) :
    Calls Try.prog 31 #[.slice A n c, .int .i64 a, .int .i64 b] w fun e w' => e = .returned (.tuple #[.slice none 0 0, .int .i64 2]) ∧ Below w.heap.size w w' := by
  have hm := h.most; have hcap := h.cap
  have HC := hide (areOffers_any A n c fs w h true hb)
  clear h
  go_enter Try.func31, Try.ntmps31
  go_wp2_with fail
  refine (unhide HC).mono ?_
  rintro e w1 ⟨rfl, b1⟩
  have HB1 := hide b1
  clear b1
  have HI1 := hide (ints_two w1 a b)
  have HB2 := hide ((unhide HB1).alloc (unhide HB1).size (.cells #[.int .i64 a, .int .i64 b] 3))
  go_wp2_with fail
  refine (within_any _ _ _ _ 1 30 (w1.alloc (.cells #[.int .i64 a, .int .i64 b] 3)) _ (unhide HI1) (by simp) false hi).mono ?_
  rintro e w2 ⟨rfl, b2⟩
  have HB3 := hide ((unhide HB2).trans (b2.mono (unhide HB2).size))
  clear b2
  go_wp2_with fail
  exact bodyPost_ret (v := .tuple #[.slice none 0 0, .int .i64 2]) (by simp [results, Try.results31, go_sem]) rfl ⟨rfl, unhide HB3⟩

set_option maxRecDepth 100000 in
set_option maxHeartbeats 8000000 in
theorem Scale_none (A : Option Addr) (n c : Nat) (fs : List F) (a b : Int) (w : World) (h : Fs w w.heap.size A n c fs) (hb : Hid (offB fs = true)) (hi : Hid (allIn 1 30 [a, b] = true)) (hp : Hid (prsB (fs.map (scF a b)) = false)) :
    Calls Try.prog 31 #[.slice A n c, .int .i64 a, .int .i64 b] w fun e w' => e = .returned (.tuple #[.slice none 0 0, .int .i64 4]) ∧ Below w.heap.size w w' := by
  have hm := h.most; have hcap := h.cap
  have HOf := hide ((offB_iff fs).1 hb.out)
  have hn : n ≤ 8 := by have := HOf.out.most; have := h.len; omega
  have HL := hide h.len
  have HI := hide h
  have HAB := hide (show smallP 1000 (a, b) from by
    have := (allIn_2 1 30 a b).1 hi.out
    unfold smallP; simp only; omega)
  have HC := hide (areOffers_any A n c fs w h true hb)
  clear h
  go_enter Try.func31, Try.ntmps31
  go_wp2_with fail
  refine (unhide HC).mono ?_
  rintro e w1 ⟨rfl, b1⟩
  have HB1 := hide b1
  clear b1
  have HI1 := hide (ints_two w1 a b)
  have HB2 := hide ((unhide HB1).alloc (unhide HB1).size (.cells #[.int .i64 a, .int .i64 b] 3))
  go_wp2_with fail
  refine (within_any _ _ _ _ 1 30 (w1.alloc (.cells #[.int .i64 a, .int .i64 b] 3)) _ (unhide HI1) (by simp) true hi).mono ?_
  rintro e w2 ⟨rfl, b2⟩
  have HB3 := hide ((unhide HB2).trans (b2.mono (unhide HB2).size))
  clear b2
  go_wp2_with fail
  refine (scaling_any a b w2).mono ?_
  rintro e w3 ⟨rfl, x0, x1, b3⟩
  have HB4 := hide ((unhide HB3).trans (b3.mono (unhide HB3).size))
  have HM := hide (scale_map a b w2.heap.size (w2.heap.size + 1) w3 fs (one_at x0) (one_at x1) (fun q hq => HOf.out.small q hq) HAB.out)
  clear b3 x0 x1
  go_wp2_with fail
  refine (each_any 78 #[.pointer (some ⟨w2.heap.size, 0, none⟩), .pointer (some ⟨w2.heap.size + 1, 0, none⟩)] (scF a b) A n c fs w3 (((unhide HI).below (unhide HB4)).more (unhide HB4).size) (by omega) enter78 (unhide HM)).mono ?_
  rintro e w4 ⟨gb, hgb, rfl, hpb, b4⟩
  have HB5 := hide ((unhide HB4).trans (b4.mono (unhide HB4).size))
  have HF4 := hide (hpb.whole (n := n) (by simp; exact HL.out) (by omega))
  clear b4 hpb
  go_wp2_with fail
  refine (arePairs_any _ _ _ (fs.map (scF a b)) w4 (unhide HF4) false hp).mono ?_
  rintro e w5 ⟨rfl, b5⟩
  have HB6 := hide ((unhide HB5).trans (b5.mono (unhide HB5).size))
  have HF5 := hide (((unhide HF4).below b5).more b5.size)
  clear b5
  go_wp2_with fail
  exact bodyPost_ret (v := .tuple #[.slice none 0 0, .int .i64 4]) (by simp [results, Try.results31, go_sem]) rfl ⟨rfl, unhide HB6⟩

set_option maxRecDepth 100000 in
set_option maxHeartbeats 8000000 in
theorem Scale_ok (A : Option Addr) (n c : Nat) (fs : List F) (a b : Int) (w : World) (h : Fs w w.heap.size A n c fs) (hb : Hid (offB fs = true)) (hi : Hid (allIn 1 30 [a, b] = true)) (hp : Hid (prsB (fs.map (scF a b)) = true)) :
    Calls Try.prog 31 #[.slice A n c, .int .i64 a, .int .i64 b] w fun e w' => ∃ b2, e = .returned (.tuple #[.slice (some ⟨b2, 0, none⟩) n n, .int .i64 0]) ∧ Fs w' w'.heap.size (some ⟨b2, 0, none⟩) n n (fs.map (scF a b)) ∧ Below w.heap.size w w' := by
  have hm := h.most; have hcap := h.cap
  have HOf := hide ((offB_iff fs).1 hb.out)
  have hn : n ≤ 8 := by have := HOf.out.most; have := h.len; omega
  have HL := hide h.len
  have HI := hide h
  have HAB := hide (show smallP 1000 (a, b) from by
    have := (allIn_2 1 30 a b).1 hi.out
    unfold smallP; simp only; omega)
  have HC := hide (areOffers_any A n c fs w h true hb)
  clear h
  go_enter Try.func31, Try.ntmps31
  go_wp2_with fail
  refine (unhide HC).mono ?_
  rintro e w1 ⟨rfl, b1⟩
  have HB1 := hide b1
  clear b1
  have HI1 := hide (ints_two w1 a b)
  have HB2 := hide ((unhide HB1).alloc (unhide HB1).size (.cells #[.int .i64 a, .int .i64 b] 3))
  go_wp2_with fail
  refine (within_any _ _ _ _ 1 30 (w1.alloc (.cells #[.int .i64 a, .int .i64 b] 3)) _ (unhide HI1) (by simp) true hi).mono ?_
  rintro e w2 ⟨rfl, b2⟩
  have HB3 := hide ((unhide HB2).trans (b2.mono (unhide HB2).size))
  clear b2
  go_wp2_with fail
  refine (scaling_any a b w2).mono ?_
  rintro e w3 ⟨rfl, x0, x1, b3⟩
  have HB4 := hide ((unhide HB3).trans (b3.mono (unhide HB3).size))
  have HM := hide (scale_map a b w2.heap.size (w2.heap.size + 1) w3 fs (one_at x0) (one_at x1) (fun q hq => HOf.out.small q hq) HAB.out)
  clear b3 x0 x1
  go_wp2_with fail
  refine (each_any 78 #[.pointer (some ⟨w2.heap.size, 0, none⟩), .pointer (some ⟨w2.heap.size + 1, 0, none⟩)] (scF a b) A n c fs w3 (((unhide HI).below (unhide HB4)).more (unhide HB4).size) (by omega) enter78 (unhide HM)).mono ?_
  rintro e w4 ⟨gb, hgb, rfl, hpb, b4⟩
  have HB5 := hide ((unhide HB4).trans (b4.mono (unhide HB4).size))
  have HF4 := hide (hpb.whole (n := n) (by simp; exact HL.out) (by omega))
  clear b4 hpb
  go_wp2_with fail
  refine (arePairs_any _ _ _ (fs.map (scF a b)) w4 (unhide HF4) true hp).mono ?_
  rintro e w5 ⟨rfl, b5⟩
  have HB6 := hide ((unhide HB5).trans (b5.mono (unhide HB5).size))
  have HF5 := hide (((unhide HF4).below b5).more b5.size)
  clear b5
  go_wp2_with fail
  exact bodyPost_ret (v := .tuple #[.slice (some ⟨gb, 0, none⟩) n n, .int .i64 0]) (by simp [results, Try.results31, go_sem]) rfl ⟨gb, rfl, unhide HF5, unhide HB6⟩

end Go.Proofs.Ytbgfiejaehpffaa
