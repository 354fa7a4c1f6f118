/-
  areWithin of the program: numbers from one to another.
-/
import Derived.Test.YtbgfiejaehpffaaQ4
namespace Go.Proofs.Ytbgfiejaehpffaa
open Go.RowKit

/-- The first place, from k on, of one that p tells; -1 if there is none. -/
def ixP {α : Type} (p : α → Bool) : List α → Nat → Int
  | [], _ => -1
  | x :: xs, k => if p x = true then (k : Int) else ixP p xs (k + 1)
theorem ixP_none {α : Type} {p : α → Bool} : ∀ (xs : List α) (k : Nat), xs.any p = false → ixP p xs k = -1
  | [], _, _ => rfl
  | x :: xs, k, h => by
    simp only [List.any_cons, Bool.or_eq_false_iff] at h
    unfold ixP
    rw [if_neg (by simp [h.1])]
    exact ixP_none xs (k + 1) h.2
theorem ixP_some {α : Type} {p : α → Bool} : ∀ (xs : List α) (k : Nat), xs.any p = true → (k : Int) ≤ ixP p xs k
  | [], _, h => by simp at h
  | x :: xs, k, h => by
    simp only [List.any_cons, Bool.or_eq_true] at h
    unfold ixP
    split
    · exact Int.le_refl _
    · rename_i hx
      have := ixP_some xs (k + 1) (h.resolve_left hx)
      omega
theorem ixP_geq {α : Type} (p : α → Bool) (xs : List α) : decide (0 ≤ ixP p xs 0) = xs.any p := by
  cases h : xs.any p with
  | false => rw [ixP_none xs 0 h]; rfl
  | true => have := ixP_some xs 0 h; simp; omega
theorem ixP_le {α : Type} (p : α → Bool) : ∀ (xs : List α) (k : Nat), -1 ≤ ixP p xs k ∧ ixP p xs k ≤ k + xs.length
  | [], k => by unfold ixP; simp
  | x :: xs, k => by
    have := ixP_le p xs (k + 1)
    unfold ixP
    split <;> simp only [List.length_cons] <;> omega
theorem ixP_step {α : Type} (p : α → Bool) (xs : List α) (d : α) (k : Nat) (h : k < xs.length) : ixP p (xs.drop k) k = if p (xs.getD k d) = true then (k : Int) else ixP p (xs.drop (k + 1)) (k + 1) := by
  rw [List.drop_eq_getElem_cons h, ixP]
  simp [List.getD, h]

def outB (lo hi x : Int) : Bool := decide (x < lo) || decide (hi < x)
def allIn (lo hi : Int) (xs : List Int) : Bool := !(xs.any (outB lo hi))

set_option maxHeartbeats 400000 in
theorem out_c (x lo hi : Int) (b1 b2 : Nat) (w : World) (h1 : w.cell? ⟨b1, 0, none⟩ = some (.int .i64 lo)) (h2 : w.cell? ⟨b2, 0, none⟩ = some (.int .i64 hi)) :
    Calls Try.prog 77 #[.int .i64 x, .pointer (some ⟨b1, 0, none⟩), .pointer (some ⟨b2, 0, none⟩)] w fun e w' => e = .returned (.bool (outB lo hi x)) ∧ w = w' := by
  by_cases c1 : x < lo
  · have HR := hide (show true = outB lo hi x from by unfold outB; simp [c1])
    go_enter Try.func77, Try.ntmps77
    go_wp2_with fail
    go_ret
    exact ⟨ret_bool HR.out, rfl⟩
  · by_cases c2 : hi < x
    · have HR := hide (show true = outB lo hi x from by unfold outB; simp [c2])
      go_enter Try.func77, Try.ntmps77
      go_wp2_with fail
      go_ret
      exact ⟨ret_bool HR.out, rfl⟩
    · have HR := hide (show false = outB lo hi x from by unfold outB; simp [c1, c2])
      go_enter Try.func77, Try.ntmps77
      go_wp2_with fail
      go_ret
      exact ⟨ret_bool HR.out, rfl⟩

set_option maxHeartbeats 1000000 in
theorem indexI_any (A : Option Addr) (n c : Nat) (xs : List Int) (lo hi : Int) (b1 b2 : Nat) (w : World) (B : Nat) (h : Ints w B A n c xs) (h1 : w.cell? ⟨b1, 0, none⟩ = some (.int .i64 lo)) (h2 : w.cell? ⟨b2, 0, none⟩ = some (.int .i64 hi)) :
    Calls Try.prog 90 #[.slice A n c, .func (.func 77) #[] #[.pointer (some ⟨b1, 0, none⟩), .pointer (some ⟨b2, 0, none⟩)]] w fun e w' => e = .returned (.int .i64 (ixP (outB lo hi) xs 0)) ∧ w = w' := by
  have hm := h.most; have hcap := h.cap
  have HI := hide h
  have HL := hide h.len
  clear h
  obtain ⟨r, hr⟩ : ∃ r, ixP (outB lo hi) xs 0 = r := ⟨_, rfl⟩
  rw [hr]
  have HR := hide hr
  clear hr
  go_enter Try.func90, Try.ntmps90
  go_wp2_with fail
  go_loop [8] (fun i => ∃ k : Nat, k ≤ n ∧ i = .int .i64 k ∧ Hid (ixP (outB lo hi) (xs.drop k) k = r)) (fun i => n - (intOf i).toNat)
  case atStart => exact ⟨0, Nat.zero_le _, rfl, hide (by rw [List.drop_zero]; exact HR.out)⟩
  case round =>
    obtain ⟨k, hk, rfl, HK⟩ := hrel
    by_cases hlt : k < n
    · obtain ⟨b, off, rfl, hb, hc⟩ := (unhide HI).at_ k hlt
      have hs := ixP_step (outB lo hi) xs 0 k (by rw [HL.out]; exact hlt)
      rw [HK.out] at hs
      rw [show xs.getD k 0 = nth xs k from rfl] at hs
      generalize nth xs k = x at hs hc
      have hcl := out_c x lo hi b1 b2 w h1 h2
      cases hp : outB lo hi x with
      | true =>
        rw [hp, if_pos rfl] at hs
        rw [hp] at hcl
        have HS := hide hs
        have HC := hide hcl
        clear hs hcl hp
        go_wp2_with fail
        refine (unhide HC).mono ?_
        rintro e w' ⟨rfl, rfl⟩
        go_wp2_with fail
        go_ret
        exact ⟨ret_int HS.out.symm, rfl⟩
      | false =>
        rw [hp, if_neg (by simp)] at hs
        rw [hp] at hcl
        have HS := hide hs
        have HC := hide hcl
        clear hs hcl hp
        go_wp2_with fail
        refine (unhide HC).mono ?_
        rintro e w' ⟨rfl, rfl⟩
        go_wp2_with fail
        go_round
        case rel => exact ⟨k + 1, by omega, by go_num, hide HS.out.symm⟩
        case measure => simp [intOf]; omega
    · have HE := hide (show -1 = r from by rw [← HK.out, List.drop_eq_nil_of_le (by rw [HL.out]; omega)]; rfl)
      go_wp2_with fail
      go_ret
      exact ⟨ret_int HE.out, rfl⟩

theorem containsI_any (A : Option Addr) (n c : Nat) (xs : List Int) (lo hi : Int) (b1 b2 : Nat) (w : World) (B : Nat) (h : Ints w B A n c xs) (h1 : w.cell? ⟨b1, 0, none⟩ = some (.int .i64 lo)) (h2 : w.cell? ⟨b2, 0, none⟩ = some (.int .i64 hi)) (b : Bool) (hb : Hid (xs.any (outB lo hi) = b)) :
    Calls Try.prog 76 #[.slice A n c, .func (.func 77) #[] #[.pointer (some ⟨b1, 0, none⟩), .pointer (some ⟨b2, 0, none⟩)]] w fun e w' => e = .returned (.bool b) ∧ w = w' := by
  have HC := hide (indexI_any A n c xs lo hi b1 b2 w B h h1 h2)
  have hg := ixP_geq (outB lo hi) xs
  rw [hb.out] at hg
  revert HC hg
  obtain ⟨r, hr⟩ : ∃ r, ixP (outB lo hi) xs 0 = r := ⟨_, rfl⟩
  rw [hr]; clear hr
  intro HC hg
  have HG := hide hg; clear hg
  clear h h1 h2
  go_enter Try.func76, Try.ntmps76
  go_wp2_with fail
  refine (unhide HC).mono ?_
  rintro e w' ⟨rfl, rfl⟩
  go_wp2_with fail
  go_ret
  exact ⟨ret_bool HG.out, rfl⟩

theorem within_any (A : Option Addr) (n c : Nat) (xs : List Int) (lo hi : Int) (w : World) (B : Nat) (h : Ints w B A n c xs) (hB : B ≤ w.heap.size) (b : Bool) (hb : Hid (allIn lo hi xs = b)) :
    Calls Try.prog 55 #[.int .i64 lo, .int .i64 hi, .slice A n c] w fun e w' => e = .returned (.bool b) ∧ Below w.heap.size w w' := by
  obtain ⟨W0, hW0⟩ : ∃ W0, W0 = (w.alloc (.cells #[.int .i64 lo] 3)).alloc (.cells #[.int .i64 hi] 3) := ⟨_, rfl⟩
  have HB0 := hide (show Below w.heap.size w W0 from by rw [hW0]; exact ((Below.refl _ w).alloc (Nat.le_refl _) _).alloc (by simp) _)
  have c1 : W0.cell? ⟨w.heap.size, 0, none⟩ = some (.int .i64 lo) := by rw [hW0, World.cell?_alloc_lt _ _ _ (by simp), World.cell?_alloc_at _ _ _ _ rfl]; rfl
  have c2 : W0.cell? ⟨w.heap.size + 1, 0, none⟩ = some (.int .i64 hi) := by rw [hW0, World.cell?_alloc_at _ _ _ _ (by simp)]; rfl
  have HI := hide ((h.below ((unhide HB0).mono hB)))
  have HC := hide (containsI_any A n c xs lo hi _ _ W0 B (unhide HI) c1 c2 (!b) (hide (by rw [← hb.out]; simp [allIn])))
  clear c1 c2 h
  have hW : (w.alloc (.cells #[.int .i64 lo] 3)).alloc (.cells #[.int .i64 hi] 3) = W0 := hW0.symm
  clear hW0
  go_enter Try.func55, Try.ntmps55
  go_wp2_with fail
  refine (unhide HC).mono ?_
  rintro e w' ⟨rfl, rfl⟩
  clear hW
  go_wp2_with fail
  go_ret
  exact ⟨ret_bool (by simp), unhide HB0⟩
end Go.Proofs.Ytbgfiejaehpffaa
