import Derived.Test.YtdlbahoenhhkdaaDc
import Derived.Test.YtdlbahoenhhkdaaH1
/-
  Short and Full: the lists of a stream.
-/
namespace Go.Proofs.Ytdlbahoenhhkdaa
open Go.RowKit

theorem OwnedG.mono' {w : World} {base base' : Nat} {e : TypeId} {v : Value} {gs : List G} (h : OwnedG w base e v gs) (hb : base' ≤ base) : OwnedG w base' e v gs := by
  refine ⟨h.1, ?_⟩
  rcases h.2 with h0 | ⟨g, cap, cur, hv, hg, r⟩
  · exact .inl h0
  · exact .inr ⟨g, cap, cur, hv, Nat.le_trans hb hg, r⟩

set_option maxRecDepth 100000 in
set_option maxHeartbeats 2000000 in
theorem fill_ok (sh : Bool) (A : Option Addr) (n c : Nat) (xs : List Int) (K : Nat) (w : World) (h : Ints w w.heap.size A n c xs) (H1 : Hid (cntB (K : Int) = true)) (H2 : Hid (isStr xs = true)) :
    Calls Try.prog 54 #[.agg #[.int .i64 (K : Int), .slice none 0 0, fnOf sh], .slice A n c] w fun e w' => ∃ v, e = .returned (.tuple #[v, .int .i64 0]) ∧ OwnedG w' w.heap.size 68 v (lstL sh K xs xs.length) ∧ Below w.heap.size w w' := by
  have hm := h.most; have hcap := h.cap
  have hl := hide h.len
  obtain ⟨k1, k2⟩ := cntB_bd H1.out
  have hn40 : n ≤ 40 := by rw [← hl.out]; exact isStr_len H2.out
  have hk8 : K ≤ 8 := by omega
  have hk0 : 0 < K := by omega
  have hbd := hide (fun j (hj : j < n) => isStr_bd H2.out j (by rw [hl.out]; exact hj))
  have hinv := hide (lstL_inv sh (K := K) hk0 (xs := xs) (fun j hj => isStr_bd H2.out j hj))
  have H := hide h; clear h
  obtain ⟨F, hF⟩ : ∃ F, fnOf sh = F := ⟨_, rfl⟩
  rw [hF]
  have HF := hide hF; clear hF
  obtain ⟨W0, hW0⟩ : ∃ W0, W0 = w.alloc (.cells #[.int .i64 (K : Int), .slice none 0 0, F] 81) := ⟨_, rfl⟩
  have l0 := Blk.new w 81 #[.int .i64 (K : Int), .slice none 0 0, F]
  have b0 : Below w.heap.size w (w.alloc (.cells #[.int .i64 (K : Int), .slice none 0 0, F] 81)) := (Below.refl _ _).alloc (Nat.le_refl _) _
  have i0 := hide (((unhide H).below b0).more b0.size)
  have st0 : St (w.alloc (.cells #[.int .i64 (K : Int), .slice none 0 0, F] 81)) w.heap.size K F [] := ⟨none, 0, 0, l0, World.ownsRow_nil _ _ _ _⟩
  have S0 := hide st0; have B0 := hide b0
  clear st0 b0 l0 hW0
  go_enter Try.func54, Try.ntmps54
  go_wp2_with (first
    | (go_at_call 62; refine (isCounters_is _ _ _ H1).mono ?_; rintro e w' ⟨rfl, rfl⟩)
    | (go_at_call 59; refine (isStream_is _ _ _ _ _ _ (unhide i0) _ H2).mono ?_; rintro e w' ⟨rfl, rfl⟩))
  go_loopw [7, 19] (fun _ a wr => ∃ k : Nat, a = .int .i64 k ∧ k ≤ n ∧ St wr w.heap.size K F (lstL sh K xs k) ∧ Below w.heap.size w wr) (fun _ a _ => n - (intOf a).toNat)
  case atStart => exact ⟨0, rfl, Nat.zero_le _, unhide S0, unhide B0⟩
  case round =>
    obtain ⟨k, rfl, hkn, hst, hb⟩ := hrel
    have HS := hide hst; have HB := hide hb
    by_cases hlt : k < n
    · obtain ⟨b, off, rfl, hbb, e1⟩ := ((unhide H).below hb).at_ k hlt
      obtain ⟨x, hx⟩ : ∃ x, nth xs k = x := ⟨_, rfl⟩
      rw [hx] at e1
      have HX := hide hx
      have hiv := hinv.out k (by rw [hl.out]; omega)
      have hlen : (lstL sh K xs k).length ≤ 50 := by have := hiv.few; omega
      have hN := hide (fun y (hy : y < (lstL sh K xs k).length) => show 0 ≤ (gth (lstL sh K xs k) y).2.1 ∧ (gth (lstL sh K xs k) y).2.1 ≤ 1000 from by have := hiv.all _ (gth_mem hy); omega)
      have hR := hide hiv.rise
      have hnx := hide (show lstL sh K xs (k + 1) = addL sh K (lstL sh K xs k) x by rw [← HX.out]; rfl)
      clear hst hb hx hiv
      have hst2 : St wr w.heap.size K (fnOf sh) (lstL sh K xs k) := by rw [HF.out]; exact unhide HS
      have HS2 := hide hst2; clear hst2
      go_wp2_with fail
      refine (add_any sh w.heap.size K _ x _ (unhide HS2) hlen hN hR (by omega) hk0).mono ?_
      rintro e w2 ⟨rfl, s2, b2⟩
      rw [HF.out, ← hnx.out] at s2
      have S2 := hide s2; have B2 := hide ((unhide HB).trans b2)
      clear s2 b2
      go_wp2_with fail
      go_roundw
      case rel => exact ⟨k + 1, by go_num, by omega, unhide S2, unhide B2⟩
      case measure => simp [intOf]; omega
    · obtain rfl : k = n := by omega
      obtain ⟨A1, n1, c1, l1, o1⟩ := hst
      have x1 : wr.cell? ⟨w.heap.size, 1, none⟩ = some (.slice A1 n1 c1) := by rw [l1.cell]; rfl
      have O1 := hide o1
      clear l1 o1 hb
      go_wp2_with fail
      go_ret2
      exact ⟨_, rfl, by rw [hl.out]; exact (unhide O1).mono' (Nat.le_succ _), unhide HB⟩

theorem fill_no (F : Value) (A : Option Addr) (n c : Nat) (xs : List Int) (k : Int) (w : World) (h : Ints w w.heap.size A n c xs) (hs : Hid ((cntB k && isStr xs) = false)) :
    Calls Try.prog 54 #[.agg #[.int .i64 k, .slice none 0 0, F], .slice A n c] w fun e w' => e = .returned (.tuple #[.slice none 0 0, .int .i64 2]) ∧ Below w.heap.size w w' := by
  have b0 : Below w.heap.size w (w.alloc (.cells #[.int .i64 k, .slice none 0 0, F] 81)) := (Below.refl _ _).alloc (Nat.le_refl _) _
  have i0 := hide ((h.below b0).more b0.size)
  have B0 := hide b0
  clear b0
  rcases and_no hs.out with h1 | ⟨h1, h2⟩
  · have H1 := hide h1; clear h1
    go_enter Try.func54, Try.ntmps54
    go_wp2_with (go_at_call 62; refine (isCounters_is _ _ _ H1).mono ?_; rintro e w' ⟨rfl, rfl⟩)
    go_ret2
    exact ⟨rfl, unhide B0⟩
  · have H1 := hide h1; clear h1
    have H2 := hide h2; clear h2
    go_enter Try.func54, Try.ntmps54
    go_wp2_with (first
      | (go_at_call 62; refine (isCounters_is _ _ _ H1).mono ?_; rintro e w' ⟨rfl, rfl⟩)
      | (go_at_call 59; refine (isStream_is _ _ _ _ _ _ (unhide i0) _ H2).mono ?_; rintro e w' ⟨rfl, rfl⟩))
    go_ret2
    exact ⟨rfl, unhide B0⟩

theorem Short_ok (A : Option Addr) (n c : Nat) (xs : List Int) (K : Nat) (w : World) (h : Ints w w.heap.size A n c xs) (H1 : Hid (cntB (K : Int) = true)) (H2 : Hid (isStr xs = true)) :
    Calls Try.prog 16 #[.int .i64 (K : Int), .slice A n c] w fun e w' => ∃ v, e = .returned (.tuple #[v, .int .i64 0]) ∧ OwnedG w' w.heap.size 68 v (lstL true K xs xs.length) ∧ Below w.heap.size w w' := by
  go_enter Try.func16, Try.ntmps16
  go_wp2_with fail
  refine (fill_ok true A n c xs K w h H1 H2).mono ?_
  rintro e w' ⟨v, rfl, ho, hb⟩
  go_wp2_with fail
  go_ret2
  exact ⟨v, rfl, ho, hb⟩
theorem Full_ok (A : Option Addr) (n c : Nat) (xs : List Int) (K : Nat) (w : World) (h : Ints w w.heap.size A n c xs) (H1 : Hid (cntB (K : Int) = true)) (H2 : Hid (isStr xs = true)) :
    Calls Try.prog 18 #[.int .i64 (K : Int), .slice A n c] w fun e w' => ∃ v, e = .returned (.tuple #[v, .int .i64 0]) ∧ OwnedG w' w.heap.size 68 v (lstL false K xs xs.length) ∧ Below w.heap.size w w' := by
  go_enter Try.func18, Try.ntmps18
  go_wp2_with fail
  refine (fill_ok false A n c xs K w h H1 H2).mono ?_
  rintro e w' ⟨v, rfl, ho, hb⟩
  go_wp2_with fail
  go_ret2
  exact ⟨v, rfl, ho, hb⟩
theorem Short_no (A : Option Addr) (n c : Nat) (xs : List Int) (k : Int) (w : World) (h : Ints w w.heap.size A n c xs) (hs : Hid ((cntB k && isStr xs) = false)) :
    Calls Try.prog 16 #[.int .i64 k, .slice A n c] w fun e w' => e = .returned (.tuple #[.slice none 0 0, .int .i64 2]) ∧ Below w.heap.size w w' := by
  go_enter Try.func16, Try.ntmps16
  go_wp2_with fail
  refine (fill_no _ A n c xs k w h hs).mono ?_
  rintro e w' ⟨rfl, hb⟩
  go_wp2_with fail
  go_ret2
  exact ⟨rfl, hb⟩
theorem Full_no (A : Option Addr) (n c : Nat) (xs : List Int) (k : Int) (w : World) (h : Ints w w.heap.size A n c xs) (hs : Hid ((cntB k && isStr xs) = false)) :
    Calls Try.prog 18 #[.int .i64 k, .slice A n c] w fun e w' => e = .returned (.tuple #[.slice none 0 0, .int .i64 2]) ∧ Below w.heap.size w w' := by
  go_enter Try.func18, Try.ntmps18
  go_wp2_with fail
  refine (fill_no _ A n c xs k w h hs).mono ?_
  rintro e w' ⟨rfl, hb⟩
  go_wp2_with fail
  go_ret2
  exact ⟨rfl, hb⟩
end Go.Proofs.Ytdlbahoenhhkdaa
