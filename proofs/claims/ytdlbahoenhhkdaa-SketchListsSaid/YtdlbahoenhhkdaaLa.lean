import Derived.Test.YtdlbahoenhhkdaaDp
import Derived.Test.YtdlbahoenhhkdaaL1
import Derived.Test.YtdlbahoenhhkdaaC2
/-
  The law SketchLists walked.
-/
namespace Go.Proofs.Ytdlbahoenhhkdaa
open Go.RowKit

set_option maxHeartbeats 1000000 in
theorem LLists_no (A : Option Addr) (n c : Nat) (xs : List Int) (k : Int) (w : World) (h : Ints w w.heap.size A n c xs) (hs : Hid ((cntB k && isStr xs) = false)) :
    Calls Try.prog 3 #[.int .i64 k, .slice A n c] w fun e w' => e = .returned (.bool true) ∧ Below w.heap.size w w' := by
  have hs2 := hide (show (cntB k && isStr (xs.take 45)) = false from by rw [isStr_take]; exact hs.out)
  rcases and_no hs.out with hc | ⟨hc, hx⟩
  · have hc := hide hc
    go_enter Try.func3, Try.ntmps3
    go_wp2_with fail
    refine (list_ints _ _ _ _ _ _ h (Nat.le_refl _)).mono ?_
    rintro e w1 ⟨A1, n1, c1, rfl, i1, b1⟩
    go_wp2_with fail
    refine (Short_no _ _ _ _ _ _ i1 hs2).mono ?_
    rintro e w2 ⟨rfl, b2⟩
    have b2' := b1.trans (b2.mono b1.size)
    go_wp2_with fail
    refine (list_ints _ _ _ _ _ _ (h.below b2') b2'.size).mono ?_
    rintro e w3 ⟨A3, n3, c3, rfl, i3, b3⟩
    have b3' := b2'.trans (b3.mono b2'.size)
    go_wp2_with fail
    refine (Full_no _ _ _ _ _ _ i3 hs2).mono ?_
    rintro e w4 ⟨rfl, b4⟩
    have b4' := b3'.trans (b4.mono b3'.size)
    go_wp2_with fail
    refine (RCounters_is _ _ _ hc).mono ?_
    rintro e w5 ⟨rfl, rfl⟩
    go_wp2_with fail
    refine (awake_any _).mono ?_
    rintro e w5 ⟨rfl, b5⟩
    go_wp2_with fail
    go_ret
    exact ⟨rfl, b4'.trans (b5.mono b4'.size)⟩
  · have hc := hide hc; have hx := hide hx
    go_enter Try.func3, Try.ntmps3
    go_wp2_with fail
    refine (list_ints _ _ _ _ _ _ h (Nat.le_refl _)).mono ?_
    rintro e w1 ⟨A1, n1, c1, rfl, i1, b1⟩
    go_wp2_with fail
    refine (Short_no _ _ _ _ _ _ i1 hs2).mono ?_
    rintro e w2 ⟨rfl, b2⟩
    have b2' := b1.trans (b2.mono b1.size)
    go_wp2_with fail
    refine (list_ints _ _ _ _ _ _ (h.below b2') b2'.size).mono ?_
    rintro e w3 ⟨A3, n3, c3, rfl, i3, b3⟩
    have b3' := b2'.trans (b3.mono b2'.size)
    go_wp2_with fail
    refine (Full_no _ _ _ _ _ _ i3 hs2).mono ?_
    rintro e w4 ⟨rfl, b4⟩
    have b4' := b3'.trans (b4.mono b3'.size)
    go_wp2_with fail
    refine (RCounters_is _ _ _ hc).mono ?_
    rintro e w5 ⟨rfl, rfl⟩
    go_wp2_with fail
    refine (RStream_is _ _ _ _ _ _ (h.below b4') _ hx).mono ?_
    rintro e w5 ⟨rfl, rfl⟩
    go_wp2_with fail
    refine (awake_any _).mono ?_
    rintro e w5 ⟨rfl, b5⟩
    go_wp2_with fail
    go_ret
    exact ⟨rfl, b4'.trans (b5.mono b4'.size)⟩

set_option maxHeartbeats 2000000 in
theorem LLists_ok (A : Option Addr) (n c : Nat) (xs : List Int) (K : Nat) (w : World) (h : Ints w w.heap.size A n c xs) (H1 : Hid (cntB (K : Int) = true)) (H2 : Hid (isStr xs = true)) :
    Calls Try.prog 3 #[.int .i64 (K : Int), .slice A n c] w fun e w' => e = .returned (.bool true) ∧ Below w.heap.size w w' := by
  obtain ⟨k1, k2⟩ := cntB_bd H1.out
  have hk8 : K ≤ 8 := by omega
  have hk0 : 0 < K := by omega
  have hbd : ∀ j, j < xs.length → 0 ≤ nth xs j ∧ nth xs j ≤ 15 := fun j hj => isStr_bd H2.out j hj
  have fs := hide (lstL_inv true (K := K) hk0 hbd xs.length (Nat.le_refl _)).few
  have ff := hide (lstL_inv false (K := K) hk0 hbd xs.length (Nat.le_refl _)).few
  clear hbd
  obtain ⟨gs, hgs⟩ : ∃ gs, lstL true K xs xs.length = gs := ⟨_, rfl⟩
  obtain ⟨ts, hts⟩ : ∃ ts, lstL false K xs xs.length = ts := ⟨_, rfl⟩
  rw [hgs] at fs; rw [hts] at ff
  have hgs := hide hgs; have hts := hide hts
  go_enter Try.func3, Try.ntmps3
  go_wp2_with fail
  refine (list_ints _ _ _ _ _ _ h (Nat.le_refl _)).mono ?_
  rintro e w1 ⟨A1, n1, c1, rfl, i1, b1⟩
  rw [take_of_str H2.out] at i1
  go_wp2_with fail
  refine (Short_ok _ _ _ _ _ _ i1 H1 H2).mono ?_
  rintro e w2 ⟨v2, rfl, o2, b2⟩
  rw [hgs.out] at o2
  obtain ⟨A2, n2, c2, rfl, g2⟩ := o2.to
  have b2' := b1.trans (b2.mono b1.size)
  go_wp2_with fail
  refine (list_ints _ _ _ _ _ _ (h.below b2') b2'.size).mono ?_
  rintro e w3 ⟨A3, n3, c3, rfl, i3, b3⟩
  rw [take_of_str H2.out] at i3
  have b3' := b2'.trans (b3.mono b2'.size)
  have g3 := (g2.below b3).more b3.size
  go_wp2_with fail
  refine (Full_ok _ _ _ _ _ _ i3 H1 H2).mono ?_
  rintro e w4 ⟨v4, rfl, o4, b4⟩
  rw [hts.out] at o4
  obtain ⟨A4, n4, c4, rfl, t4⟩ := o4.to
  have b4' := b3'.trans (b4.mono b3'.size)
  have g4 := (g3.below b4).more b4.size
  have hn2 : n2 ≤ 8 := by have := fs.out; rw [g4.len] at this; omega
  have hn4 : n4 ≤ 8 := by have := ff.out; rw [t4.len] at this; omega
  go_wp2_with fail
  refine (RCounters_is _ _ _ H1).mono ?_
  rintro e w5 ⟨rfl, rfl⟩
  go_wp2_with fail
  refine (RStream_is _ _ _ _ _ _ (h.below b4') _ H2).mono ?_
  rintro e w5 ⟨rfl, rfl⟩
  go_wp2_with fail
  refine (own_any _ _ _ _ _ g4 (by omega)).mono ?_
  rintro e w5 ⟨v5, rfl, o5, b5⟩
  obtain ⟨A5, n5, c5, rfl, g5⟩ := o5.to
  have b5' := b4'.trans (b5.mono b4'.size)
  have t5 := (t4.below b5).more b5.size
  go_wp2_with fail
  refine (RShort_ok _ _ _ _ _ _ ((h.below b5').more b5'.size) H1 H2).mono ?_
  rintro e w6 ⟨v6, rfl, o6, b6⟩
  rw [hgs.out] at o6
  obtain ⟨A6, n6, c6, rfl, r6⟩ := o6.to
  have b6' := b5'.trans (b6.mono b5'.size)
  have g6 := (g5.below b6).more b6.size
  have t6 := (t5.below b6).more b6.size
  go_wp2_with fail
  refine (equalG_any _ _ _ _ _ _ _ _ _ _ _ g6 r6).mono ?_
  rintro e w7 ⟨rfl, q, rfl⟩
  have b7' := Below.drewN' b6' q
  rw [show decide (gs = gs) = true from by simp]
  go_wp2_with fail
  refine (own_any _ _ _ _ _ (t6.keep (w' := w6.drewN q) fun _ _ => rfl) (by omega)).mono ?_
  rintro e w8 ⟨v8, rfl, o8, b8⟩
  obtain ⟨A8, n8, c8, rfl, t8⟩ := o8.to
  have b8' := b7'.trans (b8.mono b7'.size)
  go_wp2_with fail
  refine (RFull_ok _ _ _ _ _ _ ((h.below b8').more b8'.size) H1 H2).mono ?_
  rintro e w9 ⟨v9, rfl, o9, b9⟩
  rw [hts.out] at o9
  obtain ⟨A9, n9, c9, rfl, r9⟩ := o9.to
  have b9' := b8'.trans (b9.mono b8'.size)
  have t9 := (t8.below b9).more b9.size
  go_wp2_with fail
  refine (equalG_any _ _ _ _ _ _ _ _ _ _ _ t9 r9).mono ?_
  rintro e w10 ⟨rfl, q2, rfl⟩
  have b10' := Below.drewN' b9' q2
  rw [show decide (ts = ts) = true from by simp]
  go_wp2_with fail
  refine (awake_any _).mono ?_
  rintro e w11 ⟨rfl, b11⟩
  go_wp2_with fail
  go_ret
  exact ⟨rfl, b10'.trans (b11.mono b10'.size)⟩

theorem LLists_any (A : Option Addr) (n c : Nat) (xs : List Int) (k : Int) (w : World) (h : Ints w w.heap.size A n c xs) :
    Calls Try.prog 3 #[.int .i64 k, .slice A n c] w fun e w' => e = .returned (.bool true) ∧ Below w.heap.size w w' := by
  cases hv : (cntB k && isStr xs) with
  | false => exact LLists_no A n c xs k w h (hide hv)
  | true =>
    rw [Bool.and_eq_true] at hv
    obtain ⟨k1, k2⟩ := cntB_bd hv.1
    obtain ⟨K, rfl⟩ : ∃ K : Nat, k = (K : Int) := ⟨k.toNat, by omega⟩
    exact LLists_ok A n c xs K w h (hide hv.1) (hide hv.2)
end Go.Proofs.Ytdlbahoenhhkdaa
