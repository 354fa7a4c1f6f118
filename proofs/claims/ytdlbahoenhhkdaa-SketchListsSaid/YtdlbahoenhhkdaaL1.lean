import Derived.Test.YtdlbahoenhhkdaaH1
/-
  The law SketchHeavy walked.
-/
namespace Go.Proofs.Ytdlbahoenhhkdaa
open Go.RowKit

theorem below_q {B : Nat} {w w1 w2 : World} (h : Below B w w1) (hq : ∃ q, w2 = w1.drewN q) : Below B w w2 := by
  obtain ⟨q, rfl⟩ := hq
  exact Below.drewN' h q

set_option maxHeartbeats 1000000 in
theorem LHeavy_1 (A : Option Addr) (n c : Nat) (xs : List Int) (k key : Int) (w : World) (h : Ints w w.heap.size A n c xs) (hs : Hid (isStr xs = false)) :
    Calls Try.prog 4 #[.int .i64 k, .slice A n c, .int .i64 key] w fun e w' => e = .returned (.bool true) ∧ Below w.heap.size w w' := by
  have hs1 := hide (show (isStr (xs.take 45) && isKeyB key) = false from by rw [isStr_take, hs.out]; rfl)
  have hs2 := hide (show (cntB k && isStr (xs.take 45)) = false from by rw [isStr_take, hs.out]; simp)
  go_enter Try.func4, Try.ntmps4
  go_wp2_with fail
  refine (list_ints _ _ _ _ _ _ h (Nat.le_refl _)).mono ?_
  rintro e w1 ⟨A1, n1, c1, rfl, i1, b1⟩
  go_wp2_with fail
  refine (Often_no _ _ _ _ _ _ _ i1 hs1).mono ?_
  rintro e w2 ⟨rfl, rfl⟩
  go_wp2_with fail
  refine (list_ints _ _ _ _ _ _ (h.below b1) b1.size).mono ?_
  rintro e w2 ⟨A2, n2, c2, rfl, i2, b2⟩
  have b2' := b1.trans (b2.mono b1.size)
  go_wp2_with fail
  refine (Heavy_no _ _ _ _ _ _ _ i2 hs2).mono ?_
  rintro e w3 ⟨rfl, rfl⟩
  go_wp2_with fail
  refine (RStream_is _ _ _ _ _ _ (h.below b2') _ hs).mono ?_
  rintro e w3 ⟨rfl, rfl⟩
  go_wp2_with fail
  refine (awake_any _).mono ?_
  rintro e w3 ⟨rfl, b3⟩
  go_wp2_with fail
  go_ret
  exact ⟨rfl, b2'.trans (b3.mono b2'.size)⟩

set_option maxHeartbeats 1000000 in
theorem LHeavy_2 (A : Option Addr) (n c : Nat) (xs : List Int) (k key : Int) (w : World) (h : Ints w w.heap.size A n c xs) (hs : Hid (isStr xs = true)) (hk : Hid (isKeyB key = false)) (hc : Hid (cntB k = false)) :
    Calls Try.prog 4 #[.int .i64 k, .slice A n c, .int .i64 key] w fun e w' => e = .returned (.bool true) ∧ Below w.heap.size w w' := by
  have hs1 := hide (show (isStr (xs.take 45) && isKeyB key) = false from by rw [hk.out, Bool.and_false])
  have hs2 := hide (show (cntB k && isStr (xs.take 45)) = false from by rw [hc.out]; rfl)
  have hkk : key < 0 ∨ 15 < key := by have := hk.out; simp [isKeyB] at this; omega
  rcases hkk with hkk | hkk
  all_goals
    go_enter Try.func4, Try.ntmps4
    go_wp2_with fail
    refine (list_ints _ _ _ _ _ _ h (Nat.le_refl _)).mono ?_
    rintro e w1 ⟨A1, n1, c1, rfl, i1, b1⟩
    go_wp2_with fail
    refine (Often_no _ _ _ _ _ _ _ i1 hs1).mono ?_
    rintro e w2 ⟨rfl, rfl⟩
    go_wp2_with fail
    refine (list_ints _ _ _ _ _ _ (h.below b1) b1.size).mono ?_
    rintro e w2 ⟨A2, n2, c2, rfl, i2, b2⟩
    have b2' := b1.trans (b2.mono b1.size)
    go_wp2_with fail
    refine (Heavy_no _ _ _ _ _ _ _ i2 hs2).mono ?_
    rintro e w3 ⟨rfl, rfl⟩
    go_wp2_with fail
    refine (RStream_is _ _ _ _ _ _ (h.below b2') _ hs).mono ?_
    rintro e w3 ⟨rfl, rfl⟩
    go_wp2_with fail
    refine (RCounters_is _ _ _ hc).mono ?_
    rintro e w3 ⟨rfl, rfl⟩
    go_wp2_with fail
    refine (awake_any _).mono ?_
    rintro e w3 ⟨rfl, b3⟩
    go_wp2_with fail
    go_ret
    exact ⟨rfl, b2'.trans (b3.mono b2'.size)⟩

set_option maxHeartbeats 1000000 in
theorem LHeavy_3 (A : Option Addr) (n c : Nat) (xs : List Int) (k key : Int) (w : World) (h : Ints w w.heap.size A n c xs) (hs : Hid (isStr xs = true)) (hk : Hid (isKeyB key = false)) (hc : Hid (cntB k = true)) :
    Calls Try.prog 4 #[.int .i64 k, .slice A n c, .int .i64 key] w fun e w' => e = .returned (.bool true) ∧ Below w.heap.size w w' := by
  have hs1 := hide (show (isStr (xs.take 45) && isKeyB key) = false from by rw [hk.out, Bool.and_false])
  have hkk : key < 0 ∨ 15 < key := by have := hk.out; simp [isKeyB] at this; omega
  rcases hkk with hkk | hkk
  all_goals
    go_enter Try.func4, Try.ntmps4
    go_wp2_with fail
    refine (list_ints _ _ _ _ _ _ h (Nat.le_refl _)).mono ?_
    rintro e w1 ⟨A1, n1, c1, rfl, i1, b1⟩
    go_wp2_with fail
    refine (Often_no _ _ _ _ _ _ _ i1 hs1).mono ?_
    rintro e w2 ⟨rfl, rfl⟩
    go_wp2_with fail
    refine (list_ints _ _ _ _ _ _ (h.below b1) b1.size).mono ?_
    rintro e w2 ⟨A2, n2, c2, rfl, i2, b2⟩
    rw [take_of_str hs.out] at i2
    have b2' := b1.trans (b2.mono b1.size)
    go_wp2_with fail
    refine (Heavy_ok _ _ _ _ _ _ i2 hs hc).mono ?_
    rintro e w3 ⟨v3, rfl, o3, b3⟩
    have b3' := b2'.trans (b3.mono b2'.size)
    obtain ⟨A3, c3, rfl, i3⟩ := o3.ints
    go_wp2_with fail
    refine (RStream_is _ _ _ _ _ _ (h.below b3') _ hs).mono ?_
    rintro e w4 ⟨rfl, rfl⟩
    go_wp2_with fail
    refine (RCounters_is _ _ _ hc).mono ?_
    rintro e w4 ⟨rfl, rfl⟩
    go_wp2_with fail
    refine (RHeavy_any _ _ _ _ _ _ ((h.below b3').more b3'.size) hs hc).mono ?_
    rintro e w4 ⟨v4, rfl, o4, b4⟩
    have b4' := b3'.trans (b4.mono b3'.size)
    obtain ⟨A4, c4, rfl, i4⟩ := o4.ints
    go_wp2_with fail
    refine (equal_is _ _ _ _ _ _ _ _ _ _ _ (i3.below b4) i4 (hide rfl)).mono ?_
    rintro e w5 ⟨rfl, q, rfl⟩
    go_wp2_with fail
    refine (awake_any _).mono ?_
    rintro e w6 ⟨rfl, b6⟩
    have b5' := Below.drewN' b4' q
    go_wp2_with fail
    go_ret
    exact ⟨rfl, b5'.trans (b6.mono b5'.size)⟩

set_option maxHeartbeats 1000000 in
theorem LHeavy_4 (A : Option Addr) (n c : Nat) (xs : List Int) (k key : Int) (w : World) (h : Ints w w.heap.size A n c xs) (hs : Hid (isStr xs = true)) (hk : Hid (isKeyB key = true)) (hc : Hid (cntB k = false)) :
    Calls Try.prog 4 #[.int .i64 k, .slice A n c, .int .i64 key] w fun e w' => e = .returned (.bool true) ∧ Below w.heap.size w w' := by
  have hs2 := hide (show (cntB k && isStr (xs.take 45)) = false from by rw [hc.out]; rfl)
  have hkk : 0 ≤ key ∧ key ≤ 15 := by have := hk.out; simpa [isKeyB] using this
  obtain ⟨hk1, hk2⟩ := hkk
  go_enter Try.func4, Try.ntmps4
  go_wp2_with fail
  refine (list_ints _ _ _ _ _ _ h (Nat.le_refl _)).mono ?_
  rintro e w1 ⟨A1, n1, c1, rfl, i1, b1⟩
  rw [take_of_str hs.out] at i1
  go_wp2_with fail
  refine (Often_ok _ _ _ _ _ _ i1 hs hk).mono ?_
  rintro e w2 ⟨rfl, b2⟩
  have b2' := b1.trans (b2.mono b1.size)
  go_wp2_with fail
  refine (list_ints _ _ _ _ _ _ (h.below b2') b2'.size).mono ?_
  rintro e w3 ⟨A2, n2, c2, rfl, i2, b3⟩
  have b3' := b2'.trans (b3.mono b2'.size)
  go_wp2_with fail
  refine (Heavy_no _ _ _ _ _ _ _ i2 hs2).mono ?_
  rintro e w4 ⟨rfl, rfl⟩
  go_wp2_with fail
  refine (RStream_is _ _ _ _ _ _ (h.below b3') _ hs).mono ?_
  rintro e w4 ⟨rfl, rfl⟩
  go_wp2_with fail
  refine (ROften_any _ _ _ _ _ _ _ (h.below b3')).mono ?_
  rintro e w4 ⟨rfl, rfl⟩
  go_wp2_with fail
  refine (RCounters_is _ _ _ hc).mono ?_
  rintro e w4 ⟨rfl, rfl⟩
  go_wp2_with fail
  refine (awake_any _).mono ?_
  rintro e w4 ⟨rfl, b4⟩
  go_wp2_with fail
  go_ret
  exact ⟨rfl, b3'.trans (b4.mono b3'.size)⟩

set_option maxHeartbeats 1000000 in
theorem LHeavy_5 (A : Option Addr) (n c : Nat) (xs : List Int) (k key : Int) (w : World) (h : Ints w w.heap.size A n c xs) (hs : Hid (isStr xs = true)) (hk : Hid (isKeyB key = true)) (hc : Hid (cntB k = true)) :
    Calls Try.prog 4 #[.int .i64 k, .slice A n c, .int .i64 key] w fun e w' => e = .returned (.bool true) ∧ Below w.heap.size w w' := by
  have hkk : 0 ≤ key ∧ key ≤ 15 := by have := hk.out; simpa [isKeyB] using this
  obtain ⟨hk1, hk2⟩ := hkk
  go_enter Try.func4, Try.ntmps4
  go_wp2_with fail
  refine (list_ints _ _ _ _ _ _ h (Nat.le_refl _)).mono ?_
  rintro e w1 ⟨A1, n1, c1, rfl, i1, b1⟩
  rw [take_of_str hs.out] at i1
  go_wp2_with fail
  refine (Often_ok _ _ _ _ _ _ i1 hs hk).mono ?_
  rintro e w2 ⟨rfl, b2⟩
  have b2' := b1.trans (b2.mono b1.size)
  go_wp2_with fail
  refine (list_ints _ _ _ _ _ _ (h.below b2') b2'.size).mono ?_
  rintro e w3 ⟨A2, n2, c2, rfl, i2, b3⟩
  rw [take_of_str hs.out] at i2
  have b3' := b2'.trans (b3.mono b2'.size)
  go_wp2_with fail
  refine (Heavy_ok _ _ _ _ _ _ i2 hs hc).mono ?_
  rintro e w4 ⟨v4, rfl, o4, b4⟩
  have b4' := b3'.trans (b4.mono b3'.size)
  obtain ⟨A4, c4, rfl, i4⟩ := o4.ints
  go_wp2_with fail
  refine (RStream_is _ _ _ _ _ _ (h.below b4') _ hs).mono ?_
  rintro e w5 ⟨rfl, rfl⟩
  go_wp2_with fail
  refine (ROften_any _ _ _ _ _ _ _ (h.below b4')).mono ?_
  rintro e w5 ⟨rfl, rfl⟩
  go_wp2_with fail
  refine (RCounters_is _ _ _ hc).mono ?_
  rintro e w5 ⟨rfl, rfl⟩
  go_wp2_with fail
  refine (RHeavy_any _ _ _ _ _ _ ((h.below b4').more b4'.size) hs hc).mono ?_
  rintro e w5 ⟨v5, rfl, o5, b5⟩
  have b5' := b4'.trans (b5.mono b4'.size)
  obtain ⟨A5, c5, rfl, i5⟩ := o5.ints
  go_wp2_with fail
  refine (equal_is _ _ _ _ _ _ _ _ _ _ _ (i4.below b5) i5 (hide rfl)).mono ?_
  rintro e w6 ⟨rfl, q, rfl⟩
  go_wp2_with fail
  refine (awake_any _).mono ?_
  rintro e w7 ⟨rfl, b7⟩
  have b6' := Below.drewN' b5' q
  go_wp2_with fail
  go_ret
  exact ⟨rfl, b6'.trans (b7.mono b6'.size)⟩

theorem LHeavy_any (A : Option Addr) (n c : Nat) (xs : List Int) (k key : Int) (w : World) (h : Ints w w.heap.size A n c xs) :
    Calls Try.prog 4 #[.int .i64 k, .slice A n c, .int .i64 key] w fun e w' => e = .returned (.bool true) ∧ Below w.heap.size w w' := by
  rcases hs : isStr xs
  · exact LHeavy_1 _ _ _ _ _ _ _ h (hide hs)
  rcases hk : isKeyB key <;> rcases hc : cntB k
  · exact LHeavy_2 _ _ _ _ _ _ _ h (hide hs) (hide hk) (hide hc)
  · exact LHeavy_3 _ _ _ _ _ _ _ h (hide hs) (hide hk) (hide hc)
  · exact LHeavy_4 _ _ _ _ _ _ _ h (hide hs) (hide hk) (hide hc)
  · exact LHeavy_5 _ _ _ _ _ _ _ h (hide hs) (hide hk) (hide hc)
end Go.Proofs.Ytdlbahoenhhkdaa
