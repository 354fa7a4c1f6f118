/-
  isPlace and Is of the program.
-/
import Derived.Test.YtbgfiejaehpffaaX4
import Derived.Test.YtbgfiejaehpffaaY4
namespace Go.Proofs.Ytbgfiejaehpffaa
open Go.RowKit

/-- A fraction from 0 to 30 in lowest terms, its denominator at most 1000000. -/
def plB (x d : Int) : Bool := allIn 1 1000000 [d] && (allIn 0 (30 * d) [x] && decide (((Nat.gcd x.natAbs d.natAbs : Nat) : Int) = 1))

set_option maxRecDepth 100000 in
set_option maxHeartbeats 4000000 in
theorem isPlace_no1 (x d : Int) (w : World) (h1 : Hid (allIn 1 1000000 [d] = false)) :
    Calls Try.prog 50 #[.agg #[.int .i64 x, .int .i64 d]] w fun e w' => e = .returned (.bool false) ∧ Below w.heap.size w w' := by
  obtain ⟨W0, hW0⟩ : ∃ W0, W0 = w.alloc (.cells #[.int .i64 x, .int .i64 d] 32) := ⟨_, rfl⟩
  have HB0 := hide (show Below w.heap.size w W0 from by rw [hW0]; exact (Below.refl _ w).alloc (Nat.le_refl _) _)
  have HV0 := hide (show W0.heap[w.heap.size]? = some (.cells #[.int .i64 x, .int .i64 d] 32 (0, 0)) from by rw [hW0]; exact heap_new_ w _)
  obtain ⟨x0, x1⟩ := two_at (unhide HV0)
  have HI1 := hide (ints_1 W0 d)
  have HB1 := hide ((unhide HB0).alloc (unhide HB0).size (.cells #[.int .i64 d] 3))
  have hW : w.alloc (.cells #[.int .i64 x, .int .i64 d] 32) = W0 := hW0.symm
  clear hW0
  go_enter Try.func50, Try.ntmps50
  go_upto_region 1 with fail
  clear hW
  go_wp2_with fail
  refine (within_any _ _ _ _ 1 1000000 (W0.alloc (.cells #[.int .i64 d] 3)) _ (unhide HI1) (by simp) false h1).mono ?_
  rintro e w1 ⟨rfl, b1⟩
  have HB2 := hide ((unhide HB1).trans (b1.mono (unhide HB1).size))
  have HB2' := hide (show Below W0.heap.size W0 w1 from ((Below.refl _ W0).alloc (Nat.le_refl _) _).trans (b1.mono (by simp)))
  clear b1 x0 x1
  obtain ⟨x0, x1⟩ := two_at (((unhide HB2').block _ (Array.getElem?_eq_some_iff.1 (unhide HV0)).1).trans (unhide HV0))
  go_wp2_with fail
  go_ret
  exact ⟨rfl, unhide HB2⟩

set_option maxRecDepth 100000 in
set_option maxHeartbeats 4000000 in
theorem isPlace_no2 (x d : Int) (w : World) (h1 : Hid (allIn 1 1000000 [d] = true)) (h2 : Hid (allIn 0 (30 * d) [x] = false)) :
    Calls Try.prog 50 #[.agg #[.int .i64 x, .int .i64 d]] w fun e w' => e = .returned (.bool false) ∧ Below w.heap.size w w' := by
  have hd := h1.out
  rw [allIn_1] at hd
  simp at hd
  obtain ⟨d1, d2⟩ := hd
  obtain ⟨W0, hW0⟩ : ∃ W0, W0 = w.alloc (.cells #[.int .i64 x, .int .i64 d] 32) := ⟨_, rfl⟩
  have HB0 := hide (show Below w.heap.size w W0 from by rw [hW0]; exact (Below.refl _ w).alloc (Nat.le_refl _) _)
  have HV0 := hide (show W0.heap[w.heap.size]? = some (.cells #[.int .i64 x, .int .i64 d] 32 (0, 0)) from by rw [hW0]; exact heap_new_ w _)
  obtain ⟨x0, x1⟩ := two_at (unhide HV0)
  have HI1 := hide (ints_1 W0 d)
  have HB1 := hide ((unhide HB0).alloc (unhide HB0).size (.cells #[.int .i64 d] 3))
  have hW : w.alloc (.cells #[.int .i64 x, .int .i64 d] 32) = W0 := hW0.symm
  clear hW0
  go_enter Try.func50, Try.ntmps50
  go_upto_region 1 with fail
  clear hW
  go_wp2_with fail
  refine (within_any _ _ _ _ 1 1000000 (W0.alloc (.cells #[.int .i64 d] 3)) _ (unhide HI1) (by simp) true h1).mono ?_
  rintro e w1 ⟨rfl, b1⟩
  have HB2 := hide ((unhide HB1).trans (b1.mono (unhide HB1).size))
  have HB2' := hide (show Below W0.heap.size W0 w1 from ((Below.refl _ W0).alloc (Nat.le_refl _) _).trans (b1.mono (by simp)))
  clear b1 x0 x1
  obtain ⟨x0, x1⟩ := two_at (((unhide HB2').block _ (Array.getElem?_eq_some_iff.1 (unhide HV0)).1).trans (unhide HV0))
  have HI2 := hide (ints_1 w1 x)
  have HB3 := hide ((unhide HB2).alloc (unhide HB2).size (.cells #[.int .i64 x] 3))
  have HB3' := hide ((unhide HB2').alloc (unhide HB2').size (.cells #[.int .i64 x] 3))
  go_wp2_with fail
  refine (within_any _ _ _ _ 0 (30 * d) (w1.alloc (.cells #[.int .i64 x] 3)) _ (unhide HI2) (by simp) false h2).mono ?_
  rintro e w2 ⟨rfl, b2⟩
  have HB4 := hide ((unhide HB3).trans (b2.mono (unhide HB3).size))
  have HB4' := hide ((unhide HB3').trans (b2.mono (unhide HB3').size))
  clear b2 x0 x1
  obtain ⟨x0, x1⟩ := two_at (((unhide HB4').block _ (Array.getElem?_eq_some_iff.1 (unhide HV0)).1).trans (unhide HV0))
  go_wp2_with fail
  go_ret
  exact ⟨rfl, unhide HB4⟩

set_option maxRecDepth 100000 in
set_option maxHeartbeats 4000000 in
theorem isPlace_ok (x d : Int) (w : World) (h1 : Hid (allIn 1 1000000 [d] = true)) (h2 : Hid (allIn 0 (30 * d) [x] = true)) (g : Int) (hg : Hid (((Nat.gcd x.natAbs d.natAbs : Nat) : Int) = g)) (z : Bool) (hz : Hid (decide (g = 1) = z)) :
    Calls Try.prog 50 #[.agg #[.int .i64 x, .int .i64 d]] w fun e w' => e = .returned (.bool z) ∧ Below w.heap.size w w' := by
  have hd := h1.out
  rw [allIn_1] at hd
  simp at hd
  obtain ⟨d1, d2⟩ := hd
  have hx := h2.out
  rw [allIn_1] at hx
  simp at hx
  obtain ⟨n1, n2⟩ := hx
  obtain ⟨W0, hW0⟩ : ∃ W0, W0 = w.alloc (.cells #[.int .i64 x, .int .i64 d] 32) := ⟨_, rfl⟩
  have HB0 := hide (show Below w.heap.size w W0 from by rw [hW0]; exact (Below.refl _ w).alloc (Nat.le_refl _) _)
  have HV0 := hide (show W0.heap[w.heap.size]? = some (.cells #[.int .i64 x, .int .i64 d] 32 (0, 0)) from by rw [hW0]; exact heap_new_ w _)
  obtain ⟨x0, x1⟩ := two_at (unhide HV0)
  have HI1 := hide (ints_1 W0 d)
  have HB1 := hide ((unhide HB0).alloc (unhide HB0).size (.cells #[.int .i64 d] 3))
  have hW : w.alloc (.cells #[.int .i64 x, .int .i64 d] 32) = W0 := hW0.symm
  clear hW0
  go_enter Try.func50, Try.ntmps50
  go_upto_region 1 with fail
  clear hW
  go_wp2_with fail
  refine (within_any _ _ _ _ 1 1000000 (W0.alloc (.cells #[.int .i64 d] 3)) _ (unhide HI1) (by simp) true h1).mono ?_
  rintro e w1 ⟨rfl, b1⟩
  have HB2 := hide ((unhide HB1).trans (b1.mono (unhide HB1).size))
  have HB2' := hide (show Below W0.heap.size W0 w1 from ((Below.refl _ W0).alloc (Nat.le_refl _) _).trans (b1.mono (by simp)))
  clear b1 x0 x1
  obtain ⟨x0, x1⟩ := two_at (((unhide HB2').block _ (Array.getElem?_eq_some_iff.1 (unhide HV0)).1).trans (unhide HV0))
  have HI2 := hide (ints_1 w1 x)
  have HB3 := hide ((unhide HB2).alloc (unhide HB2).size (.cells #[.int .i64 x] 3))
  have HB3' := hide ((unhide HB2').alloc (unhide HB2').size (.cells #[.int .i64 x] 3))
  go_wp2_with fail
  refine (within_any _ _ _ _ 0 (30 * d) (w1.alloc (.cells #[.int .i64 x] 3)) _ (unhide HI2) (by simp) true h2).mono ?_
  rintro e w2 ⟨rfl, b2⟩
  have HB4 := hide ((unhide HB3).trans (b2.mono (unhide HB3).size))
  have HB4' := hide ((unhide HB3').trans (b2.mono (unhide HB3').size))
  clear b2 x0 x1
  obtain ⟨x0, x1⟩ := two_at (((unhide HB4').block _ (Array.getElem?_eq_some_iff.1 (unhide HV0)).1).trans (unhide HV0))
  cases z with
  | true =>
    have hgb : (g == 1) = true := by simp [of_decide_eq_true hz.out]
    go_wp2_with fail
    refine (gcd_is x d w2 (by omega) (by omega) g hg).mono ?_
    rintro e w3 ⟨rfl, q, rfl⟩
    have HB5 := hide (below_dN (unhide HB4) q)
    go_wp2_with fail
    go_ret
    exact ⟨rfl, unhide HB5⟩
  | false =>
    have hgb : (g == 1) = false := by simp [of_decide_eq_false hz.out]
    go_wp2_with fail
    refine (gcd_is x d w2 (by omega) (by omega) g hg).mono ?_
    rintro e w3 ⟨rfl, q, rfl⟩
    have HB5 := hide (below_dN (unhide HB4) q)
    go_wp2_with fail
    go_ret
    exact ⟨rfl, unhide HB5⟩

theorem isPlace_any (x d : Int) (w : World) (b : Bool) (hb : Hid (plB x d = b)) :
    Calls Try.prog 50 #[.agg #[.int .i64 x, .int .i64 d]] w fun e w' => e = .returned (.bool b) ∧ Below w.heap.size w w' := by
  have h := hb.out
  unfold plB at h
  cases h1 : allIn 1 1000000 [d] with
  | false => rw [h1] at h; rw [← h]; exact isPlace_no1 x d w (hide h1)
  | true =>
    rw [h1] at h
    cases h2 : allIn 0 (30 * d) [x] with
    | false => rw [h2] at h; rw [← h]; exact isPlace_no2 x d w (hide h1) (hide h2)
    | true =>
      rw [h2] at h
      exact isPlace_ok x d w (hide h1) (hide h2) _ (hide rfl) b (hide (by simpa using h))
end Go.Proofs.Ytbgfiejaehpffaa
