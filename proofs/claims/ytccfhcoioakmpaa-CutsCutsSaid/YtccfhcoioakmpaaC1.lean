/-
  floor, and which whole points of a column are in a plate.
-/
import Derived.Test.YtccfhcoioakmpaaT3
namespace Go.Proofs.Ytccfhcoioakmpaa
open Go.RowKit

theorem ediv_uniq {a b q r : Int} (hb : 0 < b) (e : a = b * q + r) (h0 : 0 ≤ r) (h1 : r < b) : a / b = q := by
  subst e
  rw [Int.add_comm, Int.add_mul_ediv_left _ _ (by omega), Int.ediv_eq_zero_of_lt h0 h1]; omega
theorem fdiv_no {a b : Int} (hb : 0 < b) (h : a.tmod b < 0) : a.tdiv b - 1 = a / b := by
  have e := Int.mul_tdiv_add_tmod a b
  have h1 : -b < a.tmod b := by
    have := Int.tmod_lt_of_pos (-a) hb
    rw [Int.neg_tmod] at this; omega
  exact (ediv_uniq hb (q := a.tdiv b - 1) (r := a.tmod b + b) (by grind) (by omega) (by omega)).symm
theorem fdiv_yes {a b : Int} (hb : 0 < b) (h : ¬ a.tmod b < 0) : a.tdiv b = a / b := by
  have e := Int.mul_tdiv_add_tmod a b
  have h1 := Int.tmod_lt_of_pos a hb
  exact (ediv_uniq hb (q := a.tdiv b) (r := a.tmod b) (by grind) (by omega) (by omega)).symm
theorem tdiv_bd {a b M : Int} (h : -M ≤ a ∧ a ≤ M) : -M ≤ a.tdiv b ∧ a.tdiv b ≤ M := by
  have e := Int.natAbs_tdiv_le_natAbs a b
  omega
theorem ediv_bd {a b M : Int} (h : -M ≤ a ∧ a ≤ M) : -M ≤ a / b ∧ a / b ≤ M := by
  have e := Int.natAbs_ediv_le_natAbs a b
  omega

set_option maxHeartbeats 400000 in
theorem floor_any (a b : Int) (w : World) (hb : 0 < b) (hb2 : b ≤ 1000000000000) (ha : -1000000000000000 ≤ a ∧ a ≤ 1000000000000000) :
    Calls Try.prog 112 #[.int .i64 a, .int .i64 b] w fun e w' => e = .returned (.int .i64 (a / b)) ∧ w = w' := by
  have q1 := (tdiv_bd (b := b) ha).1; have q2 := (tdiv_bd (b := b) ha).2
  have ha1 := ha.1; have ha2 := ha.2
  have hb0 : b ≠ 0 := by omega
  have hb1 : (b == 0) = false := by simp; omega
  by_cases h : a.tmod b < 0
  · have HE := hide (fdiv_no hb h)
    go_enter Try.func112, Try.ntmps112
    go_wp2_with fail
    go_ret
    exact ⟨ret_int HE.out, rfl⟩
  · have HE := hide (fdiv_yes hb h)
    go_enter Try.func112, Try.ntmps112
    go_wp2_with fail
    go_ret
    exact ⟨ret_int HE.out, rfl⟩
end Go.Proofs.Ytccfhcoioakmpaa
