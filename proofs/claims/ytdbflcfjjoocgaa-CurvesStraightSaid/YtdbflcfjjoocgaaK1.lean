/-
  product, whole, more of the law.
-/
import Derived.Test.YtdbflcfjjoocgaaJ3
namespace Go.Proofs.Ytdbflcfjjoocgaa
open Go.RowKit

set_option maxRecDepth 8000 in
set_option maxHeartbeats 1600000 in
theorem product_ok (x y p : Int) (w : World) (hx : -4611686018427387904 ≤ x ∧ x ≤ 4611686018427387904) (hy : -4611686018427387904 ≤ y ∧ y ≤ 4611686018427387904) (hp : x * y = p) (hpb : -4611686018427387904 ≤ p ∧ p ≤ 4611686018427387904) :
    Calls Try.prog 68 #[.int .i64 x, .int .i64 y] w fun e w' => e = .returned (.tuple #[.int .i64 p, .bool true]) ∧ w = w' := by
  obtain ⟨x1, x2⟩ := hx; obtain ⟨y1, y2⟩ := hy; obtain ⟨p1, p2⟩ := hpb
  by_cases h0 : x = 0
  · have d0 : (x != 0) = false := by simp [h0]
    have hx0 := hide h0; clear h0
    go_enter Try.func68, Try.ntmps68
    go_wp2_with fail
    go_ret2
    exact ⟨rfl, rfl⟩
  · have d0 : (x != 0) = true := by simp [h0]
    obtain ⟨m1, hm1⟩ : ∃ m, (if -y > y then -y else y) = m := ⟨_, rfl⟩
    obtain ⟨m2, hm2⟩ : ∃ m, (if -x > x then -x else x) = m := ⟨_, rfl⟩
    have e1 : m1 = y.natAbs := by rw [← hm1]; split <;> omega
    have e2 : m2 = x.natAbs := by rw [← hm2]; split <;> omega
    have hmax1 : ∀ w : World, (Builtin.max_ #[3, 3] 3 #[.int .i64 y, .int .i64 (-y)]).run Try.prog w = .ok (.int .i64 m1) w := fun w => by rw [← hm1]; exact run_max_int2 _ _ _ _ _ _ _
    have hmax2 : ∀ w : World, (Builtin.max_ #[3, 3] 3 #[.int .i64 x, .int .i64 (-x)]).run Try.prog w = .ok (.int .i64 m2) w := fun w => by rw [← hm2]; exact run_max_int2 _ _ _ _ _ _ _
    have hm20 : ¬ m2 = 0 := by omega
    have hq : m1 ≤ (4611686018427387904 : Int).tdiv m2 := by
      rw [Int.tdiv_eq_ediv_of_nonneg (by omega), Int.le_ediv_iff_mul_le (by omega), e1, e2, ← Int.natCast_mul, ← Int.natAbs_mul, Int.mul_comm y x, hp]
      omega
    have kq := tdiv_bd (a := 4611686018427387904) (b := m2) (M := 4611686018427387904) ⟨by omega, by omega⟩
    revert hq kq
    obtain ⟨q, hqe⟩ : ∃ q, (4611686018427387904 : Int).tdiv m2 = q := ⟨_, rfl⟩
    rw [hqe]
    rintro hq ⟨k1, k2⟩
    have hqd : decide (q < m1) = false := decide_eq_false (by omega)
    have hdm : decide (m2 = 0) = false := decide_eq_false hm20
    clear hm1 hm2 e1 e2
    go_enter Try.func68, Try.ntmps68
    go_wp2_with fail
    go_ret2
    exact ⟨rfl, rfl⟩

set_option maxRecDepth 4000 in
theorem LWhole_any (k : Int) (w : World) :
    Calls Try.prog 42 #[.int .i64 k] w fun e w' => e = .returned (.agg #[.int .i64 k, .int .i64 1]) ∧ Below w.heap.size w w' := by
  obtain ⟨W0, hW0⟩ : ∃ W0, W0 = w.alloc (.cells #[.int .i64 0, .int .i64 0] 26) := ⟨_, rfl⟩
  have HB1 := hide (show Below w.heap.size w W0 from by rw [hW0]; exact (Below.refl _ w).alloc (Nat.le_refl _) _)
  have hr1 : W0.heap[w.heap.size]? = some (.cells #[.int .i64 0, .int .i64 0] 26 (0, 0)) := by rw [hW0]; exact heap_new_ w _
  have f0 := free_at hr1 0; have f1 := free_at hr1 1
  obtain ⟨q0, q1⟩ := two_at hr1
  have HPq := hide (put2 hr1 (.int .i64 k) (.int .i64 1))
  have HBq := hide (below_put2 (unhide HB1) (b := w.heap.size) (Nat.le_refl _) (.int .i64 k) (.int .i64 1))
  clear hr1
  go_enter Try.func42, Try.ntmps42
  go_upto_region 1 with fail
  rw [← hW0]
  clear hW0
  go_wp2_with fail
  obtain ⟨s0, s1⟩ := two_at (unhide HPq)
  exact bodyPost_ret (v := .agg #[.int .i64 k, .int .i64 1]) (by simp [results, Try.results42, go_sem, s0, s1]) rfl ⟨rfl, unhide HBq⟩
end Go.Proofs.Ytdbflcfjjoocgaa
