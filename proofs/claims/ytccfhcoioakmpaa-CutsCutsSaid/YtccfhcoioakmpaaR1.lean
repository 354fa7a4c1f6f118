/-
  Frac, Floor, Multipliers of the reference.
-/
import Derived.Test.YtccfhcoioakmpaaF6
import Derived.Test.YtccfhcoioakmpaaAw
namespace Go.Proofs.Ytccfhcoioakmpaa
open Go.RowKit

/-- A quotient in lowest terms. -/
def frG (a b : Int) : Nat := Nat.gcd a.natAbs b.natAbs
def frN (a b : Int) : Int := a.tdiv (frG a b : Int)
def frD (a b : Int) : Int := b.tdiv (frG a b : Int)

set_option maxRecDepth 4000 in
set_option maxHeartbeats 3200000 in
theorem RFrac_any (a b : Int) (w : World) (ha : -9000000000000000000 ≤ a ∧ a ≤ 9000000000000000000) (hb : 1 ≤ b ∧ b ≤ 9000000000000000000) (p q : Int) (hp : Hid (frN a b = p)) (hq : Hid (frD a b = q)) :
    Calls Try.prog 53 #[.int .i64 a, .int .i64 b] w fun e w' => e = .returned (.agg #[.int .i64 p, .int .i64 q]) ∧ Below w.heap.size w w' := by
  obtain ⟨a1, a2⟩ := ha
  obtain ⟨b1, b2⟩ := hb
  obtain ⟨W0, hW0⟩ : ∃ W0, W0 = w.alloc (.cells #[.int .i64 0, .int .i64 0] 37) := ⟨_, rfl⟩
  have HB0 := hide (show Below w.heap.size w W0 from by rw [hW0]; exact (Below.refl _ w).alloc (Nat.le_refl _) _)
  have HR0 := hide (show W0.heap[w.heap.size]? = some (.cells #[.int .i64 0, .int .i64 0] 37 (0, 0)) from by rw [hW0]; exact heap_new_ w _)
  have hb0 : ¬ b < 0 := by omega
  obtain ⟨m, hm⟩ : ∃ m : Int, (m = a ∨ m = -a) ∧ m.natAbs = a.natAbs ∧ (if -a > a then -a else a) = m := ⟨_, by split <;> simp, by split <;> omega, rfl⟩
  obtain ⟨hm0, hmn, hmx⟩ := hm
  have hm1 : -9000000000000000000 ≤ m := by omega
  have hm2 : m ≤ 9000000000000000000 := by omega
  have hm3 : 0 ≤ m := by rw [← hmx]; split <;> omega
  have HMN := hide hmn
  clear hm0 hmn
  have hmax : ∀ w : World, (Builtin.max_ #[3, 3] 3 #[.int .i64 a, .int .i64 (-a)]).run Try.prog w = .ok (.int .i64 m) w := fun w => by rw [← hmx]; exact run_max_int2 _ _ _ _ _ _ _
  clear hmx
  go_enter Try.func53, Try.ntmps53
  go_wp2_with fail
  rw [← hW0]
  clear hW0 hmax
  go_loopw [5, 6] (fun u v wr => ∃ x y : Int, u = .int .i64 x ∧ v = .int .i64 y ∧ Hid (Nat.gcd x.natAbs y.natAbs = frG a b) ∧ (0 ≤ x ∧ x ≤ 9000000000000000000) ∧ (0 ≤ y ∧ y ≤ 9000000000000000000) ∧ Below W0.heap.size W0 wr) (fun _ v _ => (intOf v).natAbs)
  case atStart => exact ⟨m, b, rfl, rfl, hide (by rw [HMN.out]; rfl), ⟨hm3, hm2⟩, ⟨by omega, b2⟩, Below.refl _ _⟩
  case round =>
    obtain ⟨x, y, rfl, rfl, hg, ⟨hx1, hx2⟩, ⟨hy1, hy2⟩, hbl⟩ := hrel
    have HB := hide hbl; clear hbl
    by_cases h0 : y = 0
    · subst h0
      have hz := hide (show x.natAbs = frG a b from by rw [← hg.out]; simp)
      have hd : ((0 : Int) != 0) = false := by decide
      have hxp : 0 < x := by
        have : 0 < frG a b := Nat.gcd_pos_of_pos_right _ (by omega)
        have := hz.out
        omega
      have hx0 : ¬ x = 0 := by omega
      have hxe : (x == 0) = false := by simp; omega
      have hxg : x = (frG a b : Int) := by have := hz.out; omega
      have hp2 : a.tdiv x = p := by rw [hxg]; exact hp.out
      have hq2 : b.tdiv x = q := by rw [hxg]; exact hq.out
      have k1 := tdiv_bd (b := x) (M := 9000000000000000000) ⟨a1, a2⟩
      have k2 := tdiv_bd (b := x) (M := 9000000000000000000) (a := b) ⟨by omega, b2⟩
      rw [hp2] at k1
      rw [hq2] at k2
      clear hxg
      have hr1 := ((unhide HB).block _ (Array.getElem?_eq_some_iff.1 (unhide HR0)).1).trans (unhide HR0)
      have f0 := free_at hr1 0; have f1 := free_at hr1 1
      obtain ⟨q0, q1⟩ := two_at hr1
      have HPq := hide (put2 hr1 (.int .i64 p) (.int .i64 q))
      have HBq := hide (below_put2 ((unhide HB0).trans ((unhide HB).mono (unhide HB0).size)) (b := w.heap.size) (Nat.le_refl _) (.int .i64 p) (.int .i64 q))
      clear hr1
      go_wp2_with fail
      go_region
      all_goals (go_wp2_with fail)
      all_goals (obtain ⟨s0, s1⟩ := two_at (unhide HPq); exact bodyPost_ret (v := .agg #[.int .i64 p, .int .i64 q]) (by simp [results, Try.results53, go_sem, s0, s1]) rfl ⟨rfl, (unhide HBq).drew⟩)
    · have hd : ((y : Int) != 0) = true := by simp; omega
      obtain ⟨r, hr⟩ : ∃ r : Int, x.tmod y = r := ⟨_, rfl⟩
      have hna : r.natAbs = x.natAbs % y.natAbs := by rw [← hr, Int.natAbs_tmod]
      have hlt : r.natAbs < y.natAbs := by rw [hna]; exact Nat.mod_lt _ (by omega)
      have hr0 : 0 ≤ r := by rw [← hr]; exact Int.tmod_nonneg _ hx1
      have hg2 := hide (show Nat.gcd y.natAbs r.natAbs = frG a b from by rw [← hg.out, hna, Nat.gcd_comm x.natAbs, Nat.gcd_rec y.natAbs x.natAbs, Nat.gcd_comm])
      have HBd := hide (show ∀ q, Below W0.heap.size W0 (wr.drewN q) from fun q => ⟨(unhide HB).os, (unhide HB).tape, (unhide HB).output, (unhide HB).size, (unhide HB).block⟩)
      clear hna
      have hr2 : r ≤ 9000000000000000000 := by omega
      go_wp2_with fail
      go_big_quiet (fail)
      go_wp2_with fail
      go_roundw
      case rel => exact ⟨y, r, by go_num, by go_num, hg2, ⟨by omega, by omega⟩, ⟨by omega, by omega⟩, (unhide HBd) _⟩
      case measure => simp [intOf]; omega

theorem floor_gt {a b : Int} (h : a < a.tdiv b * b) : a.tmod b < 0 := by
  have e := Int.mul_tdiv_add_tmod a b
  rw [Int.mul_comm] at e; omega
theorem floor_le {a b : Int} (h : ¬ a < a.tdiv b * b) : ¬ a.tmod b < 0 := by
  have e := Int.mul_tdiv_add_tmod a b
  rw [Int.mul_comm] at e; omega

set_option maxHeartbeats 800000 in
theorem RFloor_any (a b : Int) (w : World) (hb : 0 < b) (hb2 : b ≤ 1000000000000) (ha : -1000000000000000000 ≤ a ∧ a ≤ 1000000000000000000) (c : Int) (hc : Hid (a / b = c)) :
    Calls Try.prog 52 #[.agg #[.int .i64 a, .int .i64 b]] w fun e w' => e = .returned (.int .i64 c) ∧ Below w.heap.size w w' := by
  obtain ⟨a1, a2⟩ := ha
  have HB0 := hide ((Below.refl w.heap.size w).alloc (Nat.le_refl _) (.cells #[.int .i64 a, .int .i64 b] 37))
  have hb0 : ¬ b = 0 := by omega
  have q := tdiv_bd (b := b) (M := 1000000000000000000) ⟨a1, a2⟩
  have e := Int.mul_tdiv_add_tmod a b
  have m1 := Int.tmod_lt_of_pos a hb
  have m2 : -b < a.tmod b := by
    have := Int.tmod_lt_of_pos (-a) hb
    rw [Int.neg_tmod] at this; omega
  rw [Int.mul_comm] at e
  have t1 : -1100000000000000000 ≤ a.tdiv b * b := by omega
  have t2 : a.tdiv b * b ≤ 1100000000000000000 := by omega
  clear e m1 m2
  by_cases h : a < a.tdiv b * b
  · have HE := hide (show a.tdiv b - 1 = c from by rw [← hc.out]; exact fdiv_no hb (floor_gt h))
    revert q t1 t2 h HE
    obtain ⟨t, ht⟩ : ∃ t, a.tdiv b = t := ⟨_, rfl⟩
    rw [ht]
    intro q t1 t2 h HE
    obtain ⟨q1, q2⟩ := q
    go_enter Try.func52, Try.ntmps52
    go_wp2_with fail
    go_ret
    exact ⟨ret_int HE.out, unhide HB0⟩
  · have HE := hide (show a.tdiv b = c from by rw [← hc.out]; exact fdiv_yes hb (floor_le h))
    revert q t1 t2 h HE
    obtain ⟨t, ht⟩ : ∃ t, a.tdiv b = t := ⟨_, rfl⟩
    rw [ht]
    intro q t1 t2 h HE
    obtain ⟨q1, q2⟩ := q
    go_enter Try.func52, Try.ntmps52
    go_wp2_with fail
    go_ret
    exact ⟨ret_int HE.out, unhide HB0⟩
end Go.Proofs.Ytccfhcoioakmpaa
