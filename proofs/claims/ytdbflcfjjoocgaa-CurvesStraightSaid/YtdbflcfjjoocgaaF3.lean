/-
  Plus of the reference; part of the program.
-/
import Derived.Test.YtdbflcfjjoocgaaF2
namespace Go.Proofs.Ytdbflcfjjoocgaa
open Go.RowKit

set_option maxRecDepth 8000 in
set_option maxHeartbeats 6400000 in
/-- The sum, of the reference: l is the least common multiple of the Dens. -/
theorem RPlus_any (a b c d : Int) (w : World) (hb : 1 ≤ b ∧ b ≤ 9000000000000000000) (hd : 1 ≤ d ∧ d ≤ 9000000000000000000) (g x y z l u v s : Int) (hg : Hid (((Nat.gcd b.natAbs d.natAbs : Nat) : Int) = g)) (hg1 : 1 ≤ g)
    (hx : b.tdiv g = x) (hl : x * d = l) (hy : l.tdiv b = y) (hz : l.tdiv d = z) (hu : a * y = u) (hv : c * z = v) (hs : u + v = s)
    (hxb : 1 ≤ x ∧ x ≤ 9000000000000000000) (hlb : 1 ≤ l ∧ l ≤ 9000000000000000000) (hyb : 1 ≤ y ∧ y ≤ 9000000000000000000) (hzb : 1 ≤ z ∧ z ≤ 9000000000000000000)
    (hub : -4000000000000000000 ≤ u ∧ u ≤ 4000000000000000000) (hvb : -4000000000000000000 ≤ v ∧ v ≤ 4000000000000000000) (n m : Int) (hf : Hid (Fr (Rat.divInt s l) n m)) :
    Calls Try.prog 57 #[.agg #[.int .i64 a, .int .i64 b], .agg #[.int .i64 c, .int .i64 d]] w fun e w' => e = .returned (.agg #[.int .i64 n, .int .i64 m]) ∧ Below w.heap.size w w' := by
  obtain ⟨b1, b2⟩ := hb; obtain ⟨d1, d2⟩ := hd; obtain ⟨x1, x2⟩ := hxb; obtain ⟨l1, l2⟩ := hlb; obtain ⟨y1, y2⟩ := hyb; obtain ⟨z1, z2⟩ := hzb; obtain ⟨u1, u2⟩ := hub; obtain ⟨v1, v2⟩ := hvb
  obtain ⟨W0, hW0⟩ : ∃ W0, W0 = lay2 w 26 a b c d := ⟨_, rfl⟩
  have HB0 := hide (show Below w.heap.size w W0 from by rw [hW0]; exact lay2_below w 26 a b c d)
  have hr := hide (show W0.heap[w.heap.size + 1 + 1]? = some (.cells #[.int .i64 0, .int .i64 0] 26 (0, 0)) from by rw [hW0]; exact lay2_2 w 26 a b c d)
  have hA := hide (show W0.heap[w.heap.size]? = some (.cells #[.int .i64 a, .int .i64 b] 26 (0, 0)) from by rw [hW0]; exact lay2_0 w 26 a b c d)
  have hC := hide (show W0.heap[w.heap.size + 1]? = some (.cells #[.int .i64 c, .int .i64 d] 26 (0, 0)) from by rw [hW0]; exact lay2_1 w 26 a b c d)
  obtain ⟨p0, p1⟩ := two_at (unhide hA)
  obtain ⟨r0, r1⟩ := two_at (unhide hC)
  have hW1 : ((w.alloc (.cells #[.int .i64 a, .int .i64 b] 26)).alloc (.cells #[.int .i64 c, .int .i64 d] 26)).alloc (.cells #[.int .i64 0, .int .i64 0] 26) = W0 := hW0.symm
  clear hW0
  have HG := hide (fun W => RGcd_is b d W (by omega) (by omega) g hg)
  have hs1 : -9000000000000000000 ≤ s := by omega
  have hs2 : s ≤ 9000000000000000000 := by omega
  have HC := hide (fun W => RFrac_any s l W ⟨hs1, hs2⟩ (by omega) n m hf)
  have HARG := hide (show IntKind.i64.wrap (IntKind.i64.wrap (a * IntKind.i64.wrap y) + IntKind.i64.wrap (c * IntKind.i64.wrap z)) = s from by
    rw [IntWalk.i64_in y (by omega), IntWalk.i64_in z (by omega), hu, hv, IntWalk.i64_in u (by omega), IntWalk.i64_in v (by omega), hs, IntWalk.i64_in s (by omega)])
  have hg0 : ¬ g = 0 := by omega
  have hb0 : ¬ b = 0 := by omega
  have hd0 : ¬ d = 0 := by omega
  go_enter Try.func57, Try.ntmps57
  go_upto_region 1 with fail
  clear hW1
  go_big_quiet (exact quiet_more ((unhide HG) _))
  go_upto_region 2 with fail
  have hr1 := hide (show (W0.drewN nq).heap[w.heap.size + 1 + 1]? = some (.cells #[.int .i64 0, .int .i64 0] 26 (0, 0)) from unhide hr)
  have HB1 := hide (below_dN (unhide HB0) nq)
  have p0' : (W0.drewN nq).cell? ⟨w.heap.size, 0, none⟩ = some (.int .i64 a) := p0
  have p1' : (W0.drewN nq).cell? ⟨w.heap.size, 1, none⟩ = some (.int .i64 b) := p1
  have r0' : (W0.drewN nq).cell? ⟨w.heap.size + 1, 0, none⟩ = some (.int .i64 c) := r0
  have r1' : (W0.drewN nq).cell? ⟨w.heap.size + 1, 1, none⟩ = some (.int .i64 d) := r1
  have hA1 := hide (show (W0.drewN nq).heap[w.heap.size]? = some (.cells #[.int .i64 a, .int .i64 b] 26 (0, 0)) from unhide hA)
  have hC1 := hide (show (W0.drewN nq).heap[w.heap.size + 1]? = some (.cells #[.int .i64 c, .int .i64 d] 26 (0, 0)) from unhide hC)
  clear p0 p1 r0 r1 hA hC hr HB0 HG
  generalize W0.drewN nq = W1 at hr1 HB1 p0' p1' r0' r1' hA1 hC1 ⊢
  have hr1d := hide (show W1.drew.heap[w.heap.size + 1 + 1]? = some (.cells #[.int .i64 0, .int .i64 0] 26 (0, 0)) from unhide hr1)
  replace hA1 := hide (show W1.drew.heap[w.heap.size]? = some (.cells #[.int .i64 a, .int .i64 b] 26 (0, 0)) from unhide hA1)
  replace hC1 := hide (show W1.drew.heap[w.heap.size + 1]? = some (.cells #[.int .i64 c, .int .i64 d] 26 (0, 0)) from unhide hC1)
  have HB1d := hide (show Below w.heap.size w W1.drew from (unhide HB1).drew)
  go_region_held3 (fun W => W.cell? ⟨w.heap.size, 0, none⟩ = some (.int .i64 a) ∧ W.cell? ⟨w.heap.size, 1, none⟩ = some (.int .i64 b) ∧ W.cell? ⟨w.heap.size + 1, 0, none⟩ = some (.int .i64 c) ∧ W.cell? ⟨w.heap.size + 1, 1, none⟩ = some (.int .i64 d)) (first | exact ⟨p0', p1', r0', r1'⟩ | exact ⟨put2_other (by omega) _ _ p0, put2_other (by omega) _ _ p1, put2_other (by omega) _ _ r0, put2_other (by omega) _ _ r1⟩ | exact ⟨p0, p1, r0, r1⟩) ((go_at_call 46; rw [HARG.out]; refine ((unhide HC) _).mono ?_; rintro e w2 ⟨rfl, b2⟩; have hr2 := (b2.block _ (Array.getElem?_eq_some_iff.1 (unhide hr1d)).1).trans (unhide hr1d); obtain ⟨p0, p1⟩ := two_at ((b2.block _ (Array.getElem?_eq_some_iff.1 (unhide hA1)).1).trans (unhide hA1)); obtain ⟨r0, r1⟩ := two_at ((b2.block _ (Array.getElem?_eq_some_iff.1 (unhide hC1)).1).trans (unhide hC1)); have HB2 := hide ((unhide HB1d).trans (b2.mono (unhide HB1d).size)); clear b2; have f0 := free_at hr2 0; have f1 := free_at hr2 1; obtain ⟨q0, q1⟩ := two_at hr2; have HPq := hide (put2 hr2 (.int .i64 n) (.int .i64 m)); have HBq := hide (below_put2 (unhide HB2) (b := w.heap.size + 1 + 1) (by omega) (.int .i64 n) (.int .i64 m)); clear hr2))
  all_goals (go_wp2_with fail)
  all_goals (obtain ⟨s0, s1⟩ := two_at (unhide HPq); exact bodyPost_ret (v := .agg #[.int .i64 n, .int .i64 m]) (by simp [results, Try.results57, go_sem, s0, s1]) rfl ⟨rfl, unhide HBq⟩)

set_option maxRecDepth 8000 in
set_option maxHeartbeats 3200000 in
theorem part_none (a b f : Int) (w : World) :
    Calls Try.prog 71 #[.agg #[.int .i64 a, .int .i64 b], .int .i64 f, .int .i64 f] w fun e w' => e = .returned (.agg #[.int .i64 0, .int .i64 1]) ∧ Below w.heap.size w w' := by
  obtain ⟨W0, hW0⟩ : ∃ W0, W0 = (w.alloc (.cells #[.int .i64 a, .int .i64 b] 81)).alloc (.cells #[.int .i64 0, .int .i64 0] 81) := ⟨_, rfl⟩
  have HB0 := hide (show Below w.heap.size w W0 from by rw [hW0]; exact ((Below.refl _ w).alloc (Nat.le_refl _) _).alloc (by simp) _)
  have hr := hide (show W0.heap[w.heap.size + 1]? = some (.cells #[.int .i64 0, .int .i64 0] 81 (0, 0)) from by
    rw [hW0]; have := heap_new_ (w.alloc (.cells #[.int .i64 a, .int .i64 b] 81)) (.cells #[.int .i64 0, .int .i64 0] 81); rwa [World.size_alloc] at this)
  have he : (f == f) = true := by simp
  go_enter Try.func71, Try.ntmps71
  go_upto_region 1 with fail
  rw [← hW0]
  clear hW0
  go_wp2_with fail
  refine (whole_any 0 W0 (by omega)).mono ?_
  rintro e w1 ⟨rfl, b1⟩
  have hr1 := (b1.block _ (Array.getElem?_eq_some_iff.1 (unhide hr)).1).trans (unhide hr)
  have HB1 := hide ((unhide HB0).trans (b1.mono (unhide HB0).size))
  clear b1
  have f0 := free_at hr1 0; have f1 := free_at hr1 1
  obtain ⟨q0, q1⟩ := two_at hr1
  have HPq := hide (put2 hr1 (.int .i64 0) (.int .i64 1))
  have HBq := hide (below_put2 (unhide HB1) (b := w.heap.size + 1) (by omega) (.int .i64 0) (.int .i64 1))
  clear hr1
  go_wp2_with fail
  obtain ⟨s0, s1⟩ := two_at (unhide HPq)
  exact bodyPost_ret (v := .agg #[.int .i64 0, .int .i64 1]) (by simp [results, Try.results71, go_sem, s0, s1]) rfl ⟨rfl, unhide HBq⟩

set_option maxRecDepth 8000 in
set_option maxHeartbeats 3200000 in
theorem part_some (a b f t : Int) (w : World) (hft : f ≠ t) (u v p q : Int) (hp : f * b = p) (hu : a - p = u) (hq : t - f = q) (hv : b * q = v)
    (hpb : -9000000000000000000 ≤ p ∧ p ≤ 9000000000000000000) (hub : -9000000000000000000 ≤ u ∧ u ≤ 9000000000000000000) (hqb : -9000000000000000000 ≤ q ∧ q ≤ 9000000000000000000) (hvb : -9000000000000000000 ≤ v ∧ v ≤ 9000000000000000000) (hv0 : v ≠ 0) (n m : Int) (hf : Hid (Fr (Rat.divInt u v) n m)) :
    Calls Try.prog 71 #[.agg #[.int .i64 a, .int .i64 b], .int .i64 f, .int .i64 t] w fun e w' => e = .returned (.agg #[.int .i64 n, .int .i64 m]) ∧ Below w.heap.size w w' := by
  obtain ⟨p1, p2⟩ := hpb; obtain ⟨u1, u2⟩ := hub; obtain ⟨q1, q2⟩ := hqb; obtain ⟨v1, v2⟩ := hvb
  obtain ⟨W0, hW0⟩ : ∃ W0, W0 = (w.alloc (.cells #[.int .i64 a, .int .i64 b] 81)).alloc (.cells #[.int .i64 0, .int .i64 0] 81) := ⟨_, rfl⟩
  have HB0 := hide (show Below w.heap.size w W0 from by rw [hW0]; exact ((Below.refl _ w).alloc (Nat.le_refl _) _).alloc (by simp) _)
  have hr := hide (show W0.heap[w.heap.size + 1]? = some (.cells #[.int .i64 0, .int .i64 0] 81 (0, 0)) from by
    rw [hW0]; have := heap_new_ (w.alloc (.cells #[.int .i64 a, .int .i64 b] 81)) (.cells #[.int .i64 0, .int .i64 0] 81); rwa [World.size_alloc] at this)
  obtain ⟨x0, x1⟩ := two_at (show W0.heap[w.heap.size]? = some (.cells #[.int .i64 a, .int .i64 b] 81 (0, 0)) from by
    rw [hW0]; exact (Below.heap_alloc _ _ _ (by simp)).trans (heap_new_ w _))
  have he : (f == t) = false := by simp [hft]
  have HC := hide (fun W => quotient_any u v W ⟨u1, u2⟩ ⟨v1, v2⟩ hv0 n m hf)
  go_enter Try.func71, Try.ntmps71
  go_upto_region 1 with fail
  rw [← hW0]
  clear hW0
  go_wp2_with fail
  refine ((unhide HC) W0).mono ?_
  rintro e w1 ⟨rfl, b1⟩
  have hr1 := (b1.block _ (Array.getElem?_eq_some_iff.1 (unhide hr)).1).trans (unhide hr)
  have HB1 := hide ((unhide HB0).trans (b1.mono (unhide HB0).size))
  clear b1 x0 x1
  have f0 := free_at hr1 0; have f1 := free_at hr1 1
  obtain ⟨q0, q1⟩ := two_at hr1
  have HPq := hide (put2 hr1 (.int .i64 n) (.int .i64 m))
  have HBq := hide (below_put2 (unhide HB1) (b := w.heap.size + 1) (by omega) (.int .i64 n) (.int .i64 m))
  clear hr1
  go_wp2_with fail
  obtain ⟨s0, s1⟩ := two_at (unhide HPq)
  exact bodyPost_ret (v := .agg #[.int .i64 n, .int .i64 m]) (by simp [results, Try.results71, go_sem, s0, s1]) rfl ⟨rfl, unhide HBq⟩
end Go.Proofs.Ytdbflcfjjoocgaa
