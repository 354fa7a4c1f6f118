/-
  whole, plus, times, part: of the program, of the reference.
-/
import Derived.Test.YtdbflcfjjoocgaaF1
namespace Go.Proofs.Ytdbflcfjjoocgaa
open Go.RowKit

theorem quiet_more {f : FuncId} {args : Array Value} {W : World} {n : Nat} {v : Value} (h : Calls Try.prog f args (W.drewN n) fun e w' => e = .returned v ∧ ∃ r, w' = (W.drewN n).drewN r) : Calls Try.prog f args (W.drewN n) fun e w'' => e = .returned v ∧ ∃ m, w'' = W.drewN m :=
  h.mono fun _ _ ⟨e, r, hw⟩ => ⟨e, n + r, by rw [hw, World.drewN_drewN]⟩
theorem fr_whole (k : Int) : Fr (Rat.divInt k 1) k 1 := by
  have e : Rat.divInt k 1 = (k : Rat) := by rw [Rat.divInt_eq_div]; grind
  exact ⟨by rw [e, Rat.num_intCast], by rw [e, Rat.den_intCast]; rfl⟩

set_option maxRecDepth 4000 in
set_option maxHeartbeats 1600000 in
theorem whole_any (k : Int) (w : World) (hk : -9000000000000000000 ≤ k ∧ k ≤ 9000000000000000000) :
    Calls Try.prog 52 #[.int .i64 k] w fun e w' => e = .returned (.agg #[.int .i64 k, .int .i64 1]) ∧ Below w.heap.size w w' := by
  obtain ⟨W0, hW0⟩ : ∃ W0, W0 = w.alloc (.cells #[.int .i64 0, .int .i64 0] 81) := ⟨_, rfl⟩
  have HB0 := hide (show Below w.heap.size w W0 from by rw [hW0]; exact (Below.refl _ w).alloc (Nat.le_refl _) _)
  have hr := hide (show W0.heap[w.heap.size]? = some (.cells #[.int .i64 0, .int .i64 0] 81 (0, 0)) from by rw [hW0]; exact heap_new_ w _)
  go_enter Try.func52, Try.ntmps52
  go_wp2_with fail
  rw [← hW0]
  refine (quotient_any k 1 W0 hk (by omega) (by omega) k 1 (hide (fr_whole k))).mono ?_
  rintro e w1 ⟨rfl, b1⟩
  have hr1 := (b1.block _ (Array.getElem?_eq_some_iff.1 (unhide hr)).1).trans (unhide hr)
  have HB1 := hide ((unhide HB0).trans (b1.mono (unhide HB0).size))
  clear hW0 b1
  have f0 := free_at hr1 0; have f1 := free_at hr1 1
  obtain ⟨q0, q1⟩ := two_at hr1
  have HPq := hide (put2 hr1 (.int .i64 k) (.int .i64 1))
  have HBq := hide (below_put2 (unhide HB1) (b := w.heap.size) (Nat.le_refl _) (.int .i64 k) (.int .i64 1))
  clear hr1
  go_wp2_with fail
  obtain ⟨s0, s1⟩ := two_at (unhide HPq)
  exact bodyPost_ret (v := .agg #[.int .i64 k, .int .i64 1]) (by simp [results, Try.results52, go_sem, s0, s1]) rfl ⟨rfl, unhide HBq⟩
set_option maxRecDepth 4000 in
theorem RWhole_any (k : Int) (w : World) :
    Calls Try.prog 56 #[.int .i64 k] w fun e w' => e = .returned (.agg #[.int .i64 k, .int .i64 1]) ∧ Below w.heap.size w w' := by
  obtain ⟨W0, hW0⟩ : ∃ W0, W0 = w.alloc (.cells #[.int .i64 0, .int .i64 0] 26) := ⟨_, rfl⟩
  have HB1 := hide (show Below w.heap.size w W0 from by rw [hW0]; exact (Below.refl _ w).alloc (Nat.le_refl _) _)
  have hr1 : W0.heap[w.heap.size]? = some (.cells #[.int .i64 0, .int .i64 0] 26 (0, 0)) := by rw [hW0]; exact heap_new_ w _
  have f0 := free_at hr1 0; have f1 := free_at hr1 1
  obtain ⟨q0, q1⟩ := two_at hr1
  have HPq := hide (put2 hr1 (.int .i64 k) (.int .i64 1))
  have HBq := hide (below_put2 (unhide HB1) (b := w.heap.size) (Nat.le_refl _) (.int .i64 k) (.int .i64 1))
  clear hr1
  go_enter Try.func56, Try.ntmps56
  go_upto_region 1 with fail
  rw [← hW0]
  clear hW0
  go_wp2_with fail
  obtain ⟨s0, s1⟩ := two_at (unhide HPq)
  exact bodyPost_ret (v := .agg #[.int .i64 k, .int .i64 1]) (by simp [results, Try.results56, go_sem, s0, s1]) rfl ⟨rfl, unhide HBq⟩

theorem put2_other {W : World} {b b' : Nat} (h : b' ≠ b) (v0 v1 : Value) {i : Nat} {v : Option Value} (hv : W.cell? ⟨b', i, none⟩ = v) : ((W.setCell ⟨b, 0, none⟩ v0).setCell ⟨b, 1, none⟩ v1).cell? ⟨b', i, none⟩ = v :=
  (World.cell?_of_block ((heap_setCell_other _ ⟨b, 1, none⟩ b' v1 h).trans (heap_setCell_other _ ⟨b, 0, none⟩ b' v0 h))).trans hv
/-- The world with the two fractions and the result's cell laid. -/
def lay2 (w : World) (t : TypeId) (a b c d : Int) : World := ((w.alloc (.cells #[.int .i64 a, .int .i64 b] t)).alloc (.cells #[.int .i64 c, .int .i64 d] t)).alloc (.cells #[.int .i64 0, .int .i64 0] t)
theorem lay2_below (w : World) (t : TypeId) (a b c d : Int) : Below w.heap.size w (lay2 w t a b c d) := (((Below.refl _ w).alloc (Nat.le_refl _) _).alloc (by simp) _).alloc (by simp; omega) _
theorem lay2_size (w : World) (t : TypeId) (a b c d : Int) : (lay2 w t a b c d).heap.size = w.heap.size + 3 := by simp [lay2]
theorem lay2_0 (w : World) (t : TypeId) (a b c d : Int) : (lay2 w t a b c d).heap[w.heap.size]? = some (.cells #[.int .i64 a, .int .i64 b] t (0, 0)) := by
  unfold lay2
  rw [Below.heap_alloc _ _ _ (by simp; omega), Below.heap_alloc _ _ _ (by simp)]; exact heap_new_ w _
theorem lay2_1 (w : World) (t : TypeId) (a b c d : Int) : (lay2 w t a b c d).heap[w.heap.size + 1]? = some (.cells #[.int .i64 c, .int .i64 d] t (0, 0)) := by
  unfold lay2
  rw [Below.heap_alloc _ _ _ (by simp)]
  have := heap_new_ (w.alloc (.cells #[.int .i64 a, .int .i64 b] t)) (.cells #[.int .i64 c, .int .i64 d] t)
  rwa [World.size_alloc] at this
theorem lay2_2 (w : World) (t : TypeId) (a b c d : Int) : (lay2 w t a b c d).heap[w.heap.size + 1 + 1]? = some (.cells #[.int .i64 0, .int .i64 0] t (0, 0)) := by
  unfold lay2
  have := heap_new_ ((w.alloc (.cells #[.int .i64 a, .int .i64 b] t)).alloc (.cells #[.int .i64 c, .int .i64 d] t)) (.cells #[.int .i64 0, .int .i64 0] t)
  rwa [World.size_alloc, World.size_alloc] at this

set_option maxRecDepth 4000 in
set_option maxHeartbeats 3200000 in
theorem times_any (a b c d : Int) (w : World) (h1 : -9000000000000000000 ≤ a * c ∧ a * c ≤ 9000000000000000000) (h2 : -9000000000000000000 ≤ b * d ∧ b * d ≤ 9000000000000000000) (h0 : b * d ≠ 0) (n m : Int) (hf : Hid (Fr (Rat.divInt (a * c) (b * d)) n m)) :
    Calls Try.prog 54 #[.agg #[.int .i64 a, .int .i64 b], .agg #[.int .i64 c, .int .i64 d]] w fun e w' => e = .returned (.agg #[.int .i64 n, .int .i64 m]) ∧ Below w.heap.size w w' := by
  obtain ⟨W0, hW0⟩ : ∃ W0, W0 = lay2 w 81 a b c d := ⟨_, rfl⟩
  have HB0 := hide (show Below w.heap.size w W0 from by rw [hW0]; exact lay2_below w 81 a b c d)
  have hr := hide (show W0.heap[w.heap.size + 1 + 1]? = some (.cells #[.int .i64 0, .int .i64 0] 81 (0, 0)) from by rw [hW0]; exact lay2_2 w 81 a b c d)
  obtain ⟨x0, x1⟩ := two_at (show W0.heap[w.heap.size]? = some (.cells #[.int .i64 a, .int .i64 b] 81 (0, 0)) from by rw [hW0]; exact lay2_0 w 81 a b c d)
  obtain ⟨y0, y1⟩ := two_at (show W0.heap[w.heap.size + 1]? = some (.cells #[.int .i64 c, .int .i64 d] 81 (0, 0)) from by rw [hW0]; exact lay2_1 w 81 a b c d)
  have hW1 : ((w.alloc (.cells #[.int .i64 a, .int .i64 b] 81)).alloc (.cells #[.int .i64 c, .int .i64 d] 81)).alloc (.cells #[.int .i64 0, .int .i64 0] 81) = W0 := hW0.symm
  clear hW0
  revert h1 h2 h0 hf
  obtain ⟨p, hp⟩ : ∃ p, a * c = p := ⟨_, rfl⟩
  obtain ⟨q, hq⟩ : ∃ p, b * d = p := ⟨_, rfl⟩
  rw [hp, hq]
  rintro ⟨h11, h12⟩ ⟨h21, h22⟩ h0 hf
  have HC := hide (fun W => quotient_any p q W ⟨h11, h12⟩ ⟨h21, h22⟩ h0 n m hf)
  go_enter Try.func54, Try.ntmps54
  go_upto_region 1 with fail
  clear hW1
  go_wp2_with fail
  refine ((unhide HC) W0).mono ?_
  rintro e w1 ⟨rfl, b1⟩
  have hr1 := (b1.block _ (Array.getElem?_eq_some_iff.1 (unhide hr)).1).trans (unhide hr)
  have HB1 := hide ((unhide HB0).trans (b1.mono (unhide HB0).size))
  clear b1 x0 x1 y0 y1
  have f0 := free_at hr1 0; have f1 := free_at hr1 1
  obtain ⟨q0, q1⟩ := two_at hr1
  have HPq := hide (put2 hr1 (.int .i64 n) (.int .i64 m))
  have HBq := hide (below_put2 (unhide HB1) (b := w.heap.size + 1 + 1) (by omega) (.int .i64 n) (.int .i64 m))
  clear hr1
  go_wp2_with fail
  obtain ⟨s0, s1⟩ := two_at (unhide HPq)
  exact bodyPost_ret (v := .agg #[.int .i64 n, .int .i64 m]) (by simp [results, Try.results54, go_sem, s0, s1]) rfl ⟨rfl, unhide HBq⟩
set_option maxRecDepth 4000 in
set_option maxHeartbeats 3200000 in
theorem RTimes_any (a b c d : Int) (w : World) (h1 : -9000000000000000000 ≤ a * c ∧ a * c ≤ 9000000000000000000) (h2 : 1 ≤ b * d ∧ b * d ≤ 9000000000000000000) (n m : Int) (hf : Hid (Fr (Rat.divInt (a * c) (b * d)) n m)) :
    Calls Try.prog 58 #[.agg #[.int .i64 a, .int .i64 b], .agg #[.int .i64 c, .int .i64 d]] w fun e w' => e = .returned (.agg #[.int .i64 n, .int .i64 m]) ∧ Below w.heap.size w w' := by
  obtain ⟨W0, hW0⟩ : ∃ W0, W0 = lay2 w 26 a b c d := ⟨_, rfl⟩
  have HB0 := hide (show Below w.heap.size w W0 from by rw [hW0]; exact lay2_below w 26 a b c d)
  have hr := hide (show W0.heap[w.heap.size + 1 + 1]? = some (.cells #[.int .i64 0, .int .i64 0] 26 (0, 0)) from by rw [hW0]; exact lay2_2 w 26 a b c d)
  obtain ⟨x0, x1⟩ := two_at (show W0.heap[w.heap.size]? = some (.cells #[.int .i64 a, .int .i64 b] 26 (0, 0)) from by rw [hW0]; exact lay2_0 w 26 a b c d)
  obtain ⟨y0, y1⟩ := two_at (show W0.heap[w.heap.size + 1]? = some (.cells #[.int .i64 c, .int .i64 d] 26 (0, 0)) from by rw [hW0]; exact lay2_1 w 26 a b c d)
  have hW1 : ((w.alloc (.cells #[.int .i64 a, .int .i64 b] 26)).alloc (.cells #[.int .i64 c, .int .i64 d] 26)).alloc (.cells #[.int .i64 0, .int .i64 0] 26) = W0 := hW0.symm
  clear hW0
  revert h1 h2 hf
  obtain ⟨p, hp⟩ : ∃ p, a * c = p := ⟨_, rfl⟩
  obtain ⟨q, hq⟩ : ∃ p, b * d = p := ⟨_, rfl⟩
  rw [hp, hq]
  rintro ⟨h11, h12⟩ ⟨h21, h22⟩ hf
  have HC := hide (fun W => RFrac_any p q W ⟨h11, h12⟩ ⟨h21, h22⟩ n m hf)
  go_enter Try.func58, Try.ntmps58
  go_upto_region 1 with fail
  clear hW1
  go_wp2_with fail
  refine ((unhide HC) W0).mono ?_
  rintro e w1 ⟨rfl, b1⟩
  have hr1 := (b1.block _ (Array.getElem?_eq_some_iff.1 (unhide hr)).1).trans (unhide hr)
  have HB1 := hide ((unhide HB0).trans (b1.mono (unhide HB0).size))
  clear b1 x0 x1 y0 y1
  have f0 := free_at hr1 0; have f1 := free_at hr1 1
  obtain ⟨q0, q1⟩ := two_at hr1
  have HPq := hide (put2 hr1 (.int .i64 n) (.int .i64 m))
  have HBq := hide (below_put2 (unhide HB1) (b := w.heap.size + 1 + 1) (by omega) (.int .i64 n) (.int .i64 m))
  clear hr1
  go_wp2_with fail
  obtain ⟨s0, s1⟩ := two_at (unhide HPq)
  exact bodyPost_ret (v := .agg #[.int .i64 n, .int .i64 m]) (by simp [results, Try.results58, go_sem, s0, s1]) rfl ⟨rfl, unhide HBq⟩

set_option maxRecDepth 8000 in
set_option maxHeartbeats 6400000 in
/-- The sum: l is the least common multiple of the Dens. -/
theorem plus_any (a b c d : Int) (w : World) (hb : 1 ≤ b ∧ b ≤ 9000000000000000000) (hd : 1 ≤ d ∧ d ≤ 9000000000000000000) (g x y z l u v s : Int) (hg : Hid (((Nat.gcd b.natAbs d.natAbs : Nat) : Int) = g)) (hg1 : 1 ≤ g)
    (hx : b.tdiv g = x) (hl : x * d = l) (hy : l.tdiv b = y) (hz : l.tdiv d = z) (hu : a * y = u) (hv : c * z = v) (hs : u + v = s)
    (hxb : 1 ≤ x ∧ x ≤ 9000000000000000000) (hlb : 1 ≤ l ∧ l ≤ 9000000000000000000) (hyb : 1 ≤ y ∧ y ≤ 9000000000000000000) (hzb : 1 ≤ z ∧ z ≤ 9000000000000000000)
    (hub : -4000000000000000000 ≤ u ∧ u ≤ 4000000000000000000) (hvb : -4000000000000000000 ≤ v ∧ v ≤ 4000000000000000000) (n m : Int) (hf : Hid (Fr (Rat.divInt s l) n m)) :
    Calls Try.prog 53 #[.agg #[.int .i64 a, .int .i64 b], .agg #[.int .i64 c, .int .i64 d]] w fun e w' => e = .returned (.agg #[.int .i64 n, .int .i64 m]) ∧ Below w.heap.size w w' := by
  obtain ⟨b1, b2⟩ := hb; obtain ⟨d1, d2⟩ := hd; obtain ⟨x1, x2⟩ := hxb; obtain ⟨l1, l2⟩ := hlb; obtain ⟨y1, y2⟩ := hyb; obtain ⟨z1, z2⟩ := hzb; obtain ⟨u1, u2⟩ := hub; obtain ⟨v1, v2⟩ := hvb
  obtain ⟨W0, hW0⟩ : ∃ W0, W0 = lay2 w 81 a b c d := ⟨_, rfl⟩
  have HB0 := hide (show Below w.heap.size w W0 from by rw [hW0]; exact lay2_below w 81 a b c d)
  have hr := hide (show W0.heap[w.heap.size + 1 + 1]? = some (.cells #[.int .i64 0, .int .i64 0] 81 (0, 0)) from by rw [hW0]; exact lay2_2 w 81 a b c d)
  have hA := hide (show W0.heap[w.heap.size]? = some (.cells #[.int .i64 a, .int .i64 b] 81 (0, 0)) from by rw [hW0]; exact lay2_0 w 81 a b c d)
  have hC := hide (show W0.heap[w.heap.size + 1]? = some (.cells #[.int .i64 c, .int .i64 d] 81 (0, 0)) from by rw [hW0]; exact lay2_1 w 81 a b c d)
  obtain ⟨p0, p1⟩ := two_at (unhide hA)
  obtain ⟨r0, r1⟩ := two_at (unhide hC)
  have hW1 : ((w.alloc (.cells #[.int .i64 a, .int .i64 b] 81)).alloc (.cells #[.int .i64 c, .int .i64 d] 81)).alloc (.cells #[.int .i64 0, .int .i64 0] 81) = W0 := hW0.symm
  clear hW0
  have HG := hide (fun W => gcd_is b d W (by omega) (by omega) g hg)
  have hs1 : -9000000000000000000 ≤ s := by omega
  have hs2 : s ≤ 9000000000000000000 := by omega
  have HC := hide (fun W => quotient_any s l W ⟨hs1, hs2⟩ (by omega) (by omega) n m hf)
  have HARG := hide (show IntKind.i64.wrap (IntKind.i64.wrap (a * IntKind.i64.wrap y) + IntKind.i64.wrap (c * IntKind.i64.wrap z)) = s from by
    rw [IntWalk.i64_in y (by omega), IntWalk.i64_in z (by omega), hu, hv, IntWalk.i64_in u (by omega), IntWalk.i64_in v (by omega), hs, IntWalk.i64_in s (by omega)])
  have hg0 : ¬ g = 0 := by omega
  have hb0 : ¬ b = 0 := by omega
  have hd0 : ¬ d = 0 := by omega
  go_enter Try.func53, Try.ntmps53
  go_upto_region 1 with fail
  clear hW1
  go_big_quiet (exact quiet_more ((unhide HG) _))
  go_upto_region 2 with fail
  have hr1 := hide (show (W0.drewN nq).heap[w.heap.size + 1 + 1]? = some (.cells #[.int .i64 0, .int .i64 0] 81 (0, 0)) from unhide hr)
  have HB1 := hide (below_dN (unhide HB0) nq)
  have p0' : (W0.drewN nq).cell? ⟨w.heap.size, 0, none⟩ = some (.int .i64 a) := p0
  have p1' : (W0.drewN nq).cell? ⟨w.heap.size, 1, none⟩ = some (.int .i64 b) := p1
  have r0' : (W0.drewN nq).cell? ⟨w.heap.size + 1, 0, none⟩ = some (.int .i64 c) := r0
  have r1' : (W0.drewN nq).cell? ⟨w.heap.size + 1, 1, none⟩ = some (.int .i64 d) := r1
  have hA1 := hide (show (W0.drewN nq).heap[w.heap.size]? = some (.cells #[.int .i64 a, .int .i64 b] 81 (0, 0)) from unhide hA)
  have hC1 := hide (show (W0.drewN nq).heap[w.heap.size + 1]? = some (.cells #[.int .i64 c, .int .i64 d] 81 (0, 0)) from unhide hC)
  clear p0 p1 r0 r1 hA hC hr HB0 HG
  generalize W0.drewN nq = W1 at hr1 HB1 p0' p1' r0' r1' hA1 hC1 ⊢
  have hr1d := hide (show W1.drew.heap[w.heap.size + 1 + 1]? = some (.cells #[.int .i64 0, .int .i64 0] 81 (0, 0)) from unhide hr1)
  replace hA1 := hide (show W1.drew.heap[w.heap.size]? = some (.cells #[.int .i64 a, .int .i64 b] 81 (0, 0)) from unhide hA1)
  replace hC1 := hide (show W1.drew.heap[w.heap.size + 1]? = some (.cells #[.int .i64 c, .int .i64 d] 81 (0, 0)) from unhide hC1)
  have HB1d := hide (show Below w.heap.size w W1.drew from (unhide HB1).drew)
  go_region_held3 (fun W => W.cell? ⟨w.heap.size, 0, none⟩ = some (.int .i64 a) ∧ W.cell? ⟨w.heap.size, 1, none⟩ = some (.int .i64 b) ∧ W.cell? ⟨w.heap.size + 1, 0, none⟩ = some (.int .i64 c) ∧ W.cell? ⟨w.heap.size + 1, 1, none⟩ = some (.int .i64 d)) (first | exact ⟨p0', p1', r0', r1'⟩ | exact ⟨put2_other (by omega) _ _ p0, put2_other (by omega) _ _ p1, put2_other (by omega) _ _ r0, put2_other (by omega) _ _ r1⟩ | exact ⟨p0, p1, r0, r1⟩) ((go_at_call 61; rw [HARG.out]; refine ((unhide HC) _).mono ?_; rintro e w2 ⟨rfl, b2⟩; have hr2 := (b2.block _ (Array.getElem?_eq_some_iff.1 (unhide hr1d)).1).trans (unhide hr1d); obtain ⟨p0, p1⟩ := two_at ((b2.block _ (Array.getElem?_eq_some_iff.1 (unhide hA1)).1).trans (unhide hA1)); obtain ⟨r0, r1⟩ := two_at ((b2.block _ (Array.getElem?_eq_some_iff.1 (unhide hC1)).1).trans (unhide hC1)); have HB2 := hide ((unhide HB1d).trans (b2.mono (unhide HB1d).size)); clear b2; have f0 := free_at hr2 0; have f1 := free_at hr2 1; obtain ⟨q0, q1⟩ := two_at hr2; have HPq := hide (put2 hr2 (.int .i64 n) (.int .i64 m)); have HBq := hide (below_put2 (unhide HB2) (b := w.heap.size + 1 + 1) (by omega) (.int .i64 n) (.int .i64 m)); clear hr2))
  all_goals (go_wp2_with fail)
  all_goals (obtain ⟨s0, s1⟩ := two_at (unhide HPq); exact bodyPost_ret (v := .agg #[.int .i64 n, .int .i64 m]) (by simp [results, Try.results53, go_sem, s0, s1]) rfl ⟨rfl, unhide HBq⟩)
end Go.Proofs.Ytdbflcfjjoocgaa
