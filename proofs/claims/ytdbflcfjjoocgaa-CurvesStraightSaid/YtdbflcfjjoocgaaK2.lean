/-
  more of the law: a sum and a product more.
-/
import Derived.Test.YtdbflcfjjoocgaaK1
namespace Go.Proofs.Ytdbflcfjjoocgaa
open Go.RowKit

/-- The world with three fractions and the result's cell laid. -/
def lay3 (w : World) (a b c d e f : Int) : World := (((w.alloc (.cells #[.int .i64 a, .int .i64 b] 26)).alloc (.cells #[.int .i64 c, .int .i64 d] 26)).alloc (.cells #[.int .i64 e, .int .i64 f] 26)).alloc (.cells #[.int .i64 0, .int .i64 0] 26)
theorem lay3_below (w : World) (a b c d e f : Int) : Below w.heap.size w (lay3 w a b c d e f) := ((((Below.refl _ w).alloc (Nat.le_refl _) _).alloc (by simp) _).alloc (by simp; try omega) _).alloc (by simp; try omega) _
theorem lay3_0 (w : World) (a b c d e f : Int) : (lay3 w a b c d e f).heap[w.heap.size]? = some (.cells #[.int .i64 a, .int .i64 b] 26 (0, 0)) := by
  unfold lay3
  rw [Below.heap_alloc _ _ _ (by simp; try omega), Below.heap_alloc _ _ _ (by simp; try omega), Below.heap_alloc _ _ _ (by simp)]; exact heap_new_ w _
theorem lay3_1 (w : World) (a b c d e f : Int) : (lay3 w a b c d e f).heap[w.heap.size + 1]? = some (.cells #[.int .i64 c, .int .i64 d] 26 (0, 0)) := by
  unfold lay3
  rw [Below.heap_alloc _ _ _ (by simp; try omega), Below.heap_alloc _ _ _ (by simp)]
  have := heap_new_ (w.alloc (.cells #[.int .i64 a, .int .i64 b] 26)) (.cells #[.int .i64 c, .int .i64 d] 26)
  rwa [World.size_alloc] at this
theorem lay3_2 (w : World) (a b c d e f : Int) : (lay3 w a b c d e f).heap[w.heap.size + 1 + 1]? = some (.cells #[.int .i64 e, .int .i64 f] 26 (0, 0)) := by
  unfold lay3
  rw [Below.heap_alloc _ _ _ (by simp)]
  have := heap_new_ ((w.alloc (.cells #[.int .i64 a, .int .i64 b] 26)).alloc (.cells #[.int .i64 c, .int .i64 d] 26)) (.cells #[.int .i64 e, .int .i64 f] 26)
  rwa [World.size_alloc, World.size_alloc] at this
theorem lay3_3 (w : World) (a b c d e f : Int) : (lay3 w a b c d e f).heap[w.heap.size + 1 + 1 + 1]? = some (.cells #[.int .i64 0, .int .i64 0] 26 (0, 0)) := by
  unfold lay3
  have := heap_new_ (((w.alloc (.cells #[.int .i64 a, .int .i64 b] 26)).alloc (.cells #[.int .i64 c, .int .i64 d] 26)).alloc (.cells #[.int .i64 e, .int .i64 f] 26)) (.cells #[.int .i64 0, .int .i64 0] 26)
  rwa [World.size_alloc, World.size_alloc, World.size_alloc] at this

set_option maxRecDepth 100000 in
set_option maxHeartbeats 16000000 in
theorem more_any (a b c d e f : Int) (w : World) (hb : 1 ≤ b ∧ b ≤ 4611686018427387904) (hd : 1 ≤ d ∧ d ≤ 4611686018427387904) (hff : 1 ≤ f ∧ f ≤ 4611686018427387904)
    (n1 d1 : Int) (P Q : Int) (hP : c * e = P) (hQ : d * f = Q) (hcb : -4611686018427387904 ≤ c ∧ c ≤ 4611686018427387904) (heb : -4611686018427387904 ≤ e ∧ e ≤ 4611686018427387904) (hab : -4611686018427387904 ≤ a ∧ a ≤ 4611686018427387904)
    (hPb : -4611686018427387904 ≤ P ∧ P ≤ 4611686018427387904) (hQb : 1 ≤ Q ∧ Q ≤ 4611686018427387904) (hF1 : Hid (Fr (Rat.divInt P Q) n1 d1)) (hn1 : -4611686018427387904 ≤ n1 ∧ n1 ≤ 4611686018427387904) (hd1 : 1 ≤ d1 ∧ d1 ≤ 4611686018427387904)
    (g x y z l u v s : Int) (hg : Hid (((Nat.gcd b.natAbs d1.natAbs : Nat) : Int) = g)) (hg1 : 1 ≤ g)
    (hx : b.tdiv g = x) (hl : x * d1 = l) (hy : l.tdiv b = y) (hz : l.tdiv d1 = z) (hu : a * y = u) (hv : n1 * z = v) (hs : u + v = s)
    (hxb : 1 ≤ x ∧ x ≤ 4611686018427387904) (hlb : 1 ≤ l ∧ l ≤ 4611686018427387904) (hyb : 1 ≤ y ∧ y ≤ 4611686018427387904) (hzb : 1 ≤ z ∧ z ≤ 4611686018427387904)
    (hub : -2305843009213693952 ≤ u ∧ u ≤ 2305843009213693952) (hvb : -2305843009213693952 ≤ v ∧ v ≤ 2305843009213693952) (n m : Int) (hf : Hid (Fr (Rat.divInt s l) n m)) :
    Calls Try.prog 41 #[.agg #[.int .i64 a, .int .i64 b], .agg #[.int .i64 c, .int .i64 d], .agg #[.int .i64 e, .int .i64 f]] w fun r w' => r = .returned (.tuple #[.agg #[.int .i64 n, .int .i64 m], .bool true]) ∧ Below w.heap.size w w' := by
  obtain ⟨b1, b2⟩ := hb; obtain ⟨dd1, dd2⟩ := hd; obtain ⟨f1, f2⟩ := hff; obtain ⟨n11, n12⟩ := hn1; obtain ⟨d11, d12⟩ := hd1
  obtain ⟨x1, x2⟩ := hxb; obtain ⟨l1, l2⟩ := hlb; obtain ⟨y1, y2⟩ := hyb; obtain ⟨z1, z2⟩ := hzb; obtain ⟨u1, u2⟩ := hub; obtain ⟨v1, v2⟩ := hvb
  obtain ⟨P1, P2⟩ := hPb; obtain ⟨Q1, Q2⟩ := hQb
  obtain ⟨W0, hW0⟩ : ∃ W0, W0 = lay3 w a b c d e f := ⟨_, rfl⟩
  have HB0 := hide (show Below w.heap.size w W0 from by rw [hW0]; exact lay3_below w a b c d e f)
  have HA := hide (show W0.heap[w.heap.size]? = some (.cells #[.int .i64 a, .int .i64 b] 26 (0, 0)) from by rw [hW0]; exact lay3_0 w a b c d e f)
  have HC := hide (show W0.heap[w.heap.size + 1]? = some (.cells #[.int .i64 c, .int .i64 d] 26 (0, 0)) from by rw [hW0]; exact lay3_1 w a b c d e f)
  have HE := hide (show W0.heap[w.heap.size + 1 + 1]? = some (.cells #[.int .i64 e, .int .i64 f] 26 (0, 0)) from by rw [hW0]; exact lay3_2 w a b c d e f)
  have HR := hide (show W0.heap[w.heap.size + 1 + 1 + 1]? = some (.cells #[.int .i64 0, .int .i64 0] 26 (0, 0)) from by rw [hW0]; exact lay3_3 w a b c d e f)
  have hW1 : (((w.alloc (.cells #[.int .i64 a, .int .i64 b] 26)).alloc (.cells #[.int .i64 c, .int .i64 d] 26)).alloc (.cells #[.int .i64 e, .int .i64 f] 26)).alloc (.cells #[.int .i64 0, .int .i64 0] 26) = W0 := hW0.symm
  clear hW0
  obtain ⟨a0, a1⟩ := two_at (unhide HA)
  obtain ⟨c0, c1⟩ := two_at (unhide HC)
  obtain ⟨e0, e1⟩ := two_at (unhide HE)
  have CP := hide (fun W => product_ok c e P W hcb heb hP ⟨P1, P2⟩)
  have CQ := hide (fun W => product_ok d f Q W ⟨by omega, dd2⟩ ⟨by omega, f2⟩ hQ ⟨by omega, Q2⟩)
  have CF := hide (fun W => RFrac_any P Q W (by omega) (by omega) n1 d1 hF1)
  have CL := hide (fun W => product_ok x d1 l W ⟨by omega, x2⟩ ⟨by omega, d12⟩ hl ⟨by omega, l2⟩)
  have CU := hide (fun W => product_ok a y u W hab ⟨by omega, y2⟩ hu ⟨by omega, by omega⟩)
  have CV := hide (fun W => product_ok n1 z v W ⟨n11, n12⟩ ⟨by omega, z2⟩ hv ⟨by omega, by omega⟩)
  have CR := hide (fun W => RFrac_any s l W (by omega) (by omega) n m hf)
  have hmax : ∃ M : Int, M ≤ 2305843009213693952 ∧ ∀ w : World, (Builtin.max_ #[3, 3, 3, 3] 3 #[.int .i64 u, .int .i64 (-u), .int .i64 v, .int .i64 (-v)]).run Try.prog w = .ok (.int .i64 M) w := by
    refine ⟨_, ?_, fun w => by simp [Builtin.max_, Builtin.max2]; rfl⟩
    split <;> split <;> split <;> omega
  obtain ⟨M, hM, hmax⟩ := hmax
  have hMd : decide (2305843009213693952 < M) = false := decide_eq_false (by omega)
  clear hcb heb hab hP hQ
  go_enter Try.func41, Try.ntmps41
  go_upto_region 1 with fail
  clear hW1
  go_wp2_with fail
  refine ((unhide CP) _).mono ?_
  rintro r w1 ⟨rfl, rfl⟩
  go_wp2_with fail
  refine ((unhide CQ) _).mono ?_
  rintro r w1 ⟨rfl, rfl⟩
  go_wp2_with fail
  refine ((unhide CF) _).mono ?_
  rintro r w1 ⟨rfl, bb1⟩
  have HB1 := hide ((unhide HB0).trans (bb1.mono (unhide HB0).size))
  have HA1 := hide ((bb1.block _ (Array.getElem?_eq_some_iff.1 (unhide HA)).1).trans (unhide HA))
  have HR1 := hide ((bb1.block _ (Array.getElem?_eq_some_iff.1 (unhide HR)).1).trans (unhide HR))
  clear bb1 a0 a1 c0 c1 e0 e1 HA HC HE HR HB0
  obtain ⟨W2, hW2⟩ : ∃ W2, W2 = w1.alloc (.cells #[.int .i64 n1, .int .i64 d1] 26) := ⟨_, rfl⟩
  have HB2 := hide (show Below w.heap.size w W2 from by rw [hW2]; exact (unhide HB1).alloc (unhide HB1).size _)
  have HA2 := hide (show W2.heap[w.heap.size]? = some (.cells #[.int .i64 a, .int .i64 b] 26 (0, 0)) from by rw [hW2]; exact (Below.heap_alloc _ _ _ (Array.getElem?_eq_some_iff.1 (unhide HA1)).1).trans (unhide HA1))
  have HR2 := hide (show W2.heap[w.heap.size + 1 + 1 + 1]? = some (.cells #[.int .i64 0, .int .i64 0] 26 (0, 0)) from by rw [hW2]; exact (Below.heap_alloc _ _ _ (Array.getElem?_eq_some_iff.1 (unhide HR1)).1).trans (unhide HR1))
  have HP2 := hide (show W2.heap[w1.heap.size]? = some (.cells #[.int .i64 n1, .int .i64 d1] 26 (0, 0)) from by rw [hW2]; exact heap_new_ w1 _)
  have hW3 : w1.alloc (.cells #[.int .i64 n1, .int .i64 d1] 26) = W2 := hW2.symm
  clear hW2
  obtain ⟨a0, a1⟩ := two_at (unhide HA2)
  obtain ⟨p0, p1⟩ := two_at (unhide HP2)
  go_upto_region 6 with fail
  clear hW3
  go_big_quiet (fail)
  go_wp2_with fail
  go_loopw [13, 14] (fun s13 s14 wr => ∃ X Y : Int, s13 = .int .i64 X ∧ s14 = .int .i64 Y ∧ Hid (((Nat.gcd X.natAbs Y.natAbs : Nat) : Int) = g) ∧ (1 ≤ X ∧ X ≤ 4611686018427387904) ∧ (0 ≤ Y ∧ Y ≤ 4611686018427387904) ∧ ∃ q, wr = W2.drewN q) (fun _ s14 _ => (intOf s14).natAbs)
  case atStart => exact ⟨b, d1, rfl, rfl, hg, ⟨b1, b2⟩, ⟨by omega, d12⟩, nq, rfl⟩
  case round =>
    obtain ⟨X, Y, rfl, rfl, hG, ⟨hX1, hX2⟩, ⟨hY1, hY2⟩, q, rfl⟩ := hrel
    by_cases h0 : Y = 0
    · subst h0
      have hXg := hide (show X = g from by have := hG.out; simp at this; omega)
      have hd0 : ((0 : Int) != 0) = false := by decide
      rw [hXg.out]
      have hg0 : ¬ g = 0 := by omega
      clear hG hX1 hX2 hXg
      have a0' : (W2.drewN q).cell? ⟨w.heap.size, 0, none⟩ = some (.int .i64 a) := a0
      have a1' : (W2.drewN q).cell? ⟨w.heap.size, 1, none⟩ = some (.int .i64 b) := a1
      have p0' : (W2.drewN q).cell? ⟨w1.heap.size, 0, none⟩ = some (.int .i64 n1) := p0
      have p1' : (W2.drewN q).cell? ⟨w1.heap.size, 1, none⟩ = some (.int .i64 d1) := p1
      have HRq := hide (show (W2.drewN q).heap[w.heap.size + 1 + 1 + 1]? = some (.cells #[.int .i64 0, .int .i64 0] 26 (0, 0)) from unhide HR2)
      have HBq := hide (below_dN (unhide HB2) q)
      clear a0 a1 p0 p1 HA2 HP2 HR2 HB2
      generalize W2.drewN q = W3 at a0' a1' p0' p1' HRq HBq ⊢
      have hb0 : ¬ b = 0 := by omega
      have hd10 : ¬ d1 = 0 := by omega
      go_upto_region 9 with fail
      go_big_quiet (first | exact quiet_left2 ((unhide CL) _) | exact quiet_left ((unhide CL) _))
      go_upto_region 12 with fail
      go_big_quiet (first | exact quiet_left2 ((unhide CU) _) | exact quiet_left ((unhide CU) _))
      go_upto_region 13 with fail
      go_big_quiet (first | exact quiet_left2 ((unhide CV) _) | exact quiet_left ((unhide CV) _))
      go_upto_region 16 with fail
      have HRw := hide (show ∀ k, (W3.drewN k).heap[w.heap.size + 1 + 1 + 1]? = some (.cells #[.int .i64 0, .int .i64 0] 26 (0, 0)) from fun k => unhide HRq)
      have HBw := hide (show ∀ k, Below w.heap.size w (W3.drewN k) from fun k => below_dN (unhide HBq) k)
      clear a0' a1' p0' p1' HRq HBq
      go_wp2_with fail
      refine ((unhide CR) _).mono ?_
      rintro r w9 ⟨rfl, b9⟩
      have hr := (b9.block _ (Array.getElem?_eq_some_iff.1 (unhide HRw _)).1).trans (unhide HRw _)
      have HB9 := hide ((unhide HBw _).trans (b9.mono (unhide HBw _).size))
      clear b9
      have f0 := free_at hr 0; have f1 := free_at hr 1
      obtain ⟨q0, q1⟩ := two_at hr
      have HPq := hide (put2 hr (.int .i64 n) (.int .i64 m))
      have HBq := hide (below_put2 (unhide HB9) (b := w.heap.size + 1 + 1 + 1) (by omega) (.int .i64 n) (.int .i64 m))
      clear hr
      go_wp2_with fail
      obtain ⟨s2, s3⟩ := two_at (unhide HPq)
      exact bodyPost_ret (v := .tuple #[.agg #[.int .i64 n, .int .i64 m], .bool true]) (by simp [results, Try.results41, go_sem, s2, s3]) rfl ⟨rfl, unhide HBq⟩
    · have hd0 : ((Y : Int) != 0) = true := by simp; omega
      obtain ⟨r, hr⟩ : ∃ r : Int, X.tmod Y = r := ⟨_, rfl⟩
      have hna : r.natAbs = X.natAbs % Y.natAbs := by rw [← hr, Int.natAbs_tmod]
      have hlt : r.natAbs < Y.natAbs := by rw [hna]; exact Nat.mod_lt _ (by omega)
      have hr0 : 0 ≤ r := by rw [← hr]; exact Int.tmod_nonneg _ (by omega)
      have hg2 := hide (show ((Nat.gcd Y.natAbs r.natAbs : Nat) : Int) = g from by rw [← hG.out, hna, Nat.gcd_comm X.natAbs, Nat.gcd_rec Y.natAbs X.natAbs, Nat.gcd_comm])
      clear hna a0 a1 p0 p1
      have hr2 : r ≤ 4611686018427387904 := by omega
      go_wp2_with fail
      go_big_quiet (fail)
      go_wp2_with fail
      go_roundw
      case rel => exact ⟨Y, r, by go_num, by go_num, hg2, ⟨by omega, by omega⟩, ⟨by omega, by omega⟩, (by first | exact ⟨_, rfl⟩ | exact quiet_q _ _ _)⟩
      case measure => simp [intOf]; omega

/-- A sum and a product more, of rational numbers: all within the bounds. -/
theorem more_q {s p q r : Rat} {D M E1 E2 M1 M2 : Nat} {a b c d e f n m : Int} (w : World) (hs : Hid (Fr s a b)) (hp : Hid (Fr p c d)) (hq : Hid (Fr q e f)) (ss : Hid (Sm D M s)) (spq : Hid (Sm D M (p * q))) (sp : Hid (Sm E1 M1 p)) (sq : Hid (Sm E2 M2 q))
    (hD : Hid (0 < D ∧ D ≤ 4611686018427387904 ∧ M ≤ 2305843009213693952 ∧ 0 < E1 ∧ 0 < E2 ∧ E1 ≤ 4611686018427387904 ∧ E2 ≤ 4611686018427387904 ∧ M1 ≤ 4611686018427387904 ∧ M2 ≤ 4611686018427387904 ∧ E1 * E2 ≤ 4611686018427387904 ∧ M1 * M2 ≤ 4611686018427387904)) (hr : Hid (s + p * q = r)) (hf : Hid (Fr r n m)) :
    Calls Try.prog 41 #[.agg #[.int .i64 a, .int .i64 b], .agg #[.int .i64 c, .int .i64 d], .agg #[.int .i64 e, .int .i64 f]] w fun r w' => r = .returned (.tuple #[.agg #[.int .i64 n, .int .i64 m], .bool true]) ∧ Below w.heap.size w w' := by
  obtain ⟨k1, k2, k3, k4, k5, k6, k7, k8, k9, k10, k11⟩ := hD.out
  obtain ⟨n1, d1, hpq⟩ := exists_fr (p * q)
  obtain ⟨g, x, y, z, l, u, v, hg, hg1, hx, hl, hy, hz, hu, hv, hxb, hlb, hyb, hzb, hub, hvb, hsum⟩ := plus_facts hs.out hpq ss.out spq.out k1
  obtain ⟨m1, m2, m3⟩ := mulZ hp.out hq.out sp.out sq.out k4 k5 (by omega) (by omega)
  have c1 := sp.out.num_le k4; have c2 := sp.out.den_le k4
  have c3 := sq.out.num_le k5; have c4 := sq.out.den_le k5
  have c5 := ss.out.num_le k1; have c6 := ss.out.den_le k1
  have c7 := spq.out.num_le k1; have c8 := spq.out.den_le k1
  rw [← Int.ofNat_le] at c2 c4 c6 c8
  rw [hp.out.1] at c1; rw [hp.out.2] at c2; rw [hq.out.1] at c3; rw [hq.out.2] at c4; rw [hs.out.1] at c5; rw [hs.out.2] at c6; rw [hpq.1] at c7; rw [hpq.2] at c8
  have hb := hs.out.pos; have hd := hp.out.pos; have hff := hq.out.pos; have hd1 := hpq.pos
  have j1 : (c * e).natAbs ≤ M1 * M2 := by rw [Int.natAbs_mul]; exact Nat.mul_le_mul c1 c3
  have j2 : d * f ≤ ((E1 * E2 : Nat) : Int) := by rw [Int.natCast_mul]; exact Int.mul_le_mul c2 c4 (by omega) (by omega)
  exact more_any a b c d e f w ⟨by omega, by omega⟩ ⟨by omega, by omega⟩ ⟨by omega, by omega⟩ n1 d1 _ _ rfl rfl ⟨by omega, by omega⟩ ⟨by omega, by omega⟩ ⟨by omega, by omega⟩ ⟨by omega, by omega⟩ ⟨by omega, by omega⟩ (hide (by rw [m3]; exact hpq)) ⟨by omega, by omega⟩ ⟨by omega, by omega⟩
    g x y z l u v (u + v) (hide hg) hg1 hx hl hy hz hu hv rfl ⟨by omega, by omega⟩ ⟨by omega, by omega⟩ ⟨by omega, by omega⟩ ⟨by omega, by omega⟩ ⟨by omega, by omega⟩ ⟨by omega, by omega⟩ n m (hide (by rw [hsum, hr.out]; exact hf.out))
end Go.Proofs.Ytdbflcfjjoocgaa
