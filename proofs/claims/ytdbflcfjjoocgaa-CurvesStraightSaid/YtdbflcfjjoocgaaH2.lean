/-
  basics of the program.
-/
import Derived.Test.YtdbflcfjjoocgaaH1
namespace Go.Proofs.Ytdbflcfjjoocgaa
open Go.RowKit

/-- 0 as a fraction, up to k. -/
def zeroTo (N k : Nat) : List F := (List.range N).map fun j => if j < k then (0, 1) else (0, 0)
theorem zeroTo_0 (N : Nat) : zeroTo N 0 = List.replicate N (0, 0) := by
  apply List.ext_getElem <;> simp [zeroTo]
theorem zeroTo_len (N k : Nat) : (zeroTo N k).length = N := by simp [zeroTo]
theorem zeroTo_set (N k : Nat) (h : k < N) : (zeroTo N k).set k (0, 1) = zeroTo N (k + 1) := by
  apply List.ext_getElem
  · simp [zeroTo]
  · intro i h1 h2
    rw [List.getElem_set]
    simp only [zeroTo, List.getElem_map, List.getElem_range]
    by_cases e : k = i
    · subst e; simp
    · rw [if_neg e]
      by_cases h : i < k
      · rw [if_pos h, if_pos (by omega)]
      · rw [if_neg h, if_neg (by omega)]
theorem zeroTo_has (N p : Nat) (h : p < N) (K : Nat → Rat) (t : Rat) : HasQ ((zeroTo N N).set p (1, 1)) (bas K p t 0) 0 N := by
  intro j _ hj
  simp only [bas]
  by_cases e : j = p
  · subst e; rw [fth_set _ (by rw [zeroTo_len]; exact h), if_pos rfl]; exact ⟨rfl, rfl⟩
  · rw [fth_set_ne _ e, if_neg e]
    have : fth (zeroTo N N) j = (0, 1) := by simp [fth, zeroTo, List.getD, hj]
    rw [this]; exact ⟨rfl, rfl⟩

theorem cell_put_ {W : World} {b b' : Nat} (h : b' ≠ b) {o0 o1 : Nat} (v0 v1 : Value) {i : Nat} {v : Option Value} (hv : W.cell? ⟨b', i, none⟩ = v) : ((W.setCell ⟨b, o0, none⟩ v0).setCell ⟨b, o1, none⟩ v1).cell? ⟨b', i, none⟩ = v :=
  (World.cell?_of_block ((heap_setCell_other _ ⟨b, o1, none⟩ b' v1 h).trans (heap_setCell_other _ ⟨b, o0, none⟩ b' v0 h))).trans hv
set_option maxRecDepth 100000 in
set_option maxHeartbeats 8000000 in
theorem basics_any (tn td : Int) (d p : Nat) (t : Rat) (A A' : Option Addr) (n c n' c' : Nat) (ks ps : List Int) (w : World) (hk : Ints w w.heap.size A n c ks) (hp : Ints w w.heap.size A' n' c' ps) (hA : Hid (At d ks ps tn td t p)) :
    Calls Try.prog 50 #[.agg #[.int .i64 (d : Int), .slice A n c, .slice A' n' c'], .agg #[.int .i64 tn, .int .i64 td, .int .i64 (p : Int)]] w fun e w' => ∃ g L, e = .returned (.slice (some ⟨g, 0, none⟩) n' (n - 1)) ∧ PB w' g 81 L ∧ L.length = n - 1 ∧ Hid (HasQ L (bas (KQ ks) p t d) 0 n') ∧ Below w.heap.size w w' ∧ w.heap.size ≤ g := by
  have hm := hk.most; have hcap := hk.cap
  have hl := hide hp.len
  have hlk := hide hk.len
  have hd3 := hA.out.ok.d3
  have hn8 := hA.out.ok.n8; rw [hp.len] at hn8
  have hN := hA.out.ok.len; rw [hp.len, hk.len] at hN
  have hpn := hA.out.pl.lt; rw [hp.len] at hpn
  have hdp := hA.out.dp
  obtain ⟨N, rfl⟩ : ∃ N, n = N + 1 := ⟨n - 1, by omega⟩
  have hN1 : N ≤ n' + d := by omega
  have hN2 : n' + d ≤ N := by omega
  clear hN
  obtain ⟨W0, hW0⟩ : ∃ W0, W0 = (w.alloc (.cells #[.int .i64 (d : Int), .slice A (N + 1) c, .slice A' n' c'] 31)).alloc (.cells #[.int .i64 tn, .int .i64 td, .int .i64 (p : Int)] 83) := ⟨_, rfl⟩
  have HB0 := hide (show Below w.heap.size w W0 from by rw [hW0]; exact ((Below.refl _ w).alloc (Nat.le_refl _) _).alloc (by simp) _)
  have hs0 := hide (show W0.heap.size = w.heap.size + 2 from by rw [hW0]; simp)
  have HC0 := hide (show W0.heap[w.heap.size]? = some (.cells #[.int .i64 (d : Int), .slice A (N + 1) c, .slice A' n' c'] 31 (0, 0)) from by rw [hW0]; exact (Below.heap_alloc _ _ _ (by simp)).trans (heap_new_ w _))
  have HP0 := hide (show W0.heap[w.heap.size + 1]? = some (.cells #[.int .i64 tn, .int .i64 td, .int .i64 (p : Int)] 83 (0, 0)) from by
    rw [hW0]; have := heap_new_ (w.alloc (.cells #[.int .i64 (d : Int), .slice A (N + 1) c, .slice A' n' c'] 31)) (.cells #[.int .i64 tn, .int .i64 td, .int .i64 (p : Int)] 83); rwa [World.size_alloc] at this)
  have HK := hide ((hk.below (unhide HB0)).more (unhide HB0).size)
  clear hk hp
  obtain ⟨x0, x1, x2⟩ := three_at (unhide HC0)
  obtain ⟨y0, y1, y2⟩ := three_at (unhide HP0)
  have hmk := make81 N (by omega)
  go_enter Try.func50, Try.ntmps50
  go_upto_region 1 with fail
  rw [← hW0]
  clear hW0
  go_upto_region 3 with fail
  clear hmk
  have HPB := hide (show PB (W0.alloc (.cells (cells2_ (List.replicate N (0, 0))).toArray 81)) W0.heap.size 81 (zeroTo N 0) from by rw [zeroTo_0]; exact heap_new_ W0 _)
  have HB1 := hide (show Below W0.heap.size W0 (W0.alloc (.cells (cells2_ (List.replicate N (0, 0))).toArray 81)) from (Below.refl _ _).alloc (Nat.le_refl _) _)
  generalize W0.alloc (.cells (cells2_ (List.replicate N (0, 0))).toArray 81) = W1 at HPB HB1 ⊢
  go_wp2_with fail
  go_loopw [7, 20] (fun _ i wr => ∃ k : Nat, k ≤ N ∧ i = .int .i64 k ∧ PB wr W0.heap.size 81 (zeroTo N k) ∧ Below W0.heap.size W0 wr) (fun _ i _ => N - (intOf i).toNat)
  case atStart => exact ⟨0, Nat.zero_le _, rfl, unhide HPB, unhide HB1⟩
  case round =>
    obtain ⟨k, hk, rfl, hpb, hb⟩ := hrel
    have HPK := hide hpb; have HBK := hide hb
    clear hpb hb HPB HB1
    by_cases hlt : k < N
    · have HST := hide (zeroTo_set N k hlt)
      go_wp2_with fail
      refine (whole_any 0 _ (by omega)).mono ?_
      rintro e w2 ⟨rfl, b2⟩
      have hp2 := (unhide HPK).below b2 (unhide HPK).lt
      have HB2 := hide ((unhide HBK).trans (b2.mono (unhide HBK).size))
      clear b2
      obtain ⟨z0, z1⟩ := hp2.cell (k := k) (by rw [zeroTo_len]; exact hlt)
      have f0 := hp2.free (k * 2); have f1 := hp2.free (k * 2 + 1)
      have HP3 := hide (show PB _ W0.heap.size 81 (zeroTo N (k + 1)) from by have := hp2.put (k := k) (by rw [zeroTo_len]; exact hlt) 0 1; rw [HST.out] at this; exact this)
      have HB3 := hide (below_set2 (unhide HB2) (b := W0.heap.size) (Nat.le_refl _) (k * 2) (k * 2 + 1) (.int .i64 0) (.int .i64 1))
      clear hp2
      go_wp2_with fail
      go_roundw
      case rel => exact ⟨k + 1, by omega, by go_num, unhide HP3, unhide HB3⟩
      case measure => simp [intOf]; omega
    · obtain rfl : N = k := by omega
      have hs := unhide hs0
      have HP0a := hide (((unhide HBK).block _ (show w.heap.size + 1 < W0.heap.size by have := hs0.out; omega)).trans (unhide HP0))
      have HP0d := hide (show wr.drew.heap[w.heap.size + 1]? = some (.cells #[.int .i64 tn, .int .i64 td, .int .i64 (p : Int)] 83 (0, 0)) from unhide HP0a)
      have HPKd := hide (show PB wr.drew W0.heap.size 81 (zeroTo N N) from unhide HPK)
      have HBKd := hide (show Below W0.heap.size W0 wr.drew from (unhide HBK).drew)
      have HSL := hide (show w.heap.size + 1 ≠ W0.heap.size by omega)
      have hpN : p < N := by omega
      have hpNi : (p : Int) < N := by omega
      clear x0 x1 x2 y0 y1 y2 hs
      obtain ⟨y0, y1, y2⟩ := three_at (unhide HP0a)
      obtain ⟨u0, u1⟩ := (unhide HPK).cell (k := p) (by rw [zeroTo_len]; exact hpN)
      have f0 := (unhide HPK).free (p * 2); have f1 := (unhide HPK).free (p * 2 + 1)
      go_wp2_with fail
      go_region_held3 (fun W => W.cell? ⟨w.heap.size + 1, 2, none⟩ = some (.int .i64 (p : Int))) (first | exact y2 | exact z2 | exact (cell_put_ (unhide HSL) _ _ z2)) ((go_at_call 52; refine (whole_any 1 _ (by omega)).mono ?_; rintro e w2 ⟨rfl, b2⟩; have HPB2 := hide ((unhide HPKd).below b2 (unhide HPKd).lt); have HB2 := hide ((unhide HBKd).trans (b2.mono (unhide HBKd).size)); obtain ⟨z0, z1, z2⟩ := three_at ((b2.block _ (Array.getElem?_eq_some_iff.1 (unhide HP0d)).1).trans (unhide HP0d)); obtain ⟨v0, v1⟩ := (unhide HPB2).cell (k := p) (by rw [zeroTo_len]; exact hpN); have g0 := (unhide HPB2).free (p * 2); have g1 := (unhide HPB2).free (p * 2 + 1); have HP3 := hide ((unhide HPB2).put (k := p) (by rw [zeroTo_len]; exact hpN) 1 1); have HB3 := hide (below_set2 (unhide HB2) (b := W0.heap.size) (Nat.le_refl _) (p * 2) (p * 2 + 1) (.int .i64 1) (.int .i64 1)); clear b2))
      have HHQ := hide (zeroTo_has N p hpN (KQ ks) t)
      have HLL := hide (show ((zeroTo N N).set p (1, 1)).length = N from by rw [List.length_set, zeroTo_len])
      clear z0 z1 z2 v0 v1 g0 g1 y0 y1 y2 u0 u1 f0 f1 HPB2 HB2 HPKd HBKd HPK HBK HP0d
      go_upto_region 10 with fail
      go_loopw [6, 8, 9, 10, 11] (fun s6 s8 _ _ _ wr => ∃ (e : Nat) (L : List F), e ≤ d ∧ s6 = .slice (some ⟨W0.heap.size, 0, none⟩) (N - e) N ∧ s8 = .int .i64 ((e : Int) + 1) ∧ Hid (L.length = N) ∧ Hid (HasQ L (bas (KQ ks) p t e) 0 (N - e)) ∧ Hid (PB wr W0.heap.size 81 L) ∧ Hid (Below W0.heap.size W0 wr)) (fun _ s8 _ _ _ _ => 5 - (intOf s8).toNat)
      case atStart => exact ⟨0, _, Nat.zero_le _, rfl, by go_num, HLL, HHQ, HP3, HB3⟩
      case round =>
        obtain ⟨e, L, he, rfl, rfl, HL, HQ, HP, HB⟩ := hrel
        clear HP3 HB3 HHQ HLL
        have HCa := hide (((unhide HB).block _ (show w.heap.size < W0.heap.size by have := hs0.out; omega)).trans (unhide HC0))
        have HPa := hide (((unhide HB).block _ (show w.heap.size + 1 < W0.heap.size by have := hs0.out; omega)).trans (unhide HP0))
        obtain ⟨x0, x1, x2⟩ := three_at (unhide HCa)
        obtain ⟨y0, y1, y2⟩ := three_at (unhide HPa)
        by_cases hed : e < d
        · have hcmp : ((e : Int) + 1 ≤ (d : Int)) := by omega
          have hNe : (e : Int) + 1 ≤ N := by omega
          have hNe2 : ((N - e : Nat) : Int) - 1 = ((N - e - 1 : Nat) : Int) := by omega
          go_upto_region 13 with fail
          go_loopw [9, 10, 11, 42] (fun _ _ _ s42 wr' => ∃ (i : Nat) (L : List F), i ≤ N - e - 1 ∧ s42 = .int .i64 (i : Int) ∧ Hid (L.length = N) ∧ Hid (HasQ L (bas (KQ ks) p t (e + 1)) 0 i) ∧ Hid (HasQ L (bas (KQ ks) p t e) i (N - e)) ∧ Hid (PB wr' W0.heap.size 81 L) ∧ Hid (Below W0.heap.size W0 wr')) (fun _ _ _ s42 _ => N - (intOf s42).toNat)
          case atStart => exact ⟨0, L, Nat.zero_le _, rfl, HL, hide (fun j h1 h2 => by omega), HQ, HP, HB⟩
          case round =>
            clear x0 x1 x2 y0 y1 y2 HCa HPa HL HQ HP HB
            obtain ⟨i, L, hi, rfl, HL, HQ, HQ2, HP, HB⟩ := hrel
            by_cases hlt : i < N - e - 1
            · have HPa := hide (((unhide HB).block _ (show w.heap.size + 1 < W0.heap.size by have := hs0.out; omega)).trans (unhide HP0))
              obtain ⟨y0, y1, y2⟩ := three_at (unhide HPa)
              obtain ⟨b1, off, rfl, hbb, k0⟩ := ((unhide HK).below (unhide HB)).at_ i (by omega)
              obtain ⟨b2, off2, e0, _, k1⟩ := ((unhide HK).below (unhide HB)).at_ (i + (e + 1)) (by omega)
              simp only [Option.some.injEq, Addr.mk.injEq, and_true] at e0
              obtain ⟨rfl, rfl⟩ := e0
              obtain ⟨b2, off2, e0, _, k2⟩ := ((unhide HK).below (unhide HB)).at_ (i + (e + 1) + 1) (by omega)
              simp only [Option.some.injEq, Addr.mk.injEq, and_true] at e0
              obtain ⟨rfl, rfl⟩ := e0
              obtain ⟨b2, off2, e0, _, k3⟩ := ((unhide HK).below (unhide HB)).at_ (i + 1) (by omega)
              simp only [Option.some.injEq, Addr.mk.injEq, and_true] at e0
              obtain ⟨rfl, rfl⟩ := e0
              obtain ⟨u0, u1⟩ := (unhide HP).cell (k := i) (by rw [HL.out]; omega)
              obtain ⟨v0, v1⟩ := (unhide HP).cell (k := i + 1) (by rw [HL.out]; omega)
              have hf1 := HQ2.out i (Nat.le_refl _) (by omega)
              have hf2 := HQ2.out (i + 1) (by omega) (by omega)
              obtain ⟨⟨a, b⟩, ea⟩ : ∃ f, fth L i = f := ⟨_, rfl⟩
              obtain ⟨⟨a', b'⟩, eb⟩ : ∃ f, fth L (i + 1) = f := ⟨_, rfl⟩
              rw [ea] at hf1 u0 u1; rw [eb] at hf2 v0 v1
              simp only at hf1 hf2 u0 u1 v0 v1
              clear ea eb
              have HX0 := hide (KQ_int (ks := ks) (i := i) (by rw [hlk.out]; omega) rfl)
              have HX1 := hide (KQ_int (ks := ks) (i := i + (e + 1)) (by rw [hlk.out]; omega) rfl)
              have HX2 := hide (KQ_int (ks := ks) (i := i + (e + 1) + 1) (by rw [hlk.out]; omega) rfl)
              have HX3 := hide (KQ_int (ks := ks) (i := i + 1) (by rw [hlk.out]; omega) rfl)
              have q0 := hA.out.ok.knot i (by rw [hlk.out]; omega)
              have q1 := hA.out.ok.knot (i + (e + 1)) (by rw [hlk.out]; omega)
              have q2 := hA.out.ok.knot (i + (e + 1) + 1) (by rw [hlk.out]; omega)
              have q3 := hA.out.ok.knot (i + 1) (by rw [hlk.out]; omega)
              revert k0 k1 k2 k3 HX0 HX1 HX2 HX3 q0 q1 q2 q3
              obtain ⟨z0, ez0⟩ : ∃ z, nth ks i = z := ⟨_, rfl⟩
              obtain ⟨z1, ez1⟩ : ∃ z, nth ks (i + (e + 1)) = z := ⟨_, rfl⟩
              obtain ⟨z2, ez2⟩ : ∃ z, nth ks (i + (e + 1) + 1) = z := ⟨_, rfl⟩
              obtain ⟨z3, ez3⟩ : ∃ z, nth ks (i + 1) = z := ⟨_, rfl⟩
              rw [ez0, ez1, ez2, ez3]
              clear ez0 ez1 ez2 ez3
              intro k0 k1 k2 k3 HX0 HX1 HX2 HX3 q0 q1 q2 q3
              obtain ⟨r1, er1⟩ : ∃ r, wt (z0 : Rat) (z1 : Rat) t = r := ⟨_, rfl⟩
              obtain ⟨n1, m1, hr1⟩ := exists_fr r1
              obtain ⟨r2, er2⟩ : ∃ r, r1 * bas (KQ ks) p t e i = r := ⟨_, rfl⟩
              obtain ⟨n2, m2, hr2⟩ := exists_fr r2
              obtain ⟨r3, er3⟩ : ∃ r, wt (z2 : Rat) (z3 : Rat) t = r := ⟨_, rfl⟩
              obtain ⟨n3, m3, hr3⟩ := exists_fr r3
              obtain ⟨r4, er4⟩ : ∃ r, r3 * bas (KQ ks) p t e (i + 1) = r := ⟨_, rfl⟩
              obtain ⟨n4, m4, hr4⟩ := exists_fr r4
              obtain ⟨r5, er5⟩ : ∃ r, r2 + r4 = r := ⟨_, rfl⟩
              obtain ⟨n5, m5, hr5⟩ := exists_fr r5
              have E5 := hide (show r5 = bas (KQ ks) p t (e + 1) i from by rw [← er5, ← er2, ← er4, ← er1, ← er3, ← HX0.out, ← HX1.out, ← HX2.out, ← HX3.out]; rfl)
              have tb := hA.out.tn_bd
              have t12 := hA.out.td12
              obtain ⟨D1, D11, D12, D13⟩ := hA.out.wt_sm i (i + (e + 1))
              obtain ⟨D3, D31, D32, D33⟩ := hA.out.wt_sm (i + (e + 1) + 1) (i + 1)
              obtain ⟨dp1, dp2⟩ := hA.out.dpos e (by omega)
              obtain ⟨dq1, dq2⟩ := hA.out.dpos (e + 1) (by omega)
              have S1 := hA.out.rise e i hed
              have S2 := hA.out.fall e i hed
              have B1 := hA.out.sm e i (by omega)
              have B2 := hA.out.sm e (i + 1) (by omega)
              rw [HX0.out, HX1.out, er1] at D13 S1
              rw [HX2.out, HX3.out, er3] at D33 S2
              rw [er2] at S1; rw [er4] at S2
              have C1 := hide (fun W => part_q W (hide hA.out.fr) (by omega) (by omega) (by omega) (by omega) (hide er1) (hide hr1))
              have C2 := hide (fun W => times_q W (hide hr1) (hide hf1) (hide D13) (hide B1) (hide ⟨D11, dp1, Nat.le_trans (Nat.mul_le_mul D12 dp2) (by decide), Nat.le_trans (Nat.mul_le_mul (Nat.le_refl 144) dp2) (by decide)⟩) (hide er2) (hide hr2))
              have C3 := hide (fun W => part_q W (hide hA.out.fr) (by omega) (by omega) (by omega) (by omega) (hide er3) (hide hr3))
              have C4 := hide (fun W => times_q W (hide hr3) (hide hf2) (hide D33) (hide B2) (hide ⟨D31, dp1, Nat.le_trans (Nat.mul_le_mul D32 dp2) (by decide), Nat.le_trans (Nat.mul_le_mul (Nat.le_refl 144) dp2) (by decide)⟩) (hide er4) (hide hr4))
              have C5 := hide (fun W => plus_q W (hide hr2) (hide hr4) (hide S1) (hide S2) (hide ⟨dq1, by omega, by omega⟩) (hide er5) (hide hr5))
              have HS := hide (show ∀ W', Below wr.heap.size wr W' → (W'.cell? ⟨w.heap.size + 1, 0, none⟩ = some (.int .i64 tn) ∧ W'.cell? ⟨w.heap.size + 1, 1, none⟩ = some (.int .i64 td) ∧ W'.cell? ⟨b1, off + i, none⟩ = some (.int .i64 z0) ∧ W'.cell? ⟨b1, off + (i + (e + 1)), none⟩ = some (.int .i64 z1) ∧ W'.cell? ⟨W0.heap.size, i * 2, none⟩ = some (.int .i64 a) ∧ W'.cell? ⟨W0.heap.size, i * 2 + 1, none⟩ = some (.int .i64 b)) from fun W' hb => by
                have l1 := (unhide HP).lt
                have l2 := (Array.getElem?_eq_some_iff.1 (unhide HPa)).1
                have l3 : b1 < wr.heap.size := by have := (unhide HB).size; omega
                exact ⟨(hb.cell l2).trans y0, (hb.cell l2).trans y1, (hb.cell l3).trans k0, (hb.cell l3).trans k1, (hb.cell l1).trans u0, (hb.cell l1).trans u1⟩)
              have HS2 := hide (show ∀ W', Below wr.heap.size wr W' → (W'.cell? ⟨w.heap.size + 1, 0, none⟩ = some (.int .i64 tn) ∧ W'.cell? ⟨w.heap.size + 1, 1, none⟩ = some (.int .i64 td) ∧ W'.cell? ⟨b1, off + (i + (e + 1) + 1), none⟩ = some (.int .i64 z2) ∧ W'.cell? ⟨b1, off + (i + 1), none⟩ = some (.int .i64 z3) ∧ W'.cell? ⟨W0.heap.size, (i + 1) * 2, none⟩ = some (.int .i64 a') ∧ W'.cell? ⟨W0.heap.size, (i + 1) * 2 + 1, none⟩ = some (.int .i64 b')) from fun W' hb => by
                have l1 := (unhide HP).lt
                have l2 := (Array.getElem?_eq_some_iff.1 (unhide HPa)).1
                have l3 : b1 < wr.heap.size := by have := (unhide HB).size; omega
                exact ⟨(hb.cell l2).trans y0, (hb.cell l2).trans y1, (hb.cell l3).trans k2, (hb.cell l3).trans k3, (hb.cell l1).trans v0, (hb.cell l1).trans v1⟩)
              clear er1 hr1 er2 er3 hr3 er4 hr2 hr4 er5 D11 D12 D13 D31 D32 D33 dp1 dp2 dq1 dq2 S1 S2 B1 B2 hf1 hf2 tb t12 HX0 HX1 HX2 HX3 q0 q1 q2 q3 y0 y1 y2 k0 k1 k2 k3 u0 u1 v0 v1
              have hi0 : (i : Int) < (N : Int) + 1 := by omega
              have hi2 : (i : Int) + ((e : Int) + 1) < (N : Int) + 1 := by omega
              have hi3 : 0 ≤ (i : Int) + ((e : Int) + 1) := by omega
              have hi4 : (i : Int) + 1 < (N : Int) + 1 := by omega
              have hi5 : 0 ≤ (i : Int) + ((e : Int) + 1) + 1 := by omega
              have ht1 : ((i : Int) + ((e : Int) + 1)).toNat = i + (e + 1) := by omega
              have ht2 : ((i : Int) + ((e : Int) + 1) + 1).toNat = i + (e + 1) + 1 := by omega
              have ht3 : ((i : Int) + 1).toNat = i + 1 := by omega
              have hi6 : 0 ≤ (i : Int) + 1 := by omega
              have hi7 : (i : Int) < (N : Int) := by omega
              have hi1 : (i : Int) + ((e : Int) + 1) + 1 < (N : Int) + 1 := by omega
              have hNi : (i : Int) < ((N - e : Nat) : Int) := by omega
              have hNj : (i : Int) + 1 < ((N - e : Nat) : Int) := by omega
              have hw1 : IntKind.i64.wrap ((i : Int) + ((e : Int) + 1)) = (i : Int) + ((e : Int) + 1) := IntWalk.i64_in _ (by omega)
              have hw2 : IntKind.i64.wrap ((i : Int) + ((e : Int) + 1) + 1) = (i : Int) + ((e : Int) + 1) + 1 := IntWalk.i64_in _ (by omega)
              have hw3 : IntKind.i64.wrap ((i : Int) + 1) = (i : Int) + 1 := IntWalk.i64_in _ (by omega)
              have hltI : (i : Int) < ((N - e - 1 : Nat) : Int) := by omega
              have HW0 := hide (Below.refl wr.heap.size wr)
              obtain ⟨y0, y1, k0, k1, u0, u1⟩ := (unhide HS) _ (unhide HW0)
              go_upto_region 15 with fail
              have HWd1 := hide (show Below wr.heap.size wr wr.drew from (Below.refl wr.heap.size wr).drew)
              go_cut [10] (fun sR wc => ∃ R : Nat, sR = .pointer (some ⟨R, 0, none⟩) ∧ wr.heap.size ≤ R ∧ Hid (wc.heap[R]? = some (.cells #[.int .i64 n2, .int .i64 m2] 81 (0, 0))) ∧ Hid (Below wr.heap.size wr wc))
              case first =>
                go_region_held3 (fun W => W.cell? ⟨w.heap.size + 1, 0, none⟩ = some (.int .i64 tn) ∧ W.cell? ⟨w.heap.size + 1, 1, none⟩ = some (.int .i64 td) ∧ W.cell? ⟨b1, off + i, none⟩ = some (.int .i64 z0) ∧ W.cell? ⟨b1, off + (i + (e + 1)), none⟩ = some (.int .i64 z1) ∧ W.cell? ⟨W0.heap.size, i * 2, none⟩ = some (.int .i64 a) ∧ W.cell? ⟨W0.heap.size, i * 2 + 1, none⟩ = some (.int .i64 b)) (first | exact ⟨y0, y1, k0, k1, u0, u1⟩ | exact (unhide HS) _ ((unhide HWd1).alloc (unhide HWd1).size _) | exact (unhide HS) _ (unhide HWa) | exact (unhide HS) _ ((unhide HWa).alloc (unhide HWa).size _) | exact (unhide HS) _ (unhide HWb) | exact (unhide HS) _ ((unhide HWb).alloc (unhide HWb).size _) | exact (unhide HS) _ (below_put2 (unhide HWb) HRl _ _)) (first
                  | (go_at_call 71; refine ((unhide C1) _).mono ?_; rintro e wa ⟨rfl, ba⟩; first
                      | (have HWa := hide ((unhide HWd1).trans (ba.mono (unhide HWd1).size)); clear ba)
                      | (have HWa := hide (((unhide HWd1).alloc (unhide HWd1).size (.cells #[.int .i64 0, .int .i64 0] 81)).trans (ba.mono ((unhide HWd1).alloc (unhide HWd1).size (.cells #[.int .i64 0, .int .i64 0] 81)).size)); have HR := hide (show wa.heap[wr.heap.size]? = some (.cells #[.int .i64 0, .int .i64 0] 81 (0, 0)) from (ba.block _ (Array.getElem?_eq_some_iff.1 (heap_new_ wr.drew (.cells #[.int .i64 0, .int .i64 0] 81))).1).trans (heap_new_ wr.drew (.cells #[.int .i64 0, .int .i64 0] 81))); have HRl : wr.heap.size ≤ wr.heap.size := Nat.le_refl _; clear ba))
                  | (go_at_call 54; refine ((unhide C2) _).mono ?_; rintro e wb ⟨rfl, bb⟩; first
                      | (have HRb := hide ((bb.block _ (Array.getElem?_eq_some_iff.1 (unhide HR)).1).trans (unhide HR)); have HWb := hide ((unhide HWa).trans (bb.mono (unhide HWa).size)); have f0 := free_at (unhide HRb) 0; have f1 := free_at (unhide HRb) 1; obtain ⟨g0, g1⟩ := two_at (unhide HRb); clear bb)
                      | (have HWb := hide ((unhide HWa).trans (bb.mono (unhide HWa).size)); clear bb)
                      | (have HWb := hide (((unhide HWa).alloc (unhide HWa).size (.cells #[.int .i64 0, .int .i64 0] 81)).trans (bb.mono ((unhide HWa).alloc (unhide HWa).size (.cells #[.int .i64 0, .int .i64 0] 81)).size)); have HRb := hide ((bb.block _ (Array.getElem?_eq_some_iff.1 (heap_new_ wa (.cells #[.int .i64 0, .int .i64 0] 81))).1).trans (heap_new_ wa (.cells #[.int .i64 0, .int .i64 0] 81))); have HRl := (unhide HWa).size; have f0 := free_at (unhide HRb) 0; have f1 := free_at (unhide HRb) 1; obtain ⟨g0, g1⟩ := two_at (unhide HRb); clear bb)))
                all_goals (go_wp2_with fail; go_meet; first
                  | exact ⟨_, rfl, (unhide HWb).size, heap_new_ _ _, (unhide HWb).alloc (unhide HWb).size _⟩
                  | exact ⟨_, rfl, HRl, put2 (unhide HRb) _ _, below_put2 (unhide HWb) HRl _ _⟩)
              case rest =>
                obtain ⟨R1, rfl, R1l, HR1, HBR1⟩ := hcut
                clear y0 y1 k0 k1 u0 u1
                have HSc := hide (fun W' (hb : Below wc.heap.size wc W') => (unhide HS2) W' ((unhide HBR1).trans (hb.mono (unhide HBR1).size)))
                obtain ⟨y0, y1, k2, k3, v0, v1⟩ := (unhide HS2) _ (unhide HBR1)
                go_upto_region 16 with fail
                have HWd2 := hide (show Below wc.heap.size wc wc.drew from (Below.refl wc.heap.size wc).drew)
                go_cut [11] (fun sR wd => ∃ R : Nat, sR = .pointer (some ⟨R, 0, none⟩) ∧ wc.heap.size ≤ R ∧ Hid (wd.heap[R]? = some (.cells #[.int .i64 n4, .int .i64 m4] 81 (0, 0))) ∧ Hid (Below wc.heap.size wc wd))
                case first =>
                  go_region_held3 (fun W => W.cell? ⟨w.heap.size + 1, 0, none⟩ = some (.int .i64 tn) ∧ W.cell? ⟨w.heap.size + 1, 1, none⟩ = some (.int .i64 td) ∧ W.cell? ⟨b1, off + (i + (e + 1) + 1), none⟩ = some (.int .i64 z2) ∧ W.cell? ⟨b1, off + (i + 1), none⟩ = some (.int .i64 z3) ∧ W.cell? ⟨W0.heap.size, (i + 1) * 2, none⟩ = some (.int .i64 a') ∧ W.cell? ⟨W0.heap.size, (i + 1) * 2 + 1, none⟩ = some (.int .i64 b')) (first | exact ⟨y0, y1, k2, k3, v0, v1⟩ | exact (unhide HSc) _ ((unhide HWd2).alloc (unhide HWd2).size _) | exact (unhide HSc) _ (unhide HWa) | exact (unhide HSc) _ ((unhide HWa).alloc (unhide HWa).size _) | exact (unhide HSc) _ (unhide HWb) | exact (unhide HSc) _ ((unhide HWb).alloc (unhide HWb).size _) | exact (unhide HSc) _ (below_put2 (unhide HWb) HRl _ _)) (first
                    | (go_at_call 71; refine ((unhide C3) _).mono ?_; rintro e wa ⟨rfl, ba⟩; first
                        | (have HWa := hide ((unhide HWd2).trans (ba.mono (unhide HWd2).size)); clear ba)
                        | (have HWa := hide (((unhide HWd2).alloc (unhide HWd2).size (.cells #[.int .i64 0, .int .i64 0] 81)).trans (ba.mono ((unhide HWd2).alloc (unhide HWd2).size (.cells #[.int .i64 0, .int .i64 0] 81)).size)); have HR := hide (show wa.heap[wc.heap.size]? = some (.cells #[.int .i64 0, .int .i64 0] 81 (0, 0)) from (ba.block _ (Array.getElem?_eq_some_iff.1 (heap_new_ wc.drew (.cells #[.int .i64 0, .int .i64 0] 81))).1).trans (heap_new_ wc.drew (.cells #[.int .i64 0, .int .i64 0] 81))); have HRl : wc.heap.size ≤ wc.heap.size := Nat.le_refl _; clear ba))
                    | (go_at_call 54; refine ((unhide C4) _).mono ?_; rintro e wb ⟨rfl, bb⟩; first
                        | (have HRb := hide ((bb.block _ (Array.getElem?_eq_some_iff.1 (unhide HR)).1).trans (unhide HR)); have HWb := hide ((unhide HWa).trans (bb.mono (unhide HWa).size)); have f0 := free_at (unhide HRb) 0; have f1 := free_at (unhide HRb) 1; obtain ⟨g0, g1⟩ := two_at (unhide HRb); clear bb)
                        | (have HWb := hide ((unhide HWa).trans (bb.mono (unhide HWa).size)); clear bb)
                        | (have HWb := hide (((unhide HWa).alloc (unhide HWa).size (.cells #[.int .i64 0, .int .i64 0] 81)).trans (bb.mono ((unhide HWa).alloc (unhide HWa).size (.cells #[.int .i64 0, .int .i64 0] 81)).size)); have HRb := hide ((bb.block _ (Array.getElem?_eq_some_iff.1 (heap_new_ wa (.cells #[.int .i64 0, .int .i64 0] 81))).1).trans (heap_new_ wa (.cells #[.int .i64 0, .int .i64 0] 81))); have HRl := (unhide HWa).size; have f0 := free_at (unhide HRb) 0; have f1 := free_at (unhide HRb) 1; obtain ⟨g0, g1⟩ := two_at (unhide HRb); clear bb)))
                  all_goals (go_wp2_with fail; go_meet; first
                    | exact ⟨_, rfl, (unhide HWb).size, heap_new_ _ _, (unhide HWb).alloc (unhide HWb).size _⟩
                    | exact ⟨_, rfl, HRl, put2 (unhide HRb) _ _, below_put2 (unhide HWb) HRl _ _⟩)
                case rest =>
                  obtain ⟨R2, rfl, R2l, HR2, HBR2⟩ := hcut
                  clear y0 y1 k2 k3 v0 v1
                  have HR1d := hide (((unhide HBR2).block _ (Array.getElem?_eq_some_iff.1 (unhide HR1)).1).trans (unhide HR1))
                  have HBd := hide ((unhide HBR1).trans ((unhide HBR2).mono (unhide HBR1).size))
                  have HPd := hide ((unhide HP).below (unhide HBd) (unhide HP).lt)
                  have HBd2 := hide ((unhide HB).trans ((unhide HBd).mono (unhide HB).size))
                  obtain ⟨y0, y1⟩ := two_at (unhide HR1d)
                  obtain ⟨z0', z1'⟩ := two_at (unhide HR2)
                  go_wp2_with fail
                  refine ((unhide C5) _).mono ?_
                  rintro e5 we ⟨rfl, be⟩
                  have hpe := (unhide HPd).below be (unhide HPd).lt
                  have HBe := hide ((unhide HBd2).trans (be.mono (unhide HBd2).size))
                  clear be y0 y1 z0' z1'
                  have hiL : i < L.length := by rw [HL.out]; omega
                  obtain ⟨u0, u1⟩ := hpe.cell hiL
                  have f0 := hpe.free (i * 2); have f1 := hpe.free (i * 2 + 1)
                  have HP6 := hide (hpe.put hiL n5 m5)
                  have HB6 := hide (below_set2 (unhide HBe) (b := W0.heap.size) (Nat.le_refl _) (i * 2) (i * 2 + 1) (.int .i64 n5) (.int .i64 m5))
                  have HL6 := hide (show (L.set i (n5, m5)).length = N from by rw [List.length_set]; exact HL.out)
                  have HQ6 := hide (HQ.out.snoc (n := n5) (m := m5) hiL (by rw [← E5.out]; exact hr5))
                  have HQ7 := hide ((HQ2.out.sub (a' := i + 1) (b' := N - e) (by omega) (Nat.le_refl _)).set_out (k := i) (f := (n5, m5)) (by omega))
                  clear hpe hiL
                  go_wp2_with fail
                  go_roundw
                  case rel => exact ⟨i + 1, L.set i (n5, m5), by omega, by go_num, HL6, HQ6, HQ7, HP6, HB6⟩
                  case measure => simp [intOf]; omega
            · obtain ⟨j, hj⟩ : ∃ j, N - e - 1 = j := ⟨_, rfl⟩
              have hij : i = j := by omega
              subst hij
              have hje : (((N - e : Nat) : Int) - 1) = (i : Int) := by omega
              have hjw : IntKind.i64.wrap (((N - e : Nat) : Int) - 1) = (i : Int) := by rw [hje]; exact IntWalk.i64_in _ (by omega)
              have hjl : (i : Int) ≤ N := by omega
              have HNE := hide (show N - (e + 1) = i by omega)
              go_wp2_with fail
              go_roundw
              case rel => exact ⟨e + 1, L, by omega, by rw [HNE.out]; try rfl, by go_num, HL, by rw [HNE.out]; exact HQ, HP, HB⟩
              case measure => simp [intOf]; omega
        · obtain rfl : d = e := by omega
          have hcmp : ¬ ((d : Int) + 1 ≤ (d : Int)) := by omega
          have HNE := hide (show N - d = n' by omega)
          rw [HNE.out] at HQ
          go_wp2_with fail
          go_ret
          refine ⟨W0.heap.size, ?_, L, unhide HP, HL.out, HQ, (unhide HB0).trans ((unhide HB).mono (unhide HB0).size), (unhide HB0).size⟩
          rw [HNE.out]; rfl
end Go.Proofs.Ytdbflcfjjoocgaa
