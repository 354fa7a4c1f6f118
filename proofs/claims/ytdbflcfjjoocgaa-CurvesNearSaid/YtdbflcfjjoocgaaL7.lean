/-
  CurvesNear: the walk.
-/
import Derived.Test.YtdbflcfjjoocgaaL2
import Derived.Test.YtdbflcfjjoocgaaJ5
import Derived.Test.YtdbflcfjjoocgaaQ4
namespace Go.Proofs.Ytdbflcfjjoocgaa
open Go.RowKit

/-- The value behind a change of one pole. -/
theorem sumF_set (f : Nat → Rat) (ps : List Int) (i : Nat) (z : Int) (hi : i < ps.length) (m : Nat) : sumF (fun j => f j * PQ (ps.set i z) j) m = sumF (fun j => f j * PQ ps j) m + if i < m then f i * (((z - nth ps i : Int)) : Rat) else 0 := by
  induction m with
  | zero => simp [sumF, Rat.add_zero]
  | succ m ih =>
    rw [sumF, sumF, ih]
    by_cases e : m = i
    · subst e
      rw [if_neg (Nat.lt_irrefl m), if_pos (Nat.lt_succ_self m)]
      have e1 : PQ (ps.set m z) m = (z : Rat) := by unfold PQ nth; simp [List.getD, hi]
      rw [e1, Rat.intCast_sub]
      unfold PQ; grind
    · have e1 : PQ (ps.set i z) m = PQ ps m := by unfold PQ nth; simp [List.getD, List.getElem?_set, show ¬ i = m from fun h => e h.symm]
      rw [e1]
      by_cases h : i < m
      · rw [if_pos h, if_pos (by omega)]; grind
      · rw [if_neg h, if_neg (by omega)]; grind
theorem VQ_set (d p : Nat) (ks ps : List Int) (t : Rat) (i : Nat) (z : Int) (hi : i < ps.length) : VQ d ks (ps.set i z) p t = VQ d ks ps p t + bas (KQ ks) p t d i * (((z - nth ps i : Int)) : Rat) := by
  unfold VQ
  rw [List.length_set, sumF_set _ _ _ _ hi, if_pos hi]
theorem At.set {d p : Nat} {ks ps : List Int} {tn td : Int} {t : Rat} (h : At d ks ps tn td t p) (i : Nat) (z : Int) (hz : -50 ≤ z ∧ z ≤ 50) : At d ks (ps.set i z) tn td t p := by
  have e := (List.length_set : (ps.set i z).length = ps.length)
  refine ⟨⟨h.ok.d3, by rw [e]; exact h.ok.dn, by rw [e]; exact h.ok.n8, fun j hj => ?_, by rw [e]; exact h.ok.len, h.ok.knot, h.ok.rise, h.ok.gap, by rw [e]; exact h.ok.span⟩, h.fr, h.td12, by rw [e]; exact h.pl, h.dp, by rw [e]; exact h.top, h.bot⟩
  rw [e] at hj
  by_cases hij : i = j
  · subst hij
    have : nth (ps.set i z) i = z := by unfold nth; simp [List.getD, hj]
    rw [this]; exact hz
  · have : nth (ps.set i z) j = nth ps j := by unfold nth; simp [List.getD, List.getElem?_set, hij]
    rw [this]; exact h.ok.pole j hj

theorem u64_nn (z : Int) : 0 ≤ IntKind.u64.wrap z := by
  simp only [IntKind.wrap]; exact Int.emod_nonneg _ (by decide)
theorem Owned.base {w : World} {B B' : Nat} {v : Value} {xs : List Int} (h : Owned w B' v xs) (hB : B ≤ B') : Owned w B v xs := by
  refine ⟨h.1, ?_⟩
  rcases h.2 with h0 | ⟨g, cap, cur, hv, hg, r⟩
  · exact .inl h0
  · exact .inr ⟨g, cap, cur, hv, by omega, r⟩
/-- One number of a slice of the call's own is written. -/
theorem Owned.put1 {w : World} {B : Nat} {A1 : Option Addr} {n1 c1 : Nat} {xs : List Int} (h : Owned w B (.slice A1 n1 c1) xs) (k : Nat) (hk : k < xs.length) (z : Int) :
    ∃ g u, A1 = some ⟨g, 0, none⟩ ∧ n1 = xs.length ∧ B ≤ g ∧ g < w.heap.size ∧ w.cell? ⟨g, k, none⟩ = some u ∧ w.frozen? ⟨g, k, none⟩ = false ∧ (∀ b cs t, t ≠ 3 → w.heap[b]? = some (.cells cs t (0, 0)) → b ≠ g) ∧ Owned (w.setCell ⟨g, k, none⟩ (.int .i64 z)) B (.slice A1 n1 c1) (xs.set k z) := by
  rcases h.2 with ⟨_, h0⟩ | ⟨g, cap, cur, hv, hg, hh, hn, hc, hsz, ht⟩
  · omega
  · cases hv
    have hks : k < cur.size := by omega
    have hl : (xs.map (Value.int .i64)).length = xs.length := by simp
    refine ⟨g, cur[k], rfl, rfl, hg, (Array.getElem?_eq_some_iff.1 hh).1, by rw [cell_row_ hh, Array.getElem?_eq_getElem hks], free_at hh k, fun b cs t htt hb e => ?_, by simp, .inr ⟨g, c1, _, by simp, hg, set_at hh _, by simpa using hn, hc, by simpa using hsz, ?_⟩⟩
    · subst e; rw [hh] at hb; cases hb; exact htt rfl
    · rw [Array.toList_setIfInBounds, List.length_set, Nat.mul_one] at *
      rw [List.take_set, ht, List.map_set]

set_option maxRecDepth 100000 in
set_option maxHeartbeats 16000000 in
theorem LNear_any (dg z1 z2 tn td : Int) (A A' : Option Addr) (n c n' c' : Nat) (ks ps : List Int) (w : World) (hk : Ints w w.heap.size A n c ks) (hp : Ints w w.heap.size A' n' c' ps) :
    Calls Try.prog 13 #[.agg #[.int .i64 dg, .slice A n c, .slice A' n' c'], .int .i64 z1, .int .i64 z2, .agg #[.int .i64 tn, .int .i64 td]] w fun e w' => e = .returned (.bool true) ∧ Below w.heap.size w w' := by
  obtain ⟨W0, hW0⟩ : ∃ W0, W0 = (w.alloc (.cells #[.int .i64 dg, .slice A n c, .slice A' n' c'] 24)).alloc (.cells #[.int .i64 tn, .int .i64 td] 26) := ⟨_, rfl⟩
  have HB0 := hide (show Below w.heap.size w W0 from by rw [hW0]; exact ((Below.refl _ w).alloc (Nat.le_refl _) _).alloc (by simp) _)
  have HC0 := hide (show W0.heap[w.heap.size]? = some (.cells #[.int .i64 dg, .slice A n c, .slice A' n' c'] 24 (0, 0)) from by rw [hW0]; exact (Below.heap_alloc _ _ _ (by simp)).trans (heap_new_ w _))
  have HT0 := hide (show W0.heap[w.heap.size + 1]? = some (.cells #[.int .i64 tn, .int .i64 td] 26 (0, 0)) from by
    rw [hW0]; have := heap_new_ (w.alloc (.cells #[.int .i64 dg, .slice A n c, .slice A' n' c'] 24)) (.cells #[.int .i64 tn, .int .i64 td] 26); rwa [World.size_alloc] at this)
  have HI0 := hide ((hk.below (unhide HB0)).more (unhide HB0).size)
  have HJ0 := hide ((hp.below (unhide HB0)).more (unhide HB0).size)
  have hlen := hide hp.len
  have hmp := hp.most; have hcapp := hp.cap
  clear hk hp
  have hW1 : (w.alloc (.cells #[.int .i64 dg, .slice A n c, .slice A' n' c'] 24)).alloc (.cells #[.int .i64 tn, .int .i64 td] 26) = W0 := hW0.symm
  clear hW0
  have HS0 := hide (show ∀ W', Below W0.heap.size W0 W' → (W'.cell? ⟨w.heap.size, 0, none⟩ = some (.int .i64 dg) ∧ W'.cell? ⟨w.heap.size, 1, none⟩ = some (.slice A n c) ∧ W'.cell? ⟨w.heap.size, 2, none⟩ = some (.slice A' n' c')) ∧ (W'.cell? ⟨w.heap.size + 1, 0, none⟩ = some (.int .i64 tn) ∧ W'.cell? ⟨w.heap.size + 1, 1, none⟩ = some (.int .i64 td)) from fun W' hb =>
    ⟨three_at ((hb.block _ (Array.getElem?_eq_some_iff.1 (unhide HC0)).1).trans (unhide HC0)), two_at ((hb.block _ (Array.getElem?_eq_some_iff.1 (unhide HT0)).1).trans (unhide HT0))⟩)
  have HX0 := hide (show ∀ W', Below W0.heap.size W0 W' → Ints W' W'.heap.size A n c ks ∧ Ints W' W'.heap.size A' n' c' ps from fun W' hb => ⟨((unhide HI0).below hb).more hb.size, ((unhide HJ0).below hb).more hb.size⟩)
  rcases hV : okT dg ks ps tn td
  · have HV := hide hV
    have HVT := hide (show okT dg (ks.take 23) (ps.take 23) tn td = false from by rw [okT_take]; exact hV)
    clear hV
    go_enter Try.func13, Try.ntmps13
    go_upto_region 1 with fail
    clear hW1
    have HWd1 := hide (show Below W0.heap.size W0 W0.drew from (Below.refl W0.heap.size W0).drew)
    have HWe1 := hide ((unhide HWd1).alloc (unhide HWd1).size (.cells #[.int .i64 0, .int .i64 0] 26))
    go_cut [9, 10] (fun sx se wz => ∃ R : Nat, sx = .pointer (some ⟨R, 0, none⟩) ∧ se = .int .i64 2 ∧ W0.heap.size ≤ R ∧ Hid (wz.heap[R]? = some (.cells #[.int .i64 0, .int .i64 0] 26 (0, 0))) ∧ Hid (Below W0.heap.size W0 wz))
    case first =>
      obtain ⟨⟨x0, x1, x2⟩, ⟨t0, t1⟩⟩ := (unhide HS0) _ (unhide HWd1)
      go_region_held3 (fun W' => (W'.cell? ⟨w.heap.size, 0, none⟩ = some (.int .i64 dg) ∧ W'.cell? ⟨w.heap.size, 1, none⟩ = some (.slice A n c) ∧ W'.cell? ⟨w.heap.size, 2, none⟩ = some (.slice A' n' c')) ∧ (W'.cell? ⟨w.heap.size + 1, 0, none⟩ = some (.int .i64 tn) ∧ W'.cell? ⟨w.heap.size + 1, 1, none⟩ = some (.int .i64 td))) (first | exact ⟨⟨x0, x1, x2⟩, ⟨t0, t1⟩⟩ | exact (unhide HS0) _ (unhide HWe1) | exact (unhide HS0) _ (unhide HWa) | exact (unhide HS0) _ ((unhide HWa).alloc (unhide HWa).size _) | exact (unhide HS0) _ (unhide HWb) | exact (unhide HS0) _ ((unhide HWb).alloc (unhide HWb).size _) | exact (unhide HS0) _ (below_put2 (unhide HWb) HRl _ _)) (first
        | (go_at_call 15; refine (Of_any dg A A' n c n' c' ks ps _ ((unhide HX0) _ (unhide HWd1)).1 ((unhide HX0) _ (unhide HWd1)).2).mono ?_; rintro e wa ⟨A1, n1, c1, A2', n2', c2', rfl, i1, i2, ba⟩; have HWa := hide ((unhide HWd1).trans (ba.mono (unhide HWd1).size)); have HI1 := hide i1; have HI2 := hide i2; clear ba i1 i2)
        | (go_at_call 15; refine (Of_any dg A A' n c n' c' ks ps _ ((unhide HX0) _ (unhide HWe1)).1 ((unhide HX0) _ (unhide HWe1)).2).mono ?_; rintro e wa ⟨A1, n1, c1, A2', n2', c2', rfl, i1, i2, ba⟩; have HWa := hide ((unhide HWe1).trans (ba.mono (unhide HWe1).size)); have HI1 := hide i1; have HI2 := hide i2; have HR := hide (show wa.heap[W0.heap.size]? = some (.cells #[.int .i64 0, .int .i64 0] 26 (0, 0)) from (ba.block _ (Array.getElem?_eq_some_iff.1 (heap_new_ W0.drew (.cells #[.int .i64 0, .int .i64 0] 26))).1).trans (heap_new_ W0.drew (.cells #[.int .i64 0, .int .i64 0] 26))); have HRl : W0.heap.size ≤ W0.heap.size := Nat.le_refl _; clear ba i1 i2)
        | (go_at_call 16; refine ((fun A1 A2 n1 c1 n2 c2 W h1 h2 => Value_no dg tn td A1 A2 n1 c1 n2 c2 (ks.take 23) (ps.take 23) W h1 h2 HVT) _ _ _ _ _ _ wa (unhide HI1) (unhide HI2)).mono ?_; rintro e wb ⟨rfl, bb⟩; first
            | (have HRb := hide ((bb.block _ (Array.getElem?_eq_some_iff.1 (unhide HR)).1).trans (unhide HR)); have HWb := hide ((unhide HWa).trans (bb.mono (unhide HWa).size)); have f0 := free_at (unhide HRb) 0; have f1 := free_at (unhide HRb) 1; obtain ⟨g0, g1⟩ := two_at (unhide HRb); clear bb)
            | (have HWb := hide ((unhide HWa).trans (bb.mono (unhide HWa).size)); clear bb))
        | (go_at_call 16; refine ((fun A1 A2 n1 c1 n2 c2 W h1 h2 => Value_no dg tn td A1 A2 n1 c1 n2 c2 (ks.take 23) (ps.take 23) W h1 h2 HVT) _ _ _ _ _ _ (wa.alloc (.cells #[.int .i64 0, .int .i64 0] 26)) (((unhide HI1).below ((Below.refl _ _).alloc (Nat.le_refl _) _)).more (by simp)) (((unhide HI2).below ((Below.refl _ _).alloc (Nat.le_refl _) _)).more (by simp))).mono ?_; rintro e wb ⟨rfl, bb⟩; have HWb := hide (((unhide HWa).alloc (unhide HWa).size (.cells #[.int .i64 0, .int .i64 0] 26)).trans (bb.mono ((unhide HWa).alloc (unhide HWa).size (.cells #[.int .i64 0, .int .i64 0] 26)).size)); have HRb := hide ((bb.block _ (Array.getElem?_eq_some_iff.1 (heap_new_ wa (.cells #[.int .i64 0, .int .i64 0] 26))).1).trans (heap_new_ wa (.cells #[.int .i64 0, .int .i64 0] 26))); have HRl := (unhide HWa).size; have f0 := free_at (unhide HRb) 0; have f1 := free_at (unhide HRb) 1; obtain ⟨g0, g1⟩ := two_at (unhide HRb); clear bb))
      all_goals (go_wp2_with fail; go_meet; first
        | exact ⟨_, rfl, rfl, (unhide HWb).size, heap_new_ _ _, (unhide HWb).alloc (unhide HWb).size _⟩
        | exact ⟨_, rfl, rfl, HRl, put2 (unhide HRb) _ _, below_put2 (unhide HWb) HRl _ _⟩)
    case rest =>
      obtain ⟨R1, rfl, rfl, HRl1, HR1, hbz⟩ := hcut
      obtain ⟨wz1, ewz⟩ : ∃ x, x = wc := ⟨_, rfl⟩
      subst ewz
      have hbw := unhide hbz
      have HC1 := hide ((hbw.block _ (Array.getElem?_eq_some_iff.1 (unhide HC0)).1).trans (unhide HC0))
      have HT1 := hide ((hbw.block _ (Array.getElem?_eq_some_iff.1 (unhide HT0)).1).trans (unhide HT0))
      have HI1 := hide (((unhide HI0).below hbw).more hbw.size)
      have HJ1 := hide (((unhide HJ0).below hbw).more hbw.size)
      have HB1 := hide ((unhide HB0).trans (hbw.mono (unhide HB0).size))
      clear hbz hbw HC0 HT0 HI0 HJ0 HS0 HX0 HB0
      have HS1 := hide (show ∀ W', Below wz1.heap.size wz1 W' → (W'.cell? ⟨w.heap.size, 0, none⟩ = some (.int .i64 dg) ∧ W'.cell? ⟨w.heap.size, 1, none⟩ = some (.slice A n c) ∧ W'.cell? ⟨w.heap.size, 2, none⟩ = some (.slice A' n' c')) ∧ (W'.cell? ⟨w.heap.size + 1, 0, none⟩ = some (.int .i64 tn) ∧ W'.cell? ⟨w.heap.size + 1, 1, none⟩ = some (.int .i64 td)) from fun W' hb =>
        ⟨three_at ((hb.block _ (Array.getElem?_eq_some_iff.1 (unhide HC1)).1).trans (unhide HC1)), two_at ((hb.block _ (Array.getElem?_eq_some_iff.1 (unhide HT1)).1).trans (unhide HT1))⟩)
      have HX1 := hide (show ∀ W', Below wz1.heap.size wz1 W' → Ints W' W'.heap.size A n c ks ∧ Ints W' W'.heap.size A' n' c' ps from fun W' hb => ⟨((unhide HI1).below hb).more hb.size, ((unhide HJ1).below hb).more hb.size⟩)
      go_upto_region 2 with fail
      have HWd2 := hide (show Below wz1.heap.size wz1 wz1.drew from (Below.refl wz1.heap.size wz1).drew)
      go_cut [11, 12] (fun sx se wz => (sx = .slice none 0 0 ∧ se = .int .i64 2) ∧ Hid (Below wz1.heap.size wz1 wz))
      case first =>
        obtain ⟨⟨x0, x1, x2⟩, ⟨t0, t1⟩⟩ := (unhide HS1) _ (unhide HWd2)
        go_region_held3 (fun W' => (W'.cell? ⟨w.heap.size, 0, none⟩ = some (.int .i64 dg) ∧ W'.cell? ⟨w.heap.size, 1, none⟩ = some (.slice A n c) ∧ W'.cell? ⟨w.heap.size, 2, none⟩ = some (.slice A' n' c')) ∧ (W'.cell? ⟨w.heap.size + 1, 0, none⟩ = some (.int .i64 tn) ∧ W'.cell? ⟨w.heap.size + 1, 1, none⟩ = some (.int .i64 td))) (first | exact ⟨⟨x0, x1, x2⟩, ⟨t0, t1⟩⟩ | exact (unhide HS1) _ (unhide HWa) | exact (unhide HS1) _ (unhide HWb)) (first
          | (go_at_call 15; refine (Of_any dg A A' n c n' c' ks ps _ ((unhide HX1) _ (unhide HWd2)).1 ((unhide HX1) _ (unhide HWd2)).2).mono ?_; rintro e wa ⟨A1, n1, c1, A2', n2', c2', rfl, i1, i2, ba⟩; have HWa := hide ((unhide HWd2).trans (ba.mono (unhide HWd2).size)); have HI1 := hide i1; have HI2 := hide i2; clear ba i1 i2)
          | (go_at_call 14; refine ((fun A1 A2 n1 c1 n2 c2 W h1 h2 => Basic_no dg tn td A1 A2 n1 c1 n2 c2 (ks.take 23) (ps.take 23) W h1 h2 HVT) _ _ _ _ _ _ wa (unhide HI1) (unhide HI2)).mono ?_; rintro e wb ⟨rfl, bb⟩; have HWb := hide ((unhide HWa).trans (bb.mono (unhide HWa).size)); clear bb))
        all_goals (go_wp2_with fail; go_meet; exact ⟨⟨rfl, rfl⟩, HWb⟩)
      case rest =>
        obtain ⟨⟨rfl, rfl⟩, hbz⟩ := hcut
        have HB2 := hide ((unhide HB1).trans ((unhide hbz).mono (unhide HB1).size))
        clear hbz
        go_wp2_with fail
        refine (awake_any _).mono ?_
        rintro e w9 ⟨rfl, b9⟩
        have HB9 := hide ((unhide HB2).trans (b9.mono (unhide HB2).size))
        clear b9
        go_wp2_with fail
        go_ret
        exact ⟨rfl, unhide HB9⟩
  · obtain ⟨d, p, t, rfl, hat⟩ := okT_at hV
    have HV := hide hV
    have HA := hide hat
    have htk := hat.ok.takes.1
    have htp := hat.ok.takes.2
    obtain ⟨vn, vd, hv⟩ := exists_fr (VQ d ks ps p t)
    have HVQ := hide hv
    have HTK := hide htk; have HTP := hide htp
    have hn8 := hat.ok.n8; rw [hlen.out] at hn8
    have hn0 := hat.ok.dn; rw [hlen.out] at hn0
    clear hV hat htk htp hv
    go_enter Try.func13, Try.ntmps13
    go_upto_region 1 with fail
    clear hW1
    have HWd1 := hide (show Below W0.heap.size W0 W0.drew from (Below.refl W0.heap.size W0).drew)
    have HWe1 := hide ((unhide HWd1).alloc (unhide HWd1).size (.cells #[.int .i64 0, .int .i64 0] 26))
    go_cut [9, 10] (fun sx se wz => ∃ R : Nat, sx = .pointer (some ⟨R, 0, none⟩) ∧ se = .int .i64 0 ∧ W0.heap.size ≤ R ∧ Hid (wz.heap[R]? = some (.cells #[.int .i64 vn, .int .i64 vd] 26 (0, 0))) ∧ Hid (Below W0.heap.size W0 wz))
    case first =>
      obtain ⟨⟨x0, x1, x2⟩, ⟨t0, t1⟩⟩ := (unhide HS0) _ (unhide HWd1)
      go_region_held3 (fun W' => (W'.cell? ⟨w.heap.size, 0, none⟩ = some (.int .i64 (d : Int)) ∧ W'.cell? ⟨w.heap.size, 1, none⟩ = some (.slice A n c) ∧ W'.cell? ⟨w.heap.size, 2, none⟩ = some (.slice A' n' c')) ∧ (W'.cell? ⟨w.heap.size + 1, 0, none⟩ = some (.int .i64 tn) ∧ W'.cell? ⟨w.heap.size + 1, 1, none⟩ = some (.int .i64 td))) (first | exact ⟨⟨x0, x1, x2⟩, ⟨t0, t1⟩⟩ | exact (unhide HS0) _ (unhide HWe1) | exact (unhide HS0) _ (unhide HWa) | exact (unhide HS0) _ ((unhide HWa).alloc (unhide HWa).size _) | exact (unhide HS0) _ (unhide HWb) | exact (unhide HS0) _ ((unhide HWb).alloc (unhide HWb).size _) | exact (unhide HS0) _ (below_put2 (unhide HWb) HRl _ _)) (first
        | (go_at_call 15; refine (Of_any (d : Int) A A' n c n' c' ks ps _ ((unhide HX0) _ (unhide HWd1)).1 ((unhide HX0) _ (unhide HWd1)).2).mono ?_; rintro e wa ⟨A1, n1, c1, A2', n2', c2', rfl, i1, i2, ba⟩; rw [HTK.out] at i1; rw [HTP.out] at i2; have HWa := hide ((unhide HWd1).trans (ba.mono (unhide HWd1).size)); have HI1 := hide i1; have HI2 := hide i2; clear ba i1 i2)
        | (go_at_call 15; refine (Of_any (d : Int) A A' n c n' c' ks ps _ ((unhide HX0) _ (unhide HWe1)).1 ((unhide HX0) _ (unhide HWe1)).2).mono ?_; rintro e wa ⟨A1, n1, c1, A2', n2', c2', rfl, i1, i2, ba⟩; rw [HTK.out] at i1; rw [HTP.out] at i2; have HWa := hide ((unhide HWe1).trans (ba.mono (unhide HWe1).size)); have HI1 := hide i1; have HI2 := hide i2; have HR := hide (show wa.heap[W0.heap.size]? = some (.cells #[.int .i64 0, .int .i64 0] 26 (0, 0)) from (ba.block _ (Array.getElem?_eq_some_iff.1 (heap_new_ W0.drew (.cells #[.int .i64 0, .int .i64 0] 26))).1).trans (heap_new_ W0.drew (.cells #[.int .i64 0, .int .i64 0] 26))); have HRl : W0.heap.size ≤ W0.heap.size := Nat.le_refl _; clear ba i1 i2)
        | (go_at_call 16; refine ((fun A1 A2 n1 c1 n2 c2 W h1 h2 => Value_ok d p tn td t A1 A2 n1 c1 n2 c2 ks ps W h1 h2 HA vn vd HVQ) _ _ _ _ _ _ wa (unhide HI1) (unhide HI2)).mono ?_; rintro e wb ⟨rfl, bb⟩; first
            | (have HRb := hide ((bb.block _ (Array.getElem?_eq_some_iff.1 (unhide HR)).1).trans (unhide HR)); have HWb := hide ((unhide HWa).trans (bb.mono (unhide HWa).size)); have f0 := free_at (unhide HRb) 0; have f1 := free_at (unhide HRb) 1; obtain ⟨g0, g1⟩ := two_at (unhide HRb); clear bb)
            | (have HWb := hide ((unhide HWa).trans (bb.mono (unhide HWa).size)); clear bb))
        | (go_at_call 16; refine ((fun A1 A2 n1 c1 n2 c2 W h1 h2 => Value_ok d p tn td t A1 A2 n1 c1 n2 c2 ks ps W h1 h2 HA vn vd HVQ) _ _ _ _ _ _ (wa.alloc (.cells #[.int .i64 0, .int .i64 0] 26)) (((unhide HI1).below ((Below.refl _ _).alloc (Nat.le_refl _) _)).more (by simp)) (((unhide HI2).below ((Below.refl _ _).alloc (Nat.le_refl _) _)).more (by simp))).mono ?_; rintro e wb ⟨rfl, bb⟩; have HWb := hide (((unhide HWa).alloc (unhide HWa).size (.cells #[.int .i64 0, .int .i64 0] 26)).trans (bb.mono ((unhide HWa).alloc (unhide HWa).size (.cells #[.int .i64 0, .int .i64 0] 26)).size)); have HRb := hide ((bb.block _ (Array.getElem?_eq_some_iff.1 (heap_new_ wa (.cells #[.int .i64 0, .int .i64 0] 26))).1).trans (heap_new_ wa (.cells #[.int .i64 0, .int .i64 0] 26))); have HRl := (unhide HWa).size; have f0 := free_at (unhide HRb) 0; have f1 := free_at (unhide HRb) 1; obtain ⟨g0, g1⟩ := two_at (unhide HRb); clear bb))
      all_goals (go_wp2_with fail; go_meet; first
        | exact ⟨_, rfl, rfl, (unhide HWb).size, heap_new_ _ _, (unhide HWb).alloc (unhide HWb).size _⟩
        | exact ⟨_, rfl, rfl, HRl, put2 (unhide HRb) _ _, below_put2 (unhide HWb) HRl _ _⟩)
    case rest =>
      obtain ⟨R1, rfl, rfl, HRl1, HR1, hbz⟩ := hcut
      obtain ⟨wz1, ewz⟩ : ∃ x, x = wc := ⟨_, rfl⟩
      subst ewz
      have hbw := unhide hbz
      have HC1 := hide ((hbw.block _ (Array.getElem?_eq_some_iff.1 (unhide HC0)).1).trans (unhide HC0))
      have HT1 := hide ((hbw.block _ (Array.getElem?_eq_some_iff.1 (unhide HT0)).1).trans (unhide HT0))
      have HI1 := hide (((unhide HI0).below hbw).more hbw.size)
      have HJ1 := hide (((unhide HJ0).below hbw).more hbw.size)
      have HB1 := hide ((unhide HB0).trans (hbw.mono (unhide HB0).size))
      clear hbz hbw HC0 HT0 HI0 HJ0 HS0 HX0 HB0
      have HS1 := hide (show ∀ W', Below wz1.heap.size wz1 W' → (W'.cell? ⟨w.heap.size, 0, none⟩ = some (.int .i64 (d : Int)) ∧ W'.cell? ⟨w.heap.size, 1, none⟩ = some (.slice A n c) ∧ W'.cell? ⟨w.heap.size, 2, none⟩ = some (.slice A' n' c')) ∧ (W'.cell? ⟨w.heap.size + 1, 0, none⟩ = some (.int .i64 tn) ∧ W'.cell? ⟨w.heap.size + 1, 1, none⟩ = some (.int .i64 td)) from fun W' hb =>
        ⟨three_at ((hb.block _ (Array.getElem?_eq_some_iff.1 (unhide HC1)).1).trans (unhide HC1)), two_at ((hb.block _ (Array.getElem?_eq_some_iff.1 (unhide HT1)).1).trans (unhide HT1))⟩)
      have HX1 := hide (show ∀ W', Below wz1.heap.size wz1 W' → Ints W' W'.heap.size A n c ks ∧ Ints W' W'.heap.size A' n' c' ps from fun W' hb => ⟨((unhide HI1).below hb).more hb.size, ((unhide HJ1).below hb).more hb.size⟩)
      go_upto_region 2 with fail
      have HWd2 := hide (show Below wz1.heap.size wz1 wz1.drew from (Below.refl wz1.heap.size wz1).drew)
      go_cut [11, 12] (fun sx se wz => ∃ (g : Nat) (L : List F), sx = .slice (some ⟨g, 0, none⟩) n' n' ∧ se = .int .i64 0 ∧ Hid (PB wz g 26 L) ∧ L.length = n' ∧ Hid (HasQ L (bas (KQ ks) p t d) 0 n') ∧ Hid (Below wz1.heap.size wz1 wz))
      case first =>
        obtain ⟨⟨x0, x1, x2⟩, ⟨t0, t1⟩⟩ := (unhide HS1) _ (unhide HWd2)
        go_region_held3 (fun W' => (W'.cell? ⟨w.heap.size, 0, none⟩ = some (.int .i64 (d : Int)) ∧ W'.cell? ⟨w.heap.size, 1, none⟩ = some (.slice A n c) ∧ W'.cell? ⟨w.heap.size, 2, none⟩ = some (.slice A' n' c')) ∧ (W'.cell? ⟨w.heap.size + 1, 0, none⟩ = some (.int .i64 tn) ∧ W'.cell? ⟨w.heap.size + 1, 1, none⟩ = some (.int .i64 td))) (first | exact ⟨⟨x0, x1, x2⟩, ⟨t0, t1⟩⟩ | exact (unhide HS1) _ (unhide HWa) | exact (unhide HS1) _ (unhide HWb)) (first
          | (go_at_call 15; refine (Of_any (d : Int) A A' n c n' c' ks ps _ ((unhide HX1) _ (unhide HWd2)).1 ((unhide HX1) _ (unhide HWd2)).2).mono ?_; rintro e wa ⟨A1, n1, c1, A2', n2', c2', rfl, i1, i2, ba⟩; rw [HTK.out] at i1; rw [HTP.out] at i2; obtain rfl : n' = n2' := hlen.out.symm.trans i2.len; have HWa := hide ((unhide HWd2).trans (ba.mono (unhide HWd2).size)); have HI1 := hide i1; have HI2 := hide i2; clear ba i1 i2)
          | (go_at_call 14; refine ((fun A1 A2 n1 c1 n2 c2 W h1 h2 => Basic_ok d p tn td t A1 A2 n1 c1 n2 c2 ks ps W h1 h2 HA) _ _ _ _ _ _ wa (unhide HI1) (unhide HI2)).mono ?_; rintro e wb ⟨g, L, rfl, hpb, hL, HQ, bb⟩; have HWb := hide ((unhide HWa).trans (bb.mono (unhide HWa).size)); clear bb))
        all_goals (go_wp2_with fail; go_meet; exact ⟨g, L, rfl, rfl, hpb, hL, HQ, HWb⟩)
      case rest =>
        obtain ⟨g, L, rfl, rfl, HPB, hL, HQ, hbz⟩ := hcut
        obtain ⟨wz4, ewz⟩ : ∃ x, x = wc := ⟨_, rfl⟩
        subst ewz
        have hbw := unhide hbz
        have HR4 := hide ((hbw.block _ (Array.getElem?_eq_some_iff.1 (unhide HR1)).1).trans (unhide HR1))
        have HC4 := hide ((hbw.block _ (Array.getElem?_eq_some_iff.1 (unhide HC1)).1).trans (unhide HC1))
        have HT4 := hide ((hbw.block _ (Array.getElem?_eq_some_iff.1 (unhide HT1)).1).trans (unhide HT1))
        have HI4 := hide (((unhide HI1).below hbw).more hbw.size)
        have HJ4 := hide (((unhide HJ1).below hbw).more hbw.size)
        have HB4 := hide ((unhide HB1).trans (hbw.mono (unhide HB1).size))
        clear hbz hbw HC1 HT1 HI1 HJ1 HS1 HX1 HB1 HR1
        have HL := hide hL; clear hL
        have HS4 := hide (show ∀ W', Below wz4.heap.size wz4 W' → (W'.cell? ⟨w.heap.size, 0, none⟩ = some (.int .i64 (d : Int)) ∧ W'.cell? ⟨w.heap.size, 1, none⟩ = some (.slice A n c) ∧ W'.cell? ⟨w.heap.size, 2, none⟩ = some (.slice A' n' c')) ∧ (W'.cell? ⟨w.heap.size + 1, 0, none⟩ = some (.int .i64 tn) ∧ W'.cell? ⟨w.heap.size + 1, 1, none⟩ = some (.int .i64 td)) from fun W' hb =>
          ⟨three_at ((hb.block _ (Array.getElem?_eq_some_iff.1 (unhide HC4)).1).trans (unhide HC4)), two_at ((hb.block _ (Array.getElem?_eq_some_iff.1 (unhide HT4)).1).trans (unhide HT4))⟩)
        have HX4 := hide (show ∀ W', Below wz4.heap.size wz4 W' → Ints W' W'.heap.size A n c ks ∧ Ints W' W'.heap.size A' n' c' ps from fun W' hb => ⟨((unhide HI4).below hb).more hb.size, ((unhide HJ4).below hb).more hb.size⟩)
        obtain ⟨⟨x0, x1, x2⟩, ⟨t0, t1⟩⟩ := (unhide HS4) _ (Below.refl _ _)
        go_wp2_with fail
        refine (fine_any (d : Int) tn td _ _ _ _ _ _ ks ps _ ((unhide HX4) _ (Below.refl _ _)).1 ((unhide HX4) _ (Below.refl _ _)).2 true HV).mono ?_
        rintro e w5 ⟨rfl, b5⟩
        have HR5 := hide ((b5.block _ (Array.getElem?_eq_some_iff.1 (unhide HR4)).1).trans (unhide HR4))
        have HP5 := hide ((unhide HPB).below b5 (unhide HPB).lt)
        have HC5 := hide ((b5.block _ (Array.getElem?_eq_some_iff.1 (unhide HC4)).1).trans (unhide HC4))
        have HT5 := hide ((b5.block _ (Array.getElem?_eq_some_iff.1 (unhide HT4)).1).trans (unhide HT4))
        have HI5 := hide (((unhide HI4).below b5).more b5.size)
        have HJ5 := hide (((unhide HJ4).below b5).more b5.size)
        have HB5 := hide ((unhide HB4).trans (b5.mono (unhide HB4).size))
        clear b5 x0 x1 x2 t0 t1 HC4 HT4 HI4 HJ4 HS4 HX4 HB4 HR4 HPB
        have HS5 := hide (show ∀ W', Below w5.heap.size w5 W' → (W'.cell? ⟨w.heap.size, 0, none⟩ = some (.int .i64 (d : Int)) ∧ W'.cell? ⟨w.heap.size, 1, none⟩ = some (.slice A n c) ∧ W'.cell? ⟨w.heap.size, 2, none⟩ = some (.slice A' n' c')) ∧ (W'.cell? ⟨w.heap.size + 1, 0, none⟩ = some (.int .i64 tn) ∧ W'.cell? ⟨w.heap.size + 1, 1, none⟩ = some (.int .i64 td)) from fun W' hb =>
          ⟨three_at ((hb.block _ (Array.getElem?_eq_some_iff.1 (unhide HC5)).1).trans (unhide HC5)), two_at ((hb.block _ (Array.getElem?_eq_some_iff.1 (unhide HT5)).1).trans (unhide HT5))⟩)
        have HX5 := hide (show ∀ W', Below w5.heap.size w5 W' → Ints W' W'.heap.size A n c ks ∧ Ints W' W'.heap.size A' n' c' ps from fun W' hb => ⟨((unhide HI5).below hb).more hb.size, ((unhide HJ5).below hb).more hb.size⟩)
        obtain ⟨⟨x0, x1, x2⟩, ⟨t0, t1⟩⟩ := (unhide HS5) _ (Below.refl _ _)
        have hnz : ((n' : Nat) : Int) ≠ 0 := by omega
        -- the place and the pole
        obtain ⟨ix, hix, hix2⟩ : ∃ ix : Nat, ix < n' ∧ (IntKind.u64.wrap z1).tmod ((n' : Nat) : Int) = (ix : Int) := by
          have h1 : 0 ≤ IntKind.u64.wrap z1 := u64_nn z1
          exact ⟨((IntKind.u64.wrap z1).tmod ((n' : Nat) : Int)).toNat, by have := Int.tmod_lt_of_pos (IntKind.u64.wrap z1) (show (0 : Int) < ((n' : Nat) : Int) by omega); have := Int.tmod_nonneg ((n' : Nat) : Int) h1; omega, by have := Int.tmod_nonneg ((n' : Nat) : Int) h1; omega⟩
        obtain ⟨zz, hzz, hzb⟩ : ∃ zz : Int, wrap64 (wrap64 ((IntKind.u64.wrap z2).tmod 101) - 50) = zz ∧ (-50 ≤ zz ∧ zz ≤ 50) := by
          have h1 := Int.tmod_lt_of_pos (IntKind.u64.wrap z2) (show (0 : Int) < 101 by omega)
          have h2 := Int.tmod_nonneg 101 (u64_nn z2)
          refine ⟨_, rfl, ?_⟩
          generalize (IntKind.u64.wrap z2).tmod 101 = q at *
          unfold wrap64; omega
        go_upto_region 9 with fail
        rw [hzz]
        clear hix2 hzz hnz x0 x1 x2 t0 t1
        have HZB := hide hzb; clear hzb
        have hixl : ix < ps.length := by rw [hlen.out]; exact hix
        have HWd9 := hide (show Below w5.heap.size w5 w5.drew from (Below.refl w5.heap.size w5).drew)
        have HWe9 := hide ((unhide HWd9).alloc (unhide HWd9).size (.cells #[.int .i64 0, .slice none 0 0, .slice none 0 0] 24))
        go_cut [13] (fun sx wz => ∃ (R : Nat) (A1 : Option Addr) (n1 c1 : Nat), sx = .pointer (some ⟨R, 0, none⟩) ∧ Hid (wz.heap[R]? = some (.cells #[.int .i64 (d : Int), .slice A n c, .slice A1 n1 c1] 24 (0, 0))) ∧ Hid (Owned wz w5.heap.size (.slice A1 n1 c1) ps) ∧ Hid (Below w5.heap.size w5 wz))
        case first =>
          obtain ⟨⟨x0, x1, x2⟩, ⟨t0, t1⟩⟩ := (unhide HS5) _ (unhide HWd9)
          go_region_held3 (fun W' => (W'.cell? ⟨w.heap.size, 0, none⟩ = some (.int .i64 (d : Int)) ∧ W'.cell? ⟨w.heap.size, 1, none⟩ = some (.slice A n c) ∧ W'.cell? ⟨w.heap.size, 2, none⟩ = some (.slice A' n' c')) ∧ (W'.cell? ⟨w.heap.size + 1, 0, none⟩ = some (.int .i64 tn) ∧ W'.cell? ⟨w.heap.size + 1, 1, none⟩ = some (.int .i64 td))) (first | exact ⟨⟨x0, x1, x2⟩, ⟨t0, t1⟩⟩ | exact (unhide HS5) _ (unhide HWe9) | exact (unhide HS5) _ (unhide HWa) | exact (unhide HS5) _ ((unhide HWa).alloc (unhide HWa).size _) | exact (unhide HS5) _ (below_put3 (unhide HWa) (Nat.le_refl _) _ _ _)) (first
            | (go_at_call 32; refine (list_any A' n' c' ps _ ((unhide HX5) _ (unhide HWd9)).2).mono ?_; rintro e wa ⟨A1, n1, c1, rfl, i1, ba⟩; rw [HTP.out] at i1; have HWa := hide ((unhide HWd9).trans (ba.mono (unhide HWd9).size)); have HO := hide i1; clear ba i1)
            | (go_at_call 32; refine (list_any A' n' c' ps _ ((unhide HX5) _ (unhide HWe9)).2).mono ?_; rintro e wa ⟨A1, n1, c1, rfl, i1, ba⟩; rw [HTP.out] at i1; have HWa := hide ((unhide HWe9).trans (ba.mono (unhide HWe9).size)); have HO := hide i1; have HRa := hide (show wa.heap[w5.heap.size]? = some (.cells #[.int .i64 0, .slice none 0 0, .slice none 0 0] 24 (0, 0)) from (ba.block _ (Array.getElem?_eq_some_iff.1 (heap_new_ w5.drew (.cells #[.int .i64 0, .slice none 0 0, .slice none 0 0] 24))).1).trans (heap_new_ w5.drew (.cells #[.int .i64 0, .slice none 0 0, .slice none 0 0] 24))); obtain ⟨g0, g1, g2⟩ := three_at (unhide HRa); have f0 := free_at (unhide HRa) 0; have f1 := free_at (unhide HRa) 1; have f2 := free_at (unhide HRa) 2; clear ba i1))
          all_goals (
            have hb0 : w5.heap.size < (w5.drew.alloc (.cells #[.int .i64 0, .slice none 0 0, .slice none 0 0] 24)).heap.size := by rw [World.size_alloc]; exact Nat.lt_succ_self _
            go_wp2_with fail
            go_meet
            first
              | exact ⟨_, A1, n1, c1, rfl, heap_new_ _ _, (unhide HO).below ((Below.refl wa.heap.size wa).alloc (Nat.le_refl _) _) (Nat.le_refl _), (unhide HWa).alloc (unhide HWa).size _⟩
              | exact ⟨_, A1, n1, c1, rfl, put3 (unhide HRa) _ _ _, ((((unhide HO).far (p := ⟨w5.heap.size, 0, none⟩) hb0 _).far (p := ⟨w5.heap.size, 1, none⟩) hb0 _).far (p := ⟨w5.heap.size, 2, none⟩) hb0 _).base (Nat.le_of_lt hb0), below_put3 (unhide HWa) (Nat.le_refl _) _ _ _⟩)
        case rest =>
          obtain ⟨R9, A1, n1, c1, rfl, HR9, HO9, hbz⟩ := hcut
          obtain ⟨wz9, ewz⟩ : ∃ x, x = wc := ⟨_, rfl⟩
          subst ewz
          obtain ⟨bp, u, rfl, rfl, hge, hlt9, hu, hfr, hnt, hset⟩ := (unhide HO9).put1 ix hixl zz
          obtain ⟨y0, y1, y2⟩ := three_at (unhide HR9)
          have hix0 : (0 : Int) ≤ (ix : Int) := by omega
          have hix8 : (ix : Int) < ((ps.length : Nat) : Int) := by omega
          obtain ⟨W10, hW10⟩ : ∃ x, x = wz9.setCell ⟨bp, ix, none⟩ (.int .i64 zz) := ⟨_, rfl⟩
          have hb10 : Below w5.heap.size w5 W10 := by rw [hW10]; exact (unhide hbz).setCell (p := ⟨bp, ix, none⟩) hge _
          have HR10 := hide (show W10.heap[R9]? = some (.cells #[.int .i64 (d : Int), .slice A n c, .slice (some ⟨bp, 0, none⟩) ps.length c1] 24 (0, 0)) from by rw [hW10]; exact (heap_setCell_other _ ⟨bp, ix, none⟩ R9 _ (hnt R9 _ 24 (by decide) (unhide HR9))).trans (unhide HR9))
          rw [← hW10] at hset
          obtain ⟨_, _, _, e2, k2⟩ := hset.to
          cases e2
          have HJD := hide k2; clear k2 hset HO9 hnt
          obtain ⟨bo, off, hAo, hbo, e1⟩ := (unhide HJ5).at_ ix hix
          subst hAo
          obtain ⟨zo, ezo⟩ : ∃ z, nth ps ix = z := ⟨_, rfl⟩
          rw [ezo] at e1
          have HE1 := hide (show ∀ W', Below w5.heap.size w5 W' → W'.cell? ⟨bo, off + ix, none⟩ = some (.int .i64 zo) from fun W' hb => (hb.cell hbo).trans e1)
          have HZO := hide (show -50 ≤ zo ∧ zo ≤ 50 from by have := HA.out.ok.pole ix hixl; rw [ezo] at this; exact this)
          have HEZ := hide ezo
          have hW10' : wz9.setCell ⟨bp, ix, none⟩ (.int .i64 zz) = W10 := hW10.symm
          clear hW10 e1 ezo
          go_upto_region 11 with fail
          clear hW10' y0 y1 y2 hu hfr hbz HR9
          have HRx10 := hide ((hb10.block _ (Array.getElem?_eq_some_iff.1 (unhide HR5)).1).trans (unhide HR5))
          have HP10 := hide ((unhide HP5).below hb10 (unhide HP5).lt)
          have HE10 := hide ((unhide HE1) _ hb10)
          have hbo10 : bo < W10.heap.size := by have := hb10.size; omega
          clear HE1
          have HC10 := hide ((hb10.block _ (Array.getElem?_eq_some_iff.1 (unhide HC5)).1).trans (unhide HC5))
          have HT10 := hide ((hb10.block _ (Array.getElem?_eq_some_iff.1 (unhide HT5)).1).trans (unhide HT5))
          have HI10 := hide (((unhide HI5).below hb10).more hb10.size)
          have HJ10 := hide (((unhide HJ5).below hb10).more hb10.size)
          have HB10 := hide ((unhide HB5).trans (hb10.mono (unhide HB5).size))
          have HCD := HR10
          have HTD := HT10
          have HID := HI10
          clear hb10 HC5 HT5 HI5 HJ5 HS5 HX5 HB5 HP5 HR5
          obtain ⟨yn, yd, hy⟩ := exists_fr (VQ d ks (ps.set ix zz) p t)
          have HVQ2 := hide hy; clear hy
          have HA2 := hide (HA.out.set ix zz HZB.out)
          have HTP2 := hide (show (ps.set ix zz).take 23 = ps.set ix zz from HA2.out.ok.takes.2)
          have HSD := hide (show ∀ W', Below W10.heap.size W10 W' → (W'.cell? ⟨R9, 0, none⟩ = some (.int .i64 (d : Int)) ∧ W'.cell? ⟨R9, 1, none⟩ = some (.slice A n c) ∧ W'.cell? ⟨R9, 2, none⟩ = some (.slice (some ⟨bp, 0, none⟩) ps.length c1)) ∧ (W'.cell? ⟨w.heap.size + 1, 0, none⟩ = some (.int .i64 tn) ∧ W'.cell? ⟨w.heap.size + 1, 1, none⟩ = some (.int .i64 td)) from fun W' hb =>
            ⟨three_at ((hb.block _ (Array.getElem?_eq_some_iff.1 (unhide HCD)).1).trans (unhide HCD)), two_at ((hb.block _ (Array.getElem?_eq_some_iff.1 (unhide HTD)).1).trans (unhide HTD))⟩)
          have HXD := hide (show ∀ W', Below W10.heap.size W10 W' → Ints W' W'.heap.size A n c ks ∧ Ints W' W'.heap.size (some ⟨bp, 0, none⟩) ps.length c1 (ps.set ix zz) from fun W' hb => ⟨((unhide HID).below hb).more hb.size, ((unhide HJD).below hb).more hb.size⟩)
          have HWd11 := hide (show Below W10.heap.size W10 W10.drew from (Below.refl W10.heap.size W10).drew)
          have HWe11 := hide ((unhide HWd11).alloc (unhide HWd11).size (.cells #[.int .i64 0, .int .i64 0] 26))
          go_cut [14, 10] (fun sx se wz => ∃ R : Nat, sx = .pointer (some ⟨R, 0, none⟩) ∧ se = .int .i64 0 ∧ W10.heap.size ≤ R ∧ Hid (wz.heap[R]? = some (.cells #[.int .i64 yn, .int .i64 yd] 26 (0, 0))) ∧ Hid (Below W10.heap.size W10 wz))
          case first =>
            obtain ⟨⟨x0, x1, x2⟩, ⟨t0, t1⟩⟩ := (unhide HSD) _ (unhide HWd11)
            go_region_held3 (fun W' => (W'.cell? ⟨R9, 0, none⟩ = some (.int .i64 (d : Int)) ∧ W'.cell? ⟨R9, 1, none⟩ = some (.slice A n c) ∧ W'.cell? ⟨R9, 2, none⟩ = some (.slice (some ⟨bp, 0, none⟩) ps.length c1)) ∧ (W'.cell? ⟨w.heap.size + 1, 0, none⟩ = some (.int .i64 tn) ∧ W'.cell? ⟨w.heap.size + 1, 1, none⟩ = some (.int .i64 td))) (first | exact ⟨⟨x0, x1, x2⟩, ⟨t0, t1⟩⟩ | exact (unhide HSD) _ (unhide HWe11) | exact (unhide HSD) _ (unhide HWa) | exact (unhide HSD) _ ((unhide HWa).alloc (unhide HWa).size _) | exact (unhide HSD) _ (unhide HWb) | exact (unhide HSD) _ ((unhide HWb).alloc (unhide HWb).size _) | exact (unhide HSD) _ (below_put2 (unhide HWb) HRl _ _)) (first
              | (go_at_call 15; refine (Of_any (d : Int) A (some ⟨bp, 0, none⟩) n c ps.length c1 ks (ps.set ix zz) _ ((unhide HXD) _ (unhide HWd11)).1 ((unhide HXD) _ (unhide HWd11)).2).mono ?_; rintro e wa ⟨A1, n1, c1, A2', n2', c2', rfl, i1, i2, ba⟩; rw [HTK.out] at i1; rw [HTP2.out] at i2; have HWa := hide ((unhide HWd11).trans (ba.mono (unhide HWd11).size)); have HI1 := hide i1; have HI2 := hide i2; clear ba i1 i2)
              | (go_at_call 15; refine (Of_any (d : Int) A (some ⟨bp, 0, none⟩) n c ps.length c1 ks (ps.set ix zz) _ ((unhide HXD) _ (unhide HWe11)).1 ((unhide HXD) _ (unhide HWe11)).2).mono ?_; rintro e wa ⟨A1, n1, c1, A2', n2', c2', rfl, i1, i2, ba⟩; rw [HTK.out] at i1; rw [HTP2.out] at i2; have HWa := hide ((unhide HWe11).trans (ba.mono (unhide HWe11).size)); have HI1 := hide i1; have HI2 := hide i2; have HR := hide (show wa.heap[W10.heap.size]? = some (.cells #[.int .i64 0, .int .i64 0] 26 (0, 0)) from (ba.block _ (Array.getElem?_eq_some_iff.1 (heap_new_ W10.drew (.cells #[.int .i64 0, .int .i64 0] 26))).1).trans (heap_new_ W10.drew (.cells #[.int .i64 0, .int .i64 0] 26))); have HRl : W10.heap.size ≤ W10.heap.size := Nat.le_refl _; clear ba i1 i2)
              | (go_at_call 16; refine ((fun A1 A2 n1 c1 n2 c2 W h1 h2 => Value_ok d p tn td t A1 A2 n1 c1 n2 c2 ks (ps.set ix zz) W h1 h2 HA2 yn yd HVQ2) _ _ _ _ _ _ wa (unhide HI1) (unhide HI2)).mono ?_; rintro e wb ⟨rfl, bb⟩; first
                  | (have HRb := hide ((bb.block _ (Array.getElem?_eq_some_iff.1 (unhide HR)).1).trans (unhide HR)); have HWb := hide ((unhide HWa).trans (bb.mono (unhide HWa).size)); have f0 := free_at (unhide HRb) 0; have f1 := free_at (unhide HRb) 1; obtain ⟨g0, g1⟩ := two_at (unhide HRb); clear bb)
                  | (have HWb := hide ((unhide HWa).trans (bb.mono (unhide HWa).size)); clear bb))
              | (go_at_call 16; refine ((fun A1 A2 n1 c1 n2 c2 W h1 h2 => Value_ok d p tn td t A1 A2 n1 c1 n2 c2 ks (ps.set ix zz) W h1 h2 HA2 yn yd HVQ2) _ _ _ _ _ _ (wa.alloc (.cells #[.int .i64 0, .int .i64 0] 26)) (((unhide HI1).below ((Below.refl _ _).alloc (Nat.le_refl _) _)).more (by simp)) (((unhide HI2).below ((Below.refl _ _).alloc (Nat.le_refl _) _)).more (by simp))).mono ?_; rintro e wb ⟨rfl, bb⟩; have HWb := hide (((unhide HWa).alloc (unhide HWa).size (.cells #[.int .i64 0, .int .i64 0] 26)).trans (bb.mono ((unhide HWa).alloc (unhide HWa).size (.cells #[.int .i64 0, .int .i64 0] 26)).size)); have HRb := hide ((bb.block _ (Array.getElem?_eq_some_iff.1 (heap_new_ wa (.cells #[.int .i64 0, .int .i64 0] 26))).1).trans (heap_new_ wa (.cells #[.int .i64 0, .int .i64 0] 26))); have HRl := (unhide HWa).size; have f0 := free_at (unhide HRb) 0; have f1 := free_at (unhide HRb) 1; obtain ⟨g0, g1⟩ := two_at (unhide HRb); clear bb))
            all_goals (go_wp2_with fail; go_meet; first
              | exact ⟨_, rfl, rfl, (unhide HWb).size, heap_new_ _ _, (unhide HWb).alloc (unhide HWb).size _⟩
              | exact ⟨_, rfl, rfl, HRl, put2 (unhide HRb) _ _, below_put2 (unhide HWb) HRl _ _⟩)
          case rest =>
            obtain ⟨R11, rfl, rfl, HRl11, HR11, hbz⟩ := hcut
            obtain ⟨wz11, ewz⟩ : ∃ x, x = wc := ⟨_, rfl⟩
            subst ewz
            have hbw := unhide hbz
            have HB12 := hide ((unhide HB10).trans (hbw.mono (unhide HB10).size))
            have HRx12 := hide ((hbw.block _ (Array.getElem?_eq_some_iff.1 (unhide HRx10)).1).trans (unhide HRx10))
            have HC12 := hide ((hbw.block _ (Array.getElem?_eq_some_iff.1 (unhide HC10)).1).trans (unhide HC10))
            have HP12 := hide ((unhide HP10).below hbw (unhide HP10).lt)
            have HE12 := hide ((hbw.cell hbo10).trans (unhide HE10))
            have hbo12 : bo < wz11.heap.size := by have := hbw.size; omega
            have hf1 := HQ.out ix (Nat.zero_le _) hix
            have hcell := fun (W : World) (hp : PB W g 26 L) => hp.cell (k := ix) (by rw [HL.out]; omega)
            obtain ⟨⟨a, b⟩, ea⟩ : ∃ f, fth L ix = f := ⟨_, rfl⟩
            rw [ea] at hf1 hcell
            simp only at hf1 hcell
            clear ea hbz hbw
            have HS12 := hide (show ∀ W', Below wz11.heap.size wz11 W' → (W'.cell? ⟨R1, 0, none⟩ = some (.int .i64 vn) ∧ W'.cell? ⟨R1, 1, none⟩ = some (.int .i64 vd)) ∧ (W'.cell? ⟨g, ix * 2, none⟩ = some (.int .i64 a) ∧ W'.cell? ⟨g, ix * 2 + 1, none⟩ = some (.int .i64 b)) ∧ W'.cell? ⟨w.heap.size, 2, none⟩ = some (.slice (some ⟨bo, off, none⟩) n' c') ∧ W'.cell? ⟨bo, off + ix, none⟩ = some (.int .i64 zo) from fun W' hb =>
              ⟨two_at ((hb.block _ (Array.getElem?_eq_some_iff.1 (unhide HRx12)).1).trans (unhide HRx12)), hcell W' ((unhide HP12).below hb (unhide HP12).lt), (three_at ((hb.block _ (Array.getElem?_eq_some_iff.1 (unhide HC12)).1).trans (unhide HC12))).2.2, (hb.cell hbo12).trans (unhide HE12)⟩)
            have hzb := HZB.out; have hzob := HZO.out
            have hwr : IntKind.i64.wrap (zz - zo) = zz - zo := IntWalk.i64_in _ (by omega)
            have hwr2 : wrap64 (zz - zo) = zz - zo := by unfold wrap64; omega
            have hzf : Fr (((zz - zo : Int)) : Rat) (zz - zo) 1 := ⟨Rat.num_intCast _, by rw [Rat.den_intCast]; rfl⟩
            obtain ⟨dp1, dp2⟩ := HA.out.dpos d (Nat.le_refl _)
            have B1 := HA.out.sm d ix (Nat.le_refl _)
            have B2 : Sm 1 100 (((zz - zo : Int)) : Rat) := (Sm.int (zz - zo)).mono (by omega)
            have B3 := (B1.mul B2).mono (show _ ≤ 2000000000000000000 from Nat.le_trans (Nat.mul_le_mul dp2 (Nat.le_refl 100)) (by decide))
            rw [Nat.mul_one] at B3
            have B4 : Sm _ _ (VQ d ks ps p t) := (part_sm HA.out ps.length (Nat.le_refl _)).mono (show _ ≤ 2000000000000000000 from Nat.le_trans (Nat.mul_le_mul (Nat.mul_le_mul dp2 (Nat.le_refl 50)) (show ps.length ≤ 8 from HA.out.ok.n8)) (by decide))
            have C1 := hide (fun W => LWhole_any (zz - zo) W)
            have C2 := hide (fun W => more_q W HVQ (hide hf1) (hide hzf) (hide B4) (hide B3) (hide B1) (hide B2) (hide ⟨dp1, by omega, by omega, dp1, Nat.one_pos, by omega, by omega, by omega, by omega, by omega, Nat.le_trans (Nat.mul_le_mul dp2 (Nat.le_refl 100)) (by decide)⟩) (hide (show VQ d ks ps p t + bas (KQ ks) p t d ix * (((zz - zo : Int)) : Rat) = VQ d ks (ps.set ix zz) p t from by rw [VQ_set _ _ _ _ _ _ _ hixl, HEZ.out])) HVQ2)
            clear hzf dp1 dp2 B1 B2 B3 B4 hf1 hcell hzb hzob
            have hixn : (ix : Int) < ((n' : Nat) : Int) := by omega
            go_upto_region 12 with fail
            have HWd12 := hide (show Below wz11.heap.size wz11 wz11.drew from (Below.refl wz11.heap.size wz11).drew)
            have HWe12 := hide ((unhide HWd12).alloc (unhide HWd12).size (.cells #[.int .i64 0, .int .i64 0] 26))
            go_cut [15, 16] (fun sx se wz => ∃ R : Nat, sx = .pointer (some ⟨R, 0, none⟩) ∧ se = .bool true ∧ Hid (wz.heap[R]? = some (.cells #[.int .i64 yn, .int .i64 yd] 26 (0, 0))) ∧ Hid (Below wz11.heap.size wz11 wz))
            case first =>
              have hS0 := (unhide HS12) _ (unhide HWd12)
              obtain ⟨⟨s0, s1⟩, ⟨s2, s3⟩, s4, s5⟩ := hS0
              go_region_held3 (fun W' => (W'.cell? ⟨R1, 0, none⟩ = some (.int .i64 vn) ∧ W'.cell? ⟨R1, 1, none⟩ = some (.int .i64 vd)) ∧ (W'.cell? ⟨g, ix * 2, none⟩ = some (.int .i64 a) ∧ W'.cell? ⟨g, ix * 2 + 1, none⟩ = some (.int .i64 b)) ∧ W'.cell? ⟨w.heap.size, 2, none⟩ = some (.slice (some ⟨bo, off, none⟩) n' c') ∧ W'.cell? ⟨bo, off + ix, none⟩ = some (.int .i64 zo)) (first | exact ⟨⟨s0, s1⟩, ⟨s2, s3⟩, s4, s5⟩ | exact (unhide HS12) _ (unhide HWe12) | exact (unhide HS12) _ (unhide HWa) | exact (unhide HS12) _ ((unhide HWa).alloc (unhide HWa).size _) | exact (unhide HS12) _ (unhide HWb) | exact (unhide HS12) _ ((unhide HWb).alloc (unhide HWb).size _) | exact (unhide HS12) _ (below_put2 (unhide HWb) HRl _ _)) (first
                | (go_at_call 42; refine ((unhide C1) wz11.drew).mono ?_; rintro e wa ⟨rfl, ba⟩; have HWa := hide ((unhide HWd12).trans (ba.mono (unhide HWd12).size)); clear ba)
                | (go_at_call 42; refine ((unhide C1) (wz11.drew.alloc (.cells #[.int .i64 0, .int .i64 0] 26))).mono ?_; rintro e wa ⟨rfl, ba⟩; have HWa := hide ((unhide HWe12).trans (ba.mono (unhide HWe12).size)); have HR := hide (show wa.heap[wz11.heap.size]? = some (.cells #[.int .i64 0, .int .i64 0] 26 (0, 0)) from (ba.block _ (Array.getElem?_eq_some_iff.1 (heap_new_ wz11.drew (.cells #[.int .i64 0, .int .i64 0] 26))).1).trans (heap_new_ wz11.drew (.cells #[.int .i64 0, .int .i64 0] 26))); have HRl : wz11.heap.size ≤ wz11.heap.size := Nat.le_refl _; clear ba)
                | (go_at_call 41; refine ((unhide C2) wa).mono ?_; rintro e wb ⟨rfl, bb⟩; first
                    | (have HRb := hide ((bb.block _ (Array.getElem?_eq_some_iff.1 (unhide HR)).1).trans (unhide HR)); have HWb := hide ((unhide HWa).trans (bb.mono (unhide HWa).size)); have f0 := free_at (unhide HRb) 0; have f1 := free_at (unhide HRb) 1; obtain ⟨g0, g1⟩ := two_at (unhide HRb); clear bb)
                    | (have HWb := hide ((unhide HWa).trans (bb.mono (unhide HWa).size)); clear bb))
                | (go_at_call 41; refine ((unhide C2) (wa.alloc (.cells #[.int .i64 0, .int .i64 0] 26))).mono ?_; rintro e wb ⟨rfl, bb⟩; have HWb := hide (((unhide HWa).alloc (unhide HWa).size (.cells #[.int .i64 0, .int .i64 0] 26)).trans (bb.mono ((unhide HWa).alloc (unhide HWa).size (.cells #[.int .i64 0, .int .i64 0] 26)).size)); have HRb := hide ((bb.block _ (Array.getElem?_eq_some_iff.1 (heap_new_ wa (.cells #[.int .i64 0, .int .i64 0] 26))).1).trans (heap_new_ wa (.cells #[.int .i64 0, .int .i64 0] 26))); have HRl := (unhide HWa).size; have f0 := free_at (unhide HRb) 0; have f1 := free_at (unhide HRb) 1; obtain ⟨g0, g1⟩ := two_at (unhide HRb); clear bb))
              all_goals (go_wp2_with fail; go_meet; first
                | exact ⟨_, rfl, rfl, heap_new_ _ _, (unhide HWb).alloc (unhide HWb).size _⟩
                | exact ⟨_, rfl, rfl, put2 (unhide HRb) _ _, below_put2 (unhide HWb) HRl _ _⟩)
            case rest =>
              obtain ⟨R12, rfl, rfl, HR12, hbz⟩ := hcut
              have HR11b := hide (((unhide hbz).block _ (Array.getElem?_eq_some_iff.1 (unhide HR11)).1).trans (unhide HR11))
              have HB13 := hide ((unhide HB12).trans ((unhide hbz).mono (unhide HB12).size))
              clear hbz hwr hwr2
              obtain ⟨q0, q1⟩ := two_at (unhide HR12)
              obtain ⟨q2, q3⟩ := two_at (unhide HR11b)
              have heq := eql26 yn yd yn yd
              rw [decide_eq_true rfl] at heq
              go_wp2_with fail
              refine (awake_any _).mono ?_
              rintro e w9 ⟨rfl, b9⟩
              have HB9 := hide ((unhide HB13).trans (b9.mono (unhide HB13).size))
              clear b9
              go_wp2_with fail
              go_ret
              exact ⟨rfl, unhide HB9⟩
end Go.Proofs.Ytdbflcfjjoocgaa
