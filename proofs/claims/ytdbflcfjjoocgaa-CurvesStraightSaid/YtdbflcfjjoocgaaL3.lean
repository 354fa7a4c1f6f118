/-
  CurvesStraight: the walk.
-/
import Derived.Test.YtdbflcfjjoocgaaN2
import Derived.Test.YtdbflcfjjoocgaaL2
import Derived.Test.YtdbflcfjjoocgaaJ5
import Derived.Test.YtdbflcfjjoocgaaQ4
namespace Go.Proofs.Ytdbflcfjjoocgaa
open Go.RowKit

theorem mpart_sm {d p : Nat} {ks ps : List Int} {tn td : Int} {t : Rat} (h : At d ks ps tn td t p) (hd : 0 < d) : ∀ k, k ≤ ps.length → Sm (d * DD (kn ks) p td.toNat d) (36 * DD (kn ks) p td.toNat d * k) (sumF (fun i => mQ d ks i * bas (KQ ks) p t d i) k)
  | 0, _ => Sm.zero _ _
  | k + 1, hk => by
    rw [sumF, Nat.mul_succ]
    exact (mpart_sm h hd k (by omega)).add ((mQ_sm h.ok hd (by omega)).mul (h.sm d k (Nat.le_refl _)))

set_option maxRecDepth 100000 in
set_option maxHeartbeats 16000000 in
theorem LStraight_any (dg tn td : Int) (A A' : Option Addr) (n c n' c' : Nat) (ks ps : List Int) (w : World) (hk : Ints w w.heap.size A n c ks) (hp : Ints w w.heap.size A' n' c' ps) :
    Calls Try.prog 9 #[.agg #[.int .i64 dg, .slice A n c, .slice A' n' c'], .agg #[.int .i64 tn, .int .i64 td]] w fun e w' => e = .returned (.bool true) ∧ Below w.heap.size w w' := by
  obtain ⟨W0, hW0⟩ : ∃ W0, W0 = (w.alloc (.cells #[.int .i64 dg, .slice A n c, .slice A' n' c'] 24)).alloc (.cells #[.int .i64 tn, .int .i64 td] 26) := ⟨_, rfl⟩
  have HB0 := hide (show Below w.heap.size w W0 from by rw [hW0]; exact ((Below.refl _ w).alloc (Nat.le_refl _) _).alloc (by simp) _)
  have HC0 := hide (show W0.heap[w.heap.size]? = some (.cells #[.int .i64 dg, .slice A n c, .slice A' n' c'] 24 (0, 0)) from by rw [hW0]; exact (Below.heap_alloc _ _ _ (by simp)).trans (heap_new_ w _))
  have HT0 := hide (show W0.heap[w.heap.size + 1]? = some (.cells #[.int .i64 tn, .int .i64 td] 26 (0, 0)) from by
    rw [hW0]; have := heap_new_ (w.alloc (.cells #[.int .i64 dg, .slice A n c, .slice A' n' c'] 24)) (.cells #[.int .i64 tn, .int .i64 td] 26); rwa [World.size_alloc] at this)
  have HI0 := hide ((hk.below (unhide HB0)).more (unhide HB0).size)
  have HJ0 := hide ((hp.below (unhide HB0)).more (unhide HB0).size)
  have hlen := hide hp.len
  have hmp := hp.most; have hcapp := hp.cap
  clear hk hp
  have hW1 : (w.alloc (.cells #[.int .i64 dg, .slice A n c, .slice A' n' c'] 24)).alloc (.cells #[.int .i64 tn, .int .i64 td] 26) = W0 := hW0.symm
  clear hW0
  have HS0 := hide (show ∀ W', Below W0.heap.size W0 W' → (W'.cell? ⟨w.heap.size, 0, none⟩ = some (.int .i64 dg) ∧ W'.cell? ⟨w.heap.size, 1, none⟩ = some (.slice A n c) ∧ W'.cell? ⟨w.heap.size, 2, none⟩ = some (.slice A' n' c')) ∧ (W'.cell? ⟨w.heap.size + 1, 0, none⟩ = some (.int .i64 tn) ∧ W'.cell? ⟨w.heap.size + 1, 1, none⟩ = some (.int .i64 td)) from fun W' hb =>
    ⟨three_at ((hb.block _ (Array.getElem?_eq_some_iff.1 (unhide HC0)).1).trans (unhide HC0)), two_at ((hb.block _ (Array.getElem?_eq_some_iff.1 (unhide HT0)).1).trans (unhide HT0))⟩)
  have HX0 := hide (show ∀ W', Below W0.heap.size W0 W' → Ints W' W'.heap.size A n c ks ∧ Ints W' W'.heap.size A' n' c' ps from fun W' hb => ⟨((unhide HI0).below hb).more hb.size, ((unhide HJ0).below hb).more hb.size⟩)
  rcases hV : okT dg ks ps tn td
  · have HVT := hide (show okT dg (ks.take 23) (ps.take 23) tn td = false from by rw [okT_take]; exact hV)
    clear hV
    rcases hC : okC dg ks ps
    · have HC := hide (show okC dg (ks.take 23) (ps.take 23) = false from by rw [okC_take]; exact hC)
      clear hC
      go_enter Try.func9, Try.ntmps9
      go_upto_region 1 with fail
      clear hW1
      obtain ⟨⟨x0, x1, x2⟩, ⟨t0, t1⟩⟩ := (unhide HS0) _ (Below.refl _ _)
      go_wp2_with fail
      refine (Of_any dg A A' n c n' c' ks ps _ ((unhide HX0) _ (Below.refl _ _)).1 ((unhide HX0) _ (Below.refl _ _)).2).mono ?_
      rintro e wa ⟨A1, n1, c1, A2, n2, c2, rfl, i1, i2, ba⟩
      have HI1' := hide i1; have HI2' := hide i2; have HBA := hide ba
      clear i1 i2 ba
      go_wp2_with fail
      refine (Means_no dg A1 A2 n1 c1 n2 c2 _ _ wa (unhide HI1') (unhide HI2') HC).mono ?_
      rintro e w1 ⟨rfl, bm⟩
      have hb1 := (unhide HBA).trans (bm.mono (unhide HBA).size)
      clear bm x0 x1 x2 t0 t1
      have HC1 := hide ((hb1.block _ (Array.getElem?_eq_some_iff.1 (unhide HC0)).1).trans (unhide HC0))
      have HT1 := hide ((hb1.block _ (Array.getElem?_eq_some_iff.1 (unhide HT0)).1).trans (unhide HT0))
      have HI1 := hide (((unhide HI0).below hb1).more hb1.size)
      have HJ1 := hide (((unhide HJ0).below hb1).more hb1.size)
      have HB1 := hide ((unhide HB0).trans (hb1.mono (unhide HB0).size))
      clear hb1 HC0 HT0 HI0 HJ0 HS0 HX0 HB0
      have HS1 := hide (show ∀ W', Below w1.heap.size w1 W' → (W'.cell? ⟨w.heap.size, 0, none⟩ = some (.int .i64 dg) ∧ W'.cell? ⟨w.heap.size, 1, none⟩ = some (.slice A n c) ∧ W'.cell? ⟨w.heap.size, 2, none⟩ = some (.slice A' n' c')) ∧ (W'.cell? ⟨w.heap.size + 1, 0, none⟩ = some (.int .i64 tn) ∧ W'.cell? ⟨w.heap.size + 1, 1, none⟩ = some (.int .i64 td)) from fun W' hb =>
        ⟨three_at ((hb.block _ (Array.getElem?_eq_some_iff.1 (unhide HC1)).1).trans (unhide HC1)), two_at ((hb.block _ (Array.getElem?_eq_some_iff.1 (unhide HT1)).1).trans (unhide HT1))⟩)
      have HX1 := hide (show ∀ W', Below w1.heap.size w1 W' → Ints W' W'.heap.size A n c ks ∧ Ints W' W'.heap.size A' n' c' ps from fun W' hb => ⟨((unhide HI1).below hb).more hb.size, ((unhide HJ1).below hb).more hb.size⟩)
      go_upto_region 2 with fail
      have HWd2 := hide (show Below w1.heap.size w1 w1.drew from (Below.refl w1.heap.size w1).drew)
      go_cut [7, 8] (fun sx se wz => (sx = .slice none 0 0 ∧ se = .int .i64 2) ∧ Hid (Below w1.heap.size w1 wz))
      case first =>
        obtain ⟨⟨x0, x1, x2⟩, ⟨t0, t1⟩⟩ := (unhide HS1) _ (unhide HWd2)
        go_region_held3 (fun W' => (W'.cell? ⟨w.heap.size, 0, none⟩ = some (.int .i64 dg) ∧ W'.cell? ⟨w.heap.size, 1, none⟩ = some (.slice A n c) ∧ W'.cell? ⟨w.heap.size, 2, none⟩ = some (.slice A' n' c')) ∧ (W'.cell? ⟨w.heap.size + 1, 0, none⟩ = some (.int .i64 tn) ∧ W'.cell? ⟨w.heap.size + 1, 1, none⟩ = some (.int .i64 td))) (first | exact ⟨⟨x0, x1, x2⟩, ⟨t0, t1⟩⟩ | exact (unhide HS1) _ (unhide HWa) | exact (unhide HS1) _ (unhide HWb)) (first
          | (go_at_call 15; refine (Of_any dg A A' n c n' c' ks ps _ ((unhide HX1) _ (unhide HWd2)).1 ((unhide HX1) _ (unhide HWd2)).2).mono ?_; rintro e wa ⟨A1, n1, c1, A2', n2', c2', rfl, i1, i2, ba⟩; have HWa := hide ((unhide HWd2).trans (ba.mono (unhide HWd2).size)); have HI1 := hide i1; have HI2 := hide i2; clear ba i1 i2)
          | (go_at_call 14; refine ((fun A1 A2 n1 c1 n2 c2 W h1 h2 => Basic_no dg tn td A1 A2 n1 c1 n2 c2 (ks.take 23) (ps.take 23) W h1 h2 HVT) _ _ _ _ _ _ wa (unhide HI1) (unhide HI2)).mono ?_; rintro e wb ⟨rfl, bb⟩; have HWb := hide ((unhide HWa).trans (bb.mono (unhide HWa).size)); clear bb))
        all_goals (go_wp2_with fail; go_meet; exact ⟨⟨rfl, rfl⟩, HWb⟩)
      case rest =>
        obtain ⟨⟨rfl, rfl⟩, hbz⟩ := hcut
        have HB2 := hide ((unhide HB1).trans ((unhide hbz).mono (unhide HB1).size))
        obtain ⟨x0, x1, x2⟩ := three_at (((unhide hbz).block _ (Array.getElem?_eq_some_iff.1 (unhide HC1)).1).trans (unhide HC1))
        clear hbz
        go_wp2_with fail
        refine (awake_any _).mono ?_
        rintro e w9 ⟨rfl, b9⟩
        have HB9 := hide ((unhide HB2).trans (b9.mono (unhide HB2).size))
        clear b9
        go_wp2_with fail
        go_ret
        exact ⟨rfl, unhide HB9⟩
    · obtain ⟨d, hdg, hok⟩ := (okC_iff _ _ _).1 hC
      have HC := hide hok
      have htk := hok.takes.1
      have htp := hok.takes.2
      have HTK := hide htk; have HTP := hide htp
      have HCT := hide (show OkC d (ks.take 23) (ps.take 23) from by rw [htk, htp]; exact hok)
      clear hC hok htk htp
      by_cases hd : d = 0
      · subst hd
        obtain rfl : dg = 0 := hdg
        go_enter Try.func9, Try.ntmps9
        go_upto_region 1 with fail
        clear hW1
        obtain ⟨⟨x0, x1, x2⟩, ⟨t0, t1⟩⟩ := (unhide HS0) _ (Below.refl _ _)
        go_wp2_with fail
        refine (Of_any (0 : Int) A A' n c n' c' ks ps _ ((unhide HX0) _ (Below.refl _ _)).1 ((unhide HX0) _ (Below.refl _ _)).2).mono ?_
        rintro e wa ⟨A1, n1, c1, A2, n2, c2, rfl, i1, i2, ba⟩
        have HI1' := hide i1; have HI2' := hide i2; have HBA := hide ba
        clear i1 i2 ba
        go_wp2_with fail
        refine (Means_0 A1 A2 n1 c1 n2 c2 _ _ wa (unhide HI1') (unhide HI2') HCT).mono ?_
        rintro e w1 ⟨rfl, bm⟩
        have hb1 := (unhide HBA).trans (bm.mono (unhide HBA).size)
        clear bm x0 x1 x2 t0 t1
        have HC1 := hide ((hb1.block _ (Array.getElem?_eq_some_iff.1 (unhide HC0)).1).trans (unhide HC0))
        have HT1 := hide ((hb1.block _ (Array.getElem?_eq_some_iff.1 (unhide HT0)).1).trans (unhide HT0))
        have HI1 := hide (((unhide HI0).below hb1).more hb1.size)
        have HJ1 := hide (((unhide HJ0).below hb1).more hb1.size)
        have HB1 := hide ((unhide HB0).trans (hb1.mono (unhide HB0).size))
        clear hb1 HC0 HT0 HI0 HJ0 HS0 HX0 HB0
        have HS1 := hide (show ∀ W', Below w1.heap.size w1 W' → (W'.cell? ⟨w.heap.size, 0, none⟩ = some (.int .i64 (0 : Int)) ∧ W'.cell? ⟨w.heap.size, 1, none⟩ = some (.slice A n c) ∧ W'.cell? ⟨w.heap.size, 2, none⟩ = some (.slice A' n' c')) ∧ (W'.cell? ⟨w.heap.size + 1, 0, none⟩ = some (.int .i64 tn) ∧ W'.cell? ⟨w.heap.size + 1, 1, none⟩ = some (.int .i64 td)) from fun W' hb =>
          ⟨three_at ((hb.block _ (Array.getElem?_eq_some_iff.1 (unhide HC1)).1).trans (unhide HC1)), two_at ((hb.block _ (Array.getElem?_eq_some_iff.1 (unhide HT1)).1).trans (unhide HT1))⟩)
        have HX1 := hide (show ∀ W', Below w1.heap.size w1 W' → Ints W' W'.heap.size A n c ks ∧ Ints W' W'.heap.size A' n' c' ps from fun W' hb => ⟨((unhide HI1).below hb).more hb.size, ((unhide HJ1).below hb).more hb.size⟩)
        go_upto_region 2 with fail
        have HWd2 := hide (show Below w1.heap.size w1 w1.drew from (Below.refl w1.heap.size w1).drew)
        go_cut [7, 8] (fun sx se wz => (sx = .slice none 0 0 ∧ se = .int .i64 2) ∧ Hid (Below w1.heap.size w1 wz))
        case first =>
          obtain ⟨⟨x0, x1, x2⟩, ⟨t0, t1⟩⟩ := (unhide HS1) _ (unhide HWd2)
          go_region_held3 (fun W' => (W'.cell? ⟨w.heap.size, 0, none⟩ = some (.int .i64 (0 : Int)) ∧ W'.cell? ⟨w.heap.size, 1, none⟩ = some (.slice A n c) ∧ W'.cell? ⟨w.heap.size, 2, none⟩ = some (.slice A' n' c')) ∧ (W'.cell? ⟨w.heap.size + 1, 0, none⟩ = some (.int .i64 tn) ∧ W'.cell? ⟨w.heap.size + 1, 1, none⟩ = some (.int .i64 td))) (first | exact ⟨⟨x0, x1, x2⟩, ⟨t0, t1⟩⟩ | exact (unhide HS1) _ (unhide HWa) | exact (unhide HS1) _ (unhide HWb)) (first
            | (go_at_call 15; refine (Of_any (0 : Int) A A' n c n' c' ks ps _ ((unhide HX1) _ (unhide HWd2)).1 ((unhide HX1) _ (unhide HWd2)).2).mono ?_; rintro e wa ⟨A1, n1, c1, A2', n2', c2', rfl, i1, i2, ba⟩; have HWa := hide ((unhide HWd2).trans (ba.mono (unhide HWd2).size)); have HI1 := hide i1; have HI2 := hide i2; clear ba i1 i2)
            | (go_at_call 14; refine ((fun A1 A2 n1 c1 n2 c2 W h1 h2 => Basic_no (0 : Int) tn td A1 A2 n1 c1 n2 c2 (ks.take 23) (ps.take 23) W h1 h2 HVT) _ _ _ _ _ _ wa (unhide HI1) (unhide HI2)).mono ?_; rintro e wb ⟨rfl, bb⟩; have HWb := hide ((unhide HWa).trans (bb.mono (unhide HWa).size)); clear bb))
          all_goals (go_wp2_with fail; go_meet; exact ⟨⟨rfl, rfl⟩, HWb⟩)
        case rest =>
          obtain ⟨⟨rfl, rfl⟩, hbz⟩ := hcut
          have HB2 := hide ((unhide HB1).trans ((unhide hbz).mono (unhide HB1).size))
          obtain ⟨x0, x1, x2⟩ := three_at (((unhide hbz).block _ (Array.getElem?_eq_some_iff.1 (unhide HC1)).1).trans (unhide HC1))
          clear hbz
          go_wp2_with fail
          refine (awake_any _).mono ?_
          rintro e w9 ⟨rfl, b9⟩
          have HB9 := hide ((unhide HB2).trans (b9.mono (unhide HB2).size))
          clear b9
          go_wp2_with fail
          go_ret
          exact ⟨rfl, unhide HB9⟩
      · have hdp : 0 < d := by omega
        subst hdg
        go_enter Try.func9, Try.ntmps9
        go_upto_region 1 with fail
        clear hW1
        obtain ⟨⟨x0, x1, x2⟩, ⟨t0, t1⟩⟩ := (unhide HS0) _ (Below.refl _ _)
        go_wp2_with fail
        refine (Of_any (d : Int) A A' n c n' c' ks ps _ ((unhide HX0) _ (Below.refl _ _)).1 ((unhide HX0) _ (Below.refl _ _)).2).mono ?_
        rintro e wa ⟨A1, n1, c1, A2, n2, c2, rfl, i1, i2, ba⟩
        have HI1' := hide i1; have HI2' := hide i2; have HBA := hide ba
        clear i1 i2 ba
        go_wp2_with fail
        refine (Means_ok d A1 A2 n1 c1 n2 c2 _ _ wa (unhide HI1') (unhide HI2') HCT hdp).mono ?_
        rintro e w1 ⟨Am, cm, LM, rfl, hfm, HQM, bm⟩
        have hb1 := (unhide HBA).trans (bm.mono (unhide HBA).size)
        clear bm hfm x0 x1 x2 t0 t1
        have HC1 := hide ((hb1.block _ (Array.getElem?_eq_some_iff.1 (unhide HC0)).1).trans (unhide HC0))
        have HT1 := hide ((hb1.block _ (Array.getElem?_eq_some_iff.1 (unhide HT0)).1).trans (unhide HT0))
        have HI1 := hide (((unhide HI0).below hb1).more hb1.size)
        have HJ1 := hide (((unhide HJ0).below hb1).more hb1.size)
        have HB1 := hide ((unhide HB0).trans (hb1.mono (unhide HB0).size))
        clear hb1 HC0 HT0 HI0 HJ0 HS0 HX0 HB0
        have HS1 := hide (show ∀ W', Below w1.heap.size w1 W' → (W'.cell? ⟨w.heap.size, 0, none⟩ = some (.int .i64 (d : Int)) ∧ W'.cell? ⟨w.heap.size, 1, none⟩ = some (.slice A n c) ∧ W'.cell? ⟨w.heap.size, 2, none⟩ = some (.slice A' n' c')) ∧ (W'.cell? ⟨w.heap.size + 1, 0, none⟩ = some (.int .i64 tn) ∧ W'.cell? ⟨w.heap.size + 1, 1, none⟩ = some (.int .i64 td)) from fun W' hb =>
          ⟨three_at ((hb.block _ (Array.getElem?_eq_some_iff.1 (unhide HC1)).1).trans (unhide HC1)), two_at ((hb.block _ (Array.getElem?_eq_some_iff.1 (unhide HT1)).1).trans (unhide HT1))⟩)
        have HX1 := hide (show ∀ W', Below w1.heap.size w1 W' → Ints W' W'.heap.size A n c ks ∧ Ints W' W'.heap.size A' n' c' ps from fun W' hb => ⟨((unhide HI1).below hb).more hb.size, ((unhide HJ1).below hb).more hb.size⟩)
        go_upto_region 2 with fail
        have HWd2 := hide (show Below w1.heap.size w1 w1.drew from (Below.refl w1.heap.size w1).drew)
        go_cut [7, 8] (fun sx se wz => (sx = .slice none 0 0 ∧ se = .int .i64 2) ∧ Hid (Below w1.heap.size w1 wz))
        case first =>
          obtain ⟨⟨x0, x1, x2⟩, ⟨t0, t1⟩⟩ := (unhide HS1) _ (unhide HWd2)
          go_region_held3 (fun W' => (W'.cell? ⟨w.heap.size, 0, none⟩ = some (.int .i64 (d : Int)) ∧ W'.cell? ⟨w.heap.size, 1, none⟩ = some (.slice A n c) ∧ W'.cell? ⟨w.heap.size, 2, none⟩ = some (.slice A' n' c')) ∧ (W'.cell? ⟨w.heap.size + 1, 0, none⟩ = some (.int .i64 tn) ∧ W'.cell? ⟨w.heap.size + 1, 1, none⟩ = some (.int .i64 td))) (first | exact ⟨⟨x0, x1, x2⟩, ⟨t0, t1⟩⟩ | exact (unhide HS1) _ (unhide HWa) | exact (unhide HS1) _ (unhide HWb)) (first
            | (go_at_call 15; refine (Of_any (d : Int) A A' n c n' c' ks ps _ ((unhide HX1) _ (unhide HWd2)).1 ((unhide HX1) _ (unhide HWd2)).2).mono ?_; rintro e wa ⟨A1, n1, c1, A2', n2', c2', rfl, i1, i2, ba⟩; have HWa := hide ((unhide HWd2).trans (ba.mono (unhide HWd2).size)); have HI1 := hide i1; have HI2 := hide i2; clear ba i1 i2)
            | (go_at_call 14; refine ((fun A1 A2 n1 c1 n2 c2 W h1 h2 => Basic_no (d : Int) tn td A1 A2 n1 c1 n2 c2 (ks.take 23) (ps.take 23) W h1 h2 HVT) _ _ _ _ _ _ wa (unhide HI1) (unhide HI2)).mono ?_; rintro e wb ⟨rfl, bb⟩; have HWb := hide ((unhide HWa).trans (bb.mono (unhide HWa).size)); clear bb))
          all_goals (go_wp2_with fail; go_meet; exact ⟨⟨rfl, rfl⟩, HWb⟩)
        case rest =>
          obtain ⟨⟨rfl, rfl⟩, hbz⟩ := hcut
          have HB2 := hide ((unhide HB1).trans ((unhide hbz).mono (unhide HB1).size))
          obtain ⟨x0, x1, x2⟩ := three_at (((unhide hbz).block _ (Array.getElem?_eq_some_iff.1 (unhide HC1)).1).trans (unhide HC1))
          clear hbz
          go_wp2_with fail
          refine (awake_any _).mono ?_
          rintro e w9 ⟨rfl, b9⟩
          have HB9 := hide ((unhide HB2).trans (b9.mono (unhide HB2).size))
          clear b9
          go_wp2_with fail
          go_ret
          exact ⟨rfl, unhide HB9⟩
  · obtain ⟨d, p, t, hdg, hat⟩ := okT_at hV
    have HV := hide hV
    have HA := hide hat
    have htk := hat.ok.takes.1
    have htp := hat.ok.takes.2
    have HTK := hide htk; have HTP := hide htp
    have HCT := hide (show OkC d (ks.take 23) (ps.take 23) from by rw [htk, htp]; exact hat.ok)
    have HCC := hide hat.ok
    have hn8 := hat.ok.n8; rw [hlen.out] at hn8
    clear hV hat htk htp
    by_cases hd : d = 0
    · subst hd
      obtain rfl : dg = 0 := hdg
      go_enter Try.func9, Try.ntmps9
      go_upto_region 1 with fail
      clear hW1
      obtain ⟨⟨x0, x1, x2⟩, ⟨t0, t1⟩⟩ := (unhide HS0) _ (Below.refl _ _)
      go_wp2_with fail
      refine (Of_any (0 : Int) A A' n c n' c' ks ps _ ((unhide HX0) _ (Below.refl _ _)).1 ((unhide HX0) _ (Below.refl _ _)).2).mono ?_
      rintro e wa ⟨A1, n1, c1, A2, n2, c2, rfl, i1, i2, ba⟩
      have HI1' := hide i1; have HI2' := hide i2; have HBA := hide ba
      clear i1 i2 ba
      go_wp2_with fail
      refine (Means_0 A1 A2 n1 c1 n2 c2 _ _ wa (unhide HI1') (unhide HI2') HCT).mono ?_
      rintro e w1 ⟨rfl, bm⟩
      have hb1 := (unhide HBA).trans (bm.mono (unhide HBA).size)
      clear bm x0 x1 x2 t0 t1
      have HC1 := hide ((hb1.block _ (Array.getElem?_eq_some_iff.1 (unhide HC0)).1).trans (unhide HC0))
      have HT1 := hide ((hb1.block _ (Array.getElem?_eq_some_iff.1 (unhide HT0)).1).trans (unhide HT0))
      have HI1 := hide (((unhide HI0).below hb1).more hb1.size)
      have HJ1 := hide (((unhide HJ0).below hb1).more hb1.size)
      have HB1 := hide ((unhide HB0).trans (hb1.mono (unhide HB0).size))
      clear hb1 HC0 HT0 HI0 HJ0 HS0 HX0 HB0
      have HS1 := hide (show ∀ W', Below w1.heap.size w1 W' → (W'.cell? ⟨w.heap.size, 0, none⟩ = some (.int .i64 (0 : Int)) ∧ W'.cell? ⟨w.heap.size, 1, none⟩ = some (.slice A n c) ∧ W'.cell? ⟨w.heap.size, 2, none⟩ = some (.slice A' n' c')) ∧ (W'.cell? ⟨w.heap.size + 1, 0, none⟩ = some (.int .i64 tn) ∧ W'.cell? ⟨w.heap.size + 1, 1, none⟩ = some (.int .i64 td)) from fun W' hb =>
        ⟨three_at ((hb.block _ (Array.getElem?_eq_some_iff.1 (unhide HC1)).1).trans (unhide HC1)), two_at ((hb.block _ (Array.getElem?_eq_some_iff.1 (unhide HT1)).1).trans (unhide HT1))⟩)
      have HX1 := hide (show ∀ W', Below w1.heap.size w1 W' → Ints W' W'.heap.size A n c ks ∧ Ints W' W'.heap.size A' n' c' ps from fun W' hb => ⟨((unhide HI1).below hb).more hb.size, ((unhide HJ1).below hb).more hb.size⟩)
      go_upto_region 2 with fail
      have HWd2 := hide (show Below w1.heap.size w1 w1.drew from (Below.refl w1.heap.size w1).drew)
      go_cut [7, 8] (fun sx se wz => ∃ (g : Nat) (L : List F), sx = .slice (some ⟨g, 0, none⟩) n' n' ∧ se = .int .i64 0 ∧ Hid (PB wz g 26 L) ∧ L.length = n' ∧ Hid (HasQ L (bas (KQ ks) p t 0) 0 n') ∧ Hid (Below w1.heap.size w1 wz))
      case first =>
        obtain ⟨⟨x0, x1, x2⟩, ⟨t0, t1⟩⟩ := (unhide HS1) _ (unhide HWd2)
        go_region_held3 (fun W' => (W'.cell? ⟨w.heap.size, 0, none⟩ = some (.int .i64 (0 : Int)) ∧ W'.cell? ⟨w.heap.size, 1, none⟩ = some (.slice A n c) ∧ W'.cell? ⟨w.heap.size, 2, none⟩ = some (.slice A' n' c')) ∧ (W'.cell? ⟨w.heap.size + 1, 0, none⟩ = some (.int .i64 tn) ∧ W'.cell? ⟨w.heap.size + 1, 1, none⟩ = some (.int .i64 td))) (first | exact ⟨⟨x0, x1, x2⟩, ⟨t0, t1⟩⟩ | exact (unhide HS1) _ (unhide HWa) | exact (unhide HS1) _ (unhide HWb)) (first
          | (go_at_call 15; refine (Of_any (0 : Int) A A' n c n' c' ks ps _ ((unhide HX1) _ (unhide HWd2)).1 ((unhide HX1) _ (unhide HWd2)).2).mono ?_; rintro e wa ⟨A1, n1, c1, A2', n2', c2', rfl, i1, i2, ba⟩; rw [HTK.out] at i1; rw [HTP.out] at i2; obtain rfl : n' = n2' := hlen.out.symm.trans i2.len; have HWa := hide ((unhide HWd2).trans (ba.mono (unhide HWd2).size)); have HI1 := hide i1; have HI2 := hide i2; clear ba i1 i2)
          | (go_at_call 14; refine ((fun A1 A2 n1 c1 n2 c2 W h1 h2 => Basic_ok 0 p tn td t A1 A2 n1 c1 n2 c2 ks ps W h1 h2 HA) _ _ _ _ _ _ wa (unhide HI1) (unhide HI2)).mono ?_; rintro e wb ⟨g, L, rfl, hpb, hL, HQ, bb⟩; have HWb := hide ((unhide HWa).trans (bb.mono (unhide HWa).size)); clear bb))
        all_goals (go_wp2_with fail; go_meet; exact ⟨g, L, rfl, rfl, hpb, hL, HQ, HWb⟩)
      case rest =>
        obtain ⟨g, L, rfl, rfl, _, _, _, hbz⟩ := hcut
        have HB2 := hide ((unhide HB1).trans ((unhide hbz).mono (unhide HB1).size))
        obtain ⟨x0, x1, x2⟩ := three_at (((unhide hbz).block _ (Array.getElem?_eq_some_iff.1 (unhide HC1)).1).trans (unhide HC1))
        clear hbz
        go_wp2_with fail
        refine (awake_any _).mono ?_
        rintro e w9 ⟨rfl, b9⟩
        have HB9 := hide ((unhide HB2).trans (b9.mono (unhide HB2).size))
        clear b9
        go_wp2_with fail
        go_ret
        exact ⟨rfl, unhide HB9⟩
    have hdp : 0 < d := by omega
    subst hdg
    go_enter Try.func9, Try.ntmps9
    go_upto_region 1 with fail
    clear hW1
    obtain ⟨⟨x0, x1, x2⟩, ⟨t0, t1⟩⟩ := (unhide HS0) _ (Below.refl _ _)
    go_wp2_with fail
    refine (Of_any (d : Int) A A' n c n' c' ks ps _ ((unhide HX0) _ (Below.refl _ _)).1 ((unhide HX0) _ (Below.refl _ _)).2).mono ?_
    rintro e wa ⟨A1, n1, c1, A2, n2, c2, rfl, i1, i2, ba⟩
    rw [HTK.out] at i1; rw [HTP.out] at i2; obtain rfl : n' = n2 := hlen.out.symm.trans i2.len; have HI1' := hide i1; have HI2' := hide i2; have HBA := hide ba
    clear i1 i2 ba
    go_wp2_with fail
    refine (Means_ok d A1 A2 n1 c1 n' c2 ks ps wa (unhide HI1') (unhide HI2') HCC hdp).mono ?_
    rintro e w1 ⟨Am, cm, LM, rfl, hfm, HQM, bm⟩
    have hb1 := (unhide HBA).trans (bm.mono (unhide HBA).size)
    have HFM := hide hfm
    clear bm hfm x0 x1 x2 t0 t1
    have HC1 := hide ((hb1.block _ (Array.getElem?_eq_some_iff.1 (unhide HC0)).1).trans (unhide HC0))
    have HT1 := hide ((hb1.block _ (Array.getElem?_eq_some_iff.1 (unhide HT0)).1).trans (unhide HT0))
    have HI1 := hide (((unhide HI0).below hb1).more hb1.size)
    have HJ1 := hide (((unhide HJ0).below hb1).more hb1.size)
    have HB1 := hide ((unhide HB0).trans (hb1.mono (unhide HB0).size))
    clear hb1 HC0 HT0 HI0 HJ0 HS0 HX0 HB0
    have HS1 := hide (show ∀ W', Below w1.heap.size w1 W' → (W'.cell? ⟨w.heap.size, 0, none⟩ = some (.int .i64 (d : Int)) ∧ W'.cell? ⟨w.heap.size, 1, none⟩ = some (.slice A n c) ∧ W'.cell? ⟨w.heap.size, 2, none⟩ = some (.slice A' n' c')) ∧ (W'.cell? ⟨w.heap.size + 1, 0, none⟩ = some (.int .i64 tn) ∧ W'.cell? ⟨w.heap.size + 1, 1, none⟩ = some (.int .i64 td)) from fun W' hb =>
      ⟨three_at ((hb.block _ (Array.getElem?_eq_some_iff.1 (unhide HC1)).1).trans (unhide HC1)), two_at ((hb.block _ (Array.getElem?_eq_some_iff.1 (unhide HT1)).1).trans (unhide HT1))⟩)
    have HX1 := hide (show ∀ W', Below w1.heap.size w1 W' → Ints W' W'.heap.size A n c ks ∧ Ints W' W'.heap.size A' n' c' ps from fun W' hb => ⟨((unhide HI1).below hb).more hb.size, ((unhide HJ1).below hb).more hb.size⟩)
    go_upto_region 2 with fail
    have HWd2 := hide (show Below w1.heap.size w1 w1.drew from (Below.refl w1.heap.size w1).drew)
    go_cut [7, 8] (fun sx se wz => ∃ (g : Nat) (L : List F), sx = .slice (some ⟨g, 0, none⟩) n' n' ∧ se = .int .i64 0 ∧ Hid (PB wz g 26 L) ∧ L.length = n' ∧ Hid (HasQ L (bas (KQ ks) p t d) 0 n') ∧ Hid (Below w1.heap.size w1 wz))
    case first =>
      obtain ⟨⟨x0, x1, x2⟩, ⟨t0, t1⟩⟩ := (unhide HS1) _ (unhide HWd2)
      go_region_held3 (fun W' => (W'.cell? ⟨w.heap.size, 0, none⟩ = some (.int .i64 (d : Int)) ∧ W'.cell? ⟨w.heap.size, 1, none⟩ = some (.slice A n c) ∧ W'.cell? ⟨w.heap.size, 2, none⟩ = some (.slice A' n' c')) ∧ (W'.cell? ⟨w.heap.size + 1, 0, none⟩ = some (.int .i64 tn) ∧ W'.cell? ⟨w.heap.size + 1, 1, none⟩ = some (.int .i64 td))) (first | exact ⟨⟨x0, x1, x2⟩, ⟨t0, t1⟩⟩ | exact (unhide HS1) _ (unhide HWa) | exact (unhide HS1) _ (unhide HWb)) (first
        | (go_at_call 15; refine (Of_any (d : Int) A A' n c n' c' ks ps _ ((unhide HX1) _ (unhide HWd2)).1 ((unhide HX1) _ (unhide HWd2)).2).mono ?_; rintro e wa ⟨A1, n1, c1, A2', n2', c2', rfl, i1, i2, ba⟩; rw [HTK.out] at i1; rw [HTP.out] at i2; obtain rfl : n' = n2' := hlen.out.symm.trans i2.len; have HWa := hide ((unhide HWd2).trans (ba.mono (unhide HWd2).size)); have HI1 := hide i1; have HI2 := hide i2; clear ba i1 i2)
        | (go_at_call 14; refine ((fun A1 A2 n1 c1 n2 c2 W h1 h2 => Basic_ok d p tn td t A1 A2 n1 c1 n2 c2 ks ps W h1 h2 HA) _ _ _ _ _ _ wa (unhide HI1) (unhide HI2)).mono ?_; rintro e wb ⟨g, L, rfl, hpb, hL, HQ, bb⟩; have HWb := hide ((unhide HWa).trans (bb.mono (unhide HWa).size)); clear bb))
      all_goals (go_wp2_with fail; go_meet; exact ⟨g, L, rfl, rfl, hpb, hL, HQ, HWb⟩)
    case rest =>
      obtain ⟨g, L, rfl, rfl, HPB, hL, HQ, hbz⟩ := hcut
      obtain ⟨wz4, ewz⟩ : ∃ x, x = wc := ⟨_, rfl⟩
      subst ewz
      have hbw := unhide hbz
      have HFM4 := hide (((unhide HFM).below hbw).more hbw.size)
      have HC4 := hide ((hbw.block _ (Array.getElem?_eq_some_iff.1 (unhide HC1)).1).trans (unhide HC1))
      have HT4 := hide ((hbw.block _ (Array.getElem?_eq_some_iff.1 (unhide HT1)).1).trans (unhide HT1))
      have HI4 := hide (((unhide HI1).below hbw).more hbw.size)
      have HJ4 := hide (((unhide HJ1).below hbw).more hbw.size)
      have HB4 := hide ((unhide HB1).trans (hbw.mono (unhide HB1).size))
      clear hbz hbw HC1 HT1 HI1 HJ1 HS1 HX1 HB1 HFM
      have HL := hide hL; clear hL
      have hlm := hide (unhide HFM4).len
      have hcm := (unhide HFM4).cap; have hmm := (unhide HFM4).most
      have HS4 := hide (show ∀ W', Below wz4.heap.size wz4 W' → (W'.cell? ⟨w.heap.size, 0, none⟩ = some (.int .i64 (d : Int)) ∧ W'.cell? ⟨w.heap.size, 1, none⟩ = some (.slice A n c) ∧ W'.cell? ⟨w.heap.size, 2, none⟩ = some (.slice A' n' c')) ∧ (W'.cell? ⟨w.heap.size + 1, 0, none⟩ = some (.int .i64 tn) ∧ W'.cell? ⟨w.heap.size + 1, 1, none⟩ = some (.int .i64 td)) from fun W' hb =>
        ⟨three_at ((hb.block _ (Array.getElem?_eq_some_iff.1 (unhide HC4)).1).trans (unhide HC4)), two_at ((hb.block _ (Array.getElem?_eq_some_iff.1 (unhide HT4)).1).trans (unhide HT4))⟩)
      have HX4 := hide (show ∀ W', Below wz4.heap.size wz4 W' → Ints W' W'.heap.size A n c ks ∧ Ints W' W'.heap.size A' n' c' ps from fun W' hb => ⟨((unhide HI4).below hb).more hb.size, ((unhide HJ4).below hb).more hb.size⟩)
      obtain ⟨⟨x0, x1, x2⟩, ⟨t0, t1⟩⟩ := (unhide HS4) _ (Below.refl _ _)
      go_wp2_with fail
      refine (fine_any (d : Int) tn td _ _ _ _ _ _ ks ps _ ((unhide HX4) _ (Below.refl _ _)).1 ((unhide HX4) _ (Below.refl _ _)).2 true HV).mono ?_
      rintro e w5 ⟨rfl, b5⟩
      have HP5 := hide ((unhide HPB).below b5 (unhide HPB).lt)
      have HFM5 := hide (((unhide HFM4).below b5).more b5.size)
      have HC5 := hide ((b5.block _ (Array.getElem?_eq_some_iff.1 (unhide HC4)).1).trans (unhide HC4))
      have HT5 := hide ((b5.block _ (Array.getElem?_eq_some_iff.1 (unhide HT4)).1).trans (unhide HT4))
      have HI5 := hide (((unhide HI4).below b5).more b5.size)
      have HJ5 := hide (((unhide HJ4).below b5).more b5.size)
      have HB5 := hide ((unhide HB4).trans (b5.mono (unhide HB4).size))
      clear b5 x0 x1 x2 t0 t1 HC4 HT4 HI4 HJ4 HS4 HX4 HB4 HPB HFM4
      have HS5 := hide (show ∀ W', Below w5.heap.size w5 W' → (W'.cell? ⟨w.heap.size, 0, none⟩ = some (.int .i64 (d : Int)) ∧ W'.cell? ⟨w.heap.size, 1, none⟩ = some (.slice A n c) ∧ W'.cell? ⟨w.heap.size, 2, none⟩ = some (.slice A' n' c')) ∧ (W'.cell? ⟨w.heap.size + 1, 0, none⟩ = some (.int .i64 tn) ∧ W'.cell? ⟨w.heap.size + 1, 1, none⟩ = some (.int .i64 td)) from fun W' hb =>
        ⟨three_at ((hb.block _ (Array.getElem?_eq_some_iff.1 (unhide HC5)).1).trans (unhide HC5)), two_at ((hb.block _ (Array.getElem?_eq_some_iff.1 (unhide HT5)).1).trans (unhide HT5))⟩)
      have HX5 := hide (show ∀ W', Below w5.heap.size w5 W' → Ints W' W'.heap.size A n c ks ∧ Ints W' W'.heap.size A' n' c' ps from fun W' hb => ⟨((unhide HI5).below hb).more hb.size, ((unhide HJ5).below hb).more hb.size⟩)
      obtain ⟨W7, hW7⟩ : ∃ W7, W7 = w5.alloc (.cells #[.int .i64 0, .int .i64 1] 26) := ⟨_, rfl⟩
      have hb7 : Below w5.heap.size w5 W7 := by rw [hW7]; exact (Below.refl _ _).alloc (Nat.le_refl _) _
      have HS7 := hide (show W7.heap[w5.heap.size]? = some (.cells #[.int .i64 0, .int .i64 1] 26 (0, 0)) from by rw [hW7]; exact heap_new_ _ _)
      have HB7 := hide hb7
      have hW8 : w5.alloc (.cells #[.int .i64 0, .int .i64 1] 26) = W7 := hW7.symm
      have HLT := hide (show g < w5.heap.size from (unhide HP5).lt)
      clear hW7 hb7
      obtain ⟨⟨x0, x1, x2⟩, ⟨t0, t1⟩⟩ := (unhide HS5) _ (Below.refl _ _)
      go_upto_region 8 with fail
      clear hW8 x0 x1 x2 t0 t1
      go_wp2_with fail
      go_loopw [10, 11, 12, 72] (fun _ _ _ s72 wr => ∃ (k : Nat) (sn sd : Int), k ≤ n' ∧ s72 = .int .i64 (k : Int) ∧ Hid (Fr (sumF (fun i => mQ d ks i * bas (KQ ks) p t d i) k) sn sd) ∧ Hid (wr.heap[w5.heap.size]? = some (.cells #[.int .i64 sn, .int .i64 sd] 26 (0, 0))) ∧ Hid (Below w5.heap.size w5 wr)) (fun _ _ _ s72 _ => n' - (intOf s72).toNat)
      case atStart => exact ⟨0, 0, 1, Nat.zero_le _, rfl, hide ⟨rfl, rfl⟩, HS7, HB7⟩
      case round =>
        obtain ⟨k, sn, sd, hk, rfl, HF, HSk, HBk⟩ := hrel
        clear HS7 HB7
        by_cases hlt : k < n'
        · have hk8 : (k : Int) < ((n' : Nat) : Int) := by omega
          have hk0 : (0 : Int) ≤ (k : Int) := by omega
          have HPk := hide ((unhide HP5).below (unhide HBk) HLT.out)
          have hf1 := HQ.out k (Nat.zero_le _) hlt
          have hcell := fun (W : World) (hp : PB W g 26 L) => hp.cell (k := k) (by rw [HL.out]; omega)
          obtain ⟨⟨a, b⟩, ea⟩ : ∃ f, fth L k = f := ⟨_, rfl⟩
          rw [ea] at hf1 hcell
          simp only at hf1 hcell
          clear ea
          have HCE := hide hcell; clear hcell
          have hf2 := HQM.out k (Nat.zero_le _) hlt
          obtain ⟨bm, off, hAm, hbm, e1, e2⟩ := ((unhide HFM5).below (unhide HBk)).at_ k hlt
          subst hAm
          obtain ⟨⟨u, v⟩, eu⟩ : ∃ f, fth LM k = f := ⟨_, rfl⟩
          rw [eu] at hf2 e1 e2
          simp only at hf2 e1 e2
          clear eu
          obtain ⟨r2, er2⟩ : ∃ r, sumF (fun i => mQ d ks i * bas (KQ ks) p t d i) k + mQ d ks k * bas (KQ ks) p t d k = r := ⟨_, rfl⟩
          obtain ⟨n2, m2, hr2⟩ := exists_fr r2
          have E2 := hide (show Fr (sumF (fun i => mQ d ks i * bas (KQ ks) p t d i) (k + 1)) n2 m2 from by rw [sumF, er2]; exact hr2)
          obtain ⟨dp1, dp2⟩ := HA.out.dpos d (Nat.le_refl _)
          have hDD := Nat.mul_le_mul HA.out.ok.d3 dp2
          have hDp := Nat.mul_pos hdp dp1
          have B1 := HA.out.sm d k (Nat.le_refl _)
          have B2 := mQ_sm HA.out.ok hdp (i := k) (by rw [hlen.out]; exact hlt)
          have B3 := (B2.mul B1).mono (show _ ≤ 2000000000000000000 from Nat.le_trans (Nat.mul_le_mul (Nat.le_refl 36) dp2) (by decide))
          have B4 := (mpart_sm HA.out hdp k (by rw [hlen.out]; omega)).mono (show _ ≤ 2000000000000000000 from Nat.le_trans (Nat.mul_le_mul (Nat.mul_le_mul (Nat.le_refl 36) dp2) (show k ≤ 8 by omega)) (by decide))
          have hd3 := HA.out.ok.d3
          have C2 := hide (fun W => more_q W HF (hide hf2) (hide hf1) (hide B4) (hide B3) (hide B2) (hide B1) (hide ⟨hDp, by omega, by omega, hdp, dp1, by omega, by omega, by omega, by omega, by omega, Nat.le_trans (Nat.mul_le_mul (Nat.le_refl 36) dp2) (by decide)⟩) (hide er2) (hide hr2))
          clear er2 hr2 dp1 dp2 hDD hDp B1 B2 B3 B4 hf1 hf2 hd3
          obtain ⟨Wq, hWq⟩ : ∃ Wq, Wq = wr.alloc (.cells #[.int .i64 u, .int .i64 v] 26) := ⟨_, rfl⟩
          have HBq := hide (show Below wr.heap.size wr Wq from by rw [hWq]; exact (Below.refl _ _).alloc (Nat.le_refl _) _)
          have HTq := hide (show Wq.heap[wr.heap.size]? = some (.cells #[.int .i64 u, .int .i64 v] 26 (0, 0)) from by rw [hWq]; exact heap_new_ _ _)
          have HSq := hide (((unhide HBq).block _ (Array.getElem?_eq_some_iff.1 (unhide HSk)).1).trans (unhide HSk))
          have HPq := hide ((unhide HPk).below (unhide HBq) (unhide HPk).lt)
          have HB5q := hide ((unhide HBk).trans ((unhide HBq).mono (unhide HBk).size))
          have HSA := hide (show ∀ W', Below Wq.heap.size Wq W' → ((W'.cell? ⟨w5.heap.size, 0, none⟩ = some (.int .i64 sn) ∧ W'.cell? ⟨w5.heap.size, 1, none⟩ = some (.int .i64 sd)) ∧ (W'.cell? ⟨wr.heap.size, 0, none⟩ = some (.int .i64 u) ∧ W'.cell? ⟨wr.heap.size, 1, none⟩ = some (.int .i64 v)) ∧ (W'.cell? ⟨g, k * 2, none⟩ = some (.int .i64 a) ∧ W'.cell? ⟨g, k * 2 + 1, none⟩ = some (.int .i64 b))) from fun W' hb =>
            ⟨two_at ((hb.block _ (Array.getElem?_eq_some_iff.1 (unhide HSq)).1).trans (unhide HSq)), two_at ((hb.block _ (Array.getElem?_eq_some_iff.1 (unhide HTq)).1).trans (unhide HTq)), (unhide HCE) W' ((unhide HPq).below hb (unhide HPq).lt)⟩)
          have hWq' : wr.alloc (.cells #[.int .i64 u, .int .i64 v] 26) = Wq := hWq.symm
          clear hWq
          go_upto_region 12 with fail
          clear hWq' e1 e2
          have HWqd := hide (show Below Wq.heap.size Wq Wq.drew from (Below.refl _ _).drew)
          refine wp_region_quietE 10 9 (fun W' => Below Wq.heap.size Wq W') (by kernel_rfl) (by kernel_rfl) (unhide HWqd) (fun o ho => by obtain rfl := Option.some.inj ho; exact loose_extract _ _ _ _ _ _ _) (fun o ho => by obtain rfl := Option.some.inj ho; exact fun _ _ _ _ h => h) ?_
          simp only [List.take_succ_cons, List.take_zero, List.drop_succ_cons, List.drop_zero]
          repeat (first
            | go_big_quiet_skip
            | (go_big_quiet_want
               apply Exists.intro
               refine ⟨fun W hW => ?_, ?_⟩
               · obtain ⟨⟨s0, s1⟩, ⟨k1, k2⟩, ⟨k3, k4⟩⟩ := (unhide HSA) W hW
                 go_simp
                 first | rfl | exact ((unhide C2) W).mono fun _ _ h => ⟨h.1, hW.trans (h.2.mono hW.size)⟩
               go_big_quiet_on
               simp only [Act.put, List.setIfInBounds_toArray, List.set_cons_zero, List.set_cons_succ]))
          refine wpQuiet_nil ?_
          intro wc hWc
          have HWc := hide hWc; clear hWc
          have HSc := hide (((unhide HWc).block _ (Array.getElem?_eq_some_iff.1 (unhide HSq)).1).trans (unhide HSq))
          obtain ⟨sc0, sc1⟩ := two_at (unhide HSc)
          have f0 := free_at (unhide HSc) 0; have f1 := free_at (unhide HSc) 1
          have HS9 := hide (put2 (unhide HSc) (.int .i64 n2) (.int .i64 m2))
          have HB9 := hide (below_put2 ((unhide HB5q).trans ((unhide HWc).mono (unhide HB5q).size)) (b := w5.heap.size) (Nat.le_refl _) (.int .i64 n2) (.int .i64 m2))
          go_wp2_with fail
          go_roundw
          all_goals first
            | (case rel => exact ⟨k + 1, n2, m2, by omega, by go_num, E2, HS9, HB9⟩)
            | (case measure => simp [intOf]; omega)
        · obtain rfl : n' = k := by omega
          have hv : tn = sn ∧ td = sd := by
            have h1 := HF.out
            rw [← hlen.out, straight_sum HA.out hdp] at h1
            have h2 := HA.out.fr
            exact ⟨h2.1.symm.trans h1.1, h2.2.symm.trans h1.2⟩
          obtain ⟨rfl, rfl⟩ := hv
          have heq := eql26 tn td tn td
          rw [decide_eq_true rfl] at heq
          obtain ⟨s0, s1⟩ := two_at (unhide HSk)
          obtain ⟨⟨x0, x1, x2⟩, ⟨t0, t1⟩⟩ := (unhide HS5) _ (unhide HBk)
          go_wp2_with fail
          refine (awake_any _).mono ?_
          rintro e w9 ⟨rfl, b9⟩
          have HBz := hide ((unhide HB5).trans ((unhide HBk).mono (unhide HB5).size))
          have HB9 := hide ((unhide HBz).trans (b9.mono (unhide HBz).size))
          clear b9
          go_wp2_with fail
          go_ret
          exact ⟨rfl, unhide HB9⟩
end Go.Proofs.Ytdbflcfjjoocgaa
