/-
  CurvesBetween: the walk.
-/
import Derived.Test.YtdbflcfjjoocgaaK2
import Derived.Test.YtdbflcfjjoocgaaJ5
import Derived.Test.YtdbflcfjjoocgaaQ4
namespace Go.Proofs.Ytdbflcfjjoocgaa
open Go.RowKit

theorem run_min_ (x y : Int) (W : World) : (Builtin.min_ #[3, 3] 3 #[.int .i64 x, .int .i64 y]).run Try.prog W = .ok (.int .i64 (min x y)) W := by
  rw [run_min_int2 (P := Try.prog)]
  congr 2
  split <;> omega
theorem run_max_ (x y : Int) (W : World) : (Builtin.max_ #[3, 3] 3 #[.int .i64 x, .int .i64 y]).run Try.prog W = .ok (.int .i64 (max x y)) W := by
  rw [run_max_int2 (P := Try.prog)]
  congr 2
  split <;> omega
/-- What lies over a fraction is above 0 just if the fraction is. -/
theorem Fr.pos_iff {q : Rat} {a b : Int} (h : Fr q a b) : 0 < q ↔ 0 < a := by
  have h1 := h.ge_iff 0
  simp only [Int.zero_mul] at h1
  have e : ((0 : Int) : Rat) = 0 := by simp
  rw [e] at h1
  constructor
  · intro hq; rcases Int.lt_or_le 0 a with g | g
    · exact g
    · have := h1.2 g; grind
  · intro ha
    rcases (Rat.le_total : q ≤ 0 ∨ _) with g | g
    · have := h1.1 g; omega
    · refine Rat.lt_of_le_of_ne g fun e2 => ?_
      have := h1.1 (by grind); omega
/-- A sum of parts of numbers that are at least lo is so, too. -/
theorem sum_ge {f P : Nat → Rat} {lo : Rat} (n : Nat) (h0 : ∀ i, i < n → 0 ≤ f i) (h1 : ∀ i, i < n → 0 < f i → lo ≤ P i) : lo * sumF f n ≤ sumF (fun i => f i * P i) n := by
  rw [← sumF_mul]
  refine sumF_le fun i hi => ?_
  by_cases e : 0 < f i
  · have := Rat.mul_le_mul_of_nonneg_left (h1 i hi e) (h0 i hi)
    rw [Rat.mul_comm lo]; exact this
  · have e2 : f i = 0 := by have := h0 i hi; grind
    rw [e2]; grind
theorem sum_le {f P : Nat → Rat} {hi : Rat} (n : Nat) (h0 : ∀ i, i < n → 0 ≤ f i) (h1 : ∀ i, i < n → 0 < f i → P i ≤ hi) : sumF (fun i => f i * P i) n ≤ hi * sumF f n := by
  rw [← sumF_mul]
  refine sumF_le fun i hi' => ?_
  by_cases e : 0 < f i
  · have := Rat.mul_le_mul_of_nonneg_left (h1 i hi' e) (h0 i hi')
    rw [Rat.mul_comm hi]; exact this
  · have e2 : f i = 0 := by have := h0 i hi'; grind
    rw [e2]; grind

set_option maxRecDepth 100000 in
set_option maxHeartbeats 16000000 in
theorem LBetween_any (dg tn td : Int) (A A' : Option Addr) (n c n' c' : Nat) (ks ps : List Int) (w : World) (hk : Ints w w.heap.size A n c ks) (hp : Ints w w.heap.size A' n' c' ps) :
    Calls Try.prog 8 #[.agg #[.int .i64 dg, .slice A n c, .slice A' n' c'], .agg #[.int .i64 tn, .int .i64 td]] w fun e w' => e = .returned (.bool true) ∧ Below w.heap.size w w' := by
  obtain ⟨W0, hW0⟩ : ∃ W0, W0 = (w.alloc (.cells #[.int .i64 dg, .slice A n c, .slice A' n' c'] 24)).alloc (.cells #[.int .i64 tn, .int .i64 td] 26) := ⟨_, rfl⟩
  have HB0 := hide (show Below w.heap.size w W0 from by rw [hW0]; exact ((Below.refl _ w).alloc (Nat.le_refl _) _).alloc (by simp) _)
  have HC0 := hide (show W0.heap[w.heap.size]? = some (.cells #[.int .i64 dg, .slice A n c, .slice A' n' c'] 24 (0, 0)) from by rw [hW0]; exact (Below.heap_alloc _ _ _ (by simp)).trans (heap_new_ w _))
  have HT0 := hide (show W0.heap[w.heap.size + 1]? = some (.cells #[.int .i64 tn, .int .i64 td] 26 (0, 0)) from by
    rw [hW0]; have := heap_new_ (w.alloc (.cells #[.int .i64 dg, .slice A n c, .slice A' n' c'] 24)) (.cells #[.int .i64 tn, .int .i64 td] 26); rwa [World.size_alloc] at this)
  have HI0 := hide ((hk.below (unhide HB0)).more (unhide HB0).size)
  have HJ0 := hide ((hp.below (unhide HB0)).more (unhide HB0).size)
  have hlen := hide hp.len
  have hmp := hp.most; have hcapp := hp.cap
  clear hk hp
  have hW1 : (w.alloc (.cells #[.int .i64 dg, .slice A n c, .slice A' n' c'] 24)).alloc (.cells #[.int .i64 tn, .int .i64 td] 26) = W0 := hW0.symm
  clear hW0
  have HS0 := hide (show ∀ W', Below W0.heap.size W0 W' → (W'.cell? ⟨w.heap.size, 0, none⟩ = some (.int .i64 dg) ∧ W'.cell? ⟨w.heap.size, 1, none⟩ = some (.slice A n c) ∧ W'.cell? ⟨w.heap.size, 2, none⟩ = some (.slice A' n' c')) ∧ (W'.cell? ⟨w.heap.size + 1, 0, none⟩ = some (.int .i64 tn) ∧ W'.cell? ⟨w.heap.size + 1, 1, none⟩ = some (.int .i64 td)) from fun W' hb =>
    ⟨three_at ((hb.block _ (Array.getElem?_eq_some_iff.1 (unhide HC0)).1).trans (unhide HC0)), two_at ((hb.block _ (Array.getElem?_eq_some_iff.1 (unhide HT0)).1).trans (unhide HT0))⟩)
  have HX0 := hide (show ∀ W', Below W0.heap.size W0 W' → Ints W' W'.heap.size A n c ks ∧ Ints W' W'.heap.size A' n' c' ps from fun W' hb => ⟨((unhide HI0).below hb).more hb.size, ((unhide HJ0).below hb).more hb.size⟩)
  rcases hV : okT dg ks ps tn td
  · have HV := hide hV
    have HVT := hide (show okT dg (ks.take 23) (ps.take 23) tn td = false from by rw [okT_take]; exact hV)
    clear hV
    go_enter Try.func8, Try.ntmps8
    go_upto_region 1 with fail
    clear hW1
    have HWd1 := hide (show Below W0.heap.size W0 W0.drew from (Below.refl W0.heap.size W0).drew)
    have HWe1 := hide ((unhide HWd1).alloc (unhide HWd1).size (.cells #[.int .i64 0, .int .i64 0] 26))
    go_cut [5, 6] (fun sx se wz => ∃ R : Nat, sx = .pointer (some ⟨R, 0, none⟩) ∧ se = .int .i64 2 ∧ W0.heap.size ≤ R ∧ Hid (wz.heap[R]? = some (.cells #[.int .i64 0, .int .i64 0] 26 (0, 0))) ∧ Hid (Below W0.heap.size W0 wz))
    case first =>
      obtain ⟨⟨x0, x1, x2⟩, ⟨t0, t1⟩⟩ := (unhide HS0) _ (unhide HWd1)
      go_region_held3 (fun W' => (W'.cell? ⟨w.heap.size, 0, none⟩ = some (.int .i64 dg) ∧ W'.cell? ⟨w.heap.size, 1, none⟩ = some (.slice A n c) ∧ W'.cell? ⟨w.heap.size, 2, none⟩ = some (.slice A' n' c')) ∧ (W'.cell? ⟨w.heap.size + 1, 0, none⟩ = some (.int .i64 tn) ∧ W'.cell? ⟨w.heap.size + 1, 1, none⟩ = some (.int .i64 td))) (first | exact ⟨⟨x0, x1, x2⟩, ⟨t0, t1⟩⟩ | exact (unhide HS0) _ (unhide HWe1) | exact (unhide HS0) _ (unhide HWa) | exact (unhide HS0) _ ((unhide HWa).alloc (unhide HWa).size _) | exact (unhide HS0) _ (unhide HWb) | exact (unhide HS0) _ ((unhide HWb).alloc (unhide HWb).size _) | exact (unhide HS0) _ (below_put2 (unhide HWb) HRl _ _)) (first
        | (go_at_call 15; refine (Of_any dg A A' n c n' c' ks ps _ ((unhide HX0) _ (unhide HWd1)).1 ((unhide HX0) _ (unhide HWd1)).2).mono ?_; rintro e wa ⟨A1, n1, c1, A2', n2', c2', rfl, i1, i2, ba⟩; have HWa := hide ((unhide HWd1).trans (ba.mono (unhide HWd1).size)); have HI1 := hide i1; have HI2 := hide i2; clear ba i1 i2)
        | (go_at_call 15; refine (Of_any dg A A' n c n' c' ks ps _ ((unhide HX0) _ (unhide HWe1)).1 ((unhide HX0) _ (unhide HWe1)).2).mono ?_; rintro e wa ⟨A1, n1, c1, A2', n2', c2', rfl, i1, i2, ba⟩; have HWa := hide ((unhide HWe1).trans (ba.mono (unhide HWe1).size)); have HI1 := hide i1; have HI2 := hide i2; have HR := hide (show wa.heap[W0.heap.size]? = some (.cells #[.int .i64 0, .int .i64 0] 26 (0, 0)) from (ba.block _ (Array.getElem?_eq_some_iff.1 (heap_new_ W0.drew (.cells #[.int .i64 0, .int .i64 0] 26))).1).trans (heap_new_ W0.drew (.cells #[.int .i64 0, .int .i64 0] 26))); have HRl : W0.heap.size ≤ W0.heap.size := Nat.le_refl _; clear ba i1 i2)
        | (go_at_call 16; refine ((fun A1 A2 n1 c1 n2 c2 W h1 h2 => Value_no dg tn td A1 A2 n1 c1 n2 c2 (ks.take 23) (ps.take 23) W h1 h2 HVT) _ _ _ _ _ _ wa (unhide HI1) (unhide HI2)).mono ?_; rintro e wb ⟨rfl, bb⟩; first
            | (have HRb := hide ((bb.block _ (Array.getElem?_eq_some_iff.1 (unhide HR)).1).trans (unhide HR)); have HWb := hide ((unhide HWa).trans (bb.mono (unhide HWa).size)); have f0 := free_at (unhide HRb) 0; have f1 := free_at (unhide HRb) 1; obtain ⟨g0, g1⟩ := two_at (unhide HRb); clear bb)
            | (have HWb := hide ((unhide HWa).trans (bb.mono (unhide HWa).size)); clear bb))
        | (go_at_call 16; refine ((fun A1 A2 n1 c1 n2 c2 W h1 h2 => Value_no dg tn td A1 A2 n1 c1 n2 c2 (ks.take 23) (ps.take 23) W h1 h2 HVT) _ _ _ _ _ _ (wa.alloc (.cells #[.int .i64 0, .int .i64 0] 26)) (((unhide HI1).below ((Below.refl _ _).alloc (Nat.le_refl _) _)).more (by simp)) (((unhide HI2).below ((Below.refl _ _).alloc (Nat.le_refl _) _)).more (by simp))).mono ?_; rintro e wb ⟨rfl, bb⟩; have HWb := hide (((unhide HWa).alloc (unhide HWa).size (.cells #[.int .i64 0, .int .i64 0] 26)).trans (bb.mono ((unhide HWa).alloc (unhide HWa).size (.cells #[.int .i64 0, .int .i64 0] 26)).size)); have HRb := hide ((bb.block _ (Array.getElem?_eq_some_iff.1 (heap_new_ wa (.cells #[.int .i64 0, .int .i64 0] 26))).1).trans (heap_new_ wa (.cells #[.int .i64 0, .int .i64 0] 26))); have HRl := (unhide HWa).size; have f0 := free_at (unhide HRb) 0; have f1 := free_at (unhide HRb) 1; obtain ⟨g0, g1⟩ := two_at (unhide HRb); clear bb))
      all_goals (go_wp2_with fail; go_meet; first
        | exact ⟨_, rfl, rfl, (unhide HWb).size, heap_new_ _ _, (unhide HWb).alloc (unhide HWb).size _⟩
        | exact ⟨_, rfl, rfl, HRl, put2 (unhide HRb) _ _, below_put2 (unhide HWb) HRl _ _⟩)
    case rest =>
      obtain ⟨R1, rfl, rfl, HRl1, HR1, hbz⟩ := hcut
      obtain ⟨wz1, ewz⟩ : ∃ x, x = wc := ⟨_, rfl⟩
      subst ewz
      have hbw := unhide hbz
      have HB1 := hide ((unhide HB0).trans (hbw.mono (unhide HB0).size))
      clear hbz hbw
      go_wp2_with fail
      refine (awake_any _).mono ?_
      rintro e w9 ⟨rfl, b9⟩
      have HB9 := hide ((unhide HB1).trans (b9.mono (unhide HB1).size))
      clear b9
      go_wp2_with fail
      go_ret
      exact ⟨rfl, unhide HB9⟩
  · obtain ⟨d, p, t, rfl, hat⟩ := okT_at hV
    have HV := hide hV
    have HA := hide hat
    have htk := hat.ok.takes.1
    have htp := hat.ok.takes.2
    obtain ⟨vn, vd, hv⟩ := exists_fr (VQ d ks ps p t)
    have HVQ := hide hv
    have HTK := hide htk; have HTP := hide htp
    have hn8 := hat.ok.n8; rw [hlen.out] at hn8
    clear hV hat htk htp hv
    go_enter Try.func8, Try.ntmps8
    go_upto_region 1 with fail
    clear hW1
    have HWd1 := hide (show Below W0.heap.size W0 W0.drew from (Below.refl W0.heap.size W0).drew)
    have HWe1 := hide ((unhide HWd1).alloc (unhide HWd1).size (.cells #[.int .i64 0, .int .i64 0] 26))
    go_cut [5, 6] (fun sx se wz => ∃ R : Nat, sx = .pointer (some ⟨R, 0, none⟩) ∧ se = .int .i64 0 ∧ W0.heap.size ≤ R ∧ Hid (wz.heap[R]? = some (.cells #[.int .i64 vn, .int .i64 vd] 26 (0, 0))) ∧ Hid (Below W0.heap.size W0 wz))
    case first =>
      obtain ⟨⟨x0, x1, x2⟩, ⟨t0, t1⟩⟩ := (unhide HS0) _ (unhide HWd1)
      go_region_held3 (fun W' => (W'.cell? ⟨w.heap.size, 0, none⟩ = some (.int .i64 (d : Int)) ∧ W'.cell? ⟨w.heap.size, 1, none⟩ = some (.slice A n c) ∧ W'.cell? ⟨w.heap.size, 2, none⟩ = some (.slice A' n' c')) ∧ (W'.cell? ⟨w.heap.size + 1, 0, none⟩ = some (.int .i64 tn) ∧ W'.cell? ⟨w.heap.size + 1, 1, none⟩ = some (.int .i64 td))) (first | exact ⟨⟨x0, x1, x2⟩, ⟨t0, t1⟩⟩ | exact (unhide HS0) _ (unhide HWe1) | exact (unhide HS0) _ (unhide HWa) | exact (unhide HS0) _ ((unhide HWa).alloc (unhide HWa).size _) | exact (unhide HS0) _ (unhide HWb) | exact (unhide HS0) _ ((unhide HWb).alloc (unhide HWb).size _) | exact (unhide HS0) _ (below_put2 (unhide HWb) HRl _ _)) (first
        | (go_at_call 15; refine (Of_any (d : Int) A A' n c n' c' ks ps _ ((unhide HX0) _ (unhide HWd1)).1 ((unhide HX0) _ (unhide HWd1)).2).mono ?_; rintro e wa ⟨A1, n1, c1, A2', n2', c2', rfl, i1, i2, ba⟩; rw [HTK.out] at i1; rw [HTP.out] at i2; have HWa := hide ((unhide HWd1).trans (ba.mono (unhide HWd1).size)); have HI1 := hide i1; have HI2 := hide i2; clear ba i1 i2)
        | (go_at_call 15; refine (Of_any (d : Int) A A' n c n' c' ks ps _ ((unhide HX0) _ (unhide HWe1)).1 ((unhide HX0) _ (unhide HWe1)).2).mono ?_; rintro e wa ⟨A1, n1, c1, A2', n2', c2', rfl, i1, i2, ba⟩; rw [HTK.out] at i1; rw [HTP.out] at i2; have HWa := hide ((unhide HWe1).trans (ba.mono (unhide HWe1).size)); have HI1 := hide i1; have HI2 := hide i2; have HR := hide (show wa.heap[W0.heap.size]? = some (.cells #[.int .i64 0, .int .i64 0] 26 (0, 0)) from (ba.block _ (Array.getElem?_eq_some_iff.1 (heap_new_ W0.drew (.cells #[.int .i64 0, .int .i64 0] 26))).1).trans (heap_new_ W0.drew (.cells #[.int .i64 0, .int .i64 0] 26))); have HRl : W0.heap.size ≤ W0.heap.size := Nat.le_refl _; clear ba i1 i2)
        | (go_at_call 16; refine ((fun A1 A2 n1 c1 n2 c2 W h1 h2 => Value_ok d p tn td t A1 A2 n1 c1 n2 c2 ks ps W h1 h2 HA vn vd HVQ) _ _ _ _ _ _ wa (unhide HI1) (unhide HI2)).mono ?_; rintro e wb ⟨rfl, bb⟩; first
            | (have HRb := hide ((bb.block _ (Array.getElem?_eq_some_iff.1 (unhide HR)).1).trans (unhide HR)); have HWb := hide ((unhide HWa).trans (bb.mono (unhide HWa).size)); have f0 := free_at (unhide HRb) 0; have f1 := free_at (unhide HRb) 1; obtain ⟨g0, g1⟩ := two_at (unhide HRb); clear bb)
            | (have HWb := hide ((unhide HWa).trans (bb.mono (unhide HWa).size)); clear bb))
        | (go_at_call 16; refine ((fun A1 A2 n1 c1 n2 c2 W h1 h2 => Value_ok d p tn td t A1 A2 n1 c1 n2 c2 ks ps W h1 h2 HA vn vd HVQ) _ _ _ _ _ _ (wa.alloc (.cells #[.int .i64 0, .int .i64 0] 26)) (((unhide HI1).below ((Below.refl _ _).alloc (Nat.le_refl _) _)).more (by simp)) (((unhide HI2).below ((Below.refl _ _).alloc (Nat.le_refl _) _)).more (by simp))).mono ?_; rintro e wb ⟨rfl, bb⟩; have HWb := hide (((unhide HWa).alloc (unhide HWa).size (.cells #[.int .i64 0, .int .i64 0] 26)).trans (bb.mono ((unhide HWa).alloc (unhide HWa).size (.cells #[.int .i64 0, .int .i64 0] 26)).size)); have HRb := hide ((bb.block _ (Array.getElem?_eq_some_iff.1 (heap_new_ wa (.cells #[.int .i64 0, .int .i64 0] 26))).1).trans (heap_new_ wa (.cells #[.int .i64 0, .int .i64 0] 26))); have HRl := (unhide HWa).size; have f0 := free_at (unhide HRb) 0; have f1 := free_at (unhide HRb) 1; obtain ⟨g0, g1⟩ := two_at (unhide HRb); clear bb))
      all_goals (go_wp2_with fail; go_meet; first
        | exact ⟨_, rfl, rfl, (unhide HWb).size, heap_new_ _ _, (unhide HWb).alloc (unhide HWb).size _⟩
        | exact ⟨_, rfl, rfl, HRl, put2 (unhide HRb) _ _, below_put2 (unhide HWb) HRl _ _⟩)
    case rest =>
      obtain ⟨R1, rfl, rfl, HRl1, HR1, hbz⟩ := hcut
      obtain ⟨wz1, ewz⟩ : ∃ x, x = wc := ⟨_, rfl⟩
      subst ewz
      have hbw := unhide hbz
      have HC1 := hide ((hbw.block _ (Array.getElem?_eq_some_iff.1 (unhide HC0)).1).trans (unhide HC0))
      have HT1 := hide ((hbw.block _ (Array.getElem?_eq_some_iff.1 (unhide HT0)).1).trans (unhide HT0))
      have HI1 := hide (((unhide HI0).below hbw).more hbw.size)
      have HJ1 := hide (((unhide HJ0).below hbw).more hbw.size)
      have HB1 := hide ((unhide HB0).trans (hbw.mono (unhide HB0).size))
      clear hbz hbw HC0 HT0 HI0 HJ0 HS0 HX0 HB0
      have HS1 := hide (show ∀ W', Below wz1.heap.size wz1 W' → (W'.cell? ⟨w.heap.size, 0, none⟩ = some (.int .i64 (d : Int)) ∧ W'.cell? ⟨w.heap.size, 1, none⟩ = some (.slice A n c) ∧ W'.cell? ⟨w.heap.size, 2, none⟩ = some (.slice A' n' c')) ∧ (W'.cell? ⟨w.heap.size + 1, 0, none⟩ = some (.int .i64 tn) ∧ W'.cell? ⟨w.heap.size + 1, 1, none⟩ = some (.int .i64 td)) from fun W' hb =>
        ⟨three_at ((hb.block _ (Array.getElem?_eq_some_iff.1 (unhide HC1)).1).trans (unhide HC1)), two_at ((hb.block _ (Array.getElem?_eq_some_iff.1 (unhide HT1)).1).trans (unhide HT1))⟩)
      have HX1 := hide (show ∀ W', Below wz1.heap.size wz1 W' → Ints W' W'.heap.size A n c ks ∧ Ints W' W'.heap.size A' n' c' ps from fun W' hb => ⟨((unhide HI1).below hb).more hb.size, ((unhide HJ1).below hb).more hb.size⟩)
      obtain ⟨⟨x0, x1, x2⟩, ⟨t0, t1⟩⟩ := (unhide HS1) _ (Below.refl _ _)
      go_wp2_with fail
      refine (fine_any (d : Int) tn td _ _ _ _ _ _ ks ps _ ((unhide HX1) _ (Below.refl _ _)).1 ((unhide HX1) _ (Below.refl _ _)).2 true HV).mono ?_
      rintro e w2 ⟨rfl, b2⟩
      have HR2 := hide ((b2.block _ (Array.getElem?_eq_some_iff.1 (unhide HR1)).1).trans (unhide HR1))
      have HC2 := hide ((b2.block _ (Array.getElem?_eq_some_iff.1 (unhide HC1)).1).trans (unhide HC1))
      have HT2 := hide ((b2.block _ (Array.getElem?_eq_some_iff.1 (unhide HT1)).1).trans (unhide HT1))
      have HI2 := hide (((unhide HI1).below b2).more b2.size)
      have HJ2 := hide (((unhide HJ1).below b2).more b2.size)
      have HB2 := hide ((unhide HB1).trans (b2.mono (unhide HB1).size))
      clear b2 x0 x1 x2 t0 t1 HC1 HT1 HI1 HJ1 HS1 HX1 HB1 HR1
      have HS2 := hide (show ∀ W', Below w2.heap.size w2 W' → (W'.cell? ⟨w.heap.size, 0, none⟩ = some (.int .i64 (d : Int)) ∧ W'.cell? ⟨w.heap.size, 1, none⟩ = some (.slice A n c) ∧ W'.cell? ⟨w.heap.size, 2, none⟩ = some (.slice A' n' c')) ∧ (W'.cell? ⟨w.heap.size + 1, 0, none⟩ = some (.int .i64 tn) ∧ W'.cell? ⟨w.heap.size + 1, 1, none⟩ = some (.int .i64 td)) from fun W' hb =>
        ⟨three_at ((hb.block _ (Array.getElem?_eq_some_iff.1 (unhide HC2)).1).trans (unhide HC2)), two_at ((hb.block _ (Array.getElem?_eq_some_iff.1 (unhide HT2)).1).trans (unhide HT2))⟩)
      have HX2 := hide (show ∀ W', Below w2.heap.size w2 W' → Ints W' W'.heap.size A n c ks ∧ Ints W' W'.heap.size A' n' c' ps from fun W' hb => ⟨((unhide HI2).below hb).more hb.size, ((unhide HJ2).below hb).more hb.size⟩)
      go_upto_region 4 with fail
      have HWd4 := hide (show Below w2.heap.size w2 w2.drew from (Below.refl w2.heap.size w2).drew)
      go_cut [7, 8] (fun sx se wz => ∃ (g : Nat) (L : List F), sx = .slice (some ⟨g, 0, none⟩) n' n' ∧ se = .int .i64 0 ∧ Hid (PB wz g 26 L) ∧ L.length = n' ∧ Hid (HasQ L (bas (KQ ks) p t d) 0 n') ∧ Hid (Below w2.heap.size w2 wz))
      case first =>
        obtain ⟨⟨x0, x1, x2⟩, ⟨t0, t1⟩⟩ := (unhide HS2) _ (unhide HWd4)
        go_region_held3 (fun W' => (W'.cell? ⟨w.heap.size, 0, none⟩ = some (.int .i64 (d : Int)) ∧ W'.cell? ⟨w.heap.size, 1, none⟩ = some (.slice A n c) ∧ W'.cell? ⟨w.heap.size, 2, none⟩ = some (.slice A' n' c')) ∧ (W'.cell? ⟨w.heap.size + 1, 0, none⟩ = some (.int .i64 tn) ∧ W'.cell? ⟨w.heap.size + 1, 1, none⟩ = some (.int .i64 td))) (first | exact ⟨⟨x0, x1, x2⟩, ⟨t0, t1⟩⟩ | exact (unhide HS2) _ (unhide HWa) | exact (unhide HS2) _ (unhide HWb)) (first
          | (go_at_call 15; refine (Of_any (d : Int) A A' n c n' c' ks ps _ ((unhide HX2) _ (unhide HWd4)).1 ((unhide HX2) _ (unhide HWd4)).2).mono ?_; rintro e wa ⟨A1, n1, c1, A2', n2', c2', rfl, i1, i2, ba⟩; rw [HTK.out] at i1; rw [HTP.out] at i2; obtain rfl : n' = n2' := hlen.out.symm.trans i2.len; have HWa := hide ((unhide HWd4).trans (ba.mono (unhide HWd4).size)); have HI1 := hide i1; have HI2 := hide i2; clear ba i1 i2)
          | (go_at_call 14; refine ((fun A1 A2 n1 c1 n2 c2 W h1 h2 => Basic_ok d p tn td t A1 A2 n1 c1 n2 c2 ks ps W h1 h2 HA) _ _ _ _ _ _ wa (unhide HI1) (unhide HI2)).mono ?_; rintro e wb ⟨g, L, rfl, hpb, hL, HQ, bb⟩; have HWb := hide ((unhide HWa).trans (bb.mono (unhide HWa).size)); clear bb))
        all_goals (go_wp2_with fail; go_meet; exact ⟨g, L, rfl, rfl, hpb, hL, HQ, HWb⟩)
      case rest =>
        obtain ⟨g, L, rfl, rfl, HPB, hL, HQ, hbz⟩ := hcut
        obtain ⟨wz4, ewz⟩ : ∃ x, x = wc := ⟨_, rfl⟩
        subst ewz
        have hbw := unhide hbz
        have HR4 := hide ((hbw.block _ (Array.getElem?_eq_some_iff.1 (unhide HR2)).1).trans (unhide HR2))
        have HC4 := hide ((hbw.block _ (Array.getElem?_eq_some_iff.1 (unhide HC2)).1).trans (unhide HC2))
        have HT4 := hide ((hbw.block _ (Array.getElem?_eq_some_iff.1 (unhide HT2)).1).trans (unhide HT2))
        have HI4 := hide (((unhide HI2).below hbw).more hbw.size)
        have HJ4 := hide (((unhide HJ2).below hbw).more hbw.size)
        have HB4 := hide ((unhide HB2).trans (hbw.mono (unhide HB2).size))
        clear hbz hbw HC2 HT2 HI2 HJ2 HS2 HX2 HB2 HR2
        have HL := hide hL; clear hL
        -- the sum's own block
        obtain ⟨W7, hW7⟩ : ∃ W7, W7 = wz4.alloc (.cells #[.int .i64 0, .int .i64 1] 26) := ⟨_, rfl⟩
        have hb7 : Below wz4.heap.size wz4 W7 := by rw [hW7]; exact (Below.refl _ _).alloc (Nat.le_refl _) _
        have HS7 := hide (show W7.heap[wz4.heap.size]? = some (.cells #[.int .i64 0, .int .i64 1] 26 (0, 0)) from by rw [hW7]; exact heap_new_ _ _)
        have HP7 := hide ((unhide HPB).below hb7 (unhide HPB).lt)
        have HB7 := hide hb7
        have hW8 : wz4.alloc (.cells #[.int .i64 0, .int .i64 1] 26) = W7 := hW7.symm
        have HLT := hide (show g < wz4.heap.size from (unhide HPB).lt)
        clear hW7 hb7
        obtain ⟨x0, x1, x2⟩ := three_at (unhide HC4)
        go_upto_region 8 with fail
        clear hW8 x0 x1 x2
        obtain ⟨x0, x1, x2⟩ := three_at (((unhide HB7).block _ (Array.getElem?_eq_some_iff.1 (unhide HC4)).1).trans (unhide HC4))
        go_wp2_with fail
        clear x0 x1 x2
        go_loopw [10, 11, 12, 13, 14, 56] (fun s10 s11 _ _ _ s56 wr => ∃ (k : Nat) (lo hi sn sd : Int), k ≤ n' ∧ s10 = .int .i64 lo ∧ s11 = .int .i64 hi ∧ s56 = .int .i64 (k : Int) ∧ Hid (Fr (sumF (fun i => bas (KQ ks) p t d i * PQ ps i) k) sn sd) ∧ Hid (wr.heap[wz4.heap.size]? = some (.cells #[.int .i64 sn, .int .i64 sd] 26 (0, 0))) ∧ Hid (Below wz4.heap.size wz4 wr) ∧ Hid ((-50 ≤ lo ∧ lo ≤ 50) ∧ (-50 ≤ hi ∧ hi ≤ 50) ∧ ∀ i, i < k → 0 < bas (KQ ks) p t d i → lo ≤ nth ps i ∧ nth ps i ≤ hi)) (fun _ _ _ _ _ s56 _ => n' - (intOf s56).toNat)
        case atStart => exact ⟨0, 50, -50, 0, 1, Nat.zero_le _, rfl, rfl, rfl, hide ⟨rfl, rfl⟩, HS7, HB7, hide ⟨by omega, by omega, fun i h => absurd h (Nat.not_lt_zero i)⟩⟩
        case round =>
          obtain ⟨k, lo, hi, sn, sd, hk, rfl, rfl, rfl, HF, HSk, HBk, HLo⟩ := hrel
          clear HS7 HP7 HB7
          obtain ⟨x0, x1, x2⟩ := three_at (((unhide HBk).block _ (Array.getElem?_eq_some_iff.1 (unhide HC4)).1).trans (unhide HC4))
          by_cases hlt : k < n'
          · have hk8 : (k : Int) < ((n' : Nat) : Int) := by omega
            have hk0 : (0 : Int) ≤ (k : Int) := by omega
            have HPk := hide ((unhide HPB).below (unhide HBk) HLT.out)
            have hf1 := HQ.out k (Nat.zero_le _) hlt
            have hcell := fun (W : World) (hp : PB W g 26 L) => hp.cell (k := k) (by rw [HL.out]; omega)
            obtain ⟨⟨a, b⟩, ea⟩ : ∃ f, fth L k = f := ⟨_, rfl⟩
            rw [ea] at hf1 hcell
            simp only at hf1 hcell
            clear ea
            have HCE := hide hcell; clear hcell
            have HPos := hide (show 0 < bas (KQ ks) p t d k ↔ 0 < a from Fr.pos_iff hf1)
            obtain ⟨bp, off, rfl, hbp, e1⟩ := ((unhide HJ4).below (unhide HBk)).at_ k hlt
            obtain ⟨z, ez⟩ : ∃ z, nth ps k = z := ⟨_, rfl⟩
            rw [ez] at e1
            obtain ⟨r2, er2⟩ : ∃ r, sumF (fun i => bas (KQ ks) p t d i * PQ ps i) k + bas (KQ ks) p t d k * PQ ps k = r := ⟨_, rfl⟩
            obtain ⟨n2, m2, hr2⟩ := exists_fr r2
            have E2 := hide (show Fr (sumF (fun i => bas (KQ ks) p t d i * PQ ps i) (k + 1)) n2 m2 from by rw [sumF, er2]; exact hr2)
            have hz := HA.out.ok.pole k (by rw [hlen.out]; exact hlt)
            rw [ez] at hz
            have hzf : Fr (PQ ps k) z 1 := by unfold PQ; rw [ez]; exact ⟨Rat.num_intCast _, by rw [Rat.den_intCast]; rfl⟩
            obtain ⟨dp1, dp2⟩ := HA.out.dpos d (Nat.le_refl _)
            have B1 := HA.out.sm d k (Nat.le_refl _)
            have B2 : Sm 1 50 (PQ ps k) := (Sm.int (nth ps k)).mono (by rw [ez]; omega)
            have B3 := (term_sm HA.out k (by rw [hlen.out]; exact hlt)).mono (show _ ≤ 2000000000000000000 from Nat.le_trans (Nat.mul_le_mul dp2 (Nat.le_refl 50)) (by decide))
            have B4 := (part_sm HA.out k (by rw [hlen.out]; omega)).mono (show _ ≤ 2000000000000000000 from Nat.le_trans (Nat.mul_le_mul (Nat.mul_le_mul dp2 (Nat.le_refl 50)) (show k ≤ 8 by omega)) (by decide))
            have C1 := hide (fun W => LWhole_any z W)
            have C2 := hide (fun W => more_q W HF (hide hf1) (hide hzf) (hide B4) (hide B3) (hide B1) (hide B2) (hide ⟨dp1, by omega, by omega, dp1, Nat.one_pos, by omega, by omega, by omega, by omega, by omega, Nat.le_trans (Nat.mul_le_mul dp2 (Nat.le_refl 50)) (by decide)⟩) (hide er2) (hide hr2))
            have HLo2 := hide (show ∀ lo' hi', (0 < a → lo' ≤ lo ∧ lo' ≤ z ∧ hi ≤ hi' ∧ z ≤ hi') → (¬ 0 < a → lo' = lo ∧ hi' = hi) → ∀ i, i < k + 1 → 0 < bas (KQ ks) p t d i → lo' ≤ nth ps i ∧ nth ps i ≤ hi' from by
              intro lo' hi' g1 g2 i hi1 hi2
              by_cases e : i = k
              · subst e
                obtain ⟨q1, q2, q3, q4⟩ := g1 (HPos.out.1 hi2)
                rw [ez]; exact ⟨q2, q4⟩
              · have := HLo.out.2.2 i (by omega) hi2
                by_cases ga : 0 < a
                · obtain ⟨q1, q2, q3, q4⟩ := g1 ga; omega
                · obtain ⟨q1, q2⟩ := g2 ga; omega)
            have HLB := hide (show (-50 ≤ lo ∧ lo ≤ 50) ∧ (-50 ≤ hi ∧ hi ≤ 50) from ⟨HLo.out.1, HLo.out.2.1⟩)
            have HZ := hide hz
            clear er2 hr2 hz hzf dp1 dp2 B1 B2 B3 B4 hf1 ez HLo HPos
            have HSA := hide (show ∀ W', Below wr.heap.size wr W' → ((W'.cell? ⟨wz4.heap.size, 0, none⟩ = some (.int .i64 sn) ∧ W'.cell? ⟨wz4.heap.size, 1, none⟩ = some (.int .i64 sd)) ∧ (W'.cell? ⟨g, k * 2, none⟩ = some (.int .i64 a) ∧ W'.cell? ⟨g, k * 2 + 1, none⟩ = some (.int .i64 b))) from fun W' hb =>
              ⟨two_at ((hb.block _ (Array.getElem?_eq_some_iff.1 (unhide HSk)).1).trans (unhide HSk)), (unhide HCE) W' ((unhide HPk).below hb (unhide HPk).lt)⟩)
            have HWd := hide (show Below wr.heap.size wr wr.drew from (Below.refl _ _).drew)
            go_upto_region 13 with fail
            clear x0 x1 x2 e1
            refine wp_region_quietE 11 10 (fun W' => Below wr.heap.size wr W') (by kernel_rfl) (by kernel_rfl) (unhide HWd) (fun o ho => by obtain rfl := Option.some.inj ho; exact loose_extract _ _ _ _ _ _ _) (fun o ho => by obtain rfl := Option.some.inj ho; exact fun _ _ _ _ h => h) ?_
            simp only [List.take_succ_cons, List.take_zero, List.drop_succ_cons, List.drop_zero]
            repeat (first
              | go_big_quiet_skip
              | (go_big_quiet_want
                 apply Exists.intro
                 refine ⟨fun W hW => ?_, ?_⟩
                 · obtain ⟨⟨s0, s1⟩, ⟨k1, k2⟩⟩ := (unhide HSA) W hW
                   go_simp
                   first | rfl | exact ((unhide C1) W).mono fun _ _ h => ⟨h.1, hW.trans (h.2.mono hW.size)⟩ | exact ((unhide C2) W).mono fun _ _ h => ⟨h.1, hW.trans (h.2.mono hW.size)⟩
                 go_big_quiet_on
                 simp only [Act.put, List.setIfInBounds_toArray, List.set_cons_zero, List.set_cons_succ]))
            refine wpQuiet_nil ?_
            intro wc hWc
            have HWc := hide hWc; clear hWc
            have HSc := hide (((unhide HWc).block _ (Array.getElem?_eq_some_iff.1 (unhide HSk)).1).trans (unhide HSk))
            obtain ⟨sc0, sc1⟩ := two_at (unhide HSc)
            have f0 := free_at (unhide HSc) 0; have f1 := free_at (unhide HSc) 1
            have HS9 := hide (put2 (unhide HSc) (.int .i64 n2) (.int .i64 m2))
            have HGS : g ≠ wz4.heap.size := by have := HLT.out; omega
            have HP9 := hide (show PB ((wc.setCell ⟨wz4.heap.size, 0, none⟩ (.int .i64 n2)).setCell ⟨wz4.heap.size, 1, none⟩ (.int .i64 m2)) g 26 L from
              (heap_setCell_other _ ⟨wz4.heap.size, 1, none⟩ g _ HGS).trans ((heap_setCell_other _ ⟨wz4.heap.size, 0, none⟩ g _ HGS).trans ((unhide HPk).below (unhide HWc) (unhide HPk).lt)))
            have HB9 := hide (below_put2 ((unhide HBk).trans ((unhide HWc).mono (unhide HBk).size)) (b := wz4.heap.size) (Nat.le_refl _) (.int .i64 n2) (.int .i64 m2))
            obtain ⟨y0, y1⟩ := (unhide HCE) _ (unhide HP9)
            have hmin := run_min_ lo z
            have hmax := run_max_ hi z
            by_cases ha : 0 < a
            · have ha' : decide (0 < a) = true := decide_eq_true ha
              go_wp2_with fail
              go_roundw
              all_goals first
                | (case rel => exact ⟨k + 1, min lo z, max hi z, n2, m2, by omega, rfl, rfl, by go_num, E2, HS9, HB9, hide ⟨by have := HLB.out; have := HZ.out; omega, by have := HLB.out; have := HZ.out; omega, (unhide HLo2) _ _ (fun _ => by omega) (fun h => absurd ha h)⟩⟩)
                | (case measure => simp [intOf]; omega)
            · have ha' : decide (0 < a) = false := decide_eq_false ha
              go_wp2_with fail
              go_roundw
              all_goals first
                | (case rel => exact ⟨k + 1, lo, hi, n2, m2, by omega, rfl, rfl, by go_num, E2, HS9, HB9, hide ⟨HLB.out.1, HLB.out.2, (unhide HLo2) _ _ (fun h => absurd h ha) (fun _ => ⟨rfl, rfl⟩)⟩⟩)
                | (case measure => simp [intOf]; omega)
          · obtain rfl : n' = k := by omega
            have hv : vn = sn ∧ vd = sd := by
              have h1 := HF.out; have h2 := HVQ.out
              rw [VQ, hlen.out] at h2
              exact ⟨h2.1.symm.trans h1.1, h2.2.symm.trans h1.2⟩
            obtain ⟨rfl, rfl⟩ := hv
            have hbnd : lo * vd ≤ vn ∧ vn ≤ hi * vd := by
              have h2 := HVQ.out
              have pn : p < n' := by have := HA.out.pl.lt; rw [hlen.out] at this; exact this
              have hs := bas_sum HA.out.piece d n' HA.out.dp pn
              have h0 : ∀ i, i < n' → 0 ≤ bas (KQ ks) p t d i := fun i _ => bas_nonneg HA.out.piece d i
              have g1 := sum_ge (f := fun i => bas (KQ ks) p t d i) (P := PQ ps) (lo := (lo : Rat)) n' h0 (fun i hi hb => by unfold PQ; rw [Rat.intCast_le_intCast]; exact (HLo.out.2.2 i hi hb).1)
              have g2 := sum_le (f := fun i => bas (KQ ks) p t d i) (P := PQ ps) (hi := (hi : Rat)) n' h0 (fun i hi hb => by unfold PQ; rw [Rat.intCast_le_intCast]; exact (HLo.out.2.2 i hi hb).2)
              rw [hs, Rat.mul_one] at g1 g2
              have e : VQ d ks ps p t = sumF (fun i => bas (KQ ks) p t d i * PQ ps i) n' := by rw [VQ, hlen.out]
              rw [← e] at g1 g2
              exact ⟨(h2.le_iff lo).1 g1, (h2.ge_iff hi).1 g2⟩
            have hvd : 0 < vd ∧ vd ≤ 5159780352 := by
              obtain ⟨dp1, dp2⟩ := HA.out.dpos d (Nat.le_refl _)
              have h2 := (part_sm HA.out n' (by rw [hlen.out]; exact Nat.le_refl _)).den_le dp1
              rw [HF.out.2.symm]
              exact ⟨by have := HF.out.pos; rw [HF.out.2] at *; exact this, by omega⟩
            have hlb := mul_bd (M := 50) (N := 5159780352) (show -50 ≤ lo ∧ lo ≤ 50 from HLo.out.1) (show -5159780352 ≤ vd ∧ vd ≤ 5159780352 by omega)
            have hhb := mul_bd (M := 50) (N := 5159780352) (show -50 ≤ hi ∧ hi ≤ 50 from HLo.out.2.1) (show -5159780352 ≤ vd ∧ vd ≤ 5159780352 by omega)
            have w1 : IntKind.i64.wrap (lo * vd) = lo * vd := IntWalk.i64_in _ (by omega)
            have w2 : IntKind.i64.wrap (hi * vd) = hi * vd := IntWalk.i64_in _ (by omega)
            have d1 : decide (lo * vd ≤ vn) = true := decide_eq_true hbnd.1
            have d2 : decide (vn ≤ hi * vd) = true := decide_eq_true hbnd.2
            have d1' : decide (IntKind.i64.wrap (lo * vd) ≤ vn) = true := by rw [w1]; exact d1
            have d2' : decide (vn ≤ IntKind.i64.wrap (hi * vd)) = true := by rw [w2]; exact d2
            have heq := eql26 vn vd vn vd
            rw [decide_eq_true rfl] at heq
            obtain ⟨s0, s1⟩ := two_at (unhide HSk)
            obtain ⟨r0, r1⟩ := two_at (((unhide HBk).block _ (Array.getElem?_eq_some_iff.1 (unhide HR4)).1).trans (unhide HR4))
            clear hlb hhb hbnd
            go_wp2_with fail
            refine (awake_any _).mono ?_
            rintro e w9 ⟨rfl, b9⟩
            have HB9 := hide (((unhide HB4).trans ((unhide HBk).mono (unhide HB4).size)).trans (b9.mono ((unhide HB4).trans ((unhide HBk).mono (unhide HB4).size)).size))
            clear b9
            go_wp2_with fail
            go_ret
            exact ⟨rfl, unhide HB9⟩
end Go.Proofs.Ytdbflcfjjoocgaa
