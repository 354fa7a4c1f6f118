/-
  In of the reference.
-/
import Derived.Test.YtdbflcfjjoocgaaJ2
import Derived.Test.YtdbflcfjjoocgaaQ2
namespace Go.Proofs.Ytdbflcfjjoocgaa
open Go.RowKit

set_option maxRecDepth 100000 in
set_option maxHeartbeats 16000000 in
theorem RIn_any (tn td : Int) (d : Nat) (A A' : Option Addr) (n c n' c' : Nat) (ks ps : List Int) (w : World) (hk : Ints w w.heap.size A n c ks) (hp : Ints w w.heap.size A' n' c' ps) (hC : Hid (OkC d ks ps)) (b : Bool) (hb : Hid (inB (nth ks d) (nth ks n') tn td = b)) :
    Calls Try.prog 43 #[.agg #[.int .i64 (d : Int), .slice A n c, .slice A' n' c'], .agg #[.int .i64 tn, .int .i64 td]] w fun e w' => e = .returned (.bool b) ∧ Below w.heap.size w w' := by
  have hcap := hk.cap
  have hmk := hk.most
  have hd := hC.out.dn; rw [hp.len] at hd
  have hn := hC.out.len; rw [hp.len, hk.len] at hn
  have hx := hC.out.knot d (by rw [hk.len]; omega)
  have hy := hC.out.knot n' (by rw [hk.len]; omega)
  have hd1 : d < n := by omega
  have hn1 : n' < n := by omega
  have hdI : (d : Int) < n := by omega
  have hnI : (n' : Int) < n := by omega
  clear hn hC
  obtain ⟨W0, hW0⟩ : ∃ W0, W0 = (w.alloc (.cells #[.int .i64 (d : Int), .slice A n c, .slice A' n' c'] 24)).alloc (.cells #[.int .i64 tn, .int .i64 td] 26) := ⟨_, rfl⟩
  have HB0 := hide (show Below w.heap.size w W0 from by rw [hW0]; exact ((Below.refl _ w).alloc (Nat.le_refl _) _).alloc (by simp) _)
  have HC0 := hide (show W0.heap[w.heap.size]? = some (.cells #[.int .i64 (d : Int), .slice A n c, .slice A' n' c'] 24 (0, 0)) from by rw [hW0]; exact (Below.heap_alloc _ _ _ (by simp)).trans (heap_new_ w _))
  have HT0 := hide (show W0.heap[w.heap.size + 1]? = some (.cells #[.int .i64 tn, .int .i64 td] 26 (0, 0)) from by
    rw [hW0]; have := heap_new_ (w.alloc (.cells #[.int .i64 (d : Int), .slice A n c, .slice A' n' c'] 24)) (.cells #[.int .i64 tn, .int .i64 td] 26); rwa [World.size_alloc] at this)
  obtain ⟨b1, off, rfl, hbb, k1⟩ := ((hk.below (unhide HB0)).more (unhide HB0).size).at_ d hd1
  obtain ⟨b2, off2, e0, _, k2⟩ := ((hk.below (unhide HB0)).more (unhide HB0).size).at_ n' hn1
  simp only [Option.some.injEq, Addr.mk.injEq, and_true] at e0
  obtain ⟨rfl, rfl⟩ := e0
  clear hk hp
  obtain ⟨x, ex⟩ : ∃ x, nth ks d = x := ⟨_, rfl⟩
  obtain ⟨y, ey⟩ : ∃ x, nth ks n' = x := ⟨_, rfl⟩
  rw [ex, ey] at hb
  rw [ex] at hx k1; rw [ey] at hy k2
  clear ex ey
  obtain ⟨hx1, hx2⟩ := hx; obtain ⟨hy1, hy2⟩ := hy
  have HS := hide (show ∀ W', Below W0.heap.size W0 W' → (W'.cell? ⟨w.heap.size, 0, none⟩ = some (.int .i64 (d : Int)) ∧ W'.cell? ⟨w.heap.size, 1, none⟩ = some (.slice (some ⟨b1, off, none⟩) n c) ∧ W'.cell? ⟨w.heap.size, 2, none⟩ = some (.slice A' n' c')) ∧ (W'.cell? ⟨w.heap.size + 1, 0, none⟩ = some (.int .i64 tn) ∧ W'.cell? ⟨w.heap.size + 1, 1, none⟩ = some (.int .i64 td)) ∧ W'.cell? ⟨b1, off + d, none⟩ = some (.int .i64 x) ∧ W'.cell? ⟨b1, off + n', none⟩ = some (.int .i64 y) from fun W' hb' =>
    ⟨three_at ((hb'.block _ (Array.getElem?_eq_some_iff.1 (unhide HC0)).1).trans (unhide HC0)), two_at ((hb'.block _ (Array.getElem?_eq_some_iff.1 (unhide HT0)).1).trans (unhide HT0)), (hb'.cell hbb).trans k1, (hb'.cell hbb).trans k2⟩)
  have HWd := hide (show Below W0.heap.size W0 W0.drew from (Below.refl _ _).drew)
  have hW1 : (w.alloc (.cells #[.int .i64 (d : Int), .slice (some ⟨b1, off, none⟩) n c, .slice A' n' c'] 24)).alloc (.cells #[.int .i64 tn, .int .i64 td] 26) = W0 := hW0.symm
  clear hW0 k1 k2
  obtain ⟨⟨x0, x1, x2⟩, ⟨t0, t1⟩, k1, k2⟩ := (unhide HS) _ (Below.refl _ _)
  have HBd := hide (show ∀ q, Below w.heap.size w (W0.drewN q) from fun q => below_dN (unhide HB0) q)
  have HNO := hide (fun (h : ¬ ((1 ≤ td ∧ td ≤ 12) ∧ (x * td ≤ tn ∧ tn ≤ y * td) ∧ Fr (Rat.divInt tn td) tn td)) => show false = b from bool_all hb.out (by rw [Bool.eq_false_iff]; intro hc; exact h ((inB_iff x y tn td).1 hc)))
  by_cases c1 : td < 1
  · have HF := hide (HNO.out (fun h => by obtain ⟨⟨h1, h2⟩, ⟨h3, h4⟩, h5⟩ := h; omega))
    have d1 : decide (1 ≤ td) = false := decide_eq_false (by omega)
    go_enter Try.func43, Try.ntmps43
    go_upto_region 1 with fail
    clear hW1
    go_big_quiet (fail)
    go_wp2_with fail
    go_ret
    exact ⟨ret_bool HF.out, (by first | exact (unhide HBd) _ | exact (unhide HB0).drew)⟩
  have d1 : decide (1 ≤ td) = true := decide_eq_true (by omega)
  by_cases c2 : 12 < td
  · have HF := hide (HNO.out (fun h => by obtain ⟨⟨h1, h2⟩, ⟨h3, h4⟩, h5⟩ := h; omega))
    have d2 : decide (td ≤ 12) = false := decide_eq_false (by omega)
    go_enter Try.func43, Try.ntmps43
    go_upto_region 1 with fail
    clear hW1
    go_big_quiet (fail)
    go_wp2_with fail
    go_ret
    exact ⟨ret_bool HF.out, (by first | exact (unhide HBd) _ | exact (unhide HB0).drew)⟩
  have d2 : decide (td ≤ 12) = true := decide_eq_true (by omega)
  have m1 := mul_bd (M := 12) (N := 12) (show -12 ≤ x ∧ x ≤ 12 by omega) (show -12 ≤ td ∧ td ≤ 12 by omega)
  have m2 := mul_bd (M := 12) (N := 12) (show -12 ≤ y ∧ y ≤ 12 by omega) (show -12 ≤ td ∧ td ≤ 12 by omega)
  have m3 : y * td ≤ 12 * td := Int.mul_le_mul_of_nonneg_right hy2 (by omega)
  have m4 : 0 ≤ x * td := Int.mul_nonneg hx1 (by omega)
  have HIN := hide (inB_iff x y tn td)
  revert m1 m2 m3 m4 HNO hb HIN
  obtain ⟨p, ep⟩ : ∃ p, x * td = p := ⟨_, rfl⟩
  obtain ⟨q, eq⟩ : ∃ p, y * td = p := ⟨_, rfl⟩
  rw [ep, eq]
  rintro hb HNO ⟨m11, m12⟩ ⟨m21, m22⟩ m3 m4 HIN
  have w12 : IntKind.i64.wrap (12 * td) = 12 * td := IntWalk.i64_in _ (by omega)
  have wp : IntKind.i64.wrap (x * td) = p := by rw [ep]; exact IntWalk.i64_in _ (by omega)
  have wq : IntKind.i64.wrap (y * td) = q := by rw [eq]; exact IntWalk.i64_in _ (by omega)
  by_cases c3 : tn < 0
  · have HF := hide (HNO.out (fun h => by obtain ⟨⟨h1, h2⟩, ⟨h3, h4⟩, h5⟩ := h; omega))
    have d3 : decide (0 ≤ tn) = false := decide_eq_false (by omega)
    go_enter Try.func43, Try.ntmps43
    go_upto_region 1 with fail
    clear hW1
    go_big_quiet (fail)
    go_wp2_with fail
    go_ret
    exact ⟨ret_bool HF.out, (by first | exact (unhide HBd) _ | exact (unhide HB0).drew)⟩
  have d3 : decide (0 ≤ tn) = true := decide_eq_true (by omega)
  by_cases c4 : 12 * td < tn
  · have HF := hide (HNO.out (fun h => by obtain ⟨⟨h1, h2⟩, ⟨h3, h4⟩, h5⟩ := h; omega))
    have d4 : decide (tn ≤ 12 * td) = false := decide_eq_false (by omega)
    have d4' : decide (tn ≤ IntKind.i64.wrap (12 * td)) = false := by rw [w12]; exact d4
    go_enter Try.func43, Try.ntmps43
    go_upto_region 1 with fail
    clear hW1
    go_big_quiet (fail)
    go_wp2_with fail
    go_ret
    exact ⟨ret_bool HF.out, (by first | exact (unhide HBd) _ | exact (unhide HB0).drew)⟩
  have d4 : decide (tn ≤ 12 * td) = true := decide_eq_true (by omega)
  have d4' : decide (tn ≤ IntKind.i64.wrap (12 * td)) = true := by rw [w12]; exact d4
  obtain ⟨u, hu⟩ : ∃ u, (Rat.divInt tn td).num = u := ⟨_, rfl⟩
  obtain ⟨v, hv⟩ : ∃ u, ((Rat.divInt tn td).den : Int) = u := ⟨_, rfl⟩
  have HFR := hide (show Fr (Rat.divInt tn td) u v from ⟨hu, hv⟩)
  have HQ := hide (fun W => RFrac_any tn td W (by omega) (by omega) u v HFR)
  have heq := eql26 u v tn td
  by_cases c5 : ((u, v) : F) = (tn, td)
  · rw [decide_eq_true c5] at heq
    simp only [Prod.mk.injEq] at c5
    obtain ⟨c51, c52⟩ := c5
    obtain rfl : tn = u := c51.symm
    obtain rfl : td = v := c52.symm
    by_cases c6 : tn < p
    · have HF := hide (HNO.out (fun h => by obtain ⟨⟨h1, h2⟩, ⟨h3, h4⟩, h5⟩ := h; omega))
      have d6 : decide (p ≤ tn) = false := decide_eq_false (by omega)
      have d6' : decide (IntKind.i64.wrap (x * td) ≤ tn) = false := by rw [wp]; exact d6
      clear ep eq hu hv HNO HIN
      go_enter Try.func43, Try.ntmps43
      go_upto_region 1 with fail
      clear hW1 x0 x1 x2 t0 t1 k1 k2
      refine wp_region_quietC (fun W' => Below W0.heap.size W0 W') (by kernel_rfl) (by kernel_rfl) (unhide HWd) ?_
      repeat (first
        | go_big_quiet_skip
        | (go_big_quiet_want
           apply Exists.intro
           refine ⟨fun W hW => ?_, ?_⟩
           · obtain ⟨⟨x0, x1, x2⟩, ⟨t0, t1⟩, k1, k2⟩ := (unhide HS) W hW
             go_simp
             first | rfl | exact ((unhide HQ) W).mono fun _ _ h => ⟨h.1, hW.trans (h.2.mono hW.size)⟩
           go_big_quiet_on
           simp only [Act.put, List.setIfInBounds_toArray, List.set_cons_zero, List.set_cons_succ]))
      refine wpQuiet_nil ?_
      intro W9 hW9
      go_wp2_with fail
      go_ret
      exact ⟨ret_bool HF.out, (unhide HB0).trans (hW9.mono (unhide HB0).size)⟩
    have d6 : decide (p ≤ tn) = true := decide_eq_true (by omega)
    have d6' : decide (IntKind.i64.wrap (x * td) ≤ tn) = true := by rw [wp]; exact d6
    by_cases c7 : q < tn
    · have HF := hide (HNO.out (fun h => by obtain ⟨⟨h1, h2⟩, ⟨h3, h4⟩, h5⟩ := h; omega))
      have d7 : decide (tn ≤ q) = false := decide_eq_false (by omega)
      have d7' : decide (tn ≤ IntKind.i64.wrap (y * td)) = false := by rw [wq]; exact d7
      clear ep eq hu hv HNO HIN
      go_enter Try.func43, Try.ntmps43
      go_upto_region 1 with fail
      clear hW1 x0 x1 x2 t0 t1 k1 k2
      refine wp_region_quietC (fun W' => Below W0.heap.size W0 W') (by kernel_rfl) (by kernel_rfl) (unhide HWd) ?_
      repeat (first
        | go_big_quiet_skip
        | (go_big_quiet_want
           apply Exists.intro
           refine ⟨fun W hW => ?_, ?_⟩
           · obtain ⟨⟨x0, x1, x2⟩, ⟨t0, t1⟩, k1, k2⟩ := (unhide HS) W hW
             go_simp
             first | rfl | exact ((unhide HQ) W).mono fun _ _ h => ⟨h.1, hW.trans (h.2.mono hW.size)⟩
           go_big_quiet_on
           simp only [Act.put, List.setIfInBounds_toArray, List.set_cons_zero, List.set_cons_succ]))
      refine wpQuiet_nil ?_
      intro W9 hW9
      go_wp2_with fail
      go_ret
      exact ⟨ret_bool HF.out, (unhide HB0).trans (hW9.mono (unhide HB0).size)⟩
    have d7 : decide (tn ≤ q) = true := decide_eq_true (by omega)
    have d7' : decide (tn ≤ IntKind.i64.wrap (y * td)) = true := by rw [wq]; exact d7
    have HF := hide (show true = b from by rw [← hb.out, eq_comm]; exact HIN.out.2 ⟨⟨by omega, by omega⟩, ⟨by omega, by omega⟩, HFR.out⟩)
    clear ep eq hu hv HNO HIN
    go_enter Try.func43, Try.ntmps43
    go_upto_region 1 with fail
    clear hW1 x0 x1 x2 t0 t1 k1 k2
    refine wp_region_quietC (fun W' => Below W0.heap.size W0 W') (by kernel_rfl) (by kernel_rfl) (unhide HWd) ?_
    repeat (first
      | go_big_quiet_skip
      | (go_big_quiet_want
         apply Exists.intro
         refine ⟨fun W hW => ?_, ?_⟩
         · obtain ⟨⟨x0, x1, x2⟩, ⟨t0, t1⟩, k1, k2⟩ := (unhide HS) W hW
           go_simp
           first | rfl | exact ((unhide HQ) W).mono fun _ _ h => ⟨h.1, hW.trans (h.2.mono hW.size)⟩
         go_big_quiet_on
         simp only [Act.put, List.setIfInBounds_toArray, List.set_cons_zero, List.set_cons_succ]))
    refine wpQuiet_nil ?_
    intro W9 hW9
    go_wp2_with fail
    go_ret
    exact ⟨ret_bool HF.out, (unhide HB0).trans (hW9.mono (unhide HB0).size)⟩
  · have HF := hide (HNO.out (fun h => by
      obtain ⟨_, _, h5⟩ := h
      exact c5 (by rw [← hu, ← hv, h5.1, h5.2])))
    rw [decide_eq_false c5] at heq
    clear ep eq hu hv HNO HIN c5
    go_enter Try.func43, Try.ntmps43
    go_upto_region 1 with fail
    clear hW1 x0 x1 x2 t0 t1 k1 k2
    refine wp_region_quietC (fun W' => Below W0.heap.size W0 W') (by kernel_rfl) (by kernel_rfl) (unhide HWd) ?_
    repeat (first
      | go_big_quiet_skip
      | (go_big_quiet_want
         apply Exists.intro
         refine ⟨fun W hW => ?_, ?_⟩
         · obtain ⟨⟨x0, x1, x2⟩, ⟨t0, t1⟩, k1, k2⟩ := (unhide HS) W hW
           go_simp
           first | rfl | exact ((unhide HQ) W).mono fun _ _ h => ⟨h.1, hW.trans (h.2.mono hW.size)⟩
         go_big_quiet_on
         simp only [Act.put, List.setIfInBounds_toArray, List.set_cons_zero, List.set_cons_succ]))
    refine wpQuiet_nil ?_
    intro W9 hW9
    go_wp2_with fail
    go_ret
    exact ⟨ret_bool HF.out, (unhide HB0).trans (hW9.mono (unhide HB0).size)⟩
end Go.Proofs.Ytdbflcfjjoocgaa
