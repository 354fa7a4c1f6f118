/-
  Value of the program, of a curve and a point of it.
-/
import Derived.Test.YtdbflcfjjoocgaaH5
import Derived.Test.YtdbflcfjjoocgaaQ3
import Derived.BigQuiet
namespace Go.Proofs.Ytdbflcfjjoocgaa
open Go.RowKit

set_option maxRecDepth 100000 in
set_option maxHeartbeats 8000000 in
theorem Value_ok (d p : Nat) (tn td : Int) (t : Rat) (A A' : Option Addr) (n c n' c' : Nat) (ks ps : List Int) (w : World) (hk : Ints w w.heap.size A n c ks) (hp : Ints w w.heap.size A' n' c' ps) (hA : Hid (At d ks ps tn td t p)) (vn vd : Int) (hV : Hid (Fr (VQ d ks ps p t) vn vd)) :
    Calls Try.prog 16 #[.agg #[.int .i64 (d : Int), .slice A n c, .slice A' n' c'], .agg #[.int .i64 tn, .int .i64 td]] w fun e w' => e = .returned (.tuple #[.agg #[.int .i64 vn, .int .i64 vd], .int .i64 0]) ∧ Below w.heap.size w w' := by
  obtain ⟨W0, hW0⟩ : ∃ W0, W0 = (layT w (.int .i64 (d : Int)) (.slice A n c) (.slice A' n' c') tn td).alloc (.cells #[.int .i64 0, .int .i64 0] 26) := ⟨_, rfl⟩
  have HB0 := hide (show Below w.heap.size w W0 from by rw [hW0]; exact (layT_below _ _ _ _ _ _).alloc (by rw [layT_size]; omega) _)
  have HC0 := hide (show W0.heap[w.heap.size]? = some (.cells #[.int .i64 (d : Int), .slice A n c, .slice A' n' c'] 31 (0, 0)) from by rw [hW0, Below.heap_alloc _ _ _ (by rw [layT_size]; omega)]; exact layT_0 _ _ _ _ _ _)
  have HT0 := hide (show W0.heap[w.heap.size + 1]? = some (.cells #[.int .i64 tn, .int .i64 td] 26 (0, 0)) from by rw [hW0, Below.heap_alloc _ _ _ (by rw [layT_size]; omega)]; exact layT_1 _ _ _ _ _ _)
  have HR0 := hide (show W0.heap[w.heap.size + 1 + 1]? = some (.cells #[.int .i64 0, .int .i64 0] 26 (0, 0)) from by
    rw [hW0]; have := heap_new_ (layT w (.int .i64 (d : Int)) (.slice A n c) (.slice A' n' c') tn td) (.cells #[.int .i64 0, .int .i64 0] 26); rwa [layT_size] at this)
  have HK := hide ((hk.below (unhide HB0)).more (unhide HB0).size)
  have HP := hide ((hp.below (unhide HB0)).more (unhide HB0).size)
  have hn8 := hA.out.ok.n8; rw [hp.len] at hn8
  have hnn := hA.out.ok.len; rw [hp.len, hk.len] at hnn
  have hd3 := hA.out.ok.d3
  have hle : n' ≤ n - 1 := by omega
  have hle2 : n ≤ 100 := by omega
  have HLP := hide hp.len
  have HOK := hide (show okC (d : Int) ks ps = true from (okC_iff _ _ _).2 ⟨d, rfl, hA.out.ok⟩)
  have HCC := hide hA.out.ok
  have HT := hide (show 1 ≤ td ∧ td ≤ 12 from ⟨hA.out.fr.pos, hA.out.td12⟩)
  have HPL := hide (show Pl ks n' tn td p from by rw [← hp.len]; exact hA.out.pl)
  have HIN := hide (show inB (nth ks d) (nth ks n') tn td = true from by
    have := hA.out.okT
    simp only [okT, Bool.and_eq_true] at this
    rw [← hp.len]; simpa using this.2)
  clear hk hp hnn
  obtain ⟨x0, x1, x2⟩ := three_at (unhide HC0)
  obtain ⟨t0, t1⟩ := two_at (unhide HT0)
  have hW1 : ((w.alloc (.cells #[.int .i64 (d : Int), .slice A n c, .slice A' n' c'] 31)).alloc (.cells #[.int .i64 tn, .int .i64 td] 26)).alloc (.cells #[.int .i64 0, .int .i64 0] 26) = W0 := hW0.symm
  clear hW0
  go_enter Try.func16, Try.ntmps16
  go_upto_region 1 with fail
  clear hW1
  go_wp2_with fail
  refine (isCurve_any (d : Int) _ _ _ _ _ _ ks ps W0 (unhide HK) (unhide HP) true HOK).mono ?_
  rintro e w1 ⟨rfl, b1⟩
  have HB1 := hide ((unhide HB0).trans (b1.mono (unhide HB0).size))
  have HC1 := hide ((b1.block _ (Array.getElem?_eq_some_iff.1 (unhide HC0)).1).trans (unhide HC0))
  have HT1 := hide ((b1.block _ (Array.getElem?_eq_some_iff.1 (unhide HT0)).1).trans (unhide HT0))
  have HR1 := hide ((b1.block _ (Array.getElem?_eq_some_iff.1 (unhide HR0)).1).trans (unhide HR0))
  have HK1 := hide (((unhide HK).below b1).more b1.size)
  have HP1 := hide (((unhide HP).below b1).more b1.size)
  clear b1 x0 x1 x2 t0 t1 HK HP
  obtain ⟨x0, x1, x2⟩ := three_at (unhide HC1)
  obtain ⟨t0, t1⟩ := two_at (unhide HT1)
  go_wp2_with fail
  refine (isWithin_any tn td d _ _ _ _ _ _ ks ps w1 (unhide HK1) (unhide HP1) HCC true HIN).mono ?_
  rintro e w2 ⟨rfl, b2⟩
  have HB2 := hide ((unhide HB1).trans (b2.mono (unhide HB1).size))
  have HC2 := hide ((b2.block _ (Array.getElem?_eq_some_iff.1 (unhide HC1)).1).trans (unhide HC1))
  have HT2 := hide ((b2.block _ (Array.getElem?_eq_some_iff.1 (unhide HT1)).1).trans (unhide HT1))
  have HR2 := hide ((b2.block _ (Array.getElem?_eq_some_iff.1 (unhide HR1)).1).trans (unhide HR1))
  have HK2 := hide (((unhide HK1).below b2).more b2.size)
  have HP2 := hide (((unhide HP1).below b2).more b2.size)
  clear b2 x0 x1 x2 t0 t1 HK1 HP1 HC1 HT1 HB1 HR1
  go_wp2_with fail
  refine (whole_any 0 w2 (by omega)).mono ?_
  rintro e w3 ⟨rfl, b3⟩
  have HB3 := hide ((unhide HB2).trans (b3.mono (unhide HB2).size))
  have HC3 := hide ((b3.block _ (Array.getElem?_eq_some_iff.1 (unhide HC2)).1).trans (unhide HC2))
  have HT3 := hide ((b3.block _ (Array.getElem?_eq_some_iff.1 (unhide HT2)).1).trans (unhide HT2))
  have HR3 := hide ((b3.block _ (Array.getElem?_eq_some_iff.1 (unhide HR2)).1).trans (unhide HR2))
  have HK3 := hide (((unhide HK2).below b3).more b3.size)
  have HP3 := hide (((unhide HP2).below b3).more b3.size)
  clear b3 HK2 HP2 HC2 HT2 HB2 HR2
  -- the sum's own block
  obtain ⟨W4, hW4⟩ : ∃ W4, W4 = w3.alloc (.cells #[.int .i64 0, .int .i64 1] 81) := ⟨_, rfl⟩
  have HB4 := hide (show Below w3.heap.size w3 W4 from by rw [hW4]; exact (Below.refl _ _).alloc (Nat.le_refl _) _)
  have HS4 := hide (show W4.heap[w3.heap.size]? = some (.cells #[.int .i64 0, .int .i64 1] 81 (0, 0)) from by rw [hW4]; exact heap_new_ w3 _)
  have hW5 : w3.alloc (.cells #[.int .i64 0, .int .i64 1] 81) = W4 := hW4.symm
  have f0 := free_at (heap_new_ w3 (.cells #[.int .i64 0, .int .i64 0] 81)) 0; have f1 := free_at (heap_new_ w3 (.cells #[.int .i64 0, .int .i64 0] 81)) 1
  clear hW4
  go_upto_region 4 with fail
  clear hW5 f0 f1
  have HS := hide (show ∀ W', Below w3.heap.size w3 W' → (W'.cell? ⟨w.heap.size, 0, none⟩ = some (.int .i64 (d : Int)) ∧ W'.cell? ⟨w.heap.size, 1, none⟩ = some (.slice A n c) ∧ W'.cell? ⟨w.heap.size, 2, none⟩ = some (.slice A' n' c') ∧ W'.cell? ⟨w.heap.size + 1, 0, none⟩ = some (.int .i64 tn) ∧ W'.cell? ⟨w.heap.size + 1, 1, none⟩ = some (.int .i64 td)) from fun W' hb => by
    obtain ⟨a0, a1, a2⟩ := three_at ((hb.block _ (Array.getElem?_eq_some_iff.1 (unhide HC3)).1).trans (unhide HC3))
    obtain ⟨a3, a4⟩ := two_at ((hb.block _ (Array.getElem?_eq_some_iff.1 (unhide HT3)).1).trans (unhide HT3))
    exact ⟨a0, a1, a2, a3, a4⟩)
  have HWd := hide (show Below w3.heap.size w3 W4.drew from (unhide HB4).drew)
  have HSd := hide (show W4.drew.heap[w3.heap.size]? = some (.cells #[.int .i64 0, .int .i64 1] 81 (0, 0)) from unhide HS4)
  have hw34 : w3.heap.size < W4.drew.heap.size := (Array.getElem?_eq_some_iff.1 (unhide HSd)).1
  have HKd := hide (show Ints W4.drew W4.drew.heap.size A n c ks from ((unhide HK3).below (unhide HWd)).more (unhide HWd).size)
  have HPd := hide (show Ints W4.drew W4.drew.heap.size A' n' c' ps from ((unhide HP3).below (unhide HWd)).more (unhide HWd).size)
  have HW34 := hide hw34; clear hw34
  obtain ⟨x0, x1, x2, t0, t1⟩ := (unhide HS) _ (unhide HB4)
  go_region_held3 (fun W => W.cell? ⟨w.heap.size, 0, none⟩ = some (.int .i64 (d : Int)) ∧ W.cell? ⟨w.heap.size, 1, none⟩ = some (.slice A n c) ∧ W.cell? ⟨w.heap.size, 2, none⟩ = some (.slice A' n' c') ∧ W.cell? ⟨w.heap.size + 1, 0, none⟩ = some (.int .i64 tn) ∧ W.cell? ⟨w.heap.size + 1, 1, none⟩ = some (.int .i64 td)) (first | exact ⟨x0, x1, x2, t0, t1⟩ | exact (unhide HS) _ (unhide HWa) | exact (unhide HS) _ (unhide HWb)) (first
    | (go_at_call 51; refine (placeOf_any tn td d _ _ _ _ _ _ ks ps W4.drew (unhide HKd) (unhide HPd) HCC HT.out p HPL).mono ?_; rintro e wa ⟨rfl, ba⟩; have HWa := hide ((unhide HWd).trans (ba.mono (unhide HWd).size)); have HSa := hide ((ba.block _ (unhide HW34)).trans (unhide HSd)); have HWaS := hide ba.size; have HKa := hide (((unhide HKd).below ba).more ba.size); have HPa := hide (((unhide HPd).below ba).more ba.size); clear ba)
    | (go_at_call 50; refine (basics_any tn td d p t _ _ _ _ _ _ ks ps wa (unhide HKa) (unhide HPa) hA).mono ?_; rintro e wb ⟨g, L, rfl, hpb, hL, HQ, bb, hg⟩; have HWb := hide ((unhide HWa).trans (bb.mono (unhide HWa).size)); have HSb := hide ((bb.block _ (Array.getElem?_eq_some_iff.1 (unhide HSa)).1).trans (unhide HSa)); have HPB := hide hpb; have HL := hide hL; clear bb hL hpb))
  have HGS := hide (show w3.heap.size ≠ g from by have h1 := HW34.out; have h2 := hg; have h3 : W4.drew.heap.size ≤ wa.heap.size := HWaS.out; omega)
  clear x0 x1 x2 t0 t1 HKd HPd HKa HPa HWa HSa HW34
  have HLL := (unhide HL)
  have HB5 := hide ((unhide HB3).trans ((unhide HWb).mono (unhide HB3).size))
  have HPP := hide (((unhide HP3).below (unhide HWb)).more (unhide HWb).size)
  -- the result's own cell stays
  have HR5 := hide (((unhide HWb).block _ (Array.getElem?_eq_some_iff.1 (unhide HR3)).1).trans (unhide HR3))

  go_wp2_with fail
  go_loopw [7, 8, 26] (fun _ _ s26 wr => ∃ (k : Nat) (sn sd : Int), k ≤ n' ∧ s26 = .int .i64 (k : Int) ∧ Hid (Fr (sumF (fun i => bas (KQ ks) p t d i * PQ ps i) k) sn sd) ∧ Hid (wr.heap[w3.heap.size]? = some (.cells #[.int .i64 sn, .int .i64 sd] 81 (0, 0))) ∧ Hid (PB wr g 81 L) ∧ Hid (Below w3.heap.size w3 wr)) (fun _ _ s26 _ => n' - (intOf s26).toNat)
  case atStart => exact ⟨0, 0, 1, Nat.zero_le _, rfl, hide ⟨rfl, rfl⟩, HSb, HPB, HWb⟩
  case round =>
    obtain ⟨k, sn, sd, hk, rfl, HF, HSk, HPk, HBk⟩ := hrel
    clear HSb HPB HWb
    by_cases hlt : k < n'
    · have hk8 : (k : Int) < ((n' : Nat) : Int) := by omega
      obtain ⟨x0, x1, x2, t0, t1⟩ := (unhide HS) _ (unhide HBk)
      obtain ⟨u0, u1⟩ := (unhide HPk).cell (k := k) (by rw [HL.out]; omega)
      have hf1 := HQ.out k (Nat.zero_le _) hlt
      obtain ⟨⟨a, b⟩, ea⟩ : ∃ f, fth L k = f := ⟨_, rfl⟩
      rw [ea] at hf1 u0 u1
      simp only at hf1 u0 u1
      clear ea
      obtain ⟨bp, off, rfl, hbp, e1⟩ := ((unhide HP3).below (unhide HBk)).at_ k hlt
      obtain ⟨z, ez⟩ : ∃ z, nth ps k = z := ⟨_, rfl⟩
      rw [ez] at e1
      obtain ⟨r1, er1⟩ : ∃ r, bas (KQ ks) p t d k * PQ ps k = r := ⟨_, rfl⟩
      obtain ⟨n1, m1, hr1⟩ := exists_fr r1
      obtain ⟨r2, er2⟩ : ∃ r, sumF (fun i => bas (KQ ks) p t d i * PQ ps i) k + r1 = r := ⟨_, rfl⟩
      obtain ⟨n2, m2, hr2⟩ := exists_fr r2
      have E2 := hide (show Fr (sumF (fun i => bas (KQ ks) p t d i * PQ ps i) (k + 1)) n2 m2 from by rw [sumF, er1, er2]; exact hr2)
      have hz := hA.out.ok.pole k (by rw [HLP.out]; exact hlt)
      rw [ez] at hz
      have hzf : Fr (PQ ps k) z 1 := by unfold PQ; rw [ez]; exact ⟨Rat.num_intCast _, by rw [Rat.den_intCast]; rfl⟩
      obtain ⟨dp1, dp2⟩ := hA.out.dpos d (Nat.le_refl _)
      have B1 := hA.out.sm d k (Nat.le_refl _)
      have B2 : Sm 1 50 (PQ ps k) := (Sm.int (nth ps k)).mono (by rw [ez]; omega)
      have B3 := (term_sm hA.out k (by rw [HLP.out]; exact hlt)).mono (show _ ≤ 4000000000000000000 from Nat.le_trans (Nat.mul_le_mul dp2 (Nat.le_refl 50)) (by decide))
      have B4 := (part_sm hA.out k (by rw [HLP.out]; omega)).mono (show _ ≤ 4000000000000000000 from Nat.le_trans (Nat.mul_le_mul (Nat.mul_le_mul dp2 (Nat.le_refl 50)) (show k ≤ 8 by omega)) (by decide))
      rw [er1] at B3
      have C1 := hide (fun W => whole_any z W (by omega))
      have C2 := hide (fun W => times_q W (hide hf1) (hide hzf) (hide B1) (hide B2) (hide ⟨dp1, Nat.one_pos, by omega, Nat.le_trans (Nat.mul_le_mul dp2 (Nat.le_refl 50)) (by decide)⟩) (hide er1) (hide hr1))
      have C3 := hide (fun W => plus_q W HF (hide hr1) (hide B4) (hide B3) (hide ⟨dp1, by omega, Nat.le_refl _⟩) (hide er2) (hide hr2))
      clear er1 er2 hr1 hr2 hz hzf dp1 dp2 B1 B2 B3 B4 hf1 ez
      obtain ⟨Wq, hWq⟩ : ∃ Wq, Wq = wr.alloc (.cells #[.int .i64 a, .int .i64 b] 81) := ⟨_, rfl⟩
      have HBq := hide (show Below wr.heap.size wr Wq from by rw [hWq]; exact (Below.refl _ _).alloc (Nat.le_refl _) _)
      have HTq := hide (show Wq.heap[wr.heap.size]? = some (.cells #[.int .i64 a, .int .i64 b] 81 (0, 0)) from by rw [hWq]; exact heap_new_ _ _)
      have HSq := hide (((unhide HBq).block _ (Array.getElem?_eq_some_iff.1 (unhide HSk)).1).trans (unhide HSk))
      have HPq := hide ((unhide HPk).below (unhide HBq) (unhide HPk).lt)
      have HB3q := hide ((unhide HBk).trans ((unhide HBq).mono (unhide HBk).size))
      have HSA := hide (show ∀ W', Below Wq.heap.size Wq W' → ((W'.cell? ⟨w3.heap.size, 0, none⟩ = some (.int .i64 sn) ∧ W'.cell? ⟨w3.heap.size, 1, none⟩ = some (.int .i64 sd)) ∧ (W'.cell? ⟨wr.heap.size, 0, none⟩ = some (.int .i64 a) ∧ W'.cell? ⟨wr.heap.size, 1, none⟩ = some (.int .i64 b)) ∧ W'.cell? ⟨w.heap.size, 2, none⟩ = some (.slice (some ⟨bp, off, none⟩) n' c') ∧ W'.cell? ⟨bp, off + k, none⟩ = some (.int .i64 z)) from fun W' hb => by
        have q1 := two_at ((hb.block _ (Array.getElem?_eq_some_iff.1 (unhide HSq)).1).trans (unhide HSq))
        have q2 := two_at ((hb.block _ (Array.getElem?_eq_some_iff.1 (unhide HTq)).1).trans (unhide HTq))
        have q3 := (unhide HS) W' ((unhide HB3q).trans (hb.mono (unhide HB3q).size))
        have l1 : bp < wr.heap.size := by have := (unhide HBk).size; omega
        exact ⟨q1, q2, q3.2.2.1, (hb.cell (by have := (unhide HBq).size; exact Nat.lt_of_lt_of_le l1 this)).trans (((unhide HBq).cell l1).trans e1)⟩)
      have hWq' : wr.alloc (.cells #[.int .i64 a, .int .i64 b] 81) = Wq := hWq.symm
      clear hWq
      go_upto_region 7 with fail
      clear hWq' x0 x1 x2 t0 t1 u0 u1 e1
      have HWqd := hide (show Below Wq.heap.size Wq Wq.drew from (Below.refl _ _).drew)
      refine wp_region_quietT 10 (fun W' => Below Wq.heap.size Wq W') (by kernel_rfl) (by kernel_rfl) (unhide HWqd) ?_
      simp only [List.take_succ_cons, List.take_zero, List.drop_succ_cons, List.drop_zero]
      repeat (first
        | go_big_quiet_skip
        | (go_big_quiet_want
           apply Exists.intro
           refine ⟨fun W hW => ?_, ?_⟩
           · obtain ⟨⟨s0, s1⟩, ⟨k1, k2⟩, k3, k4⟩ := (unhide HSA) W hW
             go_simp
             first | rfl | exact ((unhide C1) W).mono fun _ _ h => ⟨h.1, hW.trans (h.2.mono hW.size)⟩ | exact ((unhide C2) W).mono fun _ _ h => ⟨h.1, hW.trans (h.2.mono hW.size)⟩ | exact ((unhide C3) W).mono fun _ _ h => ⟨h.1, hW.trans (h.2.mono hW.size)⟩
           go_big_quiet_on
           simp only [Act.put, List.setIfInBounds_toArray, List.set_cons_zero, List.set_cons_succ]))
      refine wpQuiet_nil ?_
      intro wc hWc
      have HWc := hide hWc; clear hWc
      have HSc := hide (((unhide HWc).block _ (Array.getElem?_eq_some_iff.1 (unhide HSq)).1).trans (unhide HSq))
      obtain ⟨sc0, sc1⟩ := two_at (unhide HSc)
      have f0 := free_at (unhide HSc) 0; have f1 := free_at (unhide HSc) 1
      all_goals (
        have HS9 := hide (put2 (unhide HSc) (.int .i64 n2) (.int .i64 m2))
        have HP9 := hide (show PB ((wc.setCell ⟨w3.heap.size, 0, none⟩ (.int .i64 n2)).setCell ⟨w3.heap.size, 1, none⟩ (.int .i64 m2)) g 81 L from
          (heap_setCell_other _ ⟨w3.heap.size, 1, none⟩ g _ (fun e => HGS.out e.symm)).trans ((heap_setCell_other _ ⟨w3.heap.size, 0, none⟩ g _ (fun e => HGS.out e.symm)).trans ((unhide HPq).below (unhide HWc) (unhide HPq).lt)))
        have HB9 := hide (below_put2 ((unhide HB3q).trans ((unhide HWc).mono (unhide HB3q).size)) (b := w3.heap.size) (Nat.le_refl _) (.int .i64 n2) (.int .i64 m2))
        go_wp2_with fail
        go_roundw)
      all_goals first
        | (case rel => exact ⟨k + 1, n2, m2, by omega, by go_num, E2, HS9, HP9, HB9⟩)
        | (case measure => simp [intOf]; omega)
    · obtain rfl : n' = k := by omega
      have hv : vn = sn ∧ vd = sd := by
        have h1 := HF.out; have h2 := hV.out
        rw [VQ, HLP.out] at h2
        exact ⟨h2.1.symm.trans h1.1, h2.2.symm.trans h1.2⟩
      obtain ⟨rfl, rfl⟩ := hv
      have hr := ((unhide HBk).block _ (Array.getElem?_eq_some_iff.1 (unhide HR3)).1).trans (unhide HR3)
      obtain ⟨s0, s1⟩ := two_at (unhide HSk)
      have f0 := free_at hr 0; have f1 := free_at hr 1
      obtain ⟨q0, q1⟩ := two_at hr
      have HPq := hide (put2 hr (.int .i64 vn) (.int .i64 vd))
      have HBq := hide (below_put2 ((unhide HB3).trans ((unhide HBk).mono (unhide HB3).size)) (b := w.heap.size + 1 + 1) (by omega) (.int .i64 vn) (.int .i64 vd))
      clear hr
      go_wp2_with fail
      obtain ⟨s2, s3⟩ := two_at (unhide HPq)
      exact bodyPost_ret (v := .tuple #[.agg #[.int .i64 vn, .int .i64 vd], .int .i64 0]) (by simp [results, Try.results16, go_sem, s2, s3]) rfl ⟨rfl, unhide HBq⟩
end Go.Proofs.Ytdbflcfjjoocgaa
