/-
  DealsIs.
-/
import Derived.Test.YtbgfiejaehpffaaVe
import Derived.Test.YtbgfiejaehpffaaVf
import Derived.Test.YtbgfiejaehpffaaL3
namespace Go.Proofs.Ytbgfiejaehpffaa
open Go.RowKit

set_option maxRecDepth 100000 in
set_option maxHeartbeats 4000000 in
theorem Of_any (a b c d : Int) (w : World) :
    Calls Try.prog 22 #[.agg #[.int .i64 a, .int .i64 b, .int .i64 c, .int .i64 d]] w fun e w' => e = .returned (.agg #[.int .i64 a, .int .i64 b, .int .i64 c, .int .i64 d]) ∧ Below w.heap.size w w' := by
  obtain ⟨W0, hW0⟩ : ∃ W0, W0 = (w.alloc (.cells #[.int .i64 a, .int .i64 b, .int .i64 c, .int .i64 d] 34)).alloc (.cells #[.int .i64 0, .int .i64 0, .int .i64 0, .int .i64 0] 37) := ⟨_, rfl⟩
  have HB0 := hide (show Below w.heap.size w W0 from by rw [hW0]; exact ((Below.refl _ w).alloc (Nat.le_refl _) _).alloc (by simp) _)
  have HF0 := hide (show W0.heap[w.heap.size]? = some (.cells #[.int .i64 a, .int .i64 b, .int .i64 c, .int .i64 d] 34 (0, 0)) from by rw [hW0, Below.heap_alloc _ _ _ (by simp)]; exact heap_new_ w _)
  have HR0 := hide (show W0.heap[w.heap.size + 1]? = some (.cells #[.int .i64 0, .int .i64 0, .int .i64 0, .int .i64 0] 37 (0, 0)) from by
    rw [hW0]
    have := heap_new_ (w.alloc (.cells #[.int .i64 a, .int .i64 b, .int .i64 c, .int .i64 d] 34)) (.cells #[.int .i64 0, .int .i64 0, .int .i64 0, .int .i64 0] 37)
    rwa [World.size_alloc] at this)
  obtain ⟨x0, x1, x2, x3⟩ := four_at (unhide HF0)
  have f0 := free_at (unhide HR0) 0; have f1 := free_at (unhide HR0) 1; have f2 := free_at (unhide HR0) 2; have f3 := free_at (unhide HR0) 3
  obtain ⟨q0, q1, q2, q3⟩ := four_at (unhide HR0)
  have HP := hide (put4 (unhide HR0) (.int .i64 a) (.int .i64 b) (.int .i64 c) (.int .i64 d))
  have HBz := hide (below_put4 (unhide HB0) (b := w.heap.size + 1) (by omega) (.int .i64 a) (.int .i64 b) (.int .i64 c) (.int .i64 d))
  have hW : (w.alloc (.cells #[.int .i64 a, .int .i64 b, .int .i64 c, .int .i64 d] 34)).alloc (.cells #[.int .i64 0, .int .i64 0, .int .i64 0, .int .i64 0] 37) = W0 := hW0.symm
  clear hW0
  go_enter Try.func22, Try.ntmps22
  go_upto_region 1 with fail
  clear hW
  go_wp2_with fail
  obtain ⟨s0, s1, s2, s3⟩ := four_at (unhide HP)
  exact bodyPost_ret (v := .agg #[.int .i64 a, .int .i64 b, .int .i64 c, .int .i64 d]) (by simp [results, Try.results22, go_sem, s0, s1, s2, s3]) rfl ⟨rfl, unhide HBz⟩

theorem exists_corP {S : List F} (hs : ∀ i j, i < j → j < S.length → lexlt (fth S i) (fth S j)) : ∀ k, k ≤ S.length → ∃ L, CorP S k L
  | 0, _ => ⟨[], CorP.zero S⟩
  | k + 1, hk => by
    obtain ⟨L, hL⟩ := exists_corP hs k (by omega)
    exact ⟨_, hL.step (by omega) hs rfl⟩
theorem exists_sorted (fs : List F) (hn : fs.Nodup) : ∃ S : List F, S.Perm fs ∧ ∀ i j, i < j → j < S.length → lexlt (fth S i) (fth S j) := by
  let le : F → F → Bool := fun p q => decide (p.1 < q.1 ∨ (p.1 = q.1 ∧ p.2 ≤ q.2))
  have hp := List.mergeSort_perm fs le
  have hs := List.pairwise_mergeSort (le := le) (fun a b c h1 h2 => by simp only [le, decide_eq_true_eq] at *; omega) (fun a b => by simp only [le, Bool.or_eq_true, decide_eq_true_eq]; omega) fs
  refine ⟨fs.mergeSort le, hp, fun i j hij hj => ?_⟩
  have h1 := List.pairwise_iff_getElem.1 hs i j (by omega) hj hij
  have hnd := List.nodup_iff_pairwise_ne.1 (hp.nodup_iff.2 hn)
  have h2 := List.pairwise_iff_getElem.1 hnd i j (by omega) hj hij
  have e1 : fth (fs.mergeSort le) i = (fs.mergeSort le)[i]'(by omega) := by simp only [fth, List.getD]; rw [List.getElem?_eq_getElem (show i < (fs.mergeSort le).length by omega)]; rfl
  have e2 : fth (fs.mergeSort le) j = (fs.mergeSort le)[j]'hj := by simp only [fth, List.getD]; rw [List.getElem?_eq_getElem hj]; rfl
  rw [e1, e2]
  generalize (fs.mergeSort le)[i]'(by omega) = p at h1 h2 ⊢
  generalize (fs.mergeSort le)[j]'hj = q at h1 h2 ⊢
  simp only [le, decide_eq_true_eq] at h1
  unfold lexlt
  have : ¬ (p.1 = q.1 ∧ p.2 = q.2) := fun h => h2 (Prod.ext h.1 h.2)
  omega
theorem exists_cor {fs : List F} (h : Off fs) : ∃ L : List F, Cor fs (fth L) L.length := by
  obtain ⟨S, hp, hs⟩ := exists_sorted fs h.nd
  obtain ⟨L, hL⟩ := exists_corP hs S.length (Nat.le_refl _)
  exact ⟨L, hL.cor hp h.pos⟩

/-- What Is answers. -/
def ISt (fs : List F) (xn xd yn yd : Int) (r : Bool) (z : Int) : Prop :=
  (offB fs = false ∧ r = false ∧ z = 2) ∨ (offB fs = true ∧ (plB xn xd && plB yn yd) = false ∧ r = false ∧ z = 2) ∨ (offB fs = true ∧ (plB xn xd && plB yn yd) = true ∧ z = 0 ∧ (rLims fs).any (beyB xn xd yn yd) = !r)
theorem Is_all (fs : List F) (xn xd yn yd : Int) : ∃ r z, ISt fs xn xd yn yd r z ∧ ∀ (A : Option Addr) (n c : Nat) (w : World), Fs w w.heap.size A n c fs →
    Calls Try.prog 21 #[.slice A n c, .agg #[.int .i64 xn, .int .i64 xd, .int .i64 yn, .int .i64 yd]] w fun e w' => e = .returned (.tuple #[.bool r, .int .i64 z]) ∧ Below w.heap.size w w' := by
  cases h0 : offB fs with
  | false => exact ⟨false, 2, .inl ⟨h0, rfl, rfl⟩, fun A n c w h => Is_no1 A n c fs xn xd yn yd w h (hide h0)⟩
  | true =>
    cases h1 : plB xn xd with
    | false => exact ⟨false, 2, .inr (.inl ⟨h0, by rw [h1]; rfl, rfl, rfl⟩), fun A n c w h => Is_no2 A n c fs xn xd yn yd w h (hide h0) (hide h1)⟩
    | true =>
      cases h2 : plB yn yd with
      | false => exact ⟨false, 2, .inr (.inl ⟨h0, by rw [h1, h2]; rfl, rfl, rfl⟩), fun A n c w h => Is_no3 A n c fs xn xd yn yd w h (hide h0) (hide h1) (hide h2)⟩
      | true =>
        refine ⟨!((limsF (edgeR fs)).any (beyB xn xd yn yd)), 0, .inr (.inr ⟨h0, by rw [h1, h2]; rfl, rfl, ?_⟩), fun A n c w h => Is_ok A n c fs xn xd yn yd w h (hide h0) (hide h1) (hide h2) _ (hide rfl)⟩
        rw [Bool.not_not]
        obtain ⟨L, hL⟩ := exists_cor ((offB_iff fs).1 h0)
        have he := hL.list (fun q hq => by have := ((offB_iff fs).1 h0).pr q hq; omega)
        rw [lims_same ((offB_iff fs).1 h0) hL (plB_ok h1) (plB_ok h2), he]

set_option maxRecDepth 100000 in
set_option maxHeartbeats 16000000 in
theorem LIs_any (A : Option Addr) (n c : Nat) (fs : List F) (xn xd yn yd : Int) (w : World) (h : Fs w w.heap.size A n c fs) :
    Calls Try.prog 4 #[.slice A n c, .agg #[.int .i64 xn, .int .i64 xd, .int .i64 yn, .int .i64 yd]] w fun e w' => e = .returned (.bool true) ∧ Below w.heap.size w w' := by
  have hm := h.most; have hcap := h.cap
  obtain ⟨W0, hW0⟩ : ∃ W0, W0 = w.alloc (.cells #[.int .i64 xn, .int .i64 xd, .int .i64 yn, .int .i64 yd] 34) := ⟨_, rfl⟩
  have HB0 := hide (show Below w.heap.size w W0 from by rw [hW0]; exact (Below.refl _ w).alloc (Nat.le_refl _) _)
  have HV0 := hide (show W0.heap[w.heap.size]? = some (.cells #[.int .i64 xn, .int .i64 xd, .int .i64 yn, .int .i64 yd] 34 (0, 0)) from by rw [hW0]; exact heap_new_ w _)
  have HI0 := hide ((h.below (unhide HB0)).more (unhide HB0).size)
  have hW : w.alloc (.cells #[.int .i64 xn, .int .i64 xd, .int .i64 yn, .int .i64 yd] 34) = W0 := hW0.symm
  clear hW0 h
  obtain ⟨r, z, hst, his⟩ := Is_all (tak fs) xn xd yn yd
  have HSt := hide (show ISt fs xn xd yn yd r z from by
    cases h0 : offB fs with
    | true => rw [tak_self h0] at hst; exact hst
    | false =>
      have h1 : offB (tak fs) = false := by rw [tak_off]; exact h0
      rcases hst with h | h | h
      · exact .inl ⟨h0, h.2⟩
      · rw [h1] at h; cases h.1
      · rw [h1] at h; cases h.1)
  have HIs := hide his
  clear hst his
  have HLi := hide (fun W (hb : Below W0.heap.size W0 W) => list_any A n c fs W (((unhide HI0).below hb).more hb.size))
  have HWd := hide (show Below W0.heap.size W0 W0.drew from (Below.refl _ _).drew)
  have HSS := hide (show ∀ W', Below W0.heap.size W0 W' → (W'.cell? ⟨w.heap.size, 0, none⟩ = some (.int .i64 xn) ∧ W'.cell? ⟨w.heap.size, 1, none⟩ = some (.int .i64 xd) ∧ W'.cell? ⟨w.heap.size, 2, none⟩ = some (.int .i64 yn) ∧ W'.cell? ⟨w.heap.size, 3, none⟩ = some (.int .i64 yd)) from fun W' hb' => four_at ((hb'.block _ (Array.getElem?_eq_some_iff.1 (unhide HV0)).1).trans (unhide HV0)))
  go_enter Try.func4, Try.ntmps4
  go_upto_region 1 with fail
  clear hW
  go_cut [5, 6] (fun sr sz wx => sr = .bool r ∧ sz = .int .i64 z ∧ Hid (Below W0.heap.size W0 wx))
  case first =>
    obtain ⟨x0, x1, x2, x3⟩ := (unhide HSS) _ (unhide HWd)
    go_region_held3 (fun W' => (W'.cell? ⟨w.heap.size, 0, none⟩ = some (.int .i64 xn) ∧ W'.cell? ⟨w.heap.size, 1, none⟩ = some (.int .i64 xd) ∧ W'.cell? ⟨w.heap.size, 2, none⟩ = some (.int .i64 yn) ∧ W'.cell? ⟨w.heap.size, 3, none⟩ = some (.int .i64 yd))) (first | exact ⟨x0, x1, x2, x3⟩ | exact (unhide HSS) _ (unhide HWy) | exact (unhide HSS) _ (unhide HWx) | exact (unhide HSS) _ (unhide HWb) | exact (unhide HSS) _ (unhide HWa)) (first
      | (go_at_call 16; (with_reducible refine ((unhide HLi) _ (unhide HWb)).mono ?_); rintro e wx ⟨vx, rfl, hox, bx⟩; obtain ⟨Ax, nx, cx, rfl, hfx⟩ := hox.to; have HWx := hide ((unhide HWb).trans (bx.mono (unhide HWb).size)); have HFx := hide hfx; clear bx hox hfx)
      | (go_at_call 16; (with_reducible refine ((unhide HLi) _ (unhide HWd)).mono ?_); rintro e wa ⟨va, rfl, hoa, ba⟩; obtain ⟨Aa, na, ca, rfl, hfa⟩ := hoa.to; have HWa := hide ((unhide HWd).trans (ba.mono (unhide HWd).size)); have HFa := hide hfa; clear ba hoa hfa)
      | (go_at_call 22; refine (Of_any xn xd yn yd _).mono ?_; rintro e wx ⟨rfl, bx⟩; have HWx := hide ((unhide HWa).trans (bx.mono (unhide HWa).size)); have HFx := hide (((unhide HFa).below bx).more bx.size); clear bx)
      | (go_at_call 22; refine (Of_any xn xd yn yd _).mono ?_; rintro e wb ⟨rfl, bx⟩; have HWb := hide ((unhide HWd).trans (bx.mono (unhide HWd).size)); clear bx)
      | (go_at_call 21; refine ((unhide HIs) _ _ _ _ (unhide HFx)).mono ?_; rintro e wy ⟨rfl, bx⟩; have HWy := hide ((unhide HWx).trans (bx.mono (unhide HWx).size)); clear bx))
    all_goals (go_wp2_with fail; go_meet; exact ⟨rfl, rfl, HWy⟩)
  case rest =>
    obtain ⟨rfl, rfl, HBc0⟩ := hcut
    have HBc := hide ((unhide HB0).trans ((unhide HBc0).mono (unhide HB0).size))
    have HIc := hide (((unhide HI0).below (unhide HBc0)).more (unhide HBc0).size)
    have HVc := hide (((unhide HBc0).block _ (Array.getElem?_eq_some_iff.1 (unhide HV0)).1).trans (unhide HV0))
    clear HSS HWd HLi HIs
    rcases HSt.out with ⟨h0, rfl, rfl⟩ | ⟨h0, h1, rfl, rfl⟩ | ⟨h0, h1, rfl, h2⟩
    · have HRO := hide (ROffers_any A n c fs wc (unhide HIc) false (hide h0))
      clear h0
      go_wp2_with fail
      refine (unhide HRO).mono ?_
      rintro e w1 ⟨rfl, b1⟩
      have HB1 := hide ((unhide HBc).trans (b1.mono (unhide HBc).size))
      clear b1
      go_wp2_with fail
      refine (awake_any w1).mono ?_
      rintro e w2 ⟨rfl, b2⟩
      have HB2 := hide ((unhide HB1).trans (b2.mono (unhide HB1).size))
      clear b2
      go_wp2_with fail
      go_ret
      exact ⟨rfl, unhide HB2⟩
    · have HRO := hide (ROffers_any A n c fs wc (unhide HIc) true (hide h0))
      have HPl := hide h1
      clear h0 h1
      go_wp2_with fail
      refine (unhide HRO).mono ?_
      rintro e w1 ⟨rfl, b1⟩
      have HB1 := hide ((unhide HBc).trans (b1.mono (unhide HBc).size))
      obtain ⟨x0, x1, x2, x3⟩ := four_at ((b1.block _ (Array.getElem?_eq_some_iff.1 (unhide HVc)).1).trans (unhide HVc))
      clear b1
      go_wp2_with fail
      refine (RIsPoint_any xn xd yn yd w1 false HPl).mono ?_
      rintro e w2 ⟨rfl, b2⟩
      have HB2 := hide ((unhide HB1).trans (b2.mono (unhide HB1).size))
      clear b2 x0 x1 x2 x3
      go_wp2_with fail
      refine (awake_any w2).mono ?_
      rintro e w3 ⟨rfl, b3⟩
      have HB3 := hide ((unhide HB2).trans (b3.mono (unhide HB2).size))
      clear b3
      go_wp2_with fail
      go_ret
      exact ⟨rfl, unhide HB3⟩
    · have HRO := hide (ROffers_any A n c fs wc (unhide HIc) true (hide h0))
      have HOff := hide ((offB_iff fs).1 h0)
      have HPl := hide h1
      have hpp := h1
      rw [Bool.and_eq_true] at hpp
      have HPx := hide (plB_ok hpp.1)
      have HPy := hide (plB_ok hpp.2)
      have HR := hide h2
      clear h0 h1 hpp h2
      go_wp2_with fail
      refine (unhide HRO).mono ?_
      rintro e w1 ⟨rfl, b1⟩
      have HB1 := hide ((unhide HBc).trans (b1.mono (unhide HBc).size))
      have HI1 := hide (((unhide HIc).below b1).more b1.size)
      have HV1 := hide ((b1.block _ (Array.getElem?_eq_some_iff.1 (unhide HVc)).1).trans (unhide HVc))
      obtain ⟨x0, x1, x2, x3⟩ := four_at (unhide HV1)
      clear b1
      go_wp2_with fail
      refine (RIsPoint_any xn xd yn yd w1 true HPl).mono ?_
      rintro e w2 ⟨rfl, b2⟩
      have HB2 := hide ((unhide HB1).trans (b2.mono (unhide HB1).size))
      have HI2 := hide (((unhide HI1).below b2).more b2.size)
      have HV2 := hide ((b2.block _ (Array.getElem?_eq_some_iff.1 (unhide HV1)).1).trans (unhide HV1))
      clear b2 x0 x1 x2 x3
      obtain ⟨x0, x1, x2, x3⟩ := four_at (unhide HV2)
      cases r with
      | false =>
        go_wp2_with fail
        refine (RIs_any A n c fs xn xd yn yd w2 (unhide HI2) HOff HPx HPy false HR).mono ?_
        rintro e w3 ⟨rfl, b3⟩
        have HB3 := hide ((unhide HB2).trans (b3.mono (unhide HB2).size))
        clear b3 x0 x1 x2 x3
        go_wp2_with fail
        refine (awake_any w3).mono ?_
        rintro e w4 ⟨rfl, b4⟩
        have HB4 := hide ((unhide HB3).trans (b4.mono (unhide HB3).size))
        clear b4
        go_wp2_with fail
        go_ret
        exact ⟨rfl, unhide HB4⟩
      | true =>
        go_wp2_with fail
        refine (RIs_any A n c fs xn xd yn yd w2 (unhide HI2) HOff HPx HPy true HR).mono ?_
        rintro e w3 ⟨rfl, b3⟩
        have HB3 := hide ((unhide HB2).trans (b3.mono (unhide HB2).size))
        clear b3 x0 x1 x2 x3
        go_wp2_with fail
        refine (awake_any w3).mono ?_
        rintro e w4 ⟨rfl, b4⟩
        have HB4 := hide ((unhide HB3).trans (b4.mono (unhide HB3).size))
        clear b4
        go_wp2_with fail
        go_ret
        exact ⟨rfl, unhide HB4⟩
end Go.Proofs.Ytbgfiejaehpffaa
