/-
  family of the program, walked.
-/
import Derived.Test.YtabgifpenegofaaZ4
namespace Go.Proofs.Ytabgifpenegofaa
open Go.RowKit

set_option maxRecDepth 100000 in
set_option maxHeartbeats 8000000 in
theorem family_any (r c : Nat → Int) (w : World) (hr : Hid (∀ i, i < 3 → 0 ≤ r i ∧ r i ≤ 16)) (hc : Hid (∀ i, i < 3 → 0 ≤ c i ∧ c i ≤ 16)) :
    Calls Try.prog 74 #[.agg (lnA r), .agg (lnA c)] w fun e w' => ∃ v, e = .returned v ∧ OwnA w' w.heap.size 79 9 v (famL r c) ∧ Below w.heap.size w w' := by
  obtain ⟨r00, r01⟩ := hr.out 0 (by omega)
  obtain ⟨r10, r11⟩ := hr.out 1 (by omega)
  have Ic := hide (info75 c)
  obtain ⟨W0, hW0⟩ : ∃ W0, W0 = (w.alloc (.cells (lnA r) 75)).alloc (.cells (lnA c) 75) := ⟨_, rfl⟩
  have HB0 := hide (show Below w.heap.size w W0 from by rw [hW0]; exact ((Below.refl _ w).alloc (Nat.le_refl _) _).alloc (by simp) _)
  have HR0 := hide (show Blk W0 w.heap.size 75 (lnA r) from by rw [hW0]; exact (Blk.new _ _ _).alloc _)
  have HC0 := hide (show Blk W0 (w.heap.size + 1) 75 (lnA c) from by
    rw [hW0]
    have := Blk.new (w.alloc (.cells (lnA r) 75)) 75 (lnA c)
    simpa using this)
  have c00 := (unhide HR0).cell 0
  rw [lnA_at _ _ (by omega)] at c00
  go_enter Try.func74, Try.ntmps74
  go_upto_region 1 with fail
  rw [← hW0]
  clear hW0
  go_wp2_with (refine wpList_load_row rfl 75 _ rfl (w.heap.size + 1) rfl 75 (lnA c) (0, 0) _ (unhide HC0) Try.underlying75 rfl Ic.out ?_)
  refine (parts_any (r 0) c _ ⟨r00, r01⟩ hc).mono ?_
  rintro e w1 ⟨v1, rfl, o1, b1⟩
  obtain ⟨A1, c1, rfl, i1⟩ := o1.reads
  obtain ⟨n, hn⟩ : ∃ n, (ptsL (r 0) c).length = n := ⟨_, rfl⟩
  have HN := hide hn
  have hnb : n ≤ 289 := by rw [← hn]; exact ptsL_len r01
  rw [hn] at i1 ⊢
  have I1 := hide i1
  have HB1 := hide ((unhide HB0).trans (b1.mono (unhide HB0).size))
  have HR1 := hide ((unhide HR0).below b1 (unhide HR0).lt)
  have HC1 := hide ((unhide HC0).below b1 (unhide HC0).lt)
  have HFL := hide (show fm1 r c ((ptsL (r 0) c).take n) = famL r c from by unfold famL; rw [← hn, List.take_length])
  have HM1 := hide (fun x (hx : x ∈ ptsL (r 0) c) => ptsL_mem r00 (fun i hi => (hc.out i hi).1) hx)
  have hms := i1.most; have hcap := i1.cap
  clear o1 i1 b1 c00 hn
  have O0 := hide (OwnA.new w1 w1.heap.size 79 9)
  go_wp2_with fail
  go_loopw [5, 7, 8, 10, 11, 17] (fun y _ _ _ _ q wr => ∃ k : Nat, k ≤ n ∧ q = .int .i64 k ∧ Hid (OwnA wr w1.heap.size 79 9 y (fm1 r c ((ptsL (r 0) c).take k))) ∧ Hid (Below w1.heap.size w1 wr)) (fun _ _ _ _ _ q _ => n - (intOf q).toNat)
  case atStart => exact ⟨0, Nat.zero_le _, rfl, O0, hide (Below.refl _ _)⟩
  case round =>
    obtain ⟨wo, rfl⟩ : ∃ wo : World, wo = wr := ⟨_, rfl⟩
    obtain ⟨y0, rfl⟩ : ∃ y0 : Value, y0 = u5 := ⟨_, rfl⟩
    obtain ⟨k, hk, rfl, HO, HB⟩ := hrel
    by_cases hlt : k < n
    · have hkl : k < (ptsL (r 0) c).length := by rw [HN.out]; exact hlt
      have HPx := hide (HM1.out _ (row_mem hkl))
      obtain ⟨b1, o1, rfl, hb1, x0, x1, x2⟩ := ((unhide I1).below (unhide HB)).three hlt
      obtain ⟨xa, ha⟩ : ∃ y, nth (row (ptsL (r 0) c) k) 0 = y := ⟨_, rfl⟩
      obtain ⟨xb, hb⟩ : ∃ y, nth (row (ptsL (r 0) c) k) 1 = y := ⟨_, rfl⟩
      obtain ⟨xc, hc3⟩ : ∃ y, nth (row (ptsL (r 0) c) k) 2 = y := ⟨_, rfl⟩
      rw [ha] at x0; rw [hb] at x1; rw [hc3] at x2
      have HXE := hide (show lnA (nth (row (ptsL (r 0) c) k)) = #[.int .i64 xa, .int .i64 xb, .int .i64 xc] from by unfold lnA; rw [ha, hb, hc3])
      have HXN := hide (⟨ha, hb, hc3⟩ : nth (row (ptsL (r 0) c) k) 0 = xa ∧ nth (row (ptsL (r 0) c) k) 1 = xb ∧ nth (row (ptsL (r 0) c) k) 2 = xc)
      clear ha hb hc3
      obtain ⟨W2, W3, e2, e3, HN2, HN3, HB3⟩ := new_line wo xa xb xc
      have IX := hide (infoX xa xb xc)
      have AX := hide (allX xa xb xc)
      have hcapo := hcap
      go_upto_region 5 with (first
        | (refine wpList_store_row rfl 75 _ _ rfl wo.heap.size #[.int .i64 xa, .int .i64 xb, .int .i64 xc] rfl rfl 75 _ (unhide HN2) IX.out rfl AX.out ?_))
      rw [e3]
      clear e2 e3 x0 x1 x2
      have HBo := hide ((unhide HB1).trans ((unhide HB).mono (unhide HB1).size))
      have HCo := hide ((unhide HC1).below (unhide HB) (unhide HC1).lt)
      have HC3 := hide ((unhide HCo).below (unhide HB3) (unhide HCo).lt)
      have HXb := hide (show ∀ i, i < 3 → -1000 ≤ nth (row (ptsL (r 0) c) k) i ∧ nth (row (ptsL (r 0) c) k) i ≤ 1000 from fun i hi => by
        have := HPx.out.lo i hi; have := HPx.out.hi i hi; have := hc.out i hi; omega)
      have HCb := hide (show ∀ i, i < 3 → -1000 ≤ c i ∧ c i ≤ 1000 from fun i hi => by have := hc.out i hi; omega)
      go_wp2_with (first
        | (refine wpList_load_row rfl 75 _ rfl (w.heap.size + 1) rfl 75 (lnA c) (0, 0) _ (unhide HC3) Try.underlying75 rfl Ic.out ?_)
        | (refine wpList_load_row rfl 75 _ rfl wo.heap.size rfl 75 #[.int .i64 xa, .int .i64 xb, .int .i64 xc] (0, 0) _ (unhide HN3) Try.underlying75 rfl IX.out ?_))
      rw [← HXE.out]
      refine (minus_any c (nth (row (ptsL (r 0) c) k)) _ HCb HXb).mono ?_
      rintro e W4 ⟨rfl, b4⟩
      rw [HXE.out]
      rw [show (fun i => c i - nth (row (ptsL (r 0) c) k) i) = lft c (row (ptsL (r 0) c) k) from rfl]
      have HLB := hide (show ∀ i, i < 3 → 0 ≤ lft c (row (ptsL (r 0) c) k) i ∧ lft c (row (ptsL (r 0) c) k) i ≤ 16 from fun i hi => by
        have := HPx.out.lo i hi; have := HPx.out.hi i hi; have := hc.out i hi; unfold lft; omega)
      obtain ⟨L, hL⟩ : ∃ L, lft c (row (ptsL (r 0) c) k) = L := ⟨_, rfl⟩
      have HL := hide hL
      rw [hL] at HLB ⊢
      clear hL HXb HCb
      have HN4 := hide ((unhide HN3).below b4 (unhide HN3).lt)
      have HB4 := hide ((unhide HB3).trans (b4.mono (unhide HB3).size))
      have HC4 := hide ((unhide HC3).below b4 (unhide HC3).lt)
      clear b4
      obtain ⟨W5, W6, e5, e6, HN5, HN6, HB6⟩ := new_lineF W4 L
      have IL := hide (info75 L)
      have AL := hide (lnA_all L)
      go_upto_region 6 with (first
        | (refine wpList_store_row rfl 75 _ _ rfl W4.heap.size (lnA L) rfl rfl 75 _ (unhide HN5) IL.out rfl AL.out ?_))
      rw [e6]
      clear e5 e6
      have g3 := (unhide HN4).lt
      have HX6 := hide ((unhide HN4).below (unhide HB6) g3)
      have HBoo := hide ((unhide HB4).trans ((unhide HB6).mono (unhide HB4).size))
      have HR6 := hide ((((unhide HR1).below (unhide HB) (unhide HR1).lt).below (unhide HBoo) (by have := (unhide HR1).lt; have := (unhide HB).size; omega)))
      have d1 := (unhide HR6).cell 1
      rw [lnA_at _ _ (by omega)] at d1
      go_wp2_with (first
        | (refine wpList_load_row rfl 75 _ rfl W4.heap.size rfl 75 (lnA L) (0, 0) _ (unhide HN6) Try.underlying75 rfl IL.out ?_))
      refine (parts_any (r 1) L _ ⟨r10, r11⟩ HLB).mono ?_
      rintro e W7 ⟨v7, rfl, o7, b7⟩
      obtain ⟨A7, c7, rfl, i7⟩ := o7.reads
      have HS7 := hide (fun b off (e : A7 = some ⟨b, off, none⟩) => (show W6.heap.size ≤ b from by subst e; exact (o7.blk_lt b rfl).1))
      obtain ⟨m, hm⟩ : ∃ m, (ptsL (r 1) L).length = m := ⟨_, rfl⟩
      have HM := hide hm
      have hmb : m ≤ 289 := by rw [← hm]; exact ptsL_len r11
      rw [hm] at i7 ⊢
      have I7 := hide i7
      have HFM := hide (show fm2 r c (row (ptsL (r 0) c) k) ((ptsL (r 1) L).take m) = fm2 r c (row (ptsL (r 0) c) k) (ptsL (r 1) L) from by rw [← hm, List.take_length])
      have HM7 := hide (fun x (hx : x ∈ ptsL (r 1) L) => ptsL_mem r10 (fun i hi => (HLB.out i hi).1) hx)
      have hms7 := i7.most; have hcap7 := i7.cap
      have HX7 := hide ((unhide HX6).below b7 (unhide HX6).lt)
      have HL7 := hide ((unhide HN6).below b7 (unhide HN6).lt)
      have HR7 := hide ((unhide HR6).below b7 (unhide HR6).lt)
      have HBo7 := hide ((unhide HBoo).trans (b7.mono (unhide HBoo).size))
      have HO7 := hide ((unhide HO).below (unhide HBo7))
      have HB7 := hide ((unhide HB).trans ((unhide HBo7).mono (unhide HB).size))
      have hu5 := hide (fun g (e : y0.ownBlock = some g) => (unhide HO).blk_lt g e)
      have gX := (unhide HX7).lt; have gL := (unhide HL7).lt
      have g36 : wo.heap.size < W4.heap.size := g3
      have g46 : W4.heap.size < W6.heap.size := (unhide HN6).lt
      clear o7 i7 b7 d1 hm HN2 HN3 HB3 HN4 HB4 HN5 HN6 HB6 HX6 HR6 HBoo HC3 HC4
      have HSt := hide (show OwnA W7 w1.heap.size 79 9 y0 (fm1 r c ((ptsL (r 0) c).take k) ++ fm2 r c (row (ptsL (r 0) c) k) ((ptsL (r 1) L).take 0)) from by
        rw [List.take_zero, show fm2 r c (row (ptsL (r 0) c) k) [] = [] from rfl, List.append_nil]; exact unhide HO7)
      have HV0 := hide (show ∀ g, y0.ownBlock = some g → some g = y0.ownBlock ∨ W7.heap.size ≤ g from fun g e => .inl e.symm)
      have HBT := hide (But.refl W7 y0.ownBlock)
      go_wp2_with fail
      go_loopw [5, 10, 11, 29] (fun y _ _ q wr => ∃ j : Nat, j ≤ m ∧ q = .int .i64 j ∧ Hid (OwnA wr w1.heap.size 79 9 y (fm1 r c ((ptsL (r 0) c).take k) ++ fm2 r c (row (ptsL (r 0) c) k) ((ptsL (r 1) L).take j))) ∧ Hid (But W7 wr y0.ownBlock) ∧ Hid (∀ g, y.ownBlock = some g → some g = y0.ownBlock ∨ W7.heap.size ≤ g) ∧ Hid (Below w1.heap.size w1 wr)) (fun _ _ _ q _ => m - (intOf q).toNat)
      case atStart => exact ⟨0, Nat.zero_le _, rfl, HSt, HBT, HV0, HB7⟩
      case round =>
        obtain ⟨wq, rfl⟩ : ∃ wq : World, wq = wr := ⟨_, rfl⟩
        obtain ⟨j, hj, rfl, HOj, HT, HV, HBj⟩ := hrel
        by_cases hjt : j < m
        · have hjl : j < (ptsL (r 1) L).length := by rw [HM.out]; exact hjt
          have HPy := hide (HM7.out _ (row_mem hjl))
          obtain ⟨by_, oy, hAe, hby, y1, y2, y3⟩ := ((unhide I7).but (unhide HT) (fun b off e => by
            have h1 := HS7.out b off e
            intro e2
            have := (hu5.out b e2.symm).2
            omega)).three hjt
          subst hAe
          obtain ⟨ya, ha⟩ : ∃ y, nth (row (ptsL (r 1) L) j) 0 = y := ⟨_, rfl⟩
          obtain ⟨yb, hb⟩ : ∃ y, nth (row (ptsL (r 1) L) j) 1 = y := ⟨_, rfl⟩
          obtain ⟨yc, hc3⟩ : ∃ y, nth (row (ptsL (r 1) L) j) 2 = y := ⟨_, rfl⟩
          rw [ha] at y1; rw [hb] at y2; rw [hc3] at y3
          have HYE := hide (show lnA (nth (row (ptsL (r 1) L) j)) = #[.int .i64 ya, .int .i64 yb, .int .i64 yc] from by unfold lnA; rw [ha, hb, hc3])
          have HYN := hide (⟨ha, hb, hc3⟩ : nth (row (ptsL (r 1) L) j) 0 = ya ∧ nth (row (ptsL (r 1) L) j) 1 = yb ∧ nth (row (ptsL (r 1) L) j) 2 = yc)
          clear ha hb hc3
          obtain ⟨W8, W9, e8, e9, HN8, HN9, HB9⟩ := new_line wq ya yb yc
          have IY := hide (infoX ya yb yc)
          have AY := hide (allX ya yb yc)
          go_upto_region 9 with (first
            | (refine wpList_store_row rfl 75 _ _ rfl wq.heap.size #[.int .i64 ya, .int .i64 yb, .int .i64 yc] rfl rfl 75 _ (unhide HN8) IY.out rfl AY.out ?_))
          rw [e9]
          clear e8 e9 y1 y2 y3
          have HLq := hide ((unhide HT).blk (unhide HL7) (fun e => by have := (hu5.out _ e.symm).2; omega))
          have HXq := hide ((unhide HT).blk (unhide HX7) (fun e => by have := (hu5.out _ e.symm).2; omega))
          have HL9 := hide ((unhide HLq).below (unhide HB9) (unhide HLq).lt)
          have HX9 := hide ((unhide HXq).below (unhide HB9) (unhide HXq).lt)
          have HYb := hide (show ∀ i, i < 3 → -1000 ≤ nth (row (ptsL (r 1) L) j) i ∧ nth (row (ptsL (r 1) L) j) i ≤ 1000 from fun i hi => by
            have := HPy.out.lo i hi; have := HPy.out.hi i hi; have := HLB.out i hi; omega)
          have HLb := hide (show ∀ i, i < 3 → -1000 ≤ L i ∧ L i ≤ 1000 from fun i hi => by have := HLB.out i hi; omega)
          go_wp2_with (first
            | (refine wpList_load_row rfl 75 _ rfl W4.heap.size rfl 75 (lnA L) (0, 0) _ (unhide HL9) Try.underlying75 rfl IL.out ?_)
            | (refine wpList_load_row rfl 75 _ rfl wq.heap.size rfl 75 #[.int .i64 ya, .int .i64 yb, .int .i64 yc] (0, 0) _ (unhide HN9) Try.underlying75 rfl IY.out ?_))
          rw [← HYE.out]
          refine (minus_any L (nth (row (ptsL (r 1) L) j)) _ HLb HYb).mono ?_
          rintro e Wa ⟨rfl, ba⟩
          rw [HYE.out]
          have HZB := hide (show ∀ i, i < 3 → -1000000 ≤ lft L (row (ptsL (r 1) L) j) i ∧ lft L (row (ptsL (r 1) L) j) i ≤ 1000000 from fun i hi => by
            have := HLb.out i hi; have := HYb.out i hi; unfold lft; omega)
          have HZF := hide (show ∀ i, lft L (row (ptsL (r 1) L) j) i = c i - nth (row (ptsL (r 0) c) k) i - nth (row (ptsL (r 1) L) j) i from fun i => by rw [← HL.out]; rfl)
          rw [show (fun i => L i - nth (row (ptsL (r 1) L) j) i) = lft L (row (ptsL (r 1) L) j) from rfl]
          obtain ⟨Z, hZ⟩ : ∃ Z, lft L (row (ptsL (r 1) L) j) = Z := ⟨_, rfl⟩
          rw [hZ] at HZB HZF ⊢
          clear hZ HYb HLb
          have HNa := hide ((unhide HN9).below ba (unhide HN9).lt)
          have HXa := hide ((unhide HX9).below ba (unhide HX9).lt)
          have HBa := hide ((unhide HB9).trans (ba.mono (unhide HB9).size))
          clear ba HN8 HN9 HB9 HLq HXq HL9 HX9
          obtain ⟨Wb, Wc, eb, ec, HNb, HNc, HBc⟩ := new_lineF Wa Z
          have IZ := hide (info75 Z)
          have AZ := hide (lnA_all Z)
          go_upto_region 10 with (first
            | (refine wpList_store_row rfl 75 _ _ rfl Wa.heap.size (lnA Z) rfl rfl 75 _ (unhide HNb) IZ.out rfl AZ.out ?_))
          rw [ec]
          clear eb ec HNb
          have HYc := hide ((unhide HNa).below (unhide HBc) (unhide HNa).lt)
          have HXc := hide ((unhide HXa).below (unhide HBc) (unhide HXa).lt)
          have HBqc := hide ((unhide HBa).trans ((unhide HBc).mono (unhide HBa).size))
          have HRq := hide ((unhide HT).blk (unhide HR7) (fun e => by have := (hu5.out _ e.symm).1; have := (unhide HR1).lt; omega))
          have HRc := hide ((unhide HRq).below (unhide HBqc) (unhide HRq).lt)
          clear HNa HXa HBa HBc HRq
          have HWd := hide (show Below Wc.heap.size Wc Wc.drew from (Below.refl _ _).drew)
          have HSA := hide (show ∀ W, Below Wc.heap.size Wc W → (W.cell? ⟨w.heap.size, 2, none⟩ = some (.int .i64 (r 2)) ∧ W.cell? ⟨Wa.heap.size, 0, none⟩ = some (.int .i64 (Z 0)) ∧ W.cell? ⟨Wa.heap.size, 1, none⟩ = some (.int .i64 (Z 1)) ∧ W.cell? ⟨Wa.heap.size, 2, none⟩ = some (.int .i64 (Z 2))) from fun W hW =>
            ⟨by rw [((unhide HRc).below hW (unhide HRc).lt).cell, lnA_at _ _ (by omega)], three_at ((unhide HNc).below hW (unhide HNc).lt)⟩)
          simp only [Act.put, List.setIfInBounds_toArray, List.set_cons_zero, List.set_cons_succ]
          have HPs := hide (fun W => (show Calls Try.prog 85 #[.agg #[.int .i64 (Z 0), .int .i64 (Z 1), .int .i64 (Z 2)]] W fun e w' => e = .returned (.int .i64 (Z 0 + Z 1 + Z 2)) ∧ Below W.heap.size W w' from sum_any Z W HZB.out))
          refine wp_region_quietC (fun W' => Below Wc.heap.size Wc W') (by kernel_rfl) (by kernel_rfl) (unhide HWd) ?_
          repeat (first
            | go_big_quiet_skip
            | (go_big_quiet_want
               apply Exists.intro
               refine ⟨fun W hW => ?_, ?_⟩
               · obtain ⟨s0, s1, s2, s3⟩ := (unhide HSA) W hW
                 go_simp
                 first | rfl | ((with_reducible refine ((unhide HPs) W).mono ?_); exact fun _ _ h => ⟨h.1, hW.trans (h.2.mono hW.size)⟩)
               go_big_quiet_on
               simp only [Act.put, List.setIfInBounds_toArray, List.set_cons_zero, List.set_cons_succ]))
          refine wpQuiet_nil ?_
          intro wc hWc
          have HYd := hide ((unhide HYc).below hWc (unhide HYc).lt)
          have HXd := hide ((unhide HXc).below hWc (unhide HXc).lt)
          have HZd := hide ((unhide HNc).below hWc (unhide HNc).lt)
          have HBqd := hide ((unhide HBqc).trans (hWc.mono (unhide HBqc).size))
          clear hWc HYc HXc HNc HBqc HRc HSA HPs HWd
          have HTd := hide ((unhide HT).below (unhide HBqd))
          have HOd := hide ((unhide HOj).below (unhide HBqd))
          have HBd := hide ((unhide HBj).trans ((unhide HBqd).mono (unhide HBj).size))
          have HSC := hide (fm2_succ r c (row (ptsL (r 0) c) k) (ptsL (r 1) L) j hjl)
          rw [← HZF.out, ← HZF.out, ← HZF.out] at HSC
          have hll : (fm1 r c ((ptsL (r 0) c).take k) ++ fm2 r c (row (ptsL (r 0) c) k) ((ptsL (r 1) L).take j)).length ≤ 1000000 := by
            have q1 := fm1_len (c := c) r11 ((ptsL (r 0) c).take k)
            have q2 := fm2_len r c (row (ptsL (r 0) c) k) ((ptsL (r 1) L).take j)
            rw [List.length_take] at q1 q2
            rw [List.length_append]
            have := HN.out; have := HM.out
            omega
          have hbs : w1.heap.size ≤ wc.heap.size := (unhide HBd).size
          have HXYn := HXN; have HYNn := HYN
          by_cases hz : Z 0 + Z 1 + Z 2 = r 2
          · have hzb : (Z 0 + Z 1 + Z 2 == r 2) = true := by simp [hz]
            rw [if_pos hz] at HSC
            obtain ⟨p0, p1, p2⟩ := three_at (unhide HXd)
            obtain ⟨q0, q1, q2⟩ := three_at (unhide HYd)
            obtain ⟨t0, t1, t2⟩ := three_at (show Blk wc Wa.heap.size 75 #[.int .i64 (Z 0), .int .i64 (Z 1), .int .i64 (Z 2)] from unhide HZd)
            have HKX := hide (show [xa, xb, xc, ya, yb, yc, Z 0, Z 1, Z 2] = kx c (row (ptsL (r 0) c) k) (row (ptsL (r 1) L) j) from by
              unfold kx; rw [HXN.out.1, HXN.out.2.1, HXN.out.2.2, HYN.out.1, HYN.out.2.1, HYN.out.2.2, HZF.out, HZF.out, HZF.out, HXN.out.1, HXN.out.2.1, HXN.out.2.2, HYN.out.1, HYN.out.2.1, HYN.out.2.2])
            clear hz
            go_wp2_with (at_builtin; refine wpList_app9 (v := u5) rfl _ _ rfl rfl rfl (unhide HOd) hll hbs ?_; intro v2 w2 ho2 hb2 hk2 hv2)
            go_roundw
            case rel =>
              refine ⟨j + 1, by omega, by go_num, hide ?_, hide ((unhide HTd).app HV.out hk2 hb2.size), hide ?_, hide ((unhide HBd).trans hb2)⟩
              · rw [HSC.out, ← HKX.out, ← List.append_assoc]; exact ho2
              · intro g e
                rcases hv2 with e2 | e2
                · rw [e2] at e; exact HV.out g e
                · rw [e2] at e; cases e; right; have := (unhide HTd).size; omega
            case measure => simp [intOf]; omega
          · have hzb : (Z 0 + Z 1 + Z 2 == r 2) = false := by simp [hz]
            rw [if_neg hz, List.append_nil] at HSC
            clear hz
            go_wp2_with fail
            go_roundw
            case rel => exact ⟨j + 1, by omega, by go_num, hide (by rw [HSC.out]; exact unhide HOd), HTd, HV, HBd⟩
            case measure => simp [intOf]; omega
        · obtain rfl : m = j := by omega
          have HFS := hide (show fm1 r c ((ptsL (r 0) c).take k) ++ fm2 r c (row (ptsL (r 0) c) k) ((ptsL (r 1) L).take m) = fm1 r c ((ptsL (r 0) c).take (k + 1)) from by rw [fm1_succ _ _ _ _ hkl, HFM.out, HL.out])
          go_wp2_with fail
          go_roundw
          case rel => exact ⟨k + 1, by omega, by go_num, hide (by rw [← HFS.out]; exact unhide HOj), HBj⟩
          case measure => simp [intOf]; omega
    · obtain rfl : n = k := by omega
      go_wp2_with fail
      go_ret
      exact ⟨_, rfl, by rw [← HFL.out]; exact (unhide HO).lower (unhide HB1).size, (unhide HB1).trans ((unhide HB).mono (unhide HB1).size)⟩
end Go.Proofs.Ytabgifpenegofaa
