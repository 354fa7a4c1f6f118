/-
  CutsCuts: the walk.
-/
import Derived.Test.YtccfhcoioakmpaaR3
import Derived.Test.YtccfhcoioakmpaaL1
namespace Go.Proofs.Ytccfhcoioakmpaa
open Go.RowKit

theorem areM_take {n : Nat} {fs : List F} (hn : n ≤ 6) : areM n (fs.take 9) = (decide ((fs.length : Int) = (n : Int)) && mulOk fs) := by
  by_cases h : fs.length ≤ 9
  · rw [List.take_of_length_le h, areM]
    congr 1
    simp; omega
  · have e1 : ¬ (fs.take 9).length = n := by rw [List.length_take]; omega
    have e2 : ¬ (fs.length : Int) = (n : Int) := by omega
    rw [areM]; simp only [e1, e2, decide_false, Bool.false_and]
theorem take_mult {n : Nat} {fs : List F} (hn : n ≤ 6) (h : areM n (fs.take 9) = true) : fs.take 9 = fs := by
  have := (areM_parts h).1
  rw [List.length_take] at this
  exact List.take_of_length_le (by omega)

set_option maxRecDepth 100000 in
set_option maxHeartbeats 6400000 in
theorem Cuts_any (A A' : Option Addr) (n c n' c' : Nat) (gs : List G) (fs : List F) (x y z : Int) (w : World) (hg : Gs w w.heap.size A n c gs) (h : Fs w w.heap.size A' n' c' fs) :
    Calls Try.prog 5 #[.slice A n c, .slice A' n' c', .agg #[.int .i64 x, .int .i64 y, .int .i64 z]] w fun e w' => e = .returned (.bool true) ∧ Below w.heap.size w w' := by
  have H := hide hg; have HF := hide h; clear hg h
  obtain ⟨⟨⟨a, b, m⟩, r⟩, hcu⟩ : ∃ q, cutR (gs.take 9) (fs.take 9) = q := ⟨_, rfl⟩
  have HCU := hide hcu; clear hcu
  obtain ⟨⟨bb, rr⟩, hch⟩ : ∃ q, chkR (gs.take 9) (fs.take 9) (x, y, z) = q := ⟨_, rfl⟩
  have HCH := hide hch; clear hch
  obtain ⟨W0, hW0⟩ : ∃ W0, W0 = w.alloc (.cells #[.int .i64 x, .int .i64 y, .int .i64 z] 56) := ⟨_, rfl⟩
  have HB0 := hide (show Below w.heap.size w W0 from by rw [hW0]; exact (Below.refl _ w).alloc (Nat.le_refl _) _)
  have HX0 := hide (show W0.heap[w.heap.size]? = some (.cells #[.int .i64 x, .int .i64 y, .int .i64 z] 56 (0, 0)) from by rw [hW0]; exact heap_new_ w _)
  have HL0 := hide (show w.heap.size < W0.heap.size from by rw [hW0]; simp)
  have HG0 := hide (show Gs W0 W0.heap.size A n c gs from ((unhide H).below (unhide HB0)).more (unhide HB0).size)
  go_enter Try.func5, Try.ntmps5
  go_wp2_with fail
  rw [← hW0]
  clear hW0
  refine (Of_any _ _ _ gs W0 (unhide HG0)).mono ?_
  rintro e w1 ⟨A1, n1, c1, rfl, g1, b1⟩
  have HG1 := hide g1
  have HB1 := hide ((unhide HB0).trans (b1.mono (unhide HB0).size))
  have HX1 := hide ((b1.block _ (unhide HL0)).trans (unhide HX0))
  have HF1 := hide (show Fs w1 w1.heap.size A' n' c' fs from ((unhide HF).below (unhide HB1)).more (unhide HB1).size)
  clear g1 b1
  go_wp2_with fail
  refine (fracs_any _ _ _ fs w1 (unhide HF1)).mono ?_
  rintro e w2 ⟨A2, n2, c2, rfl, f2, b2⟩
  have HF2 := hide f2
  have HG2 := hide (((unhide HG1).below b2).more b2.size)
  have HB2 := hide ((unhide HB1).trans (b2.mono (unhide HB1).size))
  have HX2 := hide ((b2.block _ (Array.getElem?_eq_some_iff.1 (unhide HX1)).1).trans (unhide HX1))
  clear f2 b2
  go_wp2_with fail
  refine (Cut_is _ _ _ _ _ _ _ _ w2 (unhide HG2) (unhide HF2) HCU).mono ?_
  rintro e w3 ⟨rfl, b3⟩
  obtain ⟨Wd, hWd⟩ : ∃ Wd, Wd = (w3.alloc (.cells #[.int .i64 a, .int .i64 b, .int .i64 m] 57)) := ⟨_, rfl⟩
  have HB3 := hide ((unhide HB2).trans (b3.mono (unhide HB2).size))
  have HX3 := hide ((b3.block _ (Array.getElem?_eq_some_iff.1 (unhide HX2)).1).trans (unhide HX2))
  have HBd := hide (show Below w.heap.size w Wd.drew from by rw [hWd]; exact ((unhide HB3).alloc (unhide HB3).size _).drew)
  have HXd := hide (show Wd.drew.heap[w.heap.size]? = some (.cells #[.int .i64 x, .int .i64 y, .int .i64 z] 56 (0, 0)) from by rw [hWd]; exact (Below.heap_alloc _ _ _ (Array.getElem?_eq_some_iff.1 (unhide HX3)).1).trans (unhide HX3))
  have HCd := hide (show Wd.drew.heap[w3.heap.size]? = some (.cells #[.int .i64 a, .int .i64 b, .int .i64 m] 57 (0, 0)) from by rw [hWd]; exact heap_new_ w3 _)
  have HGd := hide (show Gs Wd.drew Wd.drew.heap.size A n c gs from ((unhide H).below (unhide HBd)).more (unhide HBd).size)
  have HFd := hide (show Fs Wd.drew Wd.drew.heap.size A' n' c' fs from ((unhide HF).below (unhide HBd)).more (unhide HBd).size)
  clear b3 HG0 HX0 HL0 HG1 HX1 HF1 HF2 HG2 HX2 HX3 HB0 HB1 HB2 HB3
  go_wp2_with fail
  rw [← hWd]
  clear hWd
  generalize w3.heap.size = bC at HCd ⊢
  go_upto_region 2 with fail
  go_cut [9, 10] (fun s9 s10 wc => s9 = .bool bb ∧ s10 = .int .i64 rr ∧ Hid (Below Wd.drew.heap.size Wd.drew wc))
  case first =>
    obtain ⟨x0, x1, x2⟩ := three_at (unhide HXd)
    go_region_held3 (fun W => W.cell? ⟨w.heap.size, 0, none⟩ = some (.int .i64 x) ∧ W.cell? ⟨w.heap.size, 1, none⟩ = some (.int .i64 y) ∧ W.cell? ⟨w.heap.size, 2, none⟩ = some (.int .i64 z)) (first | exact unhide HKad | exact unhide HKcb | exact unhide HKa | exact unhide HKc | exact ⟨x0, x1, x2⟩ | exact unhide HKe) (first
      | (go_at_call 18; refine (Of_any _ _ _ gs Wd.drew (unhide HGd)).mono ?_; rintro e wa ⟨Aa, na, ca, rfl, ga, ba⟩; have HXa := hide ((ba.block _ (Array.getElem?_eq_some_iff.1 (unhide HXd)).1).trans (unhide HXd)); have HKa := hide (three_at (unhide HXa)); have HGa := hide ga; have HBa := hide ba; have HFa := hide (((unhide HFd).below ba).more ba.size); clear ga ba)
      | (go_at_call 34; refine (fracs_any _ _ _ fs wa (unhide HFa)).mono ?_; rintro e wad ⟨Ad, nd, cd, rfl, fd, bd⟩; have HXad := hide ((bd.block _ (Array.getElem?_eq_some_iff.1 (unhide HXa)).1).trans (unhide HXa)); have HKad := hide (three_at (unhide HXad)); have HGe := hide (((unhide HGa).below bd).more bd.size); have HFe := hide fd; have HBe := hide ((unhide HBa).trans (bd.mono (unhide HBa).size)); clear fd bd)
      | (go_at_call 34; refine (fracs_any _ _ _ fs Wd.drew (unhide HFd)).mono ?_; rintro e wc1 ⟨Ac, nc, cc, rfl, fc, bc⟩; have HXc := hide ((bc.block _ (Array.getElem?_eq_some_iff.1 (unhide HXd)).1).trans (unhide HXd)); have HKc := hide (three_at (unhide HXc)); have HFc := hide fc; have HBc := hide bc; have HGc := hide (((unhide HGd).below bc).more bc.size); clear fc bc)
      | (go_at_call 18; refine (Of_any _ _ _ gs wc1 (unhide HGc)).mono ?_; rintro e wcb ⟨Ab, nb, cb, rfl, gb, bb2⟩; have HXcb := hide ((bb2.block _ (Array.getElem?_eq_some_iff.1 (unhide HXc)).1).trans (unhide HXc)); have HKcb := hide (three_at (unhide HXcb)); have HFe := hide (((unhide HFc).below bb2).more bb2.size); have HGe := hide gb; have HBe := hide ((unhide HBc).trans (bb2.mono (unhide HBc).size)); clear gb bb2)
      | (go_at_call 35; refine (Check_is _ _ _ _ _ _ _ _ x y z _ (unhide HGe) (unhide HFe) HCH).mono ?_; rintro e we ⟨rfl, be⟩; have HBf := hide ((unhide HBe).trans (be.mono (unhide HBe).size)); have HKe := hide (three_at (((unhide HBf).block _ (Array.getElem?_eq_some_iff.1 (unhide HXd)).1).trans (unhide HXd))); clear be))
    all_goals (go_wp2_with fail; go_meet; exact ⟨rfl, rfl, unhide HBf⟩)
  case rest =>
    obtain ⟨rfl, rfl, hx⟩ := hcut
    have HBx := hide hx
    clear hx
    have HBw := hide ((unhide HBd).trans ((unhide HBx).mono (unhide HBd).size))
    have HXx := hide (((unhide HBx).block _ (Array.getElem?_eq_some_iff.1 (unhide HXd)).1).trans (unhide HXd))
    have HCx := hide (((unhide HBx).block _ (Array.getElem?_eq_some_iff.1 (unhide HCd)).1).trans (unhide HCd))
    have HG := hide (show Gs wc wc.heap.size A n c gs from ((unhide H).below (unhide HBw)).more (unhide HBw).size)
    have HFw := hide (show Fs wc wc.heap.size A' n' c' fs from ((unhide HF).below (unhide HBw)).more (unhide HBw).size)
    clear HXd HCd HGd HFd HBd HBx
    rcases hp : plF gs
    · have HPR := hide (show plR gs = false from by rw [plR_eq]; exact hp)
      have e1 := HCU.out; have e2 := HCH.out
      rw [cutR_bad (.inl (by rw [plF_take]; exact hp))] at e1
      rw [chkR_bad (.inl (by rw [plF_take]; exact hp))] at e2
      simp only [Prod.mk.injEq] at e1 e2
      obtain ⟨⟨rfl, rfl, rfl⟩, rfl⟩ := e1
      obtain ⟨rfl, rfl⟩ := e2
      clear hp HCU HCH
      have eqz := eql57 0 0 0 0 0 0
      go_wp2_with fail
      refine (RPlate_is _ _ _ _ _ (unhide HG) _ HPR).mono ?_
      rintro e w5 ⟨rfl, b5⟩
      have HB5 := hide ((unhide HBw).trans (b5.mono (unhide HBw).size))
      have HC5 := hide ((b5.block _ (Array.getElem?_eq_some_iff.1 (unhide HCx)).1).trans (unhide HCx))
      obtain ⟨z0, z1, z2⟩ := three_at (unhide HC5)
      clear b5
      go_wp2_with fail
      refine (awake_any _).mono ?_
      rintro e w9 ⟨rfl, b9⟩
      have HB9 := hide ((unhide HB5).trans (b9.mono (unhide HB5).size))
      clear b9
      go_wp2_with fail
      go_ret
      exact ⟨rfl, unhide HB9⟩
    have HPR := hide (show plR gs = true from by rw [plR_eq]; exact hp)
    have HPT : plF (gs.take 9) = true := by rw [plF_take]; exact hp
    have HT := take_plate hp
    have hlg := (unhide H).len
    have hn6 : n ≤ 6 := by have := (plF_len hp).2; omega
    have HO := hide (plF_ok hp)
    have e1 := HCU.out; have e2 := HCH.out
    rcases hm : areM n (fs.take 9)
    · have HMR := hide (show (decide ((fs.length : Int) = (n : Int)) && mulOk fs) = false from by rw [← areM_take hn6]; exact hm)
      rw [cutR_bad (.inr (by rw [HT, hlg]; exact hm))] at e1
      rw [chkR_bad (.inr (by rw [HT, hlg]; exact hm))] at e2
      simp only [Prod.mk.injEq] at e1 e2
      obtain ⟨⟨rfl, rfl, rfl⟩, rfl⟩ := e1
      obtain ⟨rfl, rfl⟩ := e2
      clear hp HCU HCH HPT HT hm hlg
      have eqz := eql57 0 0 0 0 0 0
      go_wp2_with fail
      refine (RPlate_is _ _ _ _ _ (unhide HG) _ HPR).mono ?_
      rintro e w5 ⟨rfl, b5⟩
      have HB5 := hide ((unhide HBw).trans (b5.mono (unhide HBw).size))
      have HC5 := hide ((b5.block _ (Array.getElem?_eq_some_iff.1 (unhide HCx)).1).trans (unhide HCx))
      have HF5 := hide (((unhide HFw).below b5).more b5.size)
      clear b5
      go_wp2_with fail
      refine (RMult_any _ _ _ _ _ _ (unhide HF5) _ HMR).mono ?_
      rintro e w6 ⟨rfl, b6⟩
      have HB6 := hide ((unhide HB5).trans (b6.mono (unhide HB5).size))
      have HC6 := hide ((b6.block _ (Array.getElem?_eq_some_iff.1 (unhide HC5)).1).trans (unhide HC5))
      obtain ⟨z0, z1, z2⟩ := three_at (unhide HC6)
      clear b6
      go_wp2_with fail
      refine (awake_any _).mono ?_
      rintro e w9 ⟨rfl, b9⟩
      have HB9 := hide ((unhide HB6).trans (b9.mono (unhide HB6).size))
      clear b9
      go_wp2_with fail
      go_ret
      exact ⟨rfl, unhide HB9⟩
    have HMR := hide (show (decide ((fs.length : Int) = (n : Int)) && mulOk fs) = true from by rw [← areM_take hn6]; exact hm)
    have HTF := take_mult hn6 hm
    rw [HT, HTF] at e1 e2
    rw [HTF] at hm
    rw [cutR_ok hp (by rw [hlg]; exact hm)] at e1
    rw [chkR_ok hp (by rw [hlg]; exact hm)] at e2
    simp only [Prod.mk.injEq] at e2
    obtain ⟨e2, rfl⟩ := e2
    have HE1 := hide e1; have HE2 := hide e2
    have HMU := hide (areM_parts hm).2
    have HNN := hide (show n' = n from by have h1 := (areM_parts hm).1; have h2 := (unhide HF).len; omega)
    clear hp HCU HCH HPT HT HTF hm hlg e1 e2
    go_wp2_with fail
    refine (RPlate_is _ _ _ _ _ (unhide HG) _ HPR).mono ?_
    rintro e w5 ⟨rfl, b5⟩
    have HB5 := hide ((unhide HBw).trans (b5.mono (unhide HBw).size))
    have HC5 := hide ((b5.block _ (Array.getElem?_eq_some_iff.1 (unhide HCx)).1).trans (unhide HCx))
    have HX5 := hide ((b5.block _ (Array.getElem?_eq_some_iff.1 (unhide HXx)).1).trans (unhide HXx))
    have HF5 := hide (((unhide HFw).below b5).more b5.size)
    have HG5 := hide (((unhide HG).below b5).more b5.size)
    clear b5
    go_wp2_with fail
    refine (RMult_any _ _ _ _ _ _ (unhide HF5) _ HMR).mono ?_
    rintro e w6 ⟨rfl, b6⟩
    have HB6 := hide ((unhide HB5).trans (b6.mono (unhide HB5).size))
    have HC6 := hide ((b6.block _ (Array.getElem?_eq_some_iff.1 (unhide HC5)).1).trans (unhide HC5))
    have HX6 := hide ((b6.block _ (Array.getElem?_eq_some_iff.1 (unhide HX5)).1).trans (unhide HX5))
    have HF6 := hide (((unhide HF5).below b6).more b6.size)
    have HG6 := hide (((unhide HG5).below b6).more b6.size)
    clear b6
    go_wp2_with fail
    refine (RCut_any _ _ _ _ _ _ _ _ _ (unhide HG6) (unhide HF6) HO HMU HNN.out hn6 a b m r HE1).mono ?_
    rintro e w7 ⟨rfl, b7⟩
    have HB7 := hide ((unhide HB6).trans (b7.mono (unhide HB6).size))
    have HC7 := hide ((b7.block _ (Array.getElem?_eq_some_iff.1 (unhide HC6)).1).trans (unhide HC6))
    have HX7 := hide ((b7.block _ (Array.getElem?_eq_some_iff.1 (unhide HX6)).1).trans (unhide HX6))
    obtain ⟨W8, hW8⟩ : ∃ W8, W8 = w7.alloc (.cells #[.int .i64 a, .int .i64 b, .int .i64 m] 56) := ⟨_, rfl⟩
    have HB8 := hide (show Below w.heap.size w W8 from by rw [hW8]; exact (unhide HB7).alloc (unhide HB7).size _)
    have HC8 := hide (show W8.heap[bC]? = some (.cells #[.int .i64 a, .int .i64 b, .int .i64 m] 57 (0, 0)) from by rw [hW8]; exact (Below.heap_alloc _ _ _ (Array.getElem?_eq_some_iff.1 (unhide HC7)).1).trans (unhide HC7))
    have HX8 := hide (show W8.heap[w.heap.size]? = some (.cells #[.int .i64 x, .int .i64 y, .int .i64 z] 56 (0, 0)) from by rw [hW8]; exact (Below.heap_alloc _ _ _ (Array.getElem?_eq_some_iff.1 (unhide HX7)).1).trans (unhide HX7))
    have HD8 := hide (show W8.heap[w7.heap.size]? = some (.cells #[.int .i64 a, .int .i64 b, .int .i64 m] 56 (0, 0)) from by rw [hW8]; exact heap_new_ w7 _)
    clear b7
    go_upto_region 6 with fail
    rw [← hW8]
    clear hW8
    generalize w7.heap.size = bD at HD8 ⊢
    go_cut [13] (fun s wz => s = .bool bb ∧ wz = W8)
    case first =>
      obtain ⟨x0, x1, x2⟩ := three_at (unhide HX8)
      obtain ⟨d0, d1, d2⟩ := three_at (unhide HD8)
      have e1 := HE1.out; have e2 := HE2.out
      rw [chkB] at e2
      rcases hcf : cutF gs fs with _ | ⟨⟨a1, a2, a3⟩⟩
      · rw [hcf] at e1 e2
        simp only [Prod.mk.injEq] at e1 e2
        obtain ⟨⟨rfl, rfl, rfl⟩, rfl⟩ := e1
        subst e2
        clear hcf
        go_wp2_with fail
        go_meet
        exact ⟨rfl, rfl⟩
      · rw [hcf] at e1 e2
        simp only [Prod.mk.injEq] at e1 e2
        obtain ⟨⟨rfl, rfl, rfl⟩, rfl⟩ := e1
        have HE := hide e2
        clear hcf e2
        by_cases h1 : a1 = x
        · by_cases h2 : a2 = y
          · have t1 : (a1 == x) = true := by simp [h1]
            have t2 : (a2 == y) = true := by simp [h2]
            have HEE := hide (show decide (a3 ≤ z) = bb from by rw [← HE.out]; simp [h1, h2])
            clear h1 h2
            go_wp2_with fail
            go_meet
            exact ⟨congrArg Value.bool HEE.out, rfl⟩
          · have t1 : (a1 == x) = true := by simp [h1]
            have t2 : (a2 == y) = false := by simp [h2]
            have HEE := hide (show bb = false from by rw [← HE.out]; simp [h2])
            clear h1 h2
            go_wp2_with fail
            go_meet
            exact ⟨congrArg Value.bool HEE.out.symm, rfl⟩
        · have t1 : (a1 == x) = false := by simp [h1]
          have HEE := hide (show bb = false from by rw [← HE.out]; simp [h1])
          clear h1
          go_wp2_with fail
          go_meet
          exact ⟨congrArg Value.bool HEE.out.symm, rfl⟩
    case rest =>
      obtain ⟨rfl, rfl⟩ := hcut
      obtain ⟨z0, z1, z2⟩ := three_at (unhide HC8)
      obtain ⟨d0, d1, d2⟩ := three_at (unhide HD8)
      have eqz := eql57 a b m a b m
      have hdec : decide (((a, b, m) : G) = (a, b, m)) = true := by simp
      have hrr : (r == r) = true := by simp
      have hbb : (bb == bb) = true := by simp
      go_wp2_with fail
      refine (awake_any _).mono ?_
      rintro e w9 ⟨rfl, b9⟩
      have HB9 := hide ((unhide HB8).trans (b9.mono (unhide HB8).size))
      clear b9
      go_wp2_with fail
      go_ret
      exact ⟨rfl, unhide HB9⟩
end Go.Proofs.Ytccfhcoioakmpaa
