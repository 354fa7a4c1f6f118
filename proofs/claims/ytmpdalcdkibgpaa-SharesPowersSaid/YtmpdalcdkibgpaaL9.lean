import Derived.Test.YtmpdalcdkibgpaaN6
import Derived.Test.YtmpdalcdkibgpaaN8
import Derived.Test.YtmpdalcdkibgpaaL1
namespace Go.Proofs.Ytmpdalcdkibgpaa
open Go.RowKit Go.Sort

theorem fewB_take (xs ys : List Int) : fewB (xs.take 15) (ys.take 15) = fewB xs ys := by
  by_cases h1 : xs.length ≤ 15
  · by_cases h2 : ys.length ≤ 15
    · rw [List.take_of_length_le h1, List.take_of_length_le h2]
    · have e1 : fewB xs ys = false := by
        rcases hf : fewB xs ys
        · rfl
        · have := FewL.of hf; have a := this.most; have b := this.same; omega
      have e2 : fewB (xs.take 15) (ys.take 15) = false := by
        rcases hf : fewB (xs.take 15) (ys.take 15)
        · rfl
        · have := FewL.of hf; have a := this.most; have b := this.same; simp at a b; omega
      rw [e1, e2]
  · have e1 : fewB xs ys = false := by
      rcases hf : fewB xs ys
      · rfl
      · have := FewL.of hf; have a := this.most; omega
    have e2 : fewB (xs.take 15) (ys.take 15) = false := by
      rcases hf : fewB (xs.take 15) (ys.take 15)
      · rfl
      · have := FewL.of hf; have a := this.most; simp at a; omega
    rw [e1, e2]
theorem few_take {xs ys : List Int} (h : fewB xs ys = true) : xs.take 15 = xs ∧ ys.take 15 = ys := by
  have := FewL.of h; have a := this.most; have b := this.same
  exact ⟨List.take_of_length_le (by omega), List.take_of_length_le (by omega)⟩
theorem few_sh {xs ys : List Int} (h : fewB xs ys = true) : isSh xs = true := by
  simp only [fewB, Bool.and_eq_true] at h; exact h.1.1.1.1

set_option maxHeartbeats 2000000 in
theorem Muir_ff (A A' A'' : Option Addr) (n c n' c' n'' c'' : Nat) (xs ys zs : List Int) (w : World) (h : Ints w w.heap.size A n c xs) (h' : Ints w w.heap.size A' n' c' ys) (h'' : Ints w w.heap.size A'' n'' c'' zs) (hx : Hid (fewB xs zs = false)) (hy : Hid (fewB ys zs = false)) :
    Calls Try.prog 13 #[.slice A n c, .slice A' n' c', .slice A'' n'' c''] w fun e w' => e = .returned (.bool true) ∧ Below w.heap.size w w' := by
  have HB := hide (Below.refl w.heap.size w)
  have Ia := hide h; have Ib := hide h'; have Ic := hide h''; clear h h' h''
  have hx1 := hide (show fewB (xs.take 15) (zs.take 15) = false from by rw [fewB_take]; exact hx.out)
  have hy1 := hide (show fewB (ys.take 15) (zs.take 15) = false from by rw [fewB_take]; exact hy.out)
  go_enter Try.func13, Try.ntmps13
  go_wp2_with fail
  refine (list_ints _ _ _ _ _ _ (unhide Ia)).mono ?_
  rintro e w1 ⟨A1, n1, c1, rfl, i1, b1⟩
  replace HB := hide ((unhide HB).trans (b1.mono (unhide HB).size))
  replace Ia := hide (((unhide Ia).below b1).more b1.size)
  replace Ib := hide (((unhide Ib).below b1).more b1.size)
  replace Ic := hide (((unhide Ic).below b1).more b1.size)
  clear b1
  have I1 := hide i1
  clear i1
  go_wp2_with fail
  refine (list_ints _ _ _ _ _ _ (unhide Ic)).mono ?_
  rintro e w2 ⟨A2, n2, c2, rfl, i2, b2⟩
  replace HB := hide ((unhide HB).trans (b2.mono (unhide HB).size))
  replace Ia := hide (((unhide Ia).below b2).more b2.size)
  replace Ib := hide (((unhide Ib).below b2).more b2.size)
  replace Ic := hide (((unhide Ic).below b2).more b2.size)
  replace I1 := hide (((unhide I1).below b2).more b2.size)
  clear b2
  have I2 := hide i2
  clear i2
  go_wp2_with fail
  refine (Power_err _ _ _ _ _ _ _ _ _ (unhide I1) (unhide I2) hx1).mono ?_
  rintro e w3 ⟨rfl, b3⟩
  replace HB := hide ((unhide HB).trans (b3.mono (unhide HB).size))
  replace Ia := hide (((unhide Ia).below b3).more b3.size)
  replace Ib := hide (((unhide Ib).below b3).more b3.size)
  replace Ic := hide (((unhide Ic).below b3).more b3.size)
  replace I1 := hide (((unhide I1).below b3).more b3.size)
  replace I2 := hide (((unhide I2).below b3).more b3.size)
  clear b3
  clear I1
  clear I2
  go_wp2_with fail
  refine (list_ints _ _ _ _ _ _ (unhide Ib)).mono ?_
  rintro e w4 ⟨A4, n4, c4, rfl, i4, b4⟩
  replace HB := hide ((unhide HB).trans (b4.mono (unhide HB).size))
  replace Ia := hide (((unhide Ia).below b4).more b4.size)
  replace Ib := hide (((unhide Ib).below b4).more b4.size)
  replace Ic := hide (((unhide Ic).below b4).more b4.size)
  clear b4
  have I1 := hide i4
  clear i4
  go_wp2_with fail
  refine (list_ints _ _ _ _ _ _ (unhide Ic)).mono ?_
  rintro e w5 ⟨A5, n5, c5, rfl, i5, b5⟩
  replace HB := hide ((unhide HB).trans (b5.mono (unhide HB).size))
  replace Ia := hide (((unhide Ia).below b5).more b5.size)
  replace Ib := hide (((unhide Ib).below b5).more b5.size)
  replace Ic := hide (((unhide Ic).below b5).more b5.size)
  replace I1 := hide (((unhide I1).below b5).more b5.size)
  clear b5
  have I2 := hide i5
  clear i5
  go_wp2_with fail
  refine (Power_err _ _ _ _ _ _ _ _ _ (unhide I1) (unhide I2) hy1).mono ?_
  rintro e w6 ⟨rfl, b6⟩
  replace HB := hide ((unhide HB).trans (b6.mono (unhide HB).size))
  replace Ia := hide (((unhide Ia).below b6).more b6.size)
  replace Ib := hide (((unhide Ib).below b6).more b6.size)
  replace Ic := hide (((unhide Ic).below b6).more b6.size)
  replace I1 := hide (((unhide I1).below b6).more b6.size)
  replace I2 := hide (((unhide I2).below b6).more b6.size)
  clear b6
  clear I1
  clear I2
  go_wp2_with fail
  refine (awake_any _).mono ?_
  rintro e w7 ⟨rfl, b7⟩
  replace HB := hide ((unhide HB).trans (b7.mono (unhide HB).size))
  replace Ia := hide (((unhide Ia).below b7).more b7.size)
  replace Ib := hide (((unhide Ib).below b7).more b7.size)
  replace Ic := hide (((unhide Ic).below b7).more b7.size)
  clear b7
  go_wp2_with fail
  go_ret
  exact ⟨rfl, unhide HB⟩

set_option maxHeartbeats 2000000 in
theorem Muir_ft (A A' A'' : Option Addr) (n c n' c' n'' c'' : Nat) (xs ys zs : List Int) (w : World) (h : Ints w w.heap.size A n c xs) (h' : Ints w w.heap.size A' n' c' ys) (h'' : Ints w w.heap.size A'' n'' c'' zs) (hx : Hid (fewB xs zs = false)) (hy : Hid (fewB ys zs = true)) :
    Calls Try.prog 13 #[.slice A n c, .slice A' n' c', .slice A'' n'' c''] w fun e w' => e = .returned (.bool true) ∧ Below w.heap.size w w' := by
  have HB := hide (Below.refl w.heap.size w)
  have Ia := hide h; have Ib := hide h'; have Ic := hide h''; clear h h' h''
  have hx1 := hide (show fewB (xs.take 15) (zs.take 15) = false from by rw [fewB_take]; exact hx.out)
  have hy1 := hide (show fewB (ys.take 15) (zs.take 15) = true from by rw [fewB_take]; exact hy.out)
  obtain ⟨z2, hz2⟩ : ∃ z, powSum (ys.take 15) (zs.take 15) = z := ⟨_, rfl⟩
  have Hz2 := hide hz2; clear hz2
  go_enter Try.func13, Try.ntmps13
  go_wp2_with fail
  refine (list_ints _ _ _ _ _ _ (unhide Ia)).mono ?_
  rintro e w1 ⟨A1, n1, c1, rfl, i1, b1⟩
  replace HB := hide ((unhide HB).trans (b1.mono (unhide HB).size))
  replace Ia := hide (((unhide Ia).below b1).more b1.size)
  replace Ib := hide (((unhide Ib).below b1).more b1.size)
  replace Ic := hide (((unhide Ic).below b1).more b1.size)
  clear b1
  have I1 := hide i1
  clear i1
  go_wp2_with fail
  refine (list_ints _ _ _ _ _ _ (unhide Ic)).mono ?_
  rintro e w2 ⟨A2, n2, c2, rfl, i2, b2⟩
  replace HB := hide ((unhide HB).trans (b2.mono (unhide HB).size))
  replace Ia := hide (((unhide Ia).below b2).more b2.size)
  replace Ib := hide (((unhide Ib).below b2).more b2.size)
  replace Ic := hide (((unhide Ic).below b2).more b2.size)
  replace I1 := hide (((unhide I1).below b2).more b2.size)
  clear b2
  have I2 := hide i2
  clear i2
  go_wp2_with fail
  refine (Power_err _ _ _ _ _ _ _ _ _ (unhide I1) (unhide I2) hx1).mono ?_
  rintro e w3 ⟨rfl, b3⟩
  replace HB := hide ((unhide HB).trans (b3.mono (unhide HB).size))
  replace Ia := hide (((unhide Ia).below b3).more b3.size)
  replace Ib := hide (((unhide Ib).below b3).more b3.size)
  replace Ic := hide (((unhide Ic).below b3).more b3.size)
  replace I1 := hide (((unhide I1).below b3).more b3.size)
  replace I2 := hide (((unhide I2).below b3).more b3.size)
  clear b3
  clear I1
  clear I2
  go_wp2_with fail
  refine (list_ints _ _ _ _ _ _ (unhide Ib)).mono ?_
  rintro e w4 ⟨A4, n4, c4, rfl, i4, b4⟩
  replace HB := hide ((unhide HB).trans (b4.mono (unhide HB).size))
  replace Ia := hide (((unhide Ia).below b4).more b4.size)
  replace Ib := hide (((unhide Ib).below b4).more b4.size)
  replace Ic := hide (((unhide Ic).below b4).more b4.size)
  clear b4
  have I1 := hide i4
  clear i4
  go_wp2_with fail
  refine (list_ints _ _ _ _ _ _ (unhide Ic)).mono ?_
  rintro e w5 ⟨A5, n5, c5, rfl, i5, b5⟩
  replace HB := hide ((unhide HB).trans (b5.mono (unhide HB).size))
  replace Ia := hide (((unhide Ia).below b5).more b5.size)
  replace Ib := hide (((unhide Ib).below b5).more b5.size)
  replace Ic := hide (((unhide Ic).below b5).more b5.size)
  replace I1 := hide (((unhide I1).below b5).more b5.size)
  clear b5
  have I2 := hide i5
  clear i5
  go_wp2_with fail
  refine (Power_ok _ _ _ _ _ _ _ _ _ (unhide I1) (unhide I2) hy1 z2 Hz2).mono ?_
  rintro e w6 ⟨rfl, b6⟩
  replace HB := hide ((unhide HB).trans (b6.mono (unhide HB).size))
  replace Ia := hide (((unhide Ia).below b6).more b6.size)
  replace Ib := hide (((unhide Ib).below b6).more b6.size)
  replace Ic := hide (((unhide Ic).below b6).more b6.size)
  replace I1 := hide (((unhide I1).below b6).more b6.size)
  replace I2 := hide (((unhide I2).below b6).more b6.size)
  clear b6
  clear I1
  clear I2
  go_wp2_with fail
  refine (awake_any _).mono ?_
  rintro e w7 ⟨rfl, b7⟩
  replace HB := hide ((unhide HB).trans (b7.mono (unhide HB).size))
  replace Ia := hide (((unhide Ia).below b7).more b7.size)
  replace Ib := hide (((unhide Ib).below b7).more b7.size)
  replace Ic := hide (((unhide Ic).below b7).more b7.size)
  clear b7
  go_wp2_with fail
  go_ret
  exact ⟨rfl, unhide HB⟩

set_option maxHeartbeats 2000000 in
theorem Muir_tf (A A' A'' : Option Addr) (n c n' c' n'' c'' : Nat) (xs ys zs : List Int) (w : World) (h : Ints w w.heap.size A n c xs) (h' : Ints w w.heap.size A' n' c' ys) (h'' : Ints w w.heap.size A'' n'' c'' zs) (hx : Hid (fewB xs zs = true)) (hy : Hid (fewB ys zs = false)) :
    Calls Try.prog 13 #[.slice A n c, .slice A' n' c', .slice A'' n'' c''] w fun e w' => e = .returned (.bool true) ∧ Below w.heap.size w w' := by
  have HB := hide (Below.refl w.heap.size w)
  have Ia := hide h; have Ib := hide h'; have Ic := hide h''; clear h h' h''
  have hx1 := hide (show fewB (xs.take 15) (zs.take 15) = true from by rw [fewB_take]; exact hx.out)
  have hy1 := hide (show fewB (ys.take 15) (zs.take 15) = false from by rw [fewB_take]; exact hy.out)
  obtain ⟨z1, hz1⟩ : ∃ z, powSum (xs.take 15) (zs.take 15) = z := ⟨_, rfl⟩
  have Hz1 := hide hz1; clear hz1
  go_enter Try.func13, Try.ntmps13
  go_wp2_with fail
  refine (list_ints _ _ _ _ _ _ (unhide Ia)).mono ?_
  rintro e w1 ⟨A1, n1, c1, rfl, i1, b1⟩
  replace HB := hide ((unhide HB).trans (b1.mono (unhide HB).size))
  replace Ia := hide (((unhide Ia).below b1).more b1.size)
  replace Ib := hide (((unhide Ib).below b1).more b1.size)
  replace Ic := hide (((unhide Ic).below b1).more b1.size)
  clear b1
  have I1 := hide i1
  clear i1
  go_wp2_with fail
  refine (list_ints _ _ _ _ _ _ (unhide Ic)).mono ?_
  rintro e w2 ⟨A2, n2, c2, rfl, i2, b2⟩
  replace HB := hide ((unhide HB).trans (b2.mono (unhide HB).size))
  replace Ia := hide (((unhide Ia).below b2).more b2.size)
  replace Ib := hide (((unhide Ib).below b2).more b2.size)
  replace Ic := hide (((unhide Ic).below b2).more b2.size)
  replace I1 := hide (((unhide I1).below b2).more b2.size)
  clear b2
  have I2 := hide i2
  clear i2
  go_wp2_with fail
  refine (Power_ok _ _ _ _ _ _ _ _ _ (unhide I1) (unhide I2) hx1 z1 Hz1).mono ?_
  rintro e w3 ⟨rfl, b3⟩
  replace HB := hide ((unhide HB).trans (b3.mono (unhide HB).size))
  replace Ia := hide (((unhide Ia).below b3).more b3.size)
  replace Ib := hide (((unhide Ib).below b3).more b3.size)
  replace Ic := hide (((unhide Ic).below b3).more b3.size)
  replace I1 := hide (((unhide I1).below b3).more b3.size)
  replace I2 := hide (((unhide I2).below b3).more b3.size)
  clear b3
  clear I1
  clear I2
  go_wp2_with fail
  refine (list_ints _ _ _ _ _ _ (unhide Ib)).mono ?_
  rintro e w4 ⟨A4, n4, c4, rfl, i4, b4⟩
  replace HB := hide ((unhide HB).trans (b4.mono (unhide HB).size))
  replace Ia := hide (((unhide Ia).below b4).more b4.size)
  replace Ib := hide (((unhide Ib).below b4).more b4.size)
  replace Ic := hide (((unhide Ic).below b4).more b4.size)
  clear b4
  have I1 := hide i4
  clear i4
  go_wp2_with fail
  refine (list_ints _ _ _ _ _ _ (unhide Ic)).mono ?_
  rintro e w5 ⟨A5, n5, c5, rfl, i5, b5⟩
  replace HB := hide ((unhide HB).trans (b5.mono (unhide HB).size))
  replace Ia := hide (((unhide Ia).below b5).more b5.size)
  replace Ib := hide (((unhide Ib).below b5).more b5.size)
  replace Ic := hide (((unhide Ic).below b5).more b5.size)
  replace I1 := hide (((unhide I1).below b5).more b5.size)
  clear b5
  have I2 := hide i5
  clear i5
  go_wp2_with fail
  refine (Power_err _ _ _ _ _ _ _ _ _ (unhide I1) (unhide I2) hy1).mono ?_
  rintro e w6 ⟨rfl, b6⟩
  replace HB := hide ((unhide HB).trans (b6.mono (unhide HB).size))
  replace Ia := hide (((unhide Ia).below b6).more b6.size)
  replace Ib := hide (((unhide Ib).below b6).more b6.size)
  replace Ic := hide (((unhide Ic).below b6).more b6.size)
  replace I1 := hide (((unhide I1).below b6).more b6.size)
  replace I2 := hide (((unhide I2).below b6).more b6.size)
  clear b6
  clear I1
  clear I2
  go_wp2_with fail
  refine (awake_any _).mono ?_
  rintro e w7 ⟨rfl, b7⟩
  replace HB := hide ((unhide HB).trans (b7.mono (unhide HB).size))
  replace Ia := hide (((unhide Ia).below b7).more b7.size)
  replace Ib := hide (((unhide Ib).below b7).more b7.size)
  replace Ic := hide (((unhide Ic).below b7).more b7.size)
  clear b7
  go_wp2_with fail
  go_ret
  exact ⟨rfl, unhide HB⟩

set_option maxHeartbeats 2000000 in
theorem Muir_tttt (A A' A'' : Option Addr) (n c n' c' n'' c'' : Nat) (xs ys zs : List Int) (w : World) (h : Ints w w.heap.size A n c xs) (h' : Ints w w.heap.size A' n' c' ys) (h'' : Ints w w.heap.size A'' n'' c'' zs) (hx : Hid (fewB xs zs = true)) (hy : Hid (fewB ys zs = true)) (hu : Hid (unevS xs ys = true)) (hv : Hid (unevS ys xs = true)) :
    Calls Try.prog 13 #[.slice A n c, .slice A' n' c', .slice A'' n'' c''] w fun e w' => e = .returned (.bool true) ∧ Below w.heap.size w w' := by
  have HB := hide (Below.refl w.heap.size w)
  have Ia := hide h; have Ib := hide h'; have Ic := hide h''; clear h h' h''
  have hx1 := hide (show fewB (xs.take 15) (zs.take 15) = true from by rw [fewB_take]; exact hx.out)
  have hy1 := hide (show fewB (ys.take 15) (zs.take 15) = true from by rw [fewB_take]; exact hy.out)
  obtain ⟨z1, hz1⟩ : ∃ z, powSum (xs.take 15) (zs.take 15) = z := ⟨_, rfl⟩
  obtain ⟨z2, hz2⟩ : ∃ z, powSum (ys.take 15) (zs.take 15) = z := ⟨_, rfl⟩
  have tx := few_take hx.out; have ty := few_take hy.out
  have ta := hide tx.1; have tb := hide ty.1
  have sxy := hide (show areSh xs ys = true from by simp only [areSh, Bool.and_eq_true, decide_eq_true_eq]; exact ⟨⟨few_sh hx.out, few_sh hy.out⟩, by have a := (FewL.of hx.out).same; have b := (FewL.of hy.out).same; omega⟩)
  have syx := hide (show areSh ys xs = true from by simp only [areSh, Bool.and_eq_true, decide_eq_true_eq]; exact ⟨⟨few_sh hy.out, few_sh hx.out⟩, by have a := (FewL.of hx.out).same; have b := (FewL.of hy.out).same; omega⟩)
  have hle : z2 ≤ z1 := by rw [← hz1, ← hz2, tx.1, tx.2, ty.1]; exact powSum_le hx.out hy.out hu.out
  have hge : z1 ≤ z2 := by rw [← hz1, ← hz2, tx.1, tx.2, ty.1]; exact powSum_le hy.out hx.out hv.out
  clear tx ty
  have Hz1 := hide hz1; clear hz1
  have Hz2 := hide hz2; clear hz2
  go_enter Try.func13, Try.ntmps13
  go_wp2_with fail
  refine (list_ints _ _ _ _ _ _ (unhide Ia)).mono ?_
  rintro e w1 ⟨A1, n1, c1, rfl, i1, b1⟩
  replace HB := hide ((unhide HB).trans (b1.mono (unhide HB).size))
  replace Ia := hide (((unhide Ia).below b1).more b1.size)
  replace Ib := hide (((unhide Ib).below b1).more b1.size)
  replace Ic := hide (((unhide Ic).below b1).more b1.size)
  clear b1
  have I1 := hide i1
  clear i1
  go_wp2_with fail
  refine (list_ints _ _ _ _ _ _ (unhide Ic)).mono ?_
  rintro e w2 ⟨A2, n2, c2, rfl, i2, b2⟩
  replace HB := hide ((unhide HB).trans (b2.mono (unhide HB).size))
  replace Ia := hide (((unhide Ia).below b2).more b2.size)
  replace Ib := hide (((unhide Ib).below b2).more b2.size)
  replace Ic := hide (((unhide Ic).below b2).more b2.size)
  replace I1 := hide (((unhide I1).below b2).more b2.size)
  clear b2
  have I2 := hide i2
  clear i2
  go_wp2_with fail
  refine (Power_ok _ _ _ _ _ _ _ _ _ (unhide I1) (unhide I2) hx1 z1 Hz1).mono ?_
  rintro e w3 ⟨rfl, b3⟩
  replace HB := hide ((unhide HB).trans (b3.mono (unhide HB).size))
  replace Ia := hide (((unhide Ia).below b3).more b3.size)
  replace Ib := hide (((unhide Ib).below b3).more b3.size)
  replace Ic := hide (((unhide Ic).below b3).more b3.size)
  replace I1 := hide (((unhide I1).below b3).more b3.size)
  replace I2 := hide (((unhide I2).below b3).more b3.size)
  clear b3
  clear I1
  clear I2
  go_wp2_with fail
  refine (list_ints _ _ _ _ _ _ (unhide Ib)).mono ?_
  rintro e w4 ⟨A4, n4, c4, rfl, i4, b4⟩
  replace HB := hide ((unhide HB).trans (b4.mono (unhide HB).size))
  replace Ia := hide (((unhide Ia).below b4).more b4.size)
  replace Ib := hide (((unhide Ib).below b4).more b4.size)
  replace Ic := hide (((unhide Ic).below b4).more b4.size)
  clear b4
  have I1 := hide i4
  clear i4
  go_wp2_with fail
  refine (list_ints _ _ _ _ _ _ (unhide Ic)).mono ?_
  rintro e w5 ⟨A5, n5, c5, rfl, i5, b5⟩
  replace HB := hide ((unhide HB).trans (b5.mono (unhide HB).size))
  replace Ia := hide (((unhide Ia).below b5).more b5.size)
  replace Ib := hide (((unhide Ib).below b5).more b5.size)
  replace Ic := hide (((unhide Ic).below b5).more b5.size)
  replace I1 := hide (((unhide I1).below b5).more b5.size)
  clear b5
  have I2 := hide i5
  clear i5
  go_wp2_with fail
  refine (Power_ok _ _ _ _ _ _ _ _ _ (unhide I1) (unhide I2) hy1 z2 Hz2).mono ?_
  rintro e w6 ⟨rfl, b6⟩
  replace HB := hide ((unhide HB).trans (b6.mono (unhide HB).size))
  replace Ia := hide (((unhide Ia).below b6).more b6.size)
  replace Ib := hide (((unhide Ib).below b6).more b6.size)
  replace Ic := hide (((unhide Ic).below b6).more b6.size)
  replace I1 := hide (((unhide I1).below b6).more b6.size)
  replace I2 := hide (((unhide I2).below b6).more b6.size)
  clear b6
  clear I1
  clear I2
  go_wp2_with fail
  refine (Few_is _ _ _ _ _ _ _ _ _ _ _ (unhide Ia) (unhide Ic) true hx).mono ?_
  rintro e w7 ⟨rfl, b7⟩
  replace HB := hide ((unhide HB).trans (b7.mono (unhide HB).size))
  replace Ia := hide (((unhide Ia).below b7).more b7.size)
  replace Ib := hide (((unhide Ib).below b7).more b7.size)
  replace Ic := hide (((unhide Ic).below b7).more b7.size)
  clear b7
  go_wp2_with fail
  refine (Few_is _ _ _ _ _ _ _ _ _ _ _ (unhide Ib) (unhide Ic) true hy).mono ?_
  rintro e w8 ⟨rfl, b8⟩
  replace HB := hide ((unhide HB).trans (b8.mono (unhide HB).size))
  replace Ia := hide (((unhide Ia).below b8).more b8.size)
  replace Ib := hide (((unhide Ib).below b8).more b8.size)
  replace Ic := hide (((unhide Ic).below b8).more b8.size)
  clear b8
  go_wp2_with fail
  refine (list_ints _ _ _ _ _ _ (unhide Ia)).mono ?_
  rintro e w9 ⟨A9, n9, c9, rfl, i9, b9⟩
  replace HB := hide ((unhide HB).trans (b9.mono (unhide HB).size))
  replace Ia := hide (((unhide Ia).below b9).more b9.size)
  replace Ib := hide (((unhide Ib).below b9).more b9.size)
  replace Ic := hide (((unhide Ic).below b9).more b9.size)
  clear b9
  rw [ta.out] at i9
  have I1 := hide i9
  clear i9
  go_wp2_with fail
  refine (list_ints _ _ _ _ _ _ (unhide Ib)).mono ?_
  rintro e w10 ⟨A10, n10, c10, rfl, i10, b10⟩
  replace HB := hide ((unhide HB).trans (b10.mono (unhide HB).size))
  replace Ia := hide (((unhide Ia).below b10).more b10.size)
  replace Ib := hide (((unhide Ib).below b10).more b10.size)
  replace Ic := hide (((unhide Ic).below b10).more b10.size)
  replace I1 := hide (((unhide I1).below b10).more b10.size)
  clear b10
  rw [tb.out] at i10
  have I2 := hide i10
  clear i10
  go_wp2_with fail
  refine (Uneven_is _ _ _ _ _ _ _ _ _ (unhide I1) (unhide I2) sxy true hu).mono ?_
  rintro e w11 ⟨rfl, b11⟩
  replace HB := hide ((unhide HB).trans (b11.mono (unhide HB).size))
  replace Ia := hide (((unhide Ia).below b11).more b11.size)
  replace Ib := hide (((unhide Ib).below b11).more b11.size)
  replace Ic := hide (((unhide Ic).below b11).more b11.size)
  replace I1 := hide (((unhide I1).below b11).more b11.size)
  replace I2 := hide (((unhide I2).below b11).more b11.size)
  clear b11
  clear I1
  clear I2
  go_wp2_with fail
  refine (list_ints _ _ _ _ _ _ (unhide Ib)).mono ?_
  rintro e w12 ⟨A12, n12, c12, rfl, i12, b12⟩
  replace HB := hide ((unhide HB).trans (b12.mono (unhide HB).size))
  replace Ia := hide (((unhide Ia).below b12).more b12.size)
  replace Ib := hide (((unhide Ib).below b12).more b12.size)
  replace Ic := hide (((unhide Ic).below b12).more b12.size)
  clear b12
  rw [tb.out] at i12
  have I1 := hide i12
  clear i12
  go_wp2_with fail
  refine (list_ints _ _ _ _ _ _ (unhide Ia)).mono ?_
  rintro e w13 ⟨A13, n13, c13, rfl, i13, b13⟩
  replace HB := hide ((unhide HB).trans (b13.mono (unhide HB).size))
  replace Ia := hide (((unhide Ia).below b13).more b13.size)
  replace Ib := hide (((unhide Ib).below b13).more b13.size)
  replace Ic := hide (((unhide Ic).below b13).more b13.size)
  replace I1 := hide (((unhide I1).below b13).more b13.size)
  clear b13
  rw [ta.out] at i13
  have I2 := hide i13
  clear i13
  go_wp2_with fail
  refine (Uneven_is _ _ _ _ _ _ _ _ _ (unhide I1) (unhide I2) syx true hv).mono ?_
  rintro e w14 ⟨rfl, b14⟩
  replace HB := hide ((unhide HB).trans (b14.mono (unhide HB).size))
  replace Ia := hide (((unhide Ia).below b14).more b14.size)
  replace Ib := hide (((unhide Ib).below b14).more b14.size)
  replace Ic := hide (((unhide Ic).below b14).more b14.size)
  replace I1 := hide (((unhide I1).below b14).more b14.size)
  replace I2 := hide (((unhide I2).below b14).more b14.size)
  clear b14
  clear I1
  clear I2
  go_wp2_with fail
  refine (awake_any _).mono ?_
  rintro e w15 ⟨rfl, b15⟩
  replace HB := hide ((unhide HB).trans (b15.mono (unhide HB).size))
  replace Ia := hide (((unhide Ia).below b15).more b15.size)
  replace Ib := hide (((unhide Ib).below b15).more b15.size)
  replace Ic := hide (((unhide Ic).below b15).more b15.size)
  clear b15
  go_wp2_with fail
  go_ret
  exact ⟨rfl, unhide HB⟩

set_option maxHeartbeats 2000000 in
theorem Muir_tttf (A A' A'' : Option Addr) (n c n' c' n'' c'' : Nat) (xs ys zs : List Int) (w : World) (h : Ints w w.heap.size A n c xs) (h' : Ints w w.heap.size A' n' c' ys) (h'' : Ints w w.heap.size A'' n'' c'' zs) (hx : Hid (fewB xs zs = true)) (hy : Hid (fewB ys zs = true)) (hu : Hid (unevS xs ys = true)) (hv : Hid (unevS ys xs = false)) :
    Calls Try.prog 13 #[.slice A n c, .slice A' n' c', .slice A'' n'' c''] w fun e w' => e = .returned (.bool true) ∧ Below w.heap.size w w' := by
  have HB := hide (Below.refl w.heap.size w)
  have Ia := hide h; have Ib := hide h'; have Ic := hide h''; clear h h' h''
  have hx1 := hide (show fewB (xs.take 15) (zs.take 15) = true from by rw [fewB_take]; exact hx.out)
  have hy1 := hide (show fewB (ys.take 15) (zs.take 15) = true from by rw [fewB_take]; exact hy.out)
  obtain ⟨z1, hz1⟩ : ∃ z, powSum (xs.take 15) (zs.take 15) = z := ⟨_, rfl⟩
  obtain ⟨z2, hz2⟩ : ∃ z, powSum (ys.take 15) (zs.take 15) = z := ⟨_, rfl⟩
  have tx := few_take hx.out; have ty := few_take hy.out
  have ta := hide tx.1; have tb := hide ty.1
  have sxy := hide (show areSh xs ys = true from by simp only [areSh, Bool.and_eq_true, decide_eq_true_eq]; exact ⟨⟨few_sh hx.out, few_sh hy.out⟩, by have a := (FewL.of hx.out).same; have b := (FewL.of hy.out).same; omega⟩)
  have syx := hide (show areSh ys xs = true from by simp only [areSh, Bool.and_eq_true, decide_eq_true_eq]; exact ⟨⟨few_sh hy.out, few_sh hx.out⟩, by have a := (FewL.of hx.out).same; have b := (FewL.of hy.out).same; omega⟩)
  have hle : z2 ≤ z1 := by rw [← hz1, ← hz2, tx.1, tx.2, ty.1]; exact powSum_le hx.out hy.out hu.out
  clear tx ty
  have Hz1 := hide hz1; clear hz1
  have Hz2 := hide hz2; clear hz2
  go_enter Try.func13, Try.ntmps13
  go_wp2_with fail
  refine (list_ints _ _ _ _ _ _ (unhide Ia)).mono ?_
  rintro e w1 ⟨A1, n1, c1, rfl, i1, b1⟩
  replace HB := hide ((unhide HB).trans (b1.mono (unhide HB).size))
  replace Ia := hide (((unhide Ia).below b1).more b1.size)
  replace Ib := hide (((unhide Ib).below b1).more b1.size)
  replace Ic := hide (((unhide Ic).below b1).more b1.size)
  clear b1
  have I1 := hide i1
  clear i1
  go_wp2_with fail
  refine (list_ints _ _ _ _ _ _ (unhide Ic)).mono ?_
  rintro e w2 ⟨A2, n2, c2, rfl, i2, b2⟩
  replace HB := hide ((unhide HB).trans (b2.mono (unhide HB).size))
  replace Ia := hide (((unhide Ia).below b2).more b2.size)
  replace Ib := hide (((unhide Ib).below b2).more b2.size)
  replace Ic := hide (((unhide Ic).below b2).more b2.size)
  replace I1 := hide (((unhide I1).below b2).more b2.size)
  clear b2
  have I2 := hide i2
  clear i2
  go_wp2_with fail
  refine (Power_ok _ _ _ _ _ _ _ _ _ (unhide I1) (unhide I2) hx1 z1 Hz1).mono ?_
  rintro e w3 ⟨rfl, b3⟩
  replace HB := hide ((unhide HB).trans (b3.mono (unhide HB).size))
  replace Ia := hide (((unhide Ia).below b3).more b3.size)
  replace Ib := hide (((unhide Ib).below b3).more b3.size)
  replace Ic := hide (((unhide Ic).below b3).more b3.size)
  replace I1 := hide (((unhide I1).below b3).more b3.size)
  replace I2 := hide (((unhide I2).below b3).more b3.size)
  clear b3
  clear I1
  clear I2
  go_wp2_with fail
  refine (list_ints _ _ _ _ _ _ (unhide Ib)).mono ?_
  rintro e w4 ⟨A4, n4, c4, rfl, i4, b4⟩
  replace HB := hide ((unhide HB).trans (b4.mono (unhide HB).size))
  replace Ia := hide (((unhide Ia).below b4).more b4.size)
  replace Ib := hide (((unhide Ib).below b4).more b4.size)
  replace Ic := hide (((unhide Ic).below b4).more b4.size)
  clear b4
  have I1 := hide i4
  clear i4
  go_wp2_with fail
  refine (list_ints _ _ _ _ _ _ (unhide Ic)).mono ?_
  rintro e w5 ⟨A5, n5, c5, rfl, i5, b5⟩
  replace HB := hide ((unhide HB).trans (b5.mono (unhide HB).size))
  replace Ia := hide (((unhide Ia).below b5).more b5.size)
  replace Ib := hide (((unhide Ib).below b5).more b5.size)
  replace Ic := hide (((unhide Ic).below b5).more b5.size)
  replace I1 := hide (((unhide I1).below b5).more b5.size)
  clear b5
  have I2 := hide i5
  clear i5
  go_wp2_with fail
  refine (Power_ok _ _ _ _ _ _ _ _ _ (unhide I1) (unhide I2) hy1 z2 Hz2).mono ?_
  rintro e w6 ⟨rfl, b6⟩
  replace HB := hide ((unhide HB).trans (b6.mono (unhide HB).size))
  replace Ia := hide (((unhide Ia).below b6).more b6.size)
  replace Ib := hide (((unhide Ib).below b6).more b6.size)
  replace Ic := hide (((unhide Ic).below b6).more b6.size)
  replace I1 := hide (((unhide I1).below b6).more b6.size)
  replace I2 := hide (((unhide I2).below b6).more b6.size)
  clear b6
  clear I1
  clear I2
  go_wp2_with fail
  refine (Few_is _ _ _ _ _ _ _ _ _ _ _ (unhide Ia) (unhide Ic) true hx).mono ?_
  rintro e w7 ⟨rfl, b7⟩
  replace HB := hide ((unhide HB).trans (b7.mono (unhide HB).size))
  replace Ia := hide (((unhide Ia).below b7).more b7.size)
  replace Ib := hide (((unhide Ib).below b7).more b7.size)
  replace Ic := hide (((unhide Ic).below b7).more b7.size)
  clear b7
  go_wp2_with fail
  refine (Few_is _ _ _ _ _ _ _ _ _ _ _ (unhide Ib) (unhide Ic) true hy).mono ?_
  rintro e w8 ⟨rfl, b8⟩
  replace HB := hide ((unhide HB).trans (b8.mono (unhide HB).size))
  replace Ia := hide (((unhide Ia).below b8).more b8.size)
  replace Ib := hide (((unhide Ib).below b8).more b8.size)
  replace Ic := hide (((unhide Ic).below b8).more b8.size)
  clear b8
  go_wp2_with fail
  refine (list_ints _ _ _ _ _ _ (unhide Ia)).mono ?_
  rintro e w9 ⟨A9, n9, c9, rfl, i9, b9⟩
  replace HB := hide ((unhide HB).trans (b9.mono (unhide HB).size))
  replace Ia := hide (((unhide Ia).below b9).more b9.size)
  replace Ib := hide (((unhide Ib).below b9).more b9.size)
  replace Ic := hide (((unhide Ic).below b9).more b9.size)
  clear b9
  rw [ta.out] at i9
  have I1 := hide i9
  clear i9
  go_wp2_with fail
  refine (list_ints _ _ _ _ _ _ (unhide Ib)).mono ?_
  rintro e w10 ⟨A10, n10, c10, rfl, i10, b10⟩
  replace HB := hide ((unhide HB).trans (b10.mono (unhide HB).size))
  replace Ia := hide (((unhide Ia).below b10).more b10.size)
  replace Ib := hide (((unhide Ib).below b10).more b10.size)
  replace Ic := hide (((unhide Ic).below b10).more b10.size)
  replace I1 := hide (((unhide I1).below b10).more b10.size)
  clear b10
  rw [tb.out] at i10
  have I2 := hide i10
  clear i10
  go_wp2_with fail
  refine (Uneven_is _ _ _ _ _ _ _ _ _ (unhide I1) (unhide I2) sxy true hu).mono ?_
  rintro e w11 ⟨rfl, b11⟩
  replace HB := hide ((unhide HB).trans (b11.mono (unhide HB).size))
  replace Ia := hide (((unhide Ia).below b11).more b11.size)
  replace Ib := hide (((unhide Ib).below b11).more b11.size)
  replace Ic := hide (((unhide Ic).below b11).more b11.size)
  replace I1 := hide (((unhide I1).below b11).more b11.size)
  replace I2 := hide (((unhide I2).below b11).more b11.size)
  clear b11
  clear I1
  clear I2
  go_wp2_with fail
  refine (list_ints _ _ _ _ _ _ (unhide Ib)).mono ?_
  rintro e w12 ⟨A12, n12, c12, rfl, i12, b12⟩
  replace HB := hide ((unhide HB).trans (b12.mono (unhide HB).size))
  replace Ia := hide (((unhide Ia).below b12).more b12.size)
  replace Ib := hide (((unhide Ib).below b12).more b12.size)
  replace Ic := hide (((unhide Ic).below b12).more b12.size)
  clear b12
  rw [tb.out] at i12
  have I1 := hide i12
  clear i12
  go_wp2_with fail
  refine (list_ints _ _ _ _ _ _ (unhide Ia)).mono ?_
  rintro e w13 ⟨A13, n13, c13, rfl, i13, b13⟩
  replace HB := hide ((unhide HB).trans (b13.mono (unhide HB).size))
  replace Ia := hide (((unhide Ia).below b13).more b13.size)
  replace Ib := hide (((unhide Ib).below b13).more b13.size)
  replace Ic := hide (((unhide Ic).below b13).more b13.size)
  replace I1 := hide (((unhide I1).below b13).more b13.size)
  clear b13
  rw [ta.out] at i13
  have I2 := hide i13
  clear i13
  go_wp2_with fail
  refine (Uneven_is _ _ _ _ _ _ _ _ _ (unhide I1) (unhide I2) syx false hv).mono ?_
  rintro e w14 ⟨rfl, b14⟩
  replace HB := hide ((unhide HB).trans (b14.mono (unhide HB).size))
  replace Ia := hide (((unhide Ia).below b14).more b14.size)
  replace Ib := hide (((unhide Ib).below b14).more b14.size)
  replace Ic := hide (((unhide Ic).below b14).more b14.size)
  replace I1 := hide (((unhide I1).below b14).more b14.size)
  replace I2 := hide (((unhide I2).below b14).more b14.size)
  clear b14
  clear I1
  clear I2
  go_wp2_with fail
  refine (awake_any _).mono ?_
  rintro e w15 ⟨rfl, b15⟩
  replace HB := hide ((unhide HB).trans (b15.mono (unhide HB).size))
  replace Ia := hide (((unhide Ia).below b15).more b15.size)
  replace Ib := hide (((unhide Ib).below b15).more b15.size)
  replace Ic := hide (((unhide Ic).below b15).more b15.size)
  clear b15
  go_wp2_with fail
  go_ret
  exact ⟨rfl, unhide HB⟩

set_option maxHeartbeats 2000000 in
theorem Muir_ttft (A A' A'' : Option Addr) (n c n' c' n'' c'' : Nat) (xs ys zs : List Int) (w : World) (h : Ints w w.heap.size A n c xs) (h' : Ints w w.heap.size A' n' c' ys) (h'' : Ints w w.heap.size A'' n'' c'' zs) (hx : Hid (fewB xs zs = true)) (hy : Hid (fewB ys zs = true)) (hu : Hid (unevS xs ys = false)) (hv : Hid (unevS ys xs = true)) :
    Calls Try.prog 13 #[.slice A n c, .slice A' n' c', .slice A'' n'' c''] w fun e w' => e = .returned (.bool true) ∧ Below w.heap.size w w' := by
  have HB := hide (Below.refl w.heap.size w)
  have Ia := hide h; have Ib := hide h'; have Ic := hide h''; clear h h' h''
  have hx1 := hide (show fewB (xs.take 15) (zs.take 15) = true from by rw [fewB_take]; exact hx.out)
  have hy1 := hide (show fewB (ys.take 15) (zs.take 15) = true from by rw [fewB_take]; exact hy.out)
  obtain ⟨z1, hz1⟩ : ∃ z, powSum (xs.take 15) (zs.take 15) = z := ⟨_, rfl⟩
  obtain ⟨z2, hz2⟩ : ∃ z, powSum (ys.take 15) (zs.take 15) = z := ⟨_, rfl⟩
  have tx := few_take hx.out; have ty := few_take hy.out
  have ta := hide tx.1; have tb := hide ty.1
  have sxy := hide (show areSh xs ys = true from by simp only [areSh, Bool.and_eq_true, decide_eq_true_eq]; exact ⟨⟨few_sh hx.out, few_sh hy.out⟩, by have a := (FewL.of hx.out).same; have b := (FewL.of hy.out).same; omega⟩)
  have syx := hide (show areSh ys xs = true from by simp only [areSh, Bool.and_eq_true, decide_eq_true_eq]; exact ⟨⟨few_sh hy.out, few_sh hx.out⟩, by have a := (FewL.of hx.out).same; have b := (FewL.of hy.out).same; omega⟩)
  have hge : z1 ≤ z2 := by rw [← hz1, ← hz2, tx.1, tx.2, ty.1]; exact powSum_le hy.out hx.out hv.out
  clear tx ty
  have Hz1 := hide hz1; clear hz1
  have Hz2 := hide hz2; clear hz2
  go_enter Try.func13, Try.ntmps13
  go_wp2_with fail
  refine (list_ints _ _ _ _ _ _ (unhide Ia)).mono ?_
  rintro e w1 ⟨A1, n1, c1, rfl, i1, b1⟩
  replace HB := hide ((unhide HB).trans (b1.mono (unhide HB).size))
  replace Ia := hide (((unhide Ia).below b1).more b1.size)
  replace Ib := hide (((unhide Ib).below b1).more b1.size)
  replace Ic := hide (((unhide Ic).below b1).more b1.size)
  clear b1
  have I1 := hide i1
  clear i1
  go_wp2_with fail
  refine (list_ints _ _ _ _ _ _ (unhide Ic)).mono ?_
  rintro e w2 ⟨A2, n2, c2, rfl, i2, b2⟩
  replace HB := hide ((unhide HB).trans (b2.mono (unhide HB).size))
  replace Ia := hide (((unhide Ia).below b2).more b2.size)
  replace Ib := hide (((unhide Ib).below b2).more b2.size)
  replace Ic := hide (((unhide Ic).below b2).more b2.size)
  replace I1 := hide (((unhide I1).below b2).more b2.size)
  clear b2
  have I2 := hide i2
  clear i2
  go_wp2_with fail
  refine (Power_ok _ _ _ _ _ _ _ _ _ (unhide I1) (unhide I2) hx1 z1 Hz1).mono ?_
  rintro e w3 ⟨rfl, b3⟩
  replace HB := hide ((unhide HB).trans (b3.mono (unhide HB).size))
  replace Ia := hide (((unhide Ia).below b3).more b3.size)
  replace Ib := hide (((unhide Ib).below b3).more b3.size)
  replace Ic := hide (((unhide Ic).below b3).more b3.size)
  replace I1 := hide (((unhide I1).below b3).more b3.size)
  replace I2 := hide (((unhide I2).below b3).more b3.size)
  clear b3
  clear I1
  clear I2
  go_wp2_with fail
  refine (list_ints _ _ _ _ _ _ (unhide Ib)).mono ?_
  rintro e w4 ⟨A4, n4, c4, rfl, i4, b4⟩
  replace HB := hide ((unhide HB).trans (b4.mono (unhide HB).size))
  replace Ia := hide (((unhide Ia).below b4).more b4.size)
  replace Ib := hide (((unhide Ib).below b4).more b4.size)
  replace Ic := hide (((unhide Ic).below b4).more b4.size)
  clear b4
  have I1 := hide i4
  clear i4
  go_wp2_with fail
  refine (list_ints _ _ _ _ _ _ (unhide Ic)).mono ?_
  rintro e w5 ⟨A5, n5, c5, rfl, i5, b5⟩
  replace HB := hide ((unhide HB).trans (b5.mono (unhide HB).size))
  replace Ia := hide (((unhide Ia).below b5).more b5.size)
  replace Ib := hide (((unhide Ib).below b5).more b5.size)
  replace Ic := hide (((unhide Ic).below b5).more b5.size)
  replace I1 := hide (((unhide I1).below b5).more b5.size)
  clear b5
  have I2 := hide i5
  clear i5
  go_wp2_with fail
  refine (Power_ok _ _ _ _ _ _ _ _ _ (unhide I1) (unhide I2) hy1 z2 Hz2).mono ?_
  rintro e w6 ⟨rfl, b6⟩
  replace HB := hide ((unhide HB).trans (b6.mono (unhide HB).size))
  replace Ia := hide (((unhide Ia).below b6).more b6.size)
  replace Ib := hide (((unhide Ib).below b6).more b6.size)
  replace Ic := hide (((unhide Ic).below b6).more b6.size)
  replace I1 := hide (((unhide I1).below b6).more b6.size)
  replace I2 := hide (((unhide I2).below b6).more b6.size)
  clear b6
  clear I1
  clear I2
  go_wp2_with fail
  refine (Few_is _ _ _ _ _ _ _ _ _ _ _ (unhide Ia) (unhide Ic) true hx).mono ?_
  rintro e w7 ⟨rfl, b7⟩
  replace HB := hide ((unhide HB).trans (b7.mono (unhide HB).size))
  replace Ia := hide (((unhide Ia).below b7).more b7.size)
  replace Ib := hide (((unhide Ib).below b7).more b7.size)
  replace Ic := hide (((unhide Ic).below b7).more b7.size)
  clear b7
  go_wp2_with fail
  refine (Few_is _ _ _ _ _ _ _ _ _ _ _ (unhide Ib) (unhide Ic) true hy).mono ?_
  rintro e w8 ⟨rfl, b8⟩
  replace HB := hide ((unhide HB).trans (b8.mono (unhide HB).size))
  replace Ia := hide (((unhide Ia).below b8).more b8.size)
  replace Ib := hide (((unhide Ib).below b8).more b8.size)
  replace Ic := hide (((unhide Ic).below b8).more b8.size)
  clear b8
  go_wp2_with fail
  refine (list_ints _ _ _ _ _ _ (unhide Ia)).mono ?_
  rintro e w9 ⟨A9, n9, c9, rfl, i9, b9⟩
  replace HB := hide ((unhide HB).trans (b9.mono (unhide HB).size))
  replace Ia := hide (((unhide Ia).below b9).more b9.size)
  replace Ib := hide (((unhide Ib).below b9).more b9.size)
  replace Ic := hide (((unhide Ic).below b9).more b9.size)
  clear b9
  rw [ta.out] at i9
  have I1 := hide i9
  clear i9
  go_wp2_with fail
  refine (list_ints _ _ _ _ _ _ (unhide Ib)).mono ?_
  rintro e w10 ⟨A10, n10, c10, rfl, i10, b10⟩
  replace HB := hide ((unhide HB).trans (b10.mono (unhide HB).size))
  replace Ia := hide (((unhide Ia).below b10).more b10.size)
  replace Ib := hide (((unhide Ib).below b10).more b10.size)
  replace Ic := hide (((unhide Ic).below b10).more b10.size)
  replace I1 := hide (((unhide I1).below b10).more b10.size)
  clear b10
  rw [tb.out] at i10
  have I2 := hide i10
  clear i10
  go_wp2_with fail
  refine (Uneven_is _ _ _ _ _ _ _ _ _ (unhide I1) (unhide I2) sxy false hu).mono ?_
  rintro e w11 ⟨rfl, b11⟩
  replace HB := hide ((unhide HB).trans (b11.mono (unhide HB).size))
  replace Ia := hide (((unhide Ia).below b11).more b11.size)
  replace Ib := hide (((unhide Ib).below b11).more b11.size)
  replace Ic := hide (((unhide Ic).below b11).more b11.size)
  replace I1 := hide (((unhide I1).below b11).more b11.size)
  replace I2 := hide (((unhide I2).below b11).more b11.size)
  clear b11
  clear I1
  clear I2
  go_wp2_with fail
  refine (list_ints _ _ _ _ _ _ (unhide Ib)).mono ?_
  rintro e w12 ⟨A12, n12, c12, rfl, i12, b12⟩
  replace HB := hide ((unhide HB).trans (b12.mono (unhide HB).size))
  replace Ia := hide (((unhide Ia).below b12).more b12.size)
  replace Ib := hide (((unhide Ib).below b12).more b12.size)
  replace Ic := hide (((unhide Ic).below b12).more b12.size)
  clear b12
  rw [tb.out] at i12
  have I1 := hide i12
  clear i12
  go_wp2_with fail
  refine (list_ints _ _ _ _ _ _ (unhide Ia)).mono ?_
  rintro e w13 ⟨A13, n13, c13, rfl, i13, b13⟩
  replace HB := hide ((unhide HB).trans (b13.mono (unhide HB).size))
  replace Ia := hide (((unhide Ia).below b13).more b13.size)
  replace Ib := hide (((unhide Ib).below b13).more b13.size)
  replace Ic := hide (((unhide Ic).below b13).more b13.size)
  replace I1 := hide (((unhide I1).below b13).more b13.size)
  clear b13
  rw [ta.out] at i13
  have I2 := hide i13
  clear i13
  go_wp2_with fail
  refine (Uneven_is _ _ _ _ _ _ _ _ _ (unhide I1) (unhide I2) syx true hv).mono ?_
  rintro e w14 ⟨rfl, b14⟩
  replace HB := hide ((unhide HB).trans (b14.mono (unhide HB).size))
  replace Ia := hide (((unhide Ia).below b14).more b14.size)
  replace Ib := hide (((unhide Ib).below b14).more b14.size)
  replace Ic := hide (((unhide Ic).below b14).more b14.size)
  replace I1 := hide (((unhide I1).below b14).more b14.size)
  replace I2 := hide (((unhide I2).below b14).more b14.size)
  clear b14
  clear I1
  clear I2
  go_wp2_with fail
  refine (awake_any _).mono ?_
  rintro e w15 ⟨rfl, b15⟩
  replace HB := hide ((unhide HB).trans (b15.mono (unhide HB).size))
  replace Ia := hide (((unhide Ia).below b15).more b15.size)
  replace Ib := hide (((unhide Ib).below b15).more b15.size)
  replace Ic := hide (((unhide Ic).below b15).more b15.size)
  clear b15
  go_wp2_with fail
  go_ret
  exact ⟨rfl, unhide HB⟩

set_option maxHeartbeats 2000000 in
theorem Muir_ttff (A A' A'' : Option Addr) (n c n' c' n'' c'' : Nat) (xs ys zs : List Int) (w : World) (h : Ints w w.heap.size A n c xs) (h' : Ints w w.heap.size A' n' c' ys) (h'' : Ints w w.heap.size A'' n'' c'' zs) (hx : Hid (fewB xs zs = true)) (hy : Hid (fewB ys zs = true)) (hu : Hid (unevS xs ys = false)) (hv : Hid (unevS ys xs = false)) :
    Calls Try.prog 13 #[.slice A n c, .slice A' n' c', .slice A'' n'' c''] w fun e w' => e = .returned (.bool true) ∧ Below w.heap.size w w' := by
  have HB := hide (Below.refl w.heap.size w)
  have Ia := hide h; have Ib := hide h'; have Ic := hide h''; clear h h' h''
  have hx1 := hide (show fewB (xs.take 15) (zs.take 15) = true from by rw [fewB_take]; exact hx.out)
  have hy1 := hide (show fewB (ys.take 15) (zs.take 15) = true from by rw [fewB_take]; exact hy.out)
  obtain ⟨z1, hz1⟩ : ∃ z, powSum (xs.take 15) (zs.take 15) = z := ⟨_, rfl⟩
  obtain ⟨z2, hz2⟩ : ∃ z, powSum (ys.take 15) (zs.take 15) = z := ⟨_, rfl⟩
  have tx := few_take hx.out; have ty := few_take hy.out
  have ta := hide tx.1; have tb := hide ty.1
  have sxy := hide (show areSh xs ys = true from by simp only [areSh, Bool.and_eq_true, decide_eq_true_eq]; exact ⟨⟨few_sh hx.out, few_sh hy.out⟩, by have a := (FewL.of hx.out).same; have b := (FewL.of hy.out).same; omega⟩)
  have syx := hide (show areSh ys xs = true from by simp only [areSh, Bool.and_eq_true, decide_eq_true_eq]; exact ⟨⟨few_sh hy.out, few_sh hx.out⟩, by have a := (FewL.of hx.out).same; have b := (FewL.of hy.out).same; omega⟩)
  clear tx ty
  have Hz1 := hide hz1; clear hz1
  have Hz2 := hide hz2; clear hz2
  go_enter Try.func13, Try.ntmps13
  go_wp2_with fail
  refine (list_ints _ _ _ _ _ _ (unhide Ia)).mono ?_
  rintro e w1 ⟨A1, n1, c1, rfl, i1, b1⟩
  replace HB := hide ((unhide HB).trans (b1.mono (unhide HB).size))
  replace Ia := hide (((unhide Ia).below b1).more b1.size)
  replace Ib := hide (((unhide Ib).below b1).more b1.size)
  replace Ic := hide (((unhide Ic).below b1).more b1.size)
  clear b1
  have I1 := hide i1
  clear i1
  go_wp2_with fail
  refine (list_ints _ _ _ _ _ _ (unhide Ic)).mono ?_
  rintro e w2 ⟨A2, n2, c2, rfl, i2, b2⟩
  replace HB := hide ((unhide HB).trans (b2.mono (unhide HB).size))
  replace Ia := hide (((unhide Ia).below b2).more b2.size)
  replace Ib := hide (((unhide Ib).below b2).more b2.size)
  replace Ic := hide (((unhide Ic).below b2).more b2.size)
  replace I1 := hide (((unhide I1).below b2).more b2.size)
  clear b2
  have I2 := hide i2
  clear i2
  go_wp2_with fail
  refine (Power_ok _ _ _ _ _ _ _ _ _ (unhide I1) (unhide I2) hx1 z1 Hz1).mono ?_
  rintro e w3 ⟨rfl, b3⟩
  replace HB := hide ((unhide HB).trans (b3.mono (unhide HB).size))
  replace Ia := hide (((unhide Ia).below b3).more b3.size)
  replace Ib := hide (((unhide Ib).below b3).more b3.size)
  replace Ic := hide (((unhide Ic).below b3).more b3.size)
  replace I1 := hide (((unhide I1).below b3).more b3.size)
  replace I2 := hide (((unhide I2).below b3).more b3.size)
  clear b3
  clear I1
  clear I2
  go_wp2_with fail
  refine (list_ints _ _ _ _ _ _ (unhide Ib)).mono ?_
  rintro e w4 ⟨A4, n4, c4, rfl, i4, b4⟩
  replace HB := hide ((unhide HB).trans (b4.mono (unhide HB).size))
  replace Ia := hide (((unhide Ia).below b4).more b4.size)
  replace Ib := hide (((unhide Ib).below b4).more b4.size)
  replace Ic := hide (((unhide Ic).below b4).more b4.size)
  clear b4
  have I1 := hide i4
  clear i4
  go_wp2_with fail
  refine (list_ints _ _ _ _ _ _ (unhide Ic)).mono ?_
  rintro e w5 ⟨A5, n5, c5, rfl, i5, b5⟩
  replace HB := hide ((unhide HB).trans (b5.mono (unhide HB).size))
  replace Ia := hide (((unhide Ia).below b5).more b5.size)
  replace Ib := hide (((unhide Ib).below b5).more b5.size)
  replace Ic := hide (((unhide Ic).below b5).more b5.size)
  replace I1 := hide (((unhide I1).below b5).more b5.size)
  clear b5
  have I2 := hide i5
  clear i5
  go_wp2_with fail
  refine (Power_ok _ _ _ _ _ _ _ _ _ (unhide I1) (unhide I2) hy1 z2 Hz2).mono ?_
  rintro e w6 ⟨rfl, b6⟩
  replace HB := hide ((unhide HB).trans (b6.mono (unhide HB).size))
  replace Ia := hide (((unhide Ia).below b6).more b6.size)
  replace Ib := hide (((unhide Ib).below b6).more b6.size)
  replace Ic := hide (((unhide Ic).below b6).more b6.size)
  replace I1 := hide (((unhide I1).below b6).more b6.size)
  replace I2 := hide (((unhide I2).below b6).more b6.size)
  clear b6
  clear I1
  clear I2
  go_wp2_with fail
  refine (Few_is _ _ _ _ _ _ _ _ _ _ _ (unhide Ia) (unhide Ic) true hx).mono ?_
  rintro e w7 ⟨rfl, b7⟩
  replace HB := hide ((unhide HB).trans (b7.mono (unhide HB).size))
  replace Ia := hide (((unhide Ia).below b7).more b7.size)
  replace Ib := hide (((unhide Ib).below b7).more b7.size)
  replace Ic := hide (((unhide Ic).below b7).more b7.size)
  clear b7
  go_wp2_with fail
  refine (Few_is _ _ _ _ _ _ _ _ _ _ _ (unhide Ib) (unhide Ic) true hy).mono ?_
  rintro e w8 ⟨rfl, b8⟩
  replace HB := hide ((unhide HB).trans (b8.mono (unhide HB).size))
  replace Ia := hide (((unhide Ia).below b8).more b8.size)
  replace Ib := hide (((unhide Ib).below b8).more b8.size)
  replace Ic := hide (((unhide Ic).below b8).more b8.size)
  clear b8
  go_wp2_with fail
  refine (list_ints _ _ _ _ _ _ (unhide Ia)).mono ?_
  rintro e w9 ⟨A9, n9, c9, rfl, i9, b9⟩
  replace HB := hide ((unhide HB).trans (b9.mono (unhide HB).size))
  replace Ia := hide (((unhide Ia).below b9).more b9.size)
  replace Ib := hide (((unhide Ib).below b9).more b9.size)
  replace Ic := hide (((unhide Ic).below b9).more b9.size)
  clear b9
  rw [ta.out] at i9
  have I1 := hide i9
  clear i9
  go_wp2_with fail
  refine (list_ints _ _ _ _ _ _ (unhide Ib)).mono ?_
  rintro e w10 ⟨A10, n10, c10, rfl, i10, b10⟩
  replace HB := hide ((unhide HB).trans (b10.mono (unhide HB).size))
  replace Ia := hide (((unhide Ia).below b10).more b10.size)
  replace Ib := hide (((unhide Ib).below b10).more b10.size)
  replace Ic := hide (((unhide Ic).below b10).more b10.size)
  replace I1 := hide (((unhide I1).below b10).more b10.size)
  clear b10
  rw [tb.out] at i10
  have I2 := hide i10
  clear i10
  go_wp2_with fail
  refine (Uneven_is _ _ _ _ _ _ _ _ _ (unhide I1) (unhide I2) sxy false hu).mono ?_
  rintro e w11 ⟨rfl, b11⟩
  replace HB := hide ((unhide HB).trans (b11.mono (unhide HB).size))
  replace Ia := hide (((unhide Ia).below b11).more b11.size)
  replace Ib := hide (((unhide Ib).below b11).more b11.size)
  replace Ic := hide (((unhide Ic).below b11).more b11.size)
  replace I1 := hide (((unhide I1).below b11).more b11.size)
  replace I2 := hide (((unhide I2).below b11).more b11.size)
  clear b11
  clear I1
  clear I2
  go_wp2_with fail
  refine (list_ints _ _ _ _ _ _ (unhide Ib)).mono ?_
  rintro e w12 ⟨A12, n12, c12, rfl, i12, b12⟩
  replace HB := hide ((unhide HB).trans (b12.mono (unhide HB).size))
  replace Ia := hide (((unhide Ia).below b12).more b12.size)
  replace Ib := hide (((unhide Ib).below b12).more b12.size)
  replace Ic := hide (((unhide Ic).below b12).more b12.size)
  clear b12
  rw [tb.out] at i12
  have I1 := hide i12
  clear i12
  go_wp2_with fail
  refine (list_ints _ _ _ _ _ _ (unhide Ia)).mono ?_
  rintro e w13 ⟨A13, n13, c13, rfl, i13, b13⟩
  replace HB := hide ((unhide HB).trans (b13.mono (unhide HB).size))
  replace Ia := hide (((unhide Ia).below b13).more b13.size)
  replace Ib := hide (((unhide Ib).below b13).more b13.size)
  replace Ic := hide (((unhide Ic).below b13).more b13.size)
  replace I1 := hide (((unhide I1).below b13).more b13.size)
  clear b13
  rw [ta.out] at i13
  have I2 := hide i13
  clear i13
  go_wp2_with fail
  refine (Uneven_is _ _ _ _ _ _ _ _ _ (unhide I1) (unhide I2) syx false hv).mono ?_
  rintro e w14 ⟨rfl, b14⟩
  replace HB := hide ((unhide HB).trans (b14.mono (unhide HB).size))
  replace Ia := hide (((unhide Ia).below b14).more b14.size)
  replace Ib := hide (((unhide Ib).below b14).more b14.size)
  replace Ic := hide (((unhide Ic).below b14).more b14.size)
  replace I1 := hide (((unhide I1).below b14).more b14.size)
  replace I2 := hide (((unhide I2).below b14).more b14.size)
  clear b14
  clear I1
  clear I2
  go_wp2_with fail
  refine (awake_any _).mono ?_
  rintro e w15 ⟨rfl, b15⟩
  replace HB := hide ((unhide HB).trans (b15.mono (unhide HB).size))
  replace Ia := hide (((unhide Ia).below b15).more b15.size)
  replace Ib := hide (((unhide Ib).below b15).more b15.size)
  replace Ic := hide (((unhide Ic).below b15).more b15.size)
  clear b15
  go_wp2_with fail
  go_ret
  exact ⟨rfl, unhide HB⟩

theorem Muirhead_any (A A' A'' : Option Addr) (n c n' c' n'' c'' : Nat) (xs ys zs : List Int) (w : World) (h : Ints w w.heap.size A n c xs) (h' : Ints w w.heap.size A' n' c' ys) (h'' : Ints w w.heap.size A'' n'' c'' zs) :
    Calls Try.prog 13 #[.slice A n c, .slice A' n' c', .slice A'' n'' c''] w fun e w' => e = .returned (.bool true) ∧ Below w.heap.size w w' := by
  rcases hx : fewB xs zs
  · rcases hy : fewB ys zs
    · exact Muir_ff _ _ _ _ _ _ _ _ _ _ _ _ _ h h' h'' (hide hx) (hide hy)
    · exact Muir_ft _ _ _ _ _ _ _ _ _ _ _ _ _ h h' h'' (hide hx) (hide hy)
  · rcases hy : fewB ys zs
    · exact Muir_tf _ _ _ _ _ _ _ _ _ _ _ _ _ h h' h'' (hide hx) (hide hy)
    · rcases hu : unevS xs ys
      · rcases hv : unevS ys xs
        · exact Muir_ttff _ _ _ _ _ _ _ _ _ _ _ _ _ h h' h'' (hide hx) (hide hy) (hide hu) (hide hv)
        · exact Muir_ttft _ _ _ _ _ _ _ _ _ _ _ _ _ h h' h'' (hide hx) (hide hy) (hide hu) (hide hv)
      · rcases hv : unevS ys xs
        · exact Muir_tttf _ _ _ _ _ _ _ _ _ _ _ _ _ h h' h'' (hide hx) (hide hy) (hide hu) (hide hv)
        · exact Muir_tttt _ _ _ _ _ _ _ _ _ _ _ _ _ h h' h'' (hide hx) (hide hy) (hide hu) (hide hv)
end Go.Proofs.Ytmpdalcdkibgpaa
