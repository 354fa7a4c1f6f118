import Derived.Test.YtmpdalcdkibgpaaQ3
namespace Go.Proofs.Ytmpdalcdkibgpaa
open Go.RowKit Go.Sort

set_option maxHeartbeats 1000000 in
theorem Lattice_A (A A' A'' : Option Addr) (n c n' c' n'' c'' : Nat) (xs ys zs : List Int) (w : World) (h : Ints w w.heap.size A n c xs) (h' : Ints w w.heap.size A' n' c' ys) (h'' : Ints w w.heap.size A'' n'' c'' zs)
    (hn : n ≤ 17592186044416) (hn' : n' ≤ 17592186044416) (hn'' : n'' ≤ 17592186044416) (hs : Hid (oneSum xs ys = false)) :
    Calls Try.prog 14 #[.slice A n c, .slice A' n' c', .slice A'' n'' c''] w fun e w' => e = .returned (.bool true) ∧ Below w.heap.size w w' := by
  have HB := hide (Below.refl w.heap.size w)
  have Ia := hide h; have Ib := hide h'; have Ic := hide h''; clear h h' h''
  have hs1 := hide (show oneSum (xs.take 15) (ys.take 15) = false from by rw [oneSum_take]; exact hs.out)
  go_enter Try.func14, Try.ntmps14
  go_wp2_with fail
  refine (list_ints _ _ _ _ _ _ (unhide Ia)).mono ?_
  rintro e w1 ⟨A1, n1, c1, rfl, i1, b1⟩
  replace HB := hide ((unhide HB).trans (b1.mono (unhide HB).size))
  replace Ia := hide (((unhide Ia).below b1).more b1.size)
  replace Ib := hide (((unhide Ib).below b1).more b1.size)
  clear b1
  have I1 := hide i1
  clear i1
  go_wp2_with fail
  refine (list_ints _ _ _ _ _ _ (unhide Ib)).mono ?_
  rintro e w2 ⟨A2, n2, c2, rfl, i2, b2⟩
  replace HB := hide ((unhide HB).trans (b2.mono (unhide HB).size))
  replace Ia := hide (((unhide Ia).below b2).more b2.size)
  replace Ib := hide (((unhide Ib).below b2).more b2.size)
  replace I1 := hide (((unhide I1).below b2).more b2.size)
  clear b2
  have I2 := hide i2
  clear i2
  go_wp2_with fail
  refine (Meet_no _ _ _ _ _ _ _ _ _ _ _ (unhide I1) (unhide I2) hs1).mono ?_
  rintro e w3 ⟨rfl, b3⟩
  replace HB := hide ((unhide HB).trans (b3.mono (unhide HB).size))
  replace Ia := hide (((unhide Ia).below b3).more b3.size)
  replace Ib := hide (((unhide Ib).below b3).more b3.size)
  replace I1 := hide (((unhide I1).below b3).more b3.size)
  replace I2 := hide (((unhide I2).below b3).more b3.size)
  clear b3
  clear I1
  clear I2
  go_wp2_with fail
  refine (list_ints _ _ _ _ _ _ (unhide Ia)).mono ?_
  rintro e w4 ⟨A4, n4, c4, rfl, i4, b4⟩
  replace HB := hide ((unhide HB).trans (b4.mono (unhide HB).size))
  replace Ia := hide (((unhide Ia).below b4).more b4.size)
  replace Ib := hide (((unhide Ib).below b4).more b4.size)
  clear b4
  have I1 := hide i4
  clear i4
  go_wp2_with fail
  refine (list_ints _ _ _ _ _ _ (unhide Ib)).mono ?_
  rintro e w5 ⟨A5, n5, c5, rfl, i5, b5⟩
  replace HB := hide ((unhide HB).trans (b5.mono (unhide HB).size))
  replace Ia := hide (((unhide Ia).below b5).more b5.size)
  replace Ib := hide (((unhide Ib).below b5).more b5.size)
  replace I1 := hide (((unhide I1).below b5).more b5.size)
  clear b5
  have I2 := hide i5
  clear i5
  go_wp2_with fail
  refine (Join_no _ _ _ _ _ _ _ _ _ _ _ (unhide I1) (unhide I2) hs1).mono ?_
  rintro e w6 ⟨rfl, b6⟩
  replace HB := hide ((unhide HB).trans (b6.mono (unhide HB).size))
  replace Ia := hide (((unhide Ia).below b6).more b6.size)
  replace Ib := hide (((unhide Ib).below b6).more b6.size)
  replace I1 := hide (((unhide I1).below b6).more b6.size)
  replace I2 := hide (((unhide I2).below b6).more b6.size)
  clear b6
  clear I1
  clear I2
  go_wp2_with fail
  refine (awake_any _).mono ?_
  rintro e w7 ⟨rfl, b7⟩
  replace HB := hide ((unhide HB).trans (b7.mono (unhide HB).size))
  replace Ia := hide (((unhide Ia).below b7).more b7.size)
  replace Ib := hide (((unhide Ib).below b7).more b7.size)
  clear b7
  go_wp2_with fail
  go_ret
  exact ⟨rfl, unhide HB⟩

set_option maxHeartbeats 4000000 in
theorem Lattice_B1 (A A' A'' : Option Addr) (n c n' c' n'' c'' : Nat) (xs ys zs : List Int) (w : World) (h : Ints w w.heap.size A n c xs) (h' : Ints w w.heap.size A' n' c' ys) (h'' : Ints w w.heap.size A'' n'' c'' zs)
    (hn : n ≤ 17592186044416) (hn' : n' ≤ 17592186044416) (hn'' : n'' ≤ 17592186044416) (m : Nat) (ha : Hid (IsP xs m)) (hb : Hid (IsP ys m)) (hca : Hid (oneSum zs xs = false)) :
    Calls Try.prog 14 #[.slice A n c, .slice A' n' c', .slice A'' n'' c''] w fun e w' => e = .returned (.bool true) ∧ Below w.heap.size w w' := by
  have HB := hide (Below.refl w.heap.size w)
  have Ia := hide h; have Ib := hide h'; have Ic := hide h''; clear h h' h''
  have tIa := hide ha.out.take; have tIb := hide hb.out.take
  have hx := hide (meet_isP ha.out hb.out); have hy := hide (join_isP ha.out hb.out)
  have hab := hide (isP_oneSum ha.out hb.out)
  have hux := hide (show decide (meetF ys xs = meetF xs ys) = true from by rw [decide_eq_true_eq, meet_comm])
  have hvy := hide (show decide (joinF ys xs = joinF xs ys) = true from by rw [decide_eq_true_eq, join_comm])
  have hxa := hide (isP_oneSum hx.out ha.out); have hya := hide (isP_oneSum hy.out ha.out)
  have dax := hide ((unevR_dom ha.out hx.out).2 (dom_meet_left ha.out hb.out))
  have dbx := hide ((unevR_dom hb.out hx.out).2 (by rw [meet_comm]; exact dom_meet_left hb.out ha.out))
  have dya := hide ((unevR_dom hy.out ha.out).2 (dom_join_left ha.out hb.out))
  have dyb := hide ((unevR_dom hy.out hb.out).2 (by rw [join_comm]; exact dom_join_left hb.out ha.out))
  go_enter Try.func14, Try.ntmps14
  go_wp2_with fail
  refine (list_ints _ _ _ _ _ _ (unhide Ia)).mono ?_
  rintro e w1 ⟨A1, n1, c1, rfl, i1, b1⟩
  replace HB := hide ((unhide HB).trans (b1.mono (unhide HB).size))
  replace Ia := hide (((unhide Ia).below b1).more b1.size)
  replace Ib := hide (((unhide Ib).below b1).more b1.size)
  replace Ic := hide (((unhide Ic).below b1).more b1.size)
  clear b1
  rw [tIa.out] at i1
  have I1 := hide i1
  clear i1
  go_wp2_with fail
  refine (list_ints _ _ _ _ _ _ (unhide Ib)).mono ?_
  rintro e w2 ⟨A2, n2, c2, rfl, i2, b2⟩
  replace HB := hide ((unhide HB).trans (b2.mono (unhide HB).size))
  replace Ia := hide (((unhide Ia).below b2).more b2.size)
  replace Ib := hide (((unhide Ib).below b2).more b2.size)
  replace Ic := hide (((unhide Ic).below b2).more b2.size)
  replace I1 := hide (((unhide I1).below b2).more b2.size)
  clear b2
  rw [tIb.out] at i2
  have I2 := hide i2
  clear i2
  go_wp2_with fail
  refine (Meet_ok _ _ _ _ _ _ _ _ _ (unhide I1) (unhide I2) m ha hb).mono ?_
  rintro e w3 ⟨A3, n3, c3, rfl, i3, b3⟩
  replace HB := hide ((unhide HB).trans (b3.mono (unhide HB).size))
  replace Ia := hide (((unhide Ia).below b3).more b3.size)
  replace Ib := hide (((unhide Ib).below b3).more b3.size)
  replace Ic := hide (((unhide Ic).below b3).more b3.size)
  replace I1 := hide (((unhide I1).below b3).more b3.size)
  replace I2 := hide (((unhide I2).below b3).more b3.size)
  clear b3
  have Ix := hide i3
  clear i3
  clear I1
  clear I2
  go_wp2_with fail
  refine (list_ints _ _ _ _ _ _ (unhide Ia)).mono ?_
  rintro e w4 ⟨A4, n4, c4, rfl, i4, b4⟩
  replace HB := hide ((unhide HB).trans (b4.mono (unhide HB).size))
  replace Ia := hide (((unhide Ia).below b4).more b4.size)
  replace Ib := hide (((unhide Ib).below b4).more b4.size)
  replace Ic := hide (((unhide Ic).below b4).more b4.size)
  replace Ix := hide (((unhide Ix).below b4).more b4.size)
  clear b4
  rw [tIa.out] at i4
  have I1 := hide i4
  clear i4
  go_wp2_with fail
  refine (list_ints _ _ _ _ _ _ (unhide Ib)).mono ?_
  rintro e w5 ⟨A5, n5, c5, rfl, i5, b5⟩
  replace HB := hide ((unhide HB).trans (b5.mono (unhide HB).size))
  replace Ia := hide (((unhide Ia).below b5).more b5.size)
  replace Ib := hide (((unhide Ib).below b5).more b5.size)
  replace Ic := hide (((unhide Ic).below b5).more b5.size)
  replace Ix := hide (((unhide Ix).below b5).more b5.size)
  replace I1 := hide (((unhide I1).below b5).more b5.size)
  clear b5
  rw [tIb.out] at i5
  have I2 := hide i5
  clear i5
  go_wp2_with fail
  refine (Join_ok _ _ _ _ _ _ _ _ _ (unhide I1) (unhide I2) m ha hb).mono ?_
  rintro e w6 ⟨A6, n6, c6, rfl, i6, b6⟩
  replace HB := hide ((unhide HB).trans (b6.mono (unhide HB).size))
  replace Ia := hide (((unhide Ia).below b6).more b6.size)
  replace Ib := hide (((unhide Ib).below b6).more b6.size)
  replace Ic := hide (((unhide Ic).below b6).more b6.size)
  replace Ix := hide (((unhide Ix).below b6).more b6.size)
  replace I1 := hide (((unhide I1).below b6).more b6.size)
  replace I2 := hide (((unhide I2).below b6).more b6.size)
  clear b6
  have Iy := hide i6
  clear i6
  clear I1
  clear I2
  go_wp2_with fail
  refine (lparts_is _ _ _ _ _ _ _ _ _ _ _ (unhide Ia) (unhide Ib) hn hn' true hab).mono ?_
  rintro e w7 ⟨rfl, b7⟩
  replace HB := hide ((unhide HB).trans (b7.mono (unhide HB).size))
  replace Ia := hide (((unhide Ia).below b7).more b7.size)
  replace Ib := hide (((unhide Ib).below b7).more b7.size)
  replace Ic := hide (((unhide Ic).below b7).more b7.size)
  replace Ix := hide (((unhide Ix).below b7).more b7.size)
  replace Iy := hide (((unhide Iy).below b7).more b7.size)
  clear b7
  go_wp2_with fail
  refine (list_ints _ _ _ _ _ _ (unhide Ib)).mono ?_
  rintro e w8 ⟨A8, n8, c8, rfl, i8, b8⟩
  replace HB := hide ((unhide HB).trans (b8.mono (unhide HB).size))
  replace Ia := hide (((unhide Ia).below b8).more b8.size)
  replace Ib := hide (((unhide Ib).below b8).more b8.size)
  replace Ic := hide (((unhide Ic).below b8).more b8.size)
  replace Ix := hide (((unhide Ix).below b8).more b8.size)
  replace Iy := hide (((unhide Iy).below b8).more b8.size)
  clear b8
  rw [tIb.out] at i8
  have I1 := hide i8
  clear i8
  go_wp2_with fail
  refine (list_ints _ _ _ _ _ _ (unhide Ia)).mono ?_
  rintro e w9 ⟨A9, n9, c9, rfl, i9, b9⟩
  replace HB := hide ((unhide HB).trans (b9.mono (unhide HB).size))
  replace Ia := hide (((unhide Ia).below b9).more b9.size)
  replace Ib := hide (((unhide Ib).below b9).more b9.size)
  replace Ic := hide (((unhide Ic).below b9).more b9.size)
  replace Ix := hide (((unhide Ix).below b9).more b9.size)
  replace Iy := hide (((unhide Iy).below b9).more b9.size)
  replace I1 := hide (((unhide I1).below b9).more b9.size)
  clear b9
  rw [tIa.out] at i9
  have I2 := hide i9
  clear i9
  go_wp2_with fail
  refine (Meet_ok _ _ _ _ _ _ _ _ _ (unhide I1) (unhide I2) m hb ha).mono ?_
  rintro e w10 ⟨A10, n10, c10, rfl, i10, b10⟩
  replace HB := hide ((unhide HB).trans (b10.mono (unhide HB).size))
  replace Ia := hide (((unhide Ia).below b10).more b10.size)
  replace Ib := hide (((unhide Ib).below b10).more b10.size)
  replace Ic := hide (((unhide Ic).below b10).more b10.size)
  replace Ix := hide (((unhide Ix).below b10).more b10.size)
  replace Iy := hide (((unhide Iy).below b10).more b10.size)
  replace I1 := hide (((unhide I1).below b10).more b10.size)
  replace I2 := hide (((unhide I2).below b10).more b10.size)
  clear b10
  have Iu := hide i10
  clear i10
  clear I1
  clear I2
  go_wp2_with fail
  refine (list_ints _ _ _ _ _ _ (unhide Ib)).mono ?_
  rintro e w11 ⟨A11, n11, c11, rfl, i11, b11⟩
  replace HB := hide ((unhide HB).trans (b11.mono (unhide HB).size))
  replace Ia := hide (((unhide Ia).below b11).more b11.size)
  replace Ib := hide (((unhide Ib).below b11).more b11.size)
  replace Ic := hide (((unhide Ic).below b11).more b11.size)
  replace Ix := hide (((unhide Ix).below b11).more b11.size)
  replace Iy := hide (((unhide Iy).below b11).more b11.size)
  replace Iu := hide (((unhide Iu).below b11).more b11.size)
  clear b11
  rw [tIb.out] at i11
  have I1 := hide i11
  clear i11
  go_wp2_with fail
  refine (list_ints _ _ _ _ _ _ (unhide Ia)).mono ?_
  rintro e w12 ⟨A12, n12, c12, rfl, i12, b12⟩
  replace HB := hide ((unhide HB).trans (b12.mono (unhide HB).size))
  replace Ia := hide (((unhide Ia).below b12).more b12.size)
  replace Ib := hide (((unhide Ib).below b12).more b12.size)
  replace Ic := hide (((unhide Ic).below b12).more b12.size)
  replace Ix := hide (((unhide Ix).below b12).more b12.size)
  replace Iy := hide (((unhide Iy).below b12).more b12.size)
  replace Iu := hide (((unhide Iu).below b12).more b12.size)
  replace I1 := hide (((unhide I1).below b12).more b12.size)
  clear b12
  rw [tIa.out] at i12
  have I2 := hide i12
  clear i12
  go_wp2_with fail
  refine (Join_ok _ _ _ _ _ _ _ _ _ (unhide I1) (unhide I2) m hb ha).mono ?_
  rintro e w13 ⟨A13, n13, c13, rfl, i13, b13⟩
  replace HB := hide ((unhide HB).trans (b13.mono (unhide HB).size))
  replace Ia := hide (((unhide Ia).below b13).more b13.size)
  replace Ib := hide (((unhide Ib).below b13).more b13.size)
  replace Ic := hide (((unhide Ic).below b13).more b13.size)
  replace Ix := hide (((unhide Ix).below b13).more b13.size)
  replace Iy := hide (((unhide Iy).below b13).more b13.size)
  replace Iu := hide (((unhide Iu).below b13).more b13.size)
  replace I1 := hide (((unhide I1).below b13).more b13.size)
  replace I2 := hide (((unhide I2).below b13).more b13.size)
  clear b13
  have Iv := hide i13
  clear i13
  clear I1
  clear I2
  go_wp2_with fail
  refine (equal_any _ _ _ _ _ _ _ _ _ _ _ (unhide Iu) (unhide Ix) true hux).mono ?_
  rintro e w14 ⟨rfl, b14⟩
  replace HB := hide ((unhide HB).trans (b14.mono (unhide HB).size))
  replace Ia := hide (((unhide Ia).below b14).more b14.size)
  replace Ib := hide (((unhide Ib).below b14).more b14.size)
  replace Ic := hide (((unhide Ic).below b14).more b14.size)
  replace Ix := hide (((unhide Ix).below b14).more b14.size)
  replace Iy := hide (((unhide Iy).below b14).more b14.size)
  replace Iu := hide (((unhide Iu).below b14).more b14.size)
  replace Iv := hide (((unhide Iv).below b14).more b14.size)
  clear b14
  clear Iu
  go_wp2_with fail
  refine (equal_any _ _ _ _ _ _ _ _ _ _ _ (unhide Iv) (unhide Iy) true hvy).mono ?_
  rintro e w15 ⟨rfl, b15⟩
  replace HB := hide ((unhide HB).trans (b15.mono (unhide HB).size))
  replace Ia := hide (((unhide Ia).below b15).more b15.size)
  replace Ib := hide (((unhide Ib).below b15).more b15.size)
  replace Ic := hide (((unhide Ic).below b15).more b15.size)
  replace Ix := hide (((unhide Ix).below b15).more b15.size)
  replace Iy := hide (((unhide Iy).below b15).more b15.size)
  replace Iv := hide (((unhide Iv).below b15).more b15.size)
  clear b15
  clear Iv
  go_wp2_with fail
  refine (lparts_is _ _ _ _ _ _ _ _ _ _ _ (unhide Ix) (unhide Ia) (by have := (unhide Ix).len; have := hx.out.len12; omega) hn true hxa).mono ?_
  rintro e w16 ⟨rfl, b16⟩
  replace HB := hide ((unhide HB).trans (b16.mono (unhide HB).size))
  replace Ia := hide (((unhide Ia).below b16).more b16.size)
  replace Ib := hide (((unhide Ib).below b16).more b16.size)
  replace Ic := hide (((unhide Ic).below b16).more b16.size)
  replace Ix := hide (((unhide Ix).below b16).more b16.size)
  replace Iy := hide (((unhide Iy).below b16).more b16.size)
  clear b16
  go_wp2_with fail
  refine (lparts_is _ _ _ _ _ _ _ _ _ _ _ (unhide Iy) (unhide Ia) (by have := (unhide Iy).len; have := hy.out.len12; omega) hn true hya).mono ?_
  rintro e w17 ⟨rfl, b17⟩
  replace HB := hide ((unhide HB).trans (b17.mono (unhide HB).size))
  replace Ia := hide (((unhide Ia).below b17).more b17.size)
  replace Ib := hide (((unhide Ib).below b17).more b17.size)
  replace Ic := hide (((unhide Ic).below b17).more b17.size)
  replace Ix := hide (((unhide Ix).below b17).more b17.size)
  replace Iy := hide (((unhide Iy).below b17).more b17.size)
  clear b17
  go_wp2_with fail
  refine (unevP _ _ _ _ _ _ _ _ _ (unhide Ia) (unhide Ix) m ha hx true dax).mono ?_
  rintro e w18 ⟨rfl, b18⟩
  replace HB := hide ((unhide HB).trans (b18.mono (unhide HB).size))
  replace Ia := hide (((unhide Ia).below b18).more b18.size)
  replace Ib := hide (((unhide Ib).below b18).more b18.size)
  replace Ic := hide (((unhide Ic).below b18).more b18.size)
  replace Ix := hide (((unhide Ix).below b18).more b18.size)
  replace Iy := hide (((unhide Iy).below b18).more b18.size)
  clear b18
  go_wp2_with fail
  refine (unevP _ _ _ _ _ _ _ _ _ (unhide Ib) (unhide Ix) m hb hx true dbx).mono ?_
  rintro e w19 ⟨rfl, b19⟩
  replace HB := hide ((unhide HB).trans (b19.mono (unhide HB).size))
  replace Ia := hide (((unhide Ia).below b19).more b19.size)
  replace Ib := hide (((unhide Ib).below b19).more b19.size)
  replace Ic := hide (((unhide Ic).below b19).more b19.size)
  replace Ix := hide (((unhide Ix).below b19).more b19.size)
  replace Iy := hide (((unhide Iy).below b19).more b19.size)
  clear b19
  go_wp2_with fail
  refine (unevP _ _ _ _ _ _ _ _ _ (unhide Iy) (unhide Ia) m hy ha true dya).mono ?_
  rintro e w20 ⟨rfl, b20⟩
  replace HB := hide ((unhide HB).trans (b20.mono (unhide HB).size))
  replace Ia := hide (((unhide Ia).below b20).more b20.size)
  replace Ib := hide (((unhide Ib).below b20).more b20.size)
  replace Ic := hide (((unhide Ic).below b20).more b20.size)
  replace Ix := hide (((unhide Ix).below b20).more b20.size)
  replace Iy := hide (((unhide Iy).below b20).more b20.size)
  clear b20
  go_wp2_with fail
  refine (unevP _ _ _ _ _ _ _ _ _ (unhide Iy) (unhide Ib) m hy hb true dyb).mono ?_
  rintro e w21 ⟨rfl, b21⟩
  replace HB := hide ((unhide HB).trans (b21.mono (unhide HB).size))
  replace Ia := hide (((unhide Ia).below b21).more b21.size)
  replace Ib := hide (((unhide Ib).below b21).more b21.size)
  replace Ic := hide (((unhide Ic).below b21).more b21.size)
  replace Ix := hide (((unhide Ix).below b21).more b21.size)
  replace Iy := hide (((unhide Iy).below b21).more b21.size)
  clear b21
  go_wp2_with fail
  refine (lparts_is _ _ _ _ _ _ _ _ _ _ _ (unhide Ic) (unhide Ia) hn'' hn false hca).mono ?_
  rintro e w22 ⟨rfl, b22⟩
  replace HB := hide ((unhide HB).trans (b22.mono (unhide HB).size))
  replace Ia := hide (((unhide Ia).below b22).more b22.size)
  replace Ib := hide (((unhide Ib).below b22).more b22.size)
  replace Ic := hide (((unhide Ic).below b22).more b22.size)
  replace Ix := hide (((unhide Ix).below b22).more b22.size)
  replace Iy := hide (((unhide Iy).below b22).more b22.size)
  clear b22
  go_wp2_with fail
  refine (awake_any _).mono ?_
  rintro e w23 ⟨rfl, b23⟩
  replace HB := hide ((unhide HB).trans (b23.mono (unhide HB).size))
  replace Ia := hide (((unhide Ia).below b23).more b23.size)
  replace Ib := hide (((unhide Ib).below b23).more b23.size)
  replace Ic := hide (((unhide Ic).below b23).more b23.size)
  replace Ix := hide (((unhide Ix).below b23).more b23.size)
  replace Iy := hide (((unhide Iy).below b23).more b23.size)
  clear b23
  go_wp2_with fail
  go_ret
  exact ⟨rfl, unhide HB⟩

set_option maxHeartbeats 4000000 in
theorem Lattice_00 (A A' A'' : Option Addr) (n c n' c' n'' c'' : Nat) (xs ys zs : List Int) (w : World) (h : Ints w w.heap.size A n c xs) (h' : Ints w w.heap.size A' n' c' ys) (h'' : Ints w w.heap.size A'' n'' c'' zs)
    (hn : n ≤ 17592186044416) (hn' : n' ≤ 17592186044416) (hn'' : n'' ≤ 17592186044416) (m : Nat) (ha : Hid (IsP xs m)) (hb : Hid (IsP ys m)) (hc : Hid (IsP zs m)) (p1 : Hid (unevR xs zs = false)) (q1 : Hid (unevR zs xs = false)) :
    Calls Try.prog 14 #[.slice A n c, .slice A' n' c', .slice A'' n'' c''] w fun e w' => e = .returned (.bool true) ∧ Below w.heap.size w w' := by
  have HB := hide (Below.refl w.heap.size w)
  have Ia := hide h; have Ib := hide h'; have Ic := hide h''; clear h h' h''
  have tIa := hide ha.out.take; have tIb := hide hb.out.take
  have hx := hide (meet_isP ha.out hb.out); have hy := hide (join_isP ha.out hb.out)
  have hab := hide (isP_oneSum ha.out hb.out)
  have hux := hide (show decide (meetF ys xs = meetF xs ys) = true from by rw [decide_eq_true_eq, meet_comm])
  have hvy := hide (show decide (joinF ys xs = joinF xs ys) = true from by rw [decide_eq_true_eq, join_comm])
  have hxa := hide (isP_oneSum hx.out ha.out); have hya := hide (isP_oneSum hy.out ha.out)
  have dax := hide ((unevR_dom ha.out hx.out).2 (dom_meet_left ha.out hb.out))
  have dbx := hide ((unevR_dom hb.out hx.out).2 (by rw [meet_comm]; exact dom_meet_left hb.out ha.out))
  have dya := hide ((unevR_dom hy.out ha.out).2 (dom_join_left ha.out hb.out))
  have dyb := hide ((unevR_dom hy.out hb.out).2 (by rw [join_comm]; exact dom_join_left hb.out ha.out))
  have hca := hide (isP_oneSum hc.out ha.out)
  go_enter Try.func14, Try.ntmps14
  go_wp2_with fail
  refine (list_ints _ _ _ _ _ _ (unhide Ia)).mono ?_
  rintro e w1 ⟨A1, n1, c1, rfl, i1, b1⟩
  replace HB := hide ((unhide HB).trans (b1.mono (unhide HB).size))
  replace Ia := hide (((unhide Ia).below b1).more b1.size)
  replace Ib := hide (((unhide Ib).below b1).more b1.size)
  replace Ic := hide (((unhide Ic).below b1).more b1.size)
  clear b1
  rw [tIa.out] at i1
  have I1 := hide i1
  clear i1
  go_wp2_with fail
  refine (list_ints _ _ _ _ _ _ (unhide Ib)).mono ?_
  rintro e w2 ⟨A2, n2, c2, rfl, i2, b2⟩
  replace HB := hide ((unhide HB).trans (b2.mono (unhide HB).size))
  replace Ia := hide (((unhide Ia).below b2).more b2.size)
  replace Ib := hide (((unhide Ib).below b2).more b2.size)
  replace Ic := hide (((unhide Ic).below b2).more b2.size)
  replace I1 := hide (((unhide I1).below b2).more b2.size)
  clear b2
  rw [tIb.out] at i2
  have I2 := hide i2
  clear i2
  go_wp2_with fail
  refine (Meet_ok _ _ _ _ _ _ _ _ _ (unhide I1) (unhide I2) m ha hb).mono ?_
  rintro e w3 ⟨A3, n3, c3, rfl, i3, b3⟩
  replace HB := hide ((unhide HB).trans (b3.mono (unhide HB).size))
  replace Ia := hide (((unhide Ia).below b3).more b3.size)
  replace Ib := hide (((unhide Ib).below b3).more b3.size)
  replace Ic := hide (((unhide Ic).below b3).more b3.size)
  replace I1 := hide (((unhide I1).below b3).more b3.size)
  replace I2 := hide (((unhide I2).below b3).more b3.size)
  clear b3
  have Ix := hide i3
  clear i3
  clear I1
  clear I2
  go_wp2_with fail
  refine (list_ints _ _ _ _ _ _ (unhide Ia)).mono ?_
  rintro e w4 ⟨A4, n4, c4, rfl, i4, b4⟩
  replace HB := hide ((unhide HB).trans (b4.mono (unhide HB).size))
  replace Ia := hide (((unhide Ia).below b4).more b4.size)
  replace Ib := hide (((unhide Ib).below b4).more b4.size)
  replace Ic := hide (((unhide Ic).below b4).more b4.size)
  replace Ix := hide (((unhide Ix).below b4).more b4.size)
  clear b4
  rw [tIa.out] at i4
  have I1 := hide i4
  clear i4
  go_wp2_with fail
  refine (list_ints _ _ _ _ _ _ (unhide Ib)).mono ?_
  rintro e w5 ⟨A5, n5, c5, rfl, i5, b5⟩
  replace HB := hide ((unhide HB).trans (b5.mono (unhide HB).size))
  replace Ia := hide (((unhide Ia).below b5).more b5.size)
  replace Ib := hide (((unhide Ib).below b5).more b5.size)
  replace Ic := hide (((unhide Ic).below b5).more b5.size)
  replace Ix := hide (((unhide Ix).below b5).more b5.size)
  replace I1 := hide (((unhide I1).below b5).more b5.size)
  clear b5
  rw [tIb.out] at i5
  have I2 := hide i5
  clear i5
  go_wp2_with fail
  refine (Join_ok _ _ _ _ _ _ _ _ _ (unhide I1) (unhide I2) m ha hb).mono ?_
  rintro e w6 ⟨A6, n6, c6, rfl, i6, b6⟩
  replace HB := hide ((unhide HB).trans (b6.mono (unhide HB).size))
  replace Ia := hide (((unhide Ia).below b6).more b6.size)
  replace Ib := hide (((unhide Ib).below b6).more b6.size)
  replace Ic := hide (((unhide Ic).below b6).more b6.size)
  replace Ix := hide (((unhide Ix).below b6).more b6.size)
  replace I1 := hide (((unhide I1).below b6).more b6.size)
  replace I2 := hide (((unhide I2).below b6).more b6.size)
  clear b6
  have Iy := hide i6
  clear i6
  clear I1
  clear I2
  go_wp2_with fail
  refine (lparts_is _ _ _ _ _ _ _ _ _ _ _ (unhide Ia) (unhide Ib) hn hn' true hab).mono ?_
  rintro e w7 ⟨rfl, b7⟩
  replace HB := hide ((unhide HB).trans (b7.mono (unhide HB).size))
  replace Ia := hide (((unhide Ia).below b7).more b7.size)
  replace Ib := hide (((unhide Ib).below b7).more b7.size)
  replace Ic := hide (((unhide Ic).below b7).more b7.size)
  replace Ix := hide (((unhide Ix).below b7).more b7.size)
  replace Iy := hide (((unhide Iy).below b7).more b7.size)
  clear b7
  go_wp2_with fail
  refine (list_ints _ _ _ _ _ _ (unhide Ib)).mono ?_
  rintro e w8 ⟨A8, n8, c8, rfl, i8, b8⟩
  replace HB := hide ((unhide HB).trans (b8.mono (unhide HB).size))
  replace Ia := hide (((unhide Ia).below b8).more b8.size)
  replace Ib := hide (((unhide Ib).below b8).more b8.size)
  replace Ic := hide (((unhide Ic).below b8).more b8.size)
  replace Ix := hide (((unhide Ix).below b8).more b8.size)
  replace Iy := hide (((unhide Iy).below b8).more b8.size)
  clear b8
  rw [tIb.out] at i8
  have I1 := hide i8
  clear i8
  go_wp2_with fail
  refine (list_ints _ _ _ _ _ _ (unhide Ia)).mono ?_
  rintro e w9 ⟨A9, n9, c9, rfl, i9, b9⟩
  replace HB := hide ((unhide HB).trans (b9.mono (unhide HB).size))
  replace Ia := hide (((unhide Ia).below b9).more b9.size)
  replace Ib := hide (((unhide Ib).below b9).more b9.size)
  replace Ic := hide (((unhide Ic).below b9).more b9.size)
  replace Ix := hide (((unhide Ix).below b9).more b9.size)
  replace Iy := hide (((unhide Iy).below b9).more b9.size)
  replace I1 := hide (((unhide I1).below b9).more b9.size)
  clear b9
  rw [tIa.out] at i9
  have I2 := hide i9
  clear i9
  go_wp2_with fail
  refine (Meet_ok _ _ _ _ _ _ _ _ _ (unhide I1) (unhide I2) m hb ha).mono ?_
  rintro e w10 ⟨A10, n10, c10, rfl, i10, b10⟩
  replace HB := hide ((unhide HB).trans (b10.mono (unhide HB).size))
  replace Ia := hide (((unhide Ia).below b10).more b10.size)
  replace Ib := hide (((unhide Ib).below b10).more b10.size)
  replace Ic := hide (((unhide Ic).below b10).more b10.size)
  replace Ix := hide (((unhide Ix).below b10).more b10.size)
  replace Iy := hide (((unhide Iy).below b10).more b10.size)
  replace I1 := hide (((unhide I1).below b10).more b10.size)
  replace I2 := hide (((unhide I2).below b10).more b10.size)
  clear b10
  have Iu := hide i10
  clear i10
  clear I1
  clear I2
  go_wp2_with fail
  refine (list_ints _ _ _ _ _ _ (unhide Ib)).mono ?_
  rintro e w11 ⟨A11, n11, c11, rfl, i11, b11⟩
  replace HB := hide ((unhide HB).trans (b11.mono (unhide HB).size))
  replace Ia := hide (((unhide Ia).below b11).more b11.size)
  replace Ib := hide (((unhide Ib).below b11).more b11.size)
  replace Ic := hide (((unhide Ic).below b11).more b11.size)
  replace Ix := hide (((unhide Ix).below b11).more b11.size)
  replace Iy := hide (((unhide Iy).below b11).more b11.size)
  replace Iu := hide (((unhide Iu).below b11).more b11.size)
  clear b11
  rw [tIb.out] at i11
  have I1 := hide i11
  clear i11
  go_wp2_with fail
  refine (list_ints _ _ _ _ _ _ (unhide Ia)).mono ?_
  rintro e w12 ⟨A12, n12, c12, rfl, i12, b12⟩
  replace HB := hide ((unhide HB).trans (b12.mono (unhide HB).size))
  replace Ia := hide (((unhide Ia).below b12).more b12.size)
  replace Ib := hide (((unhide Ib).below b12).more b12.size)
  replace Ic := hide (((unhide Ic).below b12).more b12.size)
  replace Ix := hide (((unhide Ix).below b12).more b12.size)
  replace Iy := hide (((unhide Iy).below b12).more b12.size)
  replace Iu := hide (((unhide Iu).below b12).more b12.size)
  replace I1 := hide (((unhide I1).below b12).more b12.size)
  clear b12
  rw [tIa.out] at i12
  have I2 := hide i12
  clear i12
  go_wp2_with fail
  refine (Join_ok _ _ _ _ _ _ _ _ _ (unhide I1) (unhide I2) m hb ha).mono ?_
  rintro e w13 ⟨A13, n13, c13, rfl, i13, b13⟩
  replace HB := hide ((unhide HB).trans (b13.mono (unhide HB).size))
  replace Ia := hide (((unhide Ia).below b13).more b13.size)
  replace Ib := hide (((unhide Ib).below b13).more b13.size)
  replace Ic := hide (((unhide Ic).below b13).more b13.size)
  replace Ix := hide (((unhide Ix).below b13).more b13.size)
  replace Iy := hide (((unhide Iy).below b13).more b13.size)
  replace Iu := hide (((unhide Iu).below b13).more b13.size)
  replace I1 := hide (((unhide I1).below b13).more b13.size)
  replace I2 := hide (((unhide I2).below b13).more b13.size)
  clear b13
  have Iv := hide i13
  clear i13
  clear I1
  clear I2
  go_wp2_with fail
  refine (equal_any _ _ _ _ _ _ _ _ _ _ _ (unhide Iu) (unhide Ix) true hux).mono ?_
  rintro e w14 ⟨rfl, b14⟩
  replace HB := hide ((unhide HB).trans (b14.mono (unhide HB).size))
  replace Ia := hide (((unhide Ia).below b14).more b14.size)
  replace Ib := hide (((unhide Ib).below b14).more b14.size)
  replace Ic := hide (((unhide Ic).below b14).more b14.size)
  replace Ix := hide (((unhide Ix).below b14).more b14.size)
  replace Iy := hide (((unhide Iy).below b14).more b14.size)
  replace Iu := hide (((unhide Iu).below b14).more b14.size)
  replace Iv := hide (((unhide Iv).below b14).more b14.size)
  clear b14
  clear Iu
  go_wp2_with fail
  refine (equal_any _ _ _ _ _ _ _ _ _ _ _ (unhide Iv) (unhide Iy) true hvy).mono ?_
  rintro e w15 ⟨rfl, b15⟩
  replace HB := hide ((unhide HB).trans (b15.mono (unhide HB).size))
  replace Ia := hide (((unhide Ia).below b15).more b15.size)
  replace Ib := hide (((unhide Ib).below b15).more b15.size)
  replace Ic := hide (((unhide Ic).below b15).more b15.size)
  replace Ix := hide (((unhide Ix).below b15).more b15.size)
  replace Iy := hide (((unhide Iy).below b15).more b15.size)
  replace Iv := hide (((unhide Iv).below b15).more b15.size)
  clear b15
  clear Iv
  go_wp2_with fail
  refine (lparts_is _ _ _ _ _ _ _ _ _ _ _ (unhide Ix) (unhide Ia) (by have := (unhide Ix).len; have := hx.out.len12; omega) hn true hxa).mono ?_
  rintro e w16 ⟨rfl, b16⟩
  replace HB := hide ((unhide HB).trans (b16.mono (unhide HB).size))
  replace Ia := hide (((unhide Ia).below b16).more b16.size)
  replace Ib := hide (((unhide Ib).below b16).more b16.size)
  replace Ic := hide (((unhide Ic).below b16).more b16.size)
  replace Ix := hide (((unhide Ix).below b16).more b16.size)
  replace Iy := hide (((unhide Iy).below b16).more b16.size)
  clear b16
  go_wp2_with fail
  refine (lparts_is _ _ _ _ _ _ _ _ _ _ _ (unhide Iy) (unhide Ia) (by have := (unhide Iy).len; have := hy.out.len12; omega) hn true hya).mono ?_
  rintro e w17 ⟨rfl, b17⟩
  replace HB := hide ((unhide HB).trans (b17.mono (unhide HB).size))
  replace Ia := hide (((unhide Ia).below b17).more b17.size)
  replace Ib := hide (((unhide Ib).below b17).more b17.size)
  replace Ic := hide (((unhide Ic).below b17).more b17.size)
  replace Ix := hide (((unhide Ix).below b17).more b17.size)
  replace Iy := hide (((unhide Iy).below b17).more b17.size)
  clear b17
  go_wp2_with fail
  refine (unevP _ _ _ _ _ _ _ _ _ (unhide Ia) (unhide Ix) m ha hx true dax).mono ?_
  rintro e w18 ⟨rfl, b18⟩
  replace HB := hide ((unhide HB).trans (b18.mono (unhide HB).size))
  replace Ia := hide (((unhide Ia).below b18).more b18.size)
  replace Ib := hide (((unhide Ib).below b18).more b18.size)
  replace Ic := hide (((unhide Ic).below b18).more b18.size)
  replace Ix := hide (((unhide Ix).below b18).more b18.size)
  replace Iy := hide (((unhide Iy).below b18).more b18.size)
  clear b18
  go_wp2_with fail
  refine (unevP _ _ _ _ _ _ _ _ _ (unhide Ib) (unhide Ix) m hb hx true dbx).mono ?_
  rintro e w19 ⟨rfl, b19⟩
  replace HB := hide ((unhide HB).trans (b19.mono (unhide HB).size))
  replace Ia := hide (((unhide Ia).below b19).more b19.size)
  replace Ib := hide (((unhide Ib).below b19).more b19.size)
  replace Ic := hide (((unhide Ic).below b19).more b19.size)
  replace Ix := hide (((unhide Ix).below b19).more b19.size)
  replace Iy := hide (((unhide Iy).below b19).more b19.size)
  clear b19
  go_wp2_with fail
  refine (unevP _ _ _ _ _ _ _ _ _ (unhide Iy) (unhide Ia) m hy ha true dya).mono ?_
  rintro e w20 ⟨rfl, b20⟩
  replace HB := hide ((unhide HB).trans (b20.mono (unhide HB).size))
  replace Ia := hide (((unhide Ia).below b20).more b20.size)
  replace Ib := hide (((unhide Ib).below b20).more b20.size)
  replace Ic := hide (((unhide Ic).below b20).more b20.size)
  replace Ix := hide (((unhide Ix).below b20).more b20.size)
  replace Iy := hide (((unhide Iy).below b20).more b20.size)
  clear b20
  go_wp2_with fail
  refine (unevP _ _ _ _ _ _ _ _ _ (unhide Iy) (unhide Ib) m hy hb true dyb).mono ?_
  rintro e w21 ⟨rfl, b21⟩
  replace HB := hide ((unhide HB).trans (b21.mono (unhide HB).size))
  replace Ia := hide (((unhide Ia).below b21).more b21.size)
  replace Ib := hide (((unhide Ib).below b21).more b21.size)
  replace Ic := hide (((unhide Ic).below b21).more b21.size)
  replace Ix := hide (((unhide Ix).below b21).more b21.size)
  replace Iy := hide (((unhide Iy).below b21).more b21.size)
  clear b21
  go_wp2_with fail
  refine (lparts_is _ _ _ _ _ _ _ _ _ _ _ (unhide Ic) (unhide Ia) hn'' hn true hca).mono ?_
  rintro e w22 ⟨rfl, b22⟩
  replace HB := hide ((unhide HB).trans (b22.mono (unhide HB).size))
  replace Ia := hide (((unhide Ia).below b22).more b22.size)
  replace Ib := hide (((unhide Ib).below b22).more b22.size)
  replace Ic := hide (((unhide Ic).below b22).more b22.size)
  replace Ix := hide (((unhide Ix).below b22).more b22.size)
  replace Iy := hide (((unhide Iy).below b22).more b22.size)
  clear b22
  go_wp2_with fail
  refine (unevP _ _ _ _ _ _ _ _ _ (unhide Ia) (unhide Ic) m ha hc false p1).mono ?_
  rintro e w23 ⟨rfl, b23⟩
  replace HB := hide ((unhide HB).trans (b23.mono (unhide HB).size))
  replace Ia := hide (((unhide Ia).below b23).more b23.size)
  replace Ib := hide (((unhide Ib).below b23).more b23.size)
  replace Ic := hide (((unhide Ic).below b23).more b23.size)
  replace Ix := hide (((unhide Ix).below b23).more b23.size)
  replace Iy := hide (((unhide Iy).below b23).more b23.size)
  clear b23
  go_wp2_with fail
  refine (unevP _ _ _ _ _ _ _ _ _ (unhide Ic) (unhide Ia) m hc ha false q1).mono ?_
  rintro e w24 ⟨rfl, b24⟩
  replace HB := hide ((unhide HB).trans (b24.mono (unhide HB).size))
  replace Ia := hide (((unhide Ia).below b24).more b24.size)
  replace Ib := hide (((unhide Ib).below b24).more b24.size)
  replace Ic := hide (((unhide Ic).below b24).more b24.size)
  replace Ix := hide (((unhide Ix).below b24).more b24.size)
  replace Iy := hide (((unhide Iy).below b24).more b24.size)
  clear b24
  go_wp2_with fail
  refine (awake_any _).mono ?_
  rintro e w25 ⟨rfl, b25⟩
  replace HB := hide ((unhide HB).trans (b25.mono (unhide HB).size))
  replace Ia := hide (((unhide Ia).below b25).more b25.size)
  replace Ib := hide (((unhide Ib).below b25).more b25.size)
  replace Ic := hide (((unhide Ic).below b25).more b25.size)
  replace Ix := hide (((unhide Ix).below b25).more b25.size)
  replace Iy := hide (((unhide Iy).below b25).more b25.size)
  clear b25
  go_wp2_with fail
  go_ret
  exact ⟨rfl, unhide HB⟩

set_option maxHeartbeats 4000000 in
theorem Lattice_01 (A A' A'' : Option Addr) (n c n' c' n'' c'' : Nat) (xs ys zs : List Int) (w : World) (h : Ints w w.heap.size A n c xs) (h' : Ints w w.heap.size A' n' c' ys) (h'' : Ints w w.heap.size A'' n'' c'' zs)
    (hn : n ≤ 17592186044416) (hn' : n' ≤ 17592186044416) (hn'' : n'' ≤ 17592186044416) (m : Nat) (ha : Hid (IsP xs m)) (hb : Hid (IsP ys m)) (hc : Hid (IsP zs m)) (p1 : Hid (unevR xs zs = false)) (q1 : Hid (unevR zs xs = true)) (q2 : Hid (unevR zs ys = false)) :
    Calls Try.prog 14 #[.slice A n c, .slice A' n' c', .slice A'' n'' c''] w fun e w' => e = .returned (.bool true) ∧ Below w.heap.size w w' := by
  have HB := hide (Below.refl w.heap.size w)
  have Ia := hide h; have Ib := hide h'; have Ic := hide h''; clear h h' h''
  have tIa := hide ha.out.take; have tIb := hide hb.out.take
  have hx := hide (meet_isP ha.out hb.out); have hy := hide (join_isP ha.out hb.out)
  have hab := hide (isP_oneSum ha.out hb.out)
  have hux := hide (show decide (meetF ys xs = meetF xs ys) = true from by rw [decide_eq_true_eq, meet_comm])
  have hvy := hide (show decide (joinF ys xs = joinF xs ys) = true from by rw [decide_eq_true_eq, join_comm])
  have hxa := hide (isP_oneSum hx.out ha.out); have hya := hide (isP_oneSum hy.out ha.out)
  have dax := hide ((unevR_dom ha.out hx.out).2 (dom_meet_left ha.out hb.out))
  have dbx := hide ((unevR_dom hb.out hx.out).2 (by rw [meet_comm]; exact dom_meet_left hb.out ha.out))
  have dya := hide ((unevR_dom hy.out ha.out).2 (dom_join_left ha.out hb.out))
  have dyb := hide ((unevR_dom hy.out hb.out).2 (by rw [join_comm]; exact dom_join_left hb.out ha.out))
  have hca := hide (isP_oneSum hc.out ha.out)
  go_enter Try.func14, Try.ntmps14
  go_wp2_with fail
  refine (list_ints _ _ _ _ _ _ (unhide Ia)).mono ?_
  rintro e w1 ⟨A1, n1, c1, rfl, i1, b1⟩
  replace HB := hide ((unhide HB).trans (b1.mono (unhide HB).size))
  replace Ia := hide (((unhide Ia).below b1).more b1.size)
  replace Ib := hide (((unhide Ib).below b1).more b1.size)
  replace Ic := hide (((unhide Ic).below b1).more b1.size)
  clear b1
  rw [tIa.out] at i1
  have I1 := hide i1
  clear i1
  go_wp2_with fail
  refine (list_ints _ _ _ _ _ _ (unhide Ib)).mono ?_
  rintro e w2 ⟨A2, n2, c2, rfl, i2, b2⟩
  replace HB := hide ((unhide HB).trans (b2.mono (unhide HB).size))
  replace Ia := hide (((unhide Ia).below b2).more b2.size)
  replace Ib := hide (((unhide Ib).below b2).more b2.size)
  replace Ic := hide (((unhide Ic).below b2).more b2.size)
  replace I1 := hide (((unhide I1).below b2).more b2.size)
  clear b2
  rw [tIb.out] at i2
  have I2 := hide i2
  clear i2
  go_wp2_with fail
  refine (Meet_ok _ _ _ _ _ _ _ _ _ (unhide I1) (unhide I2) m ha hb).mono ?_
  rintro e w3 ⟨A3, n3, c3, rfl, i3, b3⟩
  replace HB := hide ((unhide HB).trans (b3.mono (unhide HB).size))
  replace Ia := hide (((unhide Ia).below b3).more b3.size)
  replace Ib := hide (((unhide Ib).below b3).more b3.size)
  replace Ic := hide (((unhide Ic).below b3).more b3.size)
  replace I1 := hide (((unhide I1).below b3).more b3.size)
  replace I2 := hide (((unhide I2).below b3).more b3.size)
  clear b3
  have Ix := hide i3
  clear i3
  clear I1
  clear I2
  go_wp2_with fail
  refine (list_ints _ _ _ _ _ _ (unhide Ia)).mono ?_
  rintro e w4 ⟨A4, n4, c4, rfl, i4, b4⟩
  replace HB := hide ((unhide HB).trans (b4.mono (unhide HB).size))
  replace Ia := hide (((unhide Ia).below b4).more b4.size)
  replace Ib := hide (((unhide Ib).below b4).more b4.size)
  replace Ic := hide (((unhide Ic).below b4).more b4.size)
  replace Ix := hide (((unhide Ix).below b4).more b4.size)
  clear b4
  rw [tIa.out] at i4
  have I1 := hide i4
  clear i4
  go_wp2_with fail
  refine (list_ints _ _ _ _ _ _ (unhide Ib)).mono ?_
  rintro e w5 ⟨A5, n5, c5, rfl, i5, b5⟩
  replace HB := hide ((unhide HB).trans (b5.mono (unhide HB).size))
  replace Ia := hide (((unhide Ia).below b5).more b5.size)
  replace Ib := hide (((unhide Ib).below b5).more b5.size)
  replace Ic := hide (((unhide Ic).below b5).more b5.size)
  replace Ix := hide (((unhide Ix).below b5).more b5.size)
  replace I1 := hide (((unhide I1).below b5).more b5.size)
  clear b5
  rw [tIb.out] at i5
  have I2 := hide i5
  clear i5
  go_wp2_with fail
  refine (Join_ok _ _ _ _ _ _ _ _ _ (unhide I1) (unhide I2) m ha hb).mono ?_
  rintro e w6 ⟨A6, n6, c6, rfl, i6, b6⟩
  replace HB := hide ((unhide HB).trans (b6.mono (unhide HB).size))
  replace Ia := hide (((unhide Ia).below b6).more b6.size)
  replace Ib := hide (((unhide Ib).below b6).more b6.size)
  replace Ic := hide (((unhide Ic).below b6).more b6.size)
  replace Ix := hide (((unhide Ix).below b6).more b6.size)
  replace I1 := hide (((unhide I1).below b6).more b6.size)
  replace I2 := hide (((unhide I2).below b6).more b6.size)
  clear b6
  have Iy := hide i6
  clear i6
  clear I1
  clear I2
  go_wp2_with fail
  refine (lparts_is _ _ _ _ _ _ _ _ _ _ _ (unhide Ia) (unhide Ib) hn hn' true hab).mono ?_
  rintro e w7 ⟨rfl, b7⟩
  replace HB := hide ((unhide HB).trans (b7.mono (unhide HB).size))
  replace Ia := hide (((unhide Ia).below b7).more b7.size)
  replace Ib := hide (((unhide Ib).below b7).more b7.size)
  replace Ic := hide (((unhide Ic).below b7).more b7.size)
  replace Ix := hide (((unhide Ix).below b7).more b7.size)
  replace Iy := hide (((unhide Iy).below b7).more b7.size)
  clear b7
  go_wp2_with fail
  refine (list_ints _ _ _ _ _ _ (unhide Ib)).mono ?_
  rintro e w8 ⟨A8, n8, c8, rfl, i8, b8⟩
  replace HB := hide ((unhide HB).trans (b8.mono (unhide HB).size))
  replace Ia := hide (((unhide Ia).below b8).more b8.size)
  replace Ib := hide (((unhide Ib).below b8).more b8.size)
  replace Ic := hide (((unhide Ic).below b8).more b8.size)
  replace Ix := hide (((unhide Ix).below b8).more b8.size)
  replace Iy := hide (((unhide Iy).below b8).more b8.size)
  clear b8
  rw [tIb.out] at i8
  have I1 := hide i8
  clear i8
  go_wp2_with fail
  refine (list_ints _ _ _ _ _ _ (unhide Ia)).mono ?_
  rintro e w9 ⟨A9, n9, c9, rfl, i9, b9⟩
  replace HB := hide ((unhide HB).trans (b9.mono (unhide HB).size))
  replace Ia := hide (((unhide Ia).below b9).more b9.size)
  replace Ib := hide (((unhide Ib).below b9).more b9.size)
  replace Ic := hide (((unhide Ic).below b9).more b9.size)
  replace Ix := hide (((unhide Ix).below b9).more b9.size)
  replace Iy := hide (((unhide Iy).below b9).more b9.size)
  replace I1 := hide (((unhide I1).below b9).more b9.size)
  clear b9
  rw [tIa.out] at i9
  have I2 := hide i9
  clear i9
  go_wp2_with fail
  refine (Meet_ok _ _ _ _ _ _ _ _ _ (unhide I1) (unhide I2) m hb ha).mono ?_
  rintro e w10 ⟨A10, n10, c10, rfl, i10, b10⟩
  replace HB := hide ((unhide HB).trans (b10.mono (unhide HB).size))
  replace Ia := hide (((unhide Ia).below b10).more b10.size)
  replace Ib := hide (((unhide Ib).below b10).more b10.size)
  replace Ic := hide (((unhide Ic).below b10).more b10.size)
  replace Ix := hide (((unhide Ix).below b10).more b10.size)
  replace Iy := hide (((unhide Iy).below b10).more b10.size)
  replace I1 := hide (((unhide I1).below b10).more b10.size)
  replace I2 := hide (((unhide I2).below b10).more b10.size)
  clear b10
  have Iu := hide i10
  clear i10
  clear I1
  clear I2
  go_wp2_with fail
  refine (list_ints _ _ _ _ _ _ (unhide Ib)).mono ?_
  rintro e w11 ⟨A11, n11, c11, rfl, i11, b11⟩
  replace HB := hide ((unhide HB).trans (b11.mono (unhide HB).size))
  replace Ia := hide (((unhide Ia).below b11).more b11.size)
  replace Ib := hide (((unhide Ib).below b11).more b11.size)
  replace Ic := hide (((unhide Ic).below b11).more b11.size)
  replace Ix := hide (((unhide Ix).below b11).more b11.size)
  replace Iy := hide (((unhide Iy).below b11).more b11.size)
  replace Iu := hide (((unhide Iu).below b11).more b11.size)
  clear b11
  rw [tIb.out] at i11
  have I1 := hide i11
  clear i11
  go_wp2_with fail
  refine (list_ints _ _ _ _ _ _ (unhide Ia)).mono ?_
  rintro e w12 ⟨A12, n12, c12, rfl, i12, b12⟩
  replace HB := hide ((unhide HB).trans (b12.mono (unhide HB).size))
  replace Ia := hide (((unhide Ia).below b12).more b12.size)
  replace Ib := hide (((unhide Ib).below b12).more b12.size)
  replace Ic := hide (((unhide Ic).below b12).more b12.size)
  replace Ix := hide (((unhide Ix).below b12).more b12.size)
  replace Iy := hide (((unhide Iy).below b12).more b12.size)
  replace Iu := hide (((unhide Iu).below b12).more b12.size)
  replace I1 := hide (((unhide I1).below b12).more b12.size)
  clear b12
  rw [tIa.out] at i12
  have I2 := hide i12
  clear i12
  go_wp2_with fail
  refine (Join_ok _ _ _ _ _ _ _ _ _ (unhide I1) (unhide I2) m hb ha).mono ?_
  rintro e w13 ⟨A13, n13, c13, rfl, i13, b13⟩
  replace HB := hide ((unhide HB).trans (b13.mono (unhide HB).size))
  replace Ia := hide (((unhide Ia).below b13).more b13.size)
  replace Ib := hide (((unhide Ib).below b13).more b13.size)
  replace Ic := hide (((unhide Ic).below b13).more b13.size)
  replace Ix := hide (((unhide Ix).below b13).more b13.size)
  replace Iy := hide (((unhide Iy).below b13).more b13.size)
  replace Iu := hide (((unhide Iu).below b13).more b13.size)
  replace I1 := hide (((unhide I1).below b13).more b13.size)
  replace I2 := hide (((unhide I2).below b13).more b13.size)
  clear b13
  have Iv := hide i13
  clear i13
  clear I1
  clear I2
  go_wp2_with fail
  refine (equal_any _ _ _ _ _ _ _ _ _ _ _ (unhide Iu) (unhide Ix) true hux).mono ?_
  rintro e w14 ⟨rfl, b14⟩
  replace HB := hide ((unhide HB).trans (b14.mono (unhide HB).size))
  replace Ia := hide (((unhide Ia).below b14).more b14.size)
  replace Ib := hide (((unhide Ib).below b14).more b14.size)
  replace Ic := hide (((unhide Ic).below b14).more b14.size)
  replace Ix := hide (((unhide Ix).below b14).more b14.size)
  replace Iy := hide (((unhide Iy).below b14).more b14.size)
  replace Iu := hide (((unhide Iu).below b14).more b14.size)
  replace Iv := hide (((unhide Iv).below b14).more b14.size)
  clear b14
  clear Iu
  go_wp2_with fail
  refine (equal_any _ _ _ _ _ _ _ _ _ _ _ (unhide Iv) (unhide Iy) true hvy).mono ?_
  rintro e w15 ⟨rfl, b15⟩
  replace HB := hide ((unhide HB).trans (b15.mono (unhide HB).size))
  replace Ia := hide (((unhide Ia).below b15).more b15.size)
  replace Ib := hide (((unhide Ib).below b15).more b15.size)
  replace Ic := hide (((unhide Ic).below b15).more b15.size)
  replace Ix := hide (((unhide Ix).below b15).more b15.size)
  replace Iy := hide (((unhide Iy).below b15).more b15.size)
  replace Iv := hide (((unhide Iv).below b15).more b15.size)
  clear b15
  clear Iv
  go_wp2_with fail
  refine (lparts_is _ _ _ _ _ _ _ _ _ _ _ (unhide Ix) (unhide Ia) (by have := (unhide Ix).len; have := hx.out.len12; omega) hn true hxa).mono ?_
  rintro e w16 ⟨rfl, b16⟩
  replace HB := hide ((unhide HB).trans (b16.mono (unhide HB).size))
  replace Ia := hide (((unhide Ia).below b16).more b16.size)
  replace Ib := hide (((unhide Ib).below b16).more b16.size)
  replace Ic := hide (((unhide Ic).below b16).more b16.size)
  replace Ix := hide (((unhide Ix).below b16).more b16.size)
  replace Iy := hide (((unhide Iy).below b16).more b16.size)
  clear b16
  go_wp2_with fail
  refine (lparts_is _ _ _ _ _ _ _ _ _ _ _ (unhide Iy) (unhide Ia) (by have := (unhide Iy).len; have := hy.out.len12; omega) hn true hya).mono ?_
  rintro e w17 ⟨rfl, b17⟩
  replace HB := hide ((unhide HB).trans (b17.mono (unhide HB).size))
  replace Ia := hide (((unhide Ia).below b17).more b17.size)
  replace Ib := hide (((unhide Ib).below b17).more b17.size)
  replace Ic := hide (((unhide Ic).below b17).more b17.size)
  replace Ix := hide (((unhide Ix).below b17).more b17.size)
  replace Iy := hide (((unhide Iy).below b17).more b17.size)
  clear b17
  go_wp2_with fail
  refine (unevP _ _ _ _ _ _ _ _ _ (unhide Ia) (unhide Ix) m ha hx true dax).mono ?_
  rintro e w18 ⟨rfl, b18⟩
  replace HB := hide ((unhide HB).trans (b18.mono (unhide HB).size))
  replace Ia := hide (((unhide Ia).below b18).more b18.size)
  replace Ib := hide (((unhide Ib).below b18).more b18.size)
  replace Ic := hide (((unhide Ic).below b18).more b18.size)
  replace Ix := hide (((unhide Ix).below b18).more b18.size)
  replace Iy := hide (((unhide Iy).below b18).more b18.size)
  clear b18
  go_wp2_with fail
  refine (unevP _ _ _ _ _ _ _ _ _ (unhide Ib) (unhide Ix) m hb hx true dbx).mono ?_
  rintro e w19 ⟨rfl, b19⟩
  replace HB := hide ((unhide HB).trans (b19.mono (unhide HB).size))
  replace Ia := hide (((unhide Ia).below b19).more b19.size)
  replace Ib := hide (((unhide Ib).below b19).more b19.size)
  replace Ic := hide (((unhide Ic).below b19).more b19.size)
  replace Ix := hide (((unhide Ix).below b19).more b19.size)
  replace Iy := hide (((unhide Iy).below b19).more b19.size)
  clear b19
  go_wp2_with fail
  refine (unevP _ _ _ _ _ _ _ _ _ (unhide Iy) (unhide Ia) m hy ha true dya).mono ?_
  rintro e w20 ⟨rfl, b20⟩
  replace HB := hide ((unhide HB).trans (b20.mono (unhide HB).size))
  replace Ia := hide (((unhide Ia).below b20).more b20.size)
  replace Ib := hide (((unhide Ib).below b20).more b20.size)
  replace Ic := hide (((unhide Ic).below b20).more b20.size)
  replace Ix := hide (((unhide Ix).below b20).more b20.size)
  replace Iy := hide (((unhide Iy).below b20).more b20.size)
  clear b20
  go_wp2_with fail
  refine (unevP _ _ _ _ _ _ _ _ _ (unhide Iy) (unhide Ib) m hy hb true dyb).mono ?_
  rintro e w21 ⟨rfl, b21⟩
  replace HB := hide ((unhide HB).trans (b21.mono (unhide HB).size))
  replace Ia := hide (((unhide Ia).below b21).more b21.size)
  replace Ib := hide (((unhide Ib).below b21).more b21.size)
  replace Ic := hide (((unhide Ic).below b21).more b21.size)
  replace Ix := hide (((unhide Ix).below b21).more b21.size)
  replace Iy := hide (((unhide Iy).below b21).more b21.size)
  clear b21
  go_wp2_with fail
  refine (lparts_is _ _ _ _ _ _ _ _ _ _ _ (unhide Ic) (unhide Ia) hn'' hn true hca).mono ?_
  rintro e w22 ⟨rfl, b22⟩
  replace HB := hide ((unhide HB).trans (b22.mono (unhide HB).size))
  replace Ia := hide (((unhide Ia).below b22).more b22.size)
  replace Ib := hide (((unhide Ib).below b22).more b22.size)
  replace Ic := hide (((unhide Ic).below b22).more b22.size)
  replace Ix := hide (((unhide Ix).below b22).more b22.size)
  replace Iy := hide (((unhide Iy).below b22).more b22.size)
  clear b22
  go_wp2_with fail
  refine (unevP _ _ _ _ _ _ _ _ _ (unhide Ia) (unhide Ic) m ha hc false p1).mono ?_
  rintro e w23 ⟨rfl, b23⟩
  replace HB := hide ((unhide HB).trans (b23.mono (unhide HB).size))
  replace Ia := hide (((unhide Ia).below b23).more b23.size)
  replace Ib := hide (((unhide Ib).below b23).more b23.size)
  replace Ic := hide (((unhide Ic).below b23).more b23.size)
  replace Ix := hide (((unhide Ix).below b23).more b23.size)
  replace Iy := hide (((unhide Iy).below b23).more b23.size)
  clear b23
  go_wp2_with fail
  refine (unevP _ _ _ _ _ _ _ _ _ (unhide Ic) (unhide Ia) m hc ha true q1).mono ?_
  rintro e w24 ⟨rfl, b24⟩
  replace HB := hide ((unhide HB).trans (b24.mono (unhide HB).size))
  replace Ia := hide (((unhide Ia).below b24).more b24.size)
  replace Ib := hide (((unhide Ib).below b24).more b24.size)
  replace Ic := hide (((unhide Ic).below b24).more b24.size)
  replace Ix := hide (((unhide Ix).below b24).more b24.size)
  replace Iy := hide (((unhide Iy).below b24).more b24.size)
  clear b24
  go_wp2_with fail
  refine (unevP _ _ _ _ _ _ _ _ _ (unhide Ic) (unhide Ib) m hc hb false q2).mono ?_
  rintro e w25 ⟨rfl, b25⟩
  replace HB := hide ((unhide HB).trans (b25.mono (unhide HB).size))
  replace Ia := hide (((unhide Ia).below b25).more b25.size)
  replace Ib := hide (((unhide Ib).below b25).more b25.size)
  replace Ic := hide (((unhide Ic).below b25).more b25.size)
  replace Ix := hide (((unhide Ix).below b25).more b25.size)
  replace Iy := hide (((unhide Iy).below b25).more b25.size)
  clear b25
  go_wp2_with fail
  refine (awake_any _).mono ?_
  rintro e w26 ⟨rfl, b26⟩
  replace HB := hide ((unhide HB).trans (b26.mono (unhide HB).size))
  replace Ia := hide (((unhide Ia).below b26).more b26.size)
  replace Ib := hide (((unhide Ib).below b26).more b26.size)
  replace Ic := hide (((unhide Ic).below b26).more b26.size)
  replace Ix := hide (((unhide Ix).below b26).more b26.size)
  replace Iy := hide (((unhide Iy).below b26).more b26.size)
  clear b26
  go_wp2_with fail
  go_ret
  exact ⟨rfl, unhide HB⟩

set_option maxHeartbeats 4000000 in
theorem Lattice_02 (A A' A'' : Option Addr) (n c n' c' n'' c'' : Nat) (xs ys zs : List Int) (w : World) (h : Ints w w.heap.size A n c xs) (h' : Ints w w.heap.size A' n' c' ys) (h'' : Ints w w.heap.size A'' n'' c'' zs)
    (hn : n ≤ 17592186044416) (hn' : n' ≤ 17592186044416) (hn'' : n'' ≤ 17592186044416) (m : Nat) (ha : Hid (IsP xs m)) (hb : Hid (IsP ys m)) (hc : Hid (IsP zs m)) (p1 : Hid (unevR xs zs = false)) (q1 : Hid (unevR zs xs = true)) (q2 : Hid (unevR zs ys = true)) :
    Calls Try.prog 14 #[.slice A n c, .slice A' n' c', .slice A'' n'' c''] w fun e w' => e = .returned (.bool true) ∧ Below w.heap.size w w' := by
  have HB := hide (Below.refl w.heap.size w)
  have Ia := hide h; have Ib := hide h'; have Ic := hide h''; clear h h' h''
  have tIa := hide ha.out.take; have tIb := hide hb.out.take
  have hx := hide (meet_isP ha.out hb.out); have hy := hide (join_isP ha.out hb.out)
  have hab := hide (isP_oneSum ha.out hb.out)
  have hux := hide (show decide (meetF ys xs = meetF xs ys) = true from by rw [decide_eq_true_eq, meet_comm])
  have hvy := hide (show decide (joinF ys xs = joinF xs ys) = true from by rw [decide_eq_true_eq, join_comm])
  have hxa := hide (isP_oneSum hx.out ha.out); have hya := hide (isP_oneSum hy.out ha.out)
  have dax := hide ((unevR_dom ha.out hx.out).2 (dom_meet_left ha.out hb.out))
  have dbx := hide ((unevR_dom hb.out hx.out).2 (by rw [meet_comm]; exact dom_meet_left hb.out ha.out))
  have dya := hide ((unevR_dom hy.out ha.out).2 (dom_join_left ha.out hb.out))
  have dyb := hide ((unevR_dom hy.out hb.out).2 (by rw [join_comm]; exact dom_join_left hb.out ha.out))
  have hca := hide (isP_oneSum hc.out ha.out)
  have q3 := hide ((unevR_dom hc.out hy.out).2 (dom_join ha.out hb.out hc.out ((unevR_dom hc.out ha.out).1 q1.out) ((unevR_dom hc.out hb.out).1 q2.out)))
  go_enter Try.func14, Try.ntmps14
  go_wp2_with fail
  refine (list_ints _ _ _ _ _ _ (unhide Ia)).mono ?_
  rintro e w1 ⟨A1, n1, c1, rfl, i1, b1⟩
  replace HB := hide ((unhide HB).trans (b1.mono (unhide HB).size))
  replace Ia := hide (((unhide Ia).below b1).more b1.size)
  replace Ib := hide (((unhide Ib).below b1).more b1.size)
  replace Ic := hide (((unhide Ic).below b1).more b1.size)
  clear b1
  rw [tIa.out] at i1
  have I1 := hide i1
  clear i1
  go_wp2_with fail
  refine (list_ints _ _ _ _ _ _ (unhide Ib)).mono ?_
  rintro e w2 ⟨A2, n2, c2, rfl, i2, b2⟩
  replace HB := hide ((unhide HB).trans (b2.mono (unhide HB).size))
  replace Ia := hide (((unhide Ia).below b2).more b2.size)
  replace Ib := hide (((unhide Ib).below b2).more b2.size)
  replace Ic := hide (((unhide Ic).below b2).more b2.size)
  replace I1 := hide (((unhide I1).below b2).more b2.size)
  clear b2
  rw [tIb.out] at i2
  have I2 := hide i2
  clear i2
  go_wp2_with fail
  refine (Meet_ok _ _ _ _ _ _ _ _ _ (unhide I1) (unhide I2) m ha hb).mono ?_
  rintro e w3 ⟨A3, n3, c3, rfl, i3, b3⟩
  replace HB := hide ((unhide HB).trans (b3.mono (unhide HB).size))
  replace Ia := hide (((unhide Ia).below b3).more b3.size)
  replace Ib := hide (((unhide Ib).below b3).more b3.size)
  replace Ic := hide (((unhide Ic).below b3).more b3.size)
  replace I1 := hide (((unhide I1).below b3).more b3.size)
  replace I2 := hide (((unhide I2).below b3).more b3.size)
  clear b3
  have Ix := hide i3
  clear i3
  clear I1
  clear I2
  go_wp2_with fail
  refine (list_ints _ _ _ _ _ _ (unhide Ia)).mono ?_
  rintro e w4 ⟨A4, n4, c4, rfl, i4, b4⟩
  replace HB := hide ((unhide HB).trans (b4.mono (unhide HB).size))
  replace Ia := hide (((unhide Ia).below b4).more b4.size)
  replace Ib := hide (((unhide Ib).below b4).more b4.size)
  replace Ic := hide (((unhide Ic).below b4).more b4.size)
  replace Ix := hide (((unhide Ix).below b4).more b4.size)
  clear b4
  rw [tIa.out] at i4
  have I1 := hide i4
  clear i4
  go_wp2_with fail
  refine (list_ints _ _ _ _ _ _ (unhide Ib)).mono ?_
  rintro e w5 ⟨A5, n5, c5, rfl, i5, b5⟩
  replace HB := hide ((unhide HB).trans (b5.mono (unhide HB).size))
  replace Ia := hide (((unhide Ia).below b5).more b5.size)
  replace Ib := hide (((unhide Ib).below b5).more b5.size)
  replace Ic := hide (((unhide Ic).below b5).more b5.size)
  replace Ix := hide (((unhide Ix).below b5).more b5.size)
  replace I1 := hide (((unhide I1).below b5).more b5.size)
  clear b5
  rw [tIb.out] at i5
  have I2 := hide i5
  clear i5
  go_wp2_with fail
  refine (Join_ok _ _ _ _ _ _ _ _ _ (unhide I1) (unhide I2) m ha hb).mono ?_
  rintro e w6 ⟨A6, n6, c6, rfl, i6, b6⟩
  replace HB := hide ((unhide HB).trans (b6.mono (unhide HB).size))
  replace Ia := hide (((unhide Ia).below b6).more b6.size)
  replace Ib := hide (((unhide Ib).below b6).more b6.size)
  replace Ic := hide (((unhide Ic).below b6).more b6.size)
  replace Ix := hide (((unhide Ix).below b6).more b6.size)
  replace I1 := hide (((unhide I1).below b6).more b6.size)
  replace I2 := hide (((unhide I2).below b6).more b6.size)
  clear b6
  have Iy := hide i6
  clear i6
  clear I1
  clear I2
  go_wp2_with fail
  refine (lparts_is _ _ _ _ _ _ _ _ _ _ _ (unhide Ia) (unhide Ib) hn hn' true hab).mono ?_
  rintro e w7 ⟨rfl, b7⟩
  replace HB := hide ((unhide HB).trans (b7.mono (unhide HB).size))
  replace Ia := hide (((unhide Ia).below b7).more b7.size)
  replace Ib := hide (((unhide Ib).below b7).more b7.size)
  replace Ic := hide (((unhide Ic).below b7).more b7.size)
  replace Ix := hide (((unhide Ix).below b7).more b7.size)
  replace Iy := hide (((unhide Iy).below b7).more b7.size)
  clear b7
  go_wp2_with fail
  refine (list_ints _ _ _ _ _ _ (unhide Ib)).mono ?_
  rintro e w8 ⟨A8, n8, c8, rfl, i8, b8⟩
  replace HB := hide ((unhide HB).trans (b8.mono (unhide HB).size))
  replace Ia := hide (((unhide Ia).below b8).more b8.size)
  replace Ib := hide (((unhide Ib).below b8).more b8.size)
  replace Ic := hide (((unhide Ic).below b8).more b8.size)
  replace Ix := hide (((unhide Ix).below b8).more b8.size)
  replace Iy := hide (((unhide Iy).below b8).more b8.size)
  clear b8
  rw [tIb.out] at i8
  have I1 := hide i8
  clear i8
  go_wp2_with fail
  refine (list_ints _ _ _ _ _ _ (unhide Ia)).mono ?_
  rintro e w9 ⟨A9, n9, c9, rfl, i9, b9⟩
  replace HB := hide ((unhide HB).trans (b9.mono (unhide HB).size))
  replace Ia := hide (((unhide Ia).below b9).more b9.size)
  replace Ib := hide (((unhide Ib).below b9).more b9.size)
  replace Ic := hide (((unhide Ic).below b9).more b9.size)
  replace Ix := hide (((unhide Ix).below b9).more b9.size)
  replace Iy := hide (((unhide Iy).below b9).more b9.size)
  replace I1 := hide (((unhide I1).below b9).more b9.size)
  clear b9
  rw [tIa.out] at i9
  have I2 := hide i9
  clear i9
  go_wp2_with fail
  refine (Meet_ok _ _ _ _ _ _ _ _ _ (unhide I1) (unhide I2) m hb ha).mono ?_
  rintro e w10 ⟨A10, n10, c10, rfl, i10, b10⟩
  replace HB := hide ((unhide HB).trans (b10.mono (unhide HB).size))
  replace Ia := hide (((unhide Ia).below b10).more b10.size)
  replace Ib := hide (((unhide Ib).below b10).more b10.size)
  replace Ic := hide (((unhide Ic).below b10).more b10.size)
  replace Ix := hide (((unhide Ix).below b10).more b10.size)
  replace Iy := hide (((unhide Iy).below b10).more b10.size)
  replace I1 := hide (((unhide I1).below b10).more b10.size)
  replace I2 := hide (((unhide I2).below b10).more b10.size)
  clear b10
  have Iu := hide i10
  clear i10
  clear I1
  clear I2
  go_wp2_with fail
  refine (list_ints _ _ _ _ _ _ (unhide Ib)).mono ?_
  rintro e w11 ⟨A11, n11, c11, rfl, i11, b11⟩
  replace HB := hide ((unhide HB).trans (b11.mono (unhide HB).size))
  replace Ia := hide (((unhide Ia).below b11).more b11.size)
  replace Ib := hide (((unhide Ib).below b11).more b11.size)
  replace Ic := hide (((unhide Ic).below b11).more b11.size)
  replace Ix := hide (((unhide Ix).below b11).more b11.size)
  replace Iy := hide (((unhide Iy).below b11).more b11.size)
  replace Iu := hide (((unhide Iu).below b11).more b11.size)
  clear b11
  rw [tIb.out] at i11
  have I1 := hide i11
  clear i11
  go_wp2_with fail
  refine (list_ints _ _ _ _ _ _ (unhide Ia)).mono ?_
  rintro e w12 ⟨A12, n12, c12, rfl, i12, b12⟩
  replace HB := hide ((unhide HB).trans (b12.mono (unhide HB).size))
  replace Ia := hide (((unhide Ia).below b12).more b12.size)
  replace Ib := hide (((unhide Ib).below b12).more b12.size)
  replace Ic := hide (((unhide Ic).below b12).more b12.size)
  replace Ix := hide (((unhide Ix).below b12).more b12.size)
  replace Iy := hide (((unhide Iy).below b12).more b12.size)
  replace Iu := hide (((unhide Iu).below b12).more b12.size)
  replace I1 := hide (((unhide I1).below b12).more b12.size)
  clear b12
  rw [tIa.out] at i12
  have I2 := hide i12
  clear i12
  go_wp2_with fail
  refine (Join_ok _ _ _ _ _ _ _ _ _ (unhide I1) (unhide I2) m hb ha).mono ?_
  rintro e w13 ⟨A13, n13, c13, rfl, i13, b13⟩
  replace HB := hide ((unhide HB).trans (b13.mono (unhide HB).size))
  replace Ia := hide (((unhide Ia).below b13).more b13.size)
  replace Ib := hide (((unhide Ib).below b13).more b13.size)
  replace Ic := hide (((unhide Ic).below b13).more b13.size)
  replace Ix := hide (((unhide Ix).below b13).more b13.size)
  replace Iy := hide (((unhide Iy).below b13).more b13.size)
  replace Iu := hide (((unhide Iu).below b13).more b13.size)
  replace I1 := hide (((unhide I1).below b13).more b13.size)
  replace I2 := hide (((unhide I2).below b13).more b13.size)
  clear b13
  have Iv := hide i13
  clear i13
  clear I1
  clear I2
  go_wp2_with fail
  refine (equal_any _ _ _ _ _ _ _ _ _ _ _ (unhide Iu) (unhide Ix) true hux).mono ?_
  rintro e w14 ⟨rfl, b14⟩
  replace HB := hide ((unhide HB).trans (b14.mono (unhide HB).size))
  replace Ia := hide (((unhide Ia).below b14).more b14.size)
  replace Ib := hide (((unhide Ib).below b14).more b14.size)
  replace Ic := hide (((unhide Ic).below b14).more b14.size)
  replace Ix := hide (((unhide Ix).below b14).more b14.size)
  replace Iy := hide (((unhide Iy).below b14).more b14.size)
  replace Iu := hide (((unhide Iu).below b14).more b14.size)
  replace Iv := hide (((unhide Iv).below b14).more b14.size)
  clear b14
  clear Iu
  go_wp2_with fail
  refine (equal_any _ _ _ _ _ _ _ _ _ _ _ (unhide Iv) (unhide Iy) true hvy).mono ?_
  rintro e w15 ⟨rfl, b15⟩
  replace HB := hide ((unhide HB).trans (b15.mono (unhide HB).size))
  replace Ia := hide (((unhide Ia).below b15).more b15.size)
  replace Ib := hide (((unhide Ib).below b15).more b15.size)
  replace Ic := hide (((unhide Ic).below b15).more b15.size)
  replace Ix := hide (((unhide Ix).below b15).more b15.size)
  replace Iy := hide (((unhide Iy).below b15).more b15.size)
  replace Iv := hide (((unhide Iv).below b15).more b15.size)
  clear b15
  clear Iv
  go_wp2_with fail
  refine (lparts_is _ _ _ _ _ _ _ _ _ _ _ (unhide Ix) (unhide Ia) (by have := (unhide Ix).len; have := hx.out.len12; omega) hn true hxa).mono ?_
  rintro e w16 ⟨rfl, b16⟩
  replace HB := hide ((unhide HB).trans (b16.mono (unhide HB).size))
  replace Ia := hide (((unhide Ia).below b16).more b16.size)
  replace Ib := hide (((unhide Ib).below b16).more b16.size)
  replace Ic := hide (((unhide Ic).below b16).more b16.size)
  replace Ix := hide (((unhide Ix).below b16).more b16.size)
  replace Iy := hide (((unhide Iy).below b16).more b16.size)
  clear b16
  go_wp2_with fail
  refine (lparts_is _ _ _ _ _ _ _ _ _ _ _ (unhide Iy) (unhide Ia) (by have := (unhide Iy).len; have := hy.out.len12; omega) hn true hya).mono ?_
  rintro e w17 ⟨rfl, b17⟩
  replace HB := hide ((unhide HB).trans (b17.mono (unhide HB).size))
  replace Ia := hide (((unhide Ia).below b17).more b17.size)
  replace Ib := hide (((unhide Ib).below b17).more b17.size)
  replace Ic := hide (((unhide Ic).below b17).more b17.size)
  replace Ix := hide (((unhide Ix).below b17).more b17.size)
  replace Iy := hide (((unhide Iy).below b17).more b17.size)
  clear b17
  go_wp2_with fail
  refine (unevP _ _ _ _ _ _ _ _ _ (unhide Ia) (unhide Ix) m ha hx true dax).mono ?_
  rintro e w18 ⟨rfl, b18⟩
  replace HB := hide ((unhide HB).trans (b18.mono (unhide HB).size))
  replace Ia := hide (((unhide Ia).below b18).more b18.size)
  replace Ib := hide (((unhide Ib).below b18).more b18.size)
  replace Ic := hide (((unhide Ic).below b18).more b18.size)
  replace Ix := hide (((unhide Ix).below b18).more b18.size)
  replace Iy := hide (((unhide Iy).below b18).more b18.size)
  clear b18
  go_wp2_with fail
  refine (unevP _ _ _ _ _ _ _ _ _ (unhide Ib) (unhide Ix) m hb hx true dbx).mono ?_
  rintro e w19 ⟨rfl, b19⟩
  replace HB := hide ((unhide HB).trans (b19.mono (unhide HB).size))
  replace Ia := hide (((unhide Ia).below b19).more b19.size)
  replace Ib := hide (((unhide Ib).below b19).more b19.size)
  replace Ic := hide (((unhide Ic).below b19).more b19.size)
  replace Ix := hide (((unhide Ix).below b19).more b19.size)
  replace Iy := hide (((unhide Iy).below b19).more b19.size)
  clear b19
  go_wp2_with fail
  refine (unevP _ _ _ _ _ _ _ _ _ (unhide Iy) (unhide Ia) m hy ha true dya).mono ?_
  rintro e w20 ⟨rfl, b20⟩
  replace HB := hide ((unhide HB).trans (b20.mono (unhide HB).size))
  replace Ia := hide (((unhide Ia).below b20).more b20.size)
  replace Ib := hide (((unhide Ib).below b20).more b20.size)
  replace Ic := hide (((unhide Ic).below b20).more b20.size)
  replace Ix := hide (((unhide Ix).below b20).more b20.size)
  replace Iy := hide (((unhide Iy).below b20).more b20.size)
  clear b20
  go_wp2_with fail
  refine (unevP _ _ _ _ _ _ _ _ _ (unhide Iy) (unhide Ib) m hy hb true dyb).mono ?_
  rintro e w21 ⟨rfl, b21⟩
  replace HB := hide ((unhide HB).trans (b21.mono (unhide HB).size))
  replace Ia := hide (((unhide Ia).below b21).more b21.size)
  replace Ib := hide (((unhide Ib).below b21).more b21.size)
  replace Ic := hide (((unhide Ic).below b21).more b21.size)
  replace Ix := hide (((unhide Ix).below b21).more b21.size)
  replace Iy := hide (((unhide Iy).below b21).more b21.size)
  clear b21
  go_wp2_with fail
  refine (lparts_is _ _ _ _ _ _ _ _ _ _ _ (unhide Ic) (unhide Ia) hn'' hn true hca).mono ?_
  rintro e w22 ⟨rfl, b22⟩
  replace HB := hide ((unhide HB).trans (b22.mono (unhide HB).size))
  replace Ia := hide (((unhide Ia).below b22).more b22.size)
  replace Ib := hide (((unhide Ib).below b22).more b22.size)
  replace Ic := hide (((unhide Ic).below b22).more b22.size)
  replace Ix := hide (((unhide Ix).below b22).more b22.size)
  replace Iy := hide (((unhide Iy).below b22).more b22.size)
  clear b22
  go_wp2_with fail
  refine (unevP _ _ _ _ _ _ _ _ _ (unhide Ia) (unhide Ic) m ha hc false p1).mono ?_
  rintro e w23 ⟨rfl, b23⟩
  replace HB := hide ((unhide HB).trans (b23.mono (unhide HB).size))
  replace Ia := hide (((unhide Ia).below b23).more b23.size)
  replace Ib := hide (((unhide Ib).below b23).more b23.size)
  replace Ic := hide (((unhide Ic).below b23).more b23.size)
  replace Ix := hide (((unhide Ix).below b23).more b23.size)
  replace Iy := hide (((unhide Iy).below b23).more b23.size)
  clear b23
  go_wp2_with fail
  refine (unevP _ _ _ _ _ _ _ _ _ (unhide Ic) (unhide Ia) m hc ha true q1).mono ?_
  rintro e w24 ⟨rfl, b24⟩
  replace HB := hide ((unhide HB).trans (b24.mono (unhide HB).size))
  replace Ia := hide (((unhide Ia).below b24).more b24.size)
  replace Ib := hide (((unhide Ib).below b24).more b24.size)
  replace Ic := hide (((unhide Ic).below b24).more b24.size)
  replace Ix := hide (((unhide Ix).below b24).more b24.size)
  replace Iy := hide (((unhide Iy).below b24).more b24.size)
  clear b24
  go_wp2_with fail
  refine (unevP _ _ _ _ _ _ _ _ _ (unhide Ic) (unhide Ib) m hc hb true q2).mono ?_
  rintro e w25 ⟨rfl, b25⟩
  replace HB := hide ((unhide HB).trans (b25.mono (unhide HB).size))
  replace Ia := hide (((unhide Ia).below b25).more b25.size)
  replace Ib := hide (((unhide Ib).below b25).more b25.size)
  replace Ic := hide (((unhide Ic).below b25).more b25.size)
  replace Ix := hide (((unhide Ix).below b25).more b25.size)
  replace Iy := hide (((unhide Iy).below b25).more b25.size)
  clear b25
  go_wp2_with fail
  refine (unevP _ _ _ _ _ _ _ _ _ (unhide Ic) (unhide Iy) m hc hy true q3).mono ?_
  rintro e w26 ⟨rfl, b26⟩
  replace HB := hide ((unhide HB).trans (b26.mono (unhide HB).size))
  replace Ia := hide (((unhide Ia).below b26).more b26.size)
  replace Ib := hide (((unhide Ib).below b26).more b26.size)
  replace Ic := hide (((unhide Ic).below b26).more b26.size)
  replace Ix := hide (((unhide Ix).below b26).more b26.size)
  replace Iy := hide (((unhide Iy).below b26).more b26.size)
  clear b26
  go_wp2_with fail
  refine (awake_any _).mono ?_
  rintro e w27 ⟨rfl, b27⟩
  replace HB := hide ((unhide HB).trans (b27.mono (unhide HB).size))
  replace Ia := hide (((unhide Ia).below b27).more b27.size)
  replace Ib := hide (((unhide Ib).below b27).more b27.size)
  replace Ic := hide (((unhide Ic).below b27).more b27.size)
  replace Ix := hide (((unhide Ix).below b27).more b27.size)
  replace Iy := hide (((unhide Iy).below b27).more b27.size)
  clear b27
  go_wp2_with fail
  go_ret
  exact ⟨rfl, unhide HB⟩

set_option maxHeartbeats 4000000 in
theorem Lattice_10 (A A' A'' : Option Addr) (n c n' c' n'' c'' : Nat) (xs ys zs : List Int) (w : World) (h : Ints w w.heap.size A n c xs) (h' : Ints w w.heap.size A' n' c' ys) (h'' : Ints w w.heap.size A'' n'' c'' zs)
    (hn : n ≤ 17592186044416) (hn' : n' ≤ 17592186044416) (hn'' : n'' ≤ 17592186044416) (m : Nat) (ha : Hid (IsP xs m)) (hb : Hid (IsP ys m)) (hc : Hid (IsP zs m)) (p1 : Hid (unevR xs zs = true)) (p2 : Hid (unevR ys zs = false)) (q1 : Hid (unevR zs xs = false)) :
    Calls Try.prog 14 #[.slice A n c, .slice A' n' c', .slice A'' n'' c''] w fun e w' => e = .returned (.bool true) ∧ Below w.heap.size w w' := by
  have HB := hide (Below.refl w.heap.size w)
  have Ia := hide h; have Ib := hide h'; have Ic := hide h''; clear h h' h''
  have tIa := hide ha.out.take; have tIb := hide hb.out.take
  have hx := hide (meet_isP ha.out hb.out); have hy := hide (join_isP ha.out hb.out)
  have hab := hide (isP_oneSum ha.out hb.out)
  have hux := hide (show decide (meetF ys xs = meetF xs ys) = true from by rw [decide_eq_true_eq, meet_comm])
  have hvy := hide (show decide (joinF ys xs = joinF xs ys) = true from by rw [decide_eq_true_eq, join_comm])
  have hxa := hide (isP_oneSum hx.out ha.out); have hya := hide (isP_oneSum hy.out ha.out)
  have dax := hide ((unevR_dom ha.out hx.out).2 (dom_meet_left ha.out hb.out))
  have dbx := hide ((unevR_dom hb.out hx.out).2 (by rw [meet_comm]; exact dom_meet_left hb.out ha.out))
  have dya := hide ((unevR_dom hy.out ha.out).2 (dom_join_left ha.out hb.out))
  have dyb := hide ((unevR_dom hy.out hb.out).2 (by rw [join_comm]; exact dom_join_left hb.out ha.out))
  have hca := hide (isP_oneSum hc.out ha.out)
  go_enter Try.func14, Try.ntmps14
  go_wp2_with fail
  refine (list_ints _ _ _ _ _ _ (unhide Ia)).mono ?_
  rintro e w1 ⟨A1, n1, c1, rfl, i1, b1⟩
  replace HB := hide ((unhide HB).trans (b1.mono (unhide HB).size))
  replace Ia := hide (((unhide Ia).below b1).more b1.size)
  replace Ib := hide (((unhide Ib).below b1).more b1.size)
  replace Ic := hide (((unhide Ic).below b1).more b1.size)
  clear b1
  rw [tIa.out] at i1
  have I1 := hide i1
  clear i1
  go_wp2_with fail
  refine (list_ints _ _ _ _ _ _ (unhide Ib)).mono ?_
  rintro e w2 ⟨A2, n2, c2, rfl, i2, b2⟩
  replace HB := hide ((unhide HB).trans (b2.mono (unhide HB).size))
  replace Ia := hide (((unhide Ia).below b2).more b2.size)
  replace Ib := hide (((unhide Ib).below b2).more b2.size)
  replace Ic := hide (((unhide Ic).below b2).more b2.size)
  replace I1 := hide (((unhide I1).below b2).more b2.size)
  clear b2
  rw [tIb.out] at i2
  have I2 := hide i2
  clear i2
  go_wp2_with fail
  refine (Meet_ok _ _ _ _ _ _ _ _ _ (unhide I1) (unhide I2) m ha hb).mono ?_
  rintro e w3 ⟨A3, n3, c3, rfl, i3, b3⟩
  replace HB := hide ((unhide HB).trans (b3.mono (unhide HB).size))
  replace Ia := hide (((unhide Ia).below b3).more b3.size)
  replace Ib := hide (((unhide Ib).below b3).more b3.size)
  replace Ic := hide (((unhide Ic).below b3).more b3.size)
  replace I1 := hide (((unhide I1).below b3).more b3.size)
  replace I2 := hide (((unhide I2).below b3).more b3.size)
  clear b3
  have Ix := hide i3
  clear i3
  clear I1
  clear I2
  go_wp2_with fail
  refine (list_ints _ _ _ _ _ _ (unhide Ia)).mono ?_
  rintro e w4 ⟨A4, n4, c4, rfl, i4, b4⟩
  replace HB := hide ((unhide HB).trans (b4.mono (unhide HB).size))
  replace Ia := hide (((unhide Ia).below b4).more b4.size)
  replace Ib := hide (((unhide Ib).below b4).more b4.size)
  replace Ic := hide (((unhide Ic).below b4).more b4.size)
  replace Ix := hide (((unhide Ix).below b4).more b4.size)
  clear b4
  rw [tIa.out] at i4
  have I1 := hide i4
  clear i4
  go_wp2_with fail
  refine (list_ints _ _ _ _ _ _ (unhide Ib)).mono ?_
  rintro e w5 ⟨A5, n5, c5, rfl, i5, b5⟩
  replace HB := hide ((unhide HB).trans (b5.mono (unhide HB).size))
  replace Ia := hide (((unhide Ia).below b5).more b5.size)
  replace Ib := hide (((unhide Ib).below b5).more b5.size)
  replace Ic := hide (((unhide Ic).below b5).more b5.size)
  replace Ix := hide (((unhide Ix).below b5).more b5.size)
  replace I1 := hide (((unhide I1).below b5).more b5.size)
  clear b5
  rw [tIb.out] at i5
  have I2 := hide i5
  clear i5
  go_wp2_with fail
  refine (Join_ok _ _ _ _ _ _ _ _ _ (unhide I1) (unhide I2) m ha hb).mono ?_
  rintro e w6 ⟨A6, n6, c6, rfl, i6, b6⟩
  replace HB := hide ((unhide HB).trans (b6.mono (unhide HB).size))
  replace Ia := hide (((unhide Ia).below b6).more b6.size)
  replace Ib := hide (((unhide Ib).below b6).more b6.size)
  replace Ic := hide (((unhide Ic).below b6).more b6.size)
  replace Ix := hide (((unhide Ix).below b6).more b6.size)
  replace I1 := hide (((unhide I1).below b6).more b6.size)
  replace I2 := hide (((unhide I2).below b6).more b6.size)
  clear b6
  have Iy := hide i6
  clear i6
  clear I1
  clear I2
  go_wp2_with fail
  refine (lparts_is _ _ _ _ _ _ _ _ _ _ _ (unhide Ia) (unhide Ib) hn hn' true hab).mono ?_
  rintro e w7 ⟨rfl, b7⟩
  replace HB := hide ((unhide HB).trans (b7.mono (unhide HB).size))
  replace Ia := hide (((unhide Ia).below b7).more b7.size)
  replace Ib := hide (((unhide Ib).below b7).more b7.size)
  replace Ic := hide (((unhide Ic).below b7).more b7.size)
  replace Ix := hide (((unhide Ix).below b7).more b7.size)
  replace Iy := hide (((unhide Iy).below b7).more b7.size)
  clear b7
  go_wp2_with fail
  refine (list_ints _ _ _ _ _ _ (unhide Ib)).mono ?_
  rintro e w8 ⟨A8, n8, c8, rfl, i8, b8⟩
  replace HB := hide ((unhide HB).trans (b8.mono (unhide HB).size))
  replace Ia := hide (((unhide Ia).below b8).more b8.size)
  replace Ib := hide (((unhide Ib).below b8).more b8.size)
  replace Ic := hide (((unhide Ic).below b8).more b8.size)
  replace Ix := hide (((unhide Ix).below b8).more b8.size)
  replace Iy := hide (((unhide Iy).below b8).more b8.size)
  clear b8
  rw [tIb.out] at i8
  have I1 := hide i8
  clear i8
  go_wp2_with fail
  refine (list_ints _ _ _ _ _ _ (unhide Ia)).mono ?_
  rintro e w9 ⟨A9, n9, c9, rfl, i9, b9⟩
  replace HB := hide ((unhide HB).trans (b9.mono (unhide HB).size))
  replace Ia := hide (((unhide Ia).below b9).more b9.size)
  replace Ib := hide (((unhide Ib).below b9).more b9.size)
  replace Ic := hide (((unhide Ic).below b9).more b9.size)
  replace Ix := hide (((unhide Ix).below b9).more b9.size)
  replace Iy := hide (((unhide Iy).below b9).more b9.size)
  replace I1 := hide (((unhide I1).below b9).more b9.size)
  clear b9
  rw [tIa.out] at i9
  have I2 := hide i9
  clear i9
  go_wp2_with fail
  refine (Meet_ok _ _ _ _ _ _ _ _ _ (unhide I1) (unhide I2) m hb ha).mono ?_
  rintro e w10 ⟨A10, n10, c10, rfl, i10, b10⟩
  replace HB := hide ((unhide HB).trans (b10.mono (unhide HB).size))
  replace Ia := hide (((unhide Ia).below b10).more b10.size)
  replace Ib := hide (((unhide Ib).below b10).more b10.size)
  replace Ic := hide (((unhide Ic).below b10).more b10.size)
  replace Ix := hide (((unhide Ix).below b10).more b10.size)
  replace Iy := hide (((unhide Iy).below b10).more b10.size)
  replace I1 := hide (((unhide I1).below b10).more b10.size)
  replace I2 := hide (((unhide I2).below b10).more b10.size)
  clear b10
  have Iu := hide i10
  clear i10
  clear I1
  clear I2
  go_wp2_with fail
  refine (list_ints _ _ _ _ _ _ (unhide Ib)).mono ?_
  rintro e w11 ⟨A11, n11, c11, rfl, i11, b11⟩
  replace HB := hide ((unhide HB).trans (b11.mono (unhide HB).size))
  replace Ia := hide (((unhide Ia).below b11).more b11.size)
  replace Ib := hide (((unhide Ib).below b11).more b11.size)
  replace Ic := hide (((unhide Ic).below b11).more b11.size)
  replace Ix := hide (((unhide Ix).below b11).more b11.size)
  replace Iy := hide (((unhide Iy).below b11).more b11.size)
  replace Iu := hide (((unhide Iu).below b11).more b11.size)
  clear b11
  rw [tIb.out] at i11
  have I1 := hide i11
  clear i11
  go_wp2_with fail
  refine (list_ints _ _ _ _ _ _ (unhide Ia)).mono ?_
  rintro e w12 ⟨A12, n12, c12, rfl, i12, b12⟩
  replace HB := hide ((unhide HB).trans (b12.mono (unhide HB).size))
  replace Ia := hide (((unhide Ia).below b12).more b12.size)
  replace Ib := hide (((unhide Ib).below b12).more b12.size)
  replace Ic := hide (((unhide Ic).below b12).more b12.size)
  replace Ix := hide (((unhide Ix).below b12).more b12.size)
  replace Iy := hide (((unhide Iy).below b12).more b12.size)
  replace Iu := hide (((unhide Iu).below b12).more b12.size)
  replace I1 := hide (((unhide I1).below b12).more b12.size)
  clear b12
  rw [tIa.out] at i12
  have I2 := hide i12
  clear i12
  go_wp2_with fail
  refine (Join_ok _ _ _ _ _ _ _ _ _ (unhide I1) (unhide I2) m hb ha).mono ?_
  rintro e w13 ⟨A13, n13, c13, rfl, i13, b13⟩
  replace HB := hide ((unhide HB).trans (b13.mono (unhide HB).size))
  replace Ia := hide (((unhide Ia).below b13).more b13.size)
  replace Ib := hide (((unhide Ib).below b13).more b13.size)
  replace Ic := hide (((unhide Ic).below b13).more b13.size)
  replace Ix := hide (((unhide Ix).below b13).more b13.size)
  replace Iy := hide (((unhide Iy).below b13).more b13.size)
  replace Iu := hide (((unhide Iu).below b13).more b13.size)
  replace I1 := hide (((unhide I1).below b13).more b13.size)
  replace I2 := hide (((unhide I2).below b13).more b13.size)
  clear b13
  have Iv := hide i13
  clear i13
  clear I1
  clear I2
  go_wp2_with fail
  refine (equal_any _ _ _ _ _ _ _ _ _ _ _ (unhide Iu) (unhide Ix) true hux).mono ?_
  rintro e w14 ⟨rfl, b14⟩
  replace HB := hide ((unhide HB).trans (b14.mono (unhide HB).size))
  replace Ia := hide (((unhide Ia).below b14).more b14.size)
  replace Ib := hide (((unhide Ib).below b14).more b14.size)
  replace Ic := hide (((unhide Ic).below b14).more b14.size)
  replace Ix := hide (((unhide Ix).below b14).more b14.size)
  replace Iy := hide (((unhide Iy).below b14).more b14.size)
  replace Iu := hide (((unhide Iu).below b14).more b14.size)
  replace Iv := hide (((unhide Iv).below b14).more b14.size)
  clear b14
  clear Iu
  go_wp2_with fail
  refine (equal_any _ _ _ _ _ _ _ _ _ _ _ (unhide Iv) (unhide Iy) true hvy).mono ?_
  rintro e w15 ⟨rfl, b15⟩
  replace HB := hide ((unhide HB).trans (b15.mono (unhide HB).size))
  replace Ia := hide (((unhide Ia).below b15).more b15.size)
  replace Ib := hide (((unhide Ib).below b15).more b15.size)
  replace Ic := hide (((unhide Ic).below b15).more b15.size)
  replace Ix := hide (((unhide Ix).below b15).more b15.size)
  replace Iy := hide (((unhide Iy).below b15).more b15.size)
  replace Iv := hide (((unhide Iv).below b15).more b15.size)
  clear b15
  clear Iv
  go_wp2_with fail
  refine (lparts_is _ _ _ _ _ _ _ _ _ _ _ (unhide Ix) (unhide Ia) (by have := (unhide Ix).len; have := hx.out.len12; omega) hn true hxa).mono ?_
  rintro e w16 ⟨rfl, b16⟩
  replace HB := hide ((unhide HB).trans (b16.mono (unhide HB).size))
  replace Ia := hide (((unhide Ia).below b16).more b16.size)
  replace Ib := hide (((unhide Ib).below b16).more b16.size)
  replace Ic := hide (((unhide Ic).below b16).more b16.size)
  replace Ix := hide (((unhide Ix).below b16).more b16.size)
  replace Iy := hide (((unhide Iy).below b16).more b16.size)
  clear b16
  go_wp2_with fail
  refine (lparts_is _ _ _ _ _ _ _ _ _ _ _ (unhide Iy) (unhide Ia) (by have := (unhide Iy).len; have := hy.out.len12; omega) hn true hya).mono ?_
  rintro e w17 ⟨rfl, b17⟩
  replace HB := hide ((unhide HB).trans (b17.mono (unhide HB).size))
  replace Ia := hide (((unhide Ia).below b17).more b17.size)
  replace Ib := hide (((unhide Ib).below b17).more b17.size)
  replace Ic := hide (((unhide Ic).below b17).more b17.size)
  replace Ix := hide (((unhide Ix).below b17).more b17.size)
  replace Iy := hide (((unhide Iy).below b17).more b17.size)
  clear b17
  go_wp2_with fail
  refine (unevP _ _ _ _ _ _ _ _ _ (unhide Ia) (unhide Ix) m ha hx true dax).mono ?_
  rintro e w18 ⟨rfl, b18⟩
  replace HB := hide ((unhide HB).trans (b18.mono (unhide HB).size))
  replace Ia := hide (((unhide Ia).below b18).more b18.size)
  replace Ib := hide (((unhide Ib).below b18).more b18.size)
  replace Ic := hide (((unhide Ic).below b18).more b18.size)
  replace Ix := hide (((unhide Ix).below b18).more b18.size)
  replace Iy := hide (((unhide Iy).below b18).more b18.size)
  clear b18
  go_wp2_with fail
  refine (unevP _ _ _ _ _ _ _ _ _ (unhide Ib) (unhide Ix) m hb hx true dbx).mono ?_
  rintro e w19 ⟨rfl, b19⟩
  replace HB := hide ((unhide HB).trans (b19.mono (unhide HB).size))
  replace Ia := hide (((unhide Ia).below b19).more b19.size)
  replace Ib := hide (((unhide Ib).below b19).more b19.size)
  replace Ic := hide (((unhide Ic).below b19).more b19.size)
  replace Ix := hide (((unhide Ix).below b19).more b19.size)
  replace Iy := hide (((unhide Iy).below b19).more b19.size)
  clear b19
  go_wp2_with fail
  refine (unevP _ _ _ _ _ _ _ _ _ (unhide Iy) (unhide Ia) m hy ha true dya).mono ?_
  rintro e w20 ⟨rfl, b20⟩
  replace HB := hide ((unhide HB).trans (b20.mono (unhide HB).size))
  replace Ia := hide (((unhide Ia).below b20).more b20.size)
  replace Ib := hide (((unhide Ib).below b20).more b20.size)
  replace Ic := hide (((unhide Ic).below b20).more b20.size)
  replace Ix := hide (((unhide Ix).below b20).more b20.size)
  replace Iy := hide (((unhide Iy).below b20).more b20.size)
  clear b20
  go_wp2_with fail
  refine (unevP _ _ _ _ _ _ _ _ _ (unhide Iy) (unhide Ib) m hy hb true dyb).mono ?_
  rintro e w21 ⟨rfl, b21⟩
  replace HB := hide ((unhide HB).trans (b21.mono (unhide HB).size))
  replace Ia := hide (((unhide Ia).below b21).more b21.size)
  replace Ib := hide (((unhide Ib).below b21).more b21.size)
  replace Ic := hide (((unhide Ic).below b21).more b21.size)
  replace Ix := hide (((unhide Ix).below b21).more b21.size)
  replace Iy := hide (((unhide Iy).below b21).more b21.size)
  clear b21
  go_wp2_with fail
  refine (lparts_is _ _ _ _ _ _ _ _ _ _ _ (unhide Ic) (unhide Ia) hn'' hn true hca).mono ?_
  rintro e w22 ⟨rfl, b22⟩
  replace HB := hide ((unhide HB).trans (b22.mono (unhide HB).size))
  replace Ia := hide (((unhide Ia).below b22).more b22.size)
  replace Ib := hide (((unhide Ib).below b22).more b22.size)
  replace Ic := hide (((unhide Ic).below b22).more b22.size)
  replace Ix := hide (((unhide Ix).below b22).more b22.size)
  replace Iy := hide (((unhide Iy).below b22).more b22.size)
  clear b22
  go_wp2_with fail
  refine (unevP _ _ _ _ _ _ _ _ _ (unhide Ia) (unhide Ic) m ha hc true p1).mono ?_
  rintro e w23 ⟨rfl, b23⟩
  replace HB := hide ((unhide HB).trans (b23.mono (unhide HB).size))
  replace Ia := hide (((unhide Ia).below b23).more b23.size)
  replace Ib := hide (((unhide Ib).below b23).more b23.size)
  replace Ic := hide (((unhide Ic).below b23).more b23.size)
  replace Ix := hide (((unhide Ix).below b23).more b23.size)
  replace Iy := hide (((unhide Iy).below b23).more b23.size)
  clear b23
  go_wp2_with fail
  refine (unevP _ _ _ _ _ _ _ _ _ (unhide Ib) (unhide Ic) m hb hc false p2).mono ?_
  rintro e w24 ⟨rfl, b24⟩
  replace HB := hide ((unhide HB).trans (b24.mono (unhide HB).size))
  replace Ia := hide (((unhide Ia).below b24).more b24.size)
  replace Ib := hide (((unhide Ib).below b24).more b24.size)
  replace Ic := hide (((unhide Ic).below b24).more b24.size)
  replace Ix := hide (((unhide Ix).below b24).more b24.size)
  replace Iy := hide (((unhide Iy).below b24).more b24.size)
  clear b24
  go_wp2_with fail
  refine (unevP _ _ _ _ _ _ _ _ _ (unhide Ic) (unhide Ia) m hc ha false q1).mono ?_
  rintro e w25 ⟨rfl, b25⟩
  replace HB := hide ((unhide HB).trans (b25.mono (unhide HB).size))
  replace Ia := hide (((unhide Ia).below b25).more b25.size)
  replace Ib := hide (((unhide Ib).below b25).more b25.size)
  replace Ic := hide (((unhide Ic).below b25).more b25.size)
  replace Ix := hide (((unhide Ix).below b25).more b25.size)
  replace Iy := hide (((unhide Iy).below b25).more b25.size)
  clear b25
  go_wp2_with fail
  refine (awake_any _).mono ?_
  rintro e w26 ⟨rfl, b26⟩
  replace HB := hide ((unhide HB).trans (b26.mono (unhide HB).size))
  replace Ia := hide (((unhide Ia).below b26).more b26.size)
  replace Ib := hide (((unhide Ib).below b26).more b26.size)
  replace Ic := hide (((unhide Ic).below b26).more b26.size)
  replace Ix := hide (((unhide Ix).below b26).more b26.size)
  replace Iy := hide (((unhide Iy).below b26).more b26.size)
  clear b26
  go_wp2_with fail
  go_ret
  exact ⟨rfl, unhide HB⟩

set_option maxHeartbeats 4000000 in
theorem Lattice_11 (A A' A'' : Option Addr) (n c n' c' n'' c'' : Nat) (xs ys zs : List Int) (w : World) (h : Ints w w.heap.size A n c xs) (h' : Ints w w.heap.size A' n' c' ys) (h'' : Ints w w.heap.size A'' n'' c'' zs)
    (hn : n ≤ 17592186044416) (hn' : n' ≤ 17592186044416) (hn'' : n'' ≤ 17592186044416) (m : Nat) (ha : Hid (IsP xs m)) (hb : Hid (IsP ys m)) (hc : Hid (IsP zs m)) (p1 : Hid (unevR xs zs = true)) (p2 : Hid (unevR ys zs = false)) (q1 : Hid (unevR zs xs = true)) (q2 : Hid (unevR zs ys = false)) :
    Calls Try.prog 14 #[.slice A n c, .slice A' n' c', .slice A'' n'' c''] w fun e w' => e = .returned (.bool true) ∧ Below w.heap.size w w' := by
  have HB := hide (Below.refl w.heap.size w)
  have Ia := hide h; have Ib := hide h'; have Ic := hide h''; clear h h' h''
  have tIa := hide ha.out.take; have tIb := hide hb.out.take
  have hx := hide (meet_isP ha.out hb.out); have hy := hide (join_isP ha.out hb.out)
  have hab := hide (isP_oneSum ha.out hb.out)
  have hux := hide (show decide (meetF ys xs = meetF xs ys) = true from by rw [decide_eq_true_eq, meet_comm])
  have hvy := hide (show decide (joinF ys xs = joinF xs ys) = true from by rw [decide_eq_true_eq, join_comm])
  have hxa := hide (isP_oneSum hx.out ha.out); have hya := hide (isP_oneSum hy.out ha.out)
  have dax := hide ((unevR_dom ha.out hx.out).2 (dom_meet_left ha.out hb.out))
  have dbx := hide ((unevR_dom hb.out hx.out).2 (by rw [meet_comm]; exact dom_meet_left hb.out ha.out))
  have dya := hide ((unevR_dom hy.out ha.out).2 (dom_join_left ha.out hb.out))
  have dyb := hide ((unevR_dom hy.out hb.out).2 (by rw [join_comm]; exact dom_join_left hb.out ha.out))
  have hca := hide (isP_oneSum hc.out ha.out)
  go_enter Try.func14, Try.ntmps14
  go_wp2_with fail
  refine (list_ints _ _ _ _ _ _ (unhide Ia)).mono ?_
  rintro e w1 ⟨A1, n1, c1, rfl, i1, b1⟩
  replace HB := hide ((unhide HB).trans (b1.mono (unhide HB).size))
  replace Ia := hide (((unhide Ia).below b1).more b1.size)
  replace Ib := hide (((unhide Ib).below b1).more b1.size)
  replace Ic := hide (((unhide Ic).below b1).more b1.size)
  clear b1
  rw [tIa.out] at i1
  have I1 := hide i1
  clear i1
  go_wp2_with fail
  refine (list_ints _ _ _ _ _ _ (unhide Ib)).mono ?_
  rintro e w2 ⟨A2, n2, c2, rfl, i2, b2⟩
  replace HB := hide ((unhide HB).trans (b2.mono (unhide HB).size))
  replace Ia := hide (((unhide Ia).below b2).more b2.size)
  replace Ib := hide (((unhide Ib).below b2).more b2.size)
  replace Ic := hide (((unhide Ic).below b2).more b2.size)
  replace I1 := hide (((unhide I1).below b2).more b2.size)
  clear b2
  rw [tIb.out] at i2
  have I2 := hide i2
  clear i2
  go_wp2_with fail
  refine (Meet_ok _ _ _ _ _ _ _ _ _ (unhide I1) (unhide I2) m ha hb).mono ?_
  rintro e w3 ⟨A3, n3, c3, rfl, i3, b3⟩
  replace HB := hide ((unhide HB).trans (b3.mono (unhide HB).size))
  replace Ia := hide (((unhide Ia).below b3).more b3.size)
  replace Ib := hide (((unhide Ib).below b3).more b3.size)
  replace Ic := hide (((unhide Ic).below b3).more b3.size)
  replace I1 := hide (((unhide I1).below b3).more b3.size)
  replace I2 := hide (((unhide I2).below b3).more b3.size)
  clear b3
  have Ix := hide i3
  clear i3
  clear I1
  clear I2
  go_wp2_with fail
  refine (list_ints _ _ _ _ _ _ (unhide Ia)).mono ?_
  rintro e w4 ⟨A4, n4, c4, rfl, i4, b4⟩
  replace HB := hide ((unhide HB).trans (b4.mono (unhide HB).size))
  replace Ia := hide (((unhide Ia).below b4).more b4.size)
  replace Ib := hide (((unhide Ib).below b4).more b4.size)
  replace Ic := hide (((unhide Ic).below b4).more b4.size)
  replace Ix := hide (((unhide Ix).below b4).more b4.size)
  clear b4
  rw [tIa.out] at i4
  have I1 := hide i4
  clear i4
  go_wp2_with fail
  refine (list_ints _ _ _ _ _ _ (unhide Ib)).mono ?_
  rintro e w5 ⟨A5, n5, c5, rfl, i5, b5⟩
  replace HB := hide ((unhide HB).trans (b5.mono (unhide HB).size))
  replace Ia := hide (((unhide Ia).below b5).more b5.size)
  replace Ib := hide (((unhide Ib).below b5).more b5.size)
  replace Ic := hide (((unhide Ic).below b5).more b5.size)
  replace Ix := hide (((unhide Ix).below b5).more b5.size)
  replace I1 := hide (((unhide I1).below b5).more b5.size)
  clear b5
  rw [tIb.out] at i5
  have I2 := hide i5
  clear i5
  go_wp2_with fail
  refine (Join_ok _ _ _ _ _ _ _ _ _ (unhide I1) (unhide I2) m ha hb).mono ?_
  rintro e w6 ⟨A6, n6, c6, rfl, i6, b6⟩
  replace HB := hide ((unhide HB).trans (b6.mono (unhide HB).size))
  replace Ia := hide (((unhide Ia).below b6).more b6.size)
  replace Ib := hide (((unhide Ib).below b6).more b6.size)
  replace Ic := hide (((unhide Ic).below b6).more b6.size)
  replace Ix := hide (((unhide Ix).below b6).more b6.size)
  replace I1 := hide (((unhide I1).below b6).more b6.size)
  replace I2 := hide (((unhide I2).below b6).more b6.size)
  clear b6
  have Iy := hide i6
  clear i6
  clear I1
  clear I2
  go_wp2_with fail
  refine (lparts_is _ _ _ _ _ _ _ _ _ _ _ (unhide Ia) (unhide Ib) hn hn' true hab).mono ?_
  rintro e w7 ⟨rfl, b7⟩
  replace HB := hide ((unhide HB).trans (b7.mono (unhide HB).size))
  replace Ia := hide (((unhide Ia).below b7).more b7.size)
  replace Ib := hide (((unhide Ib).below b7).more b7.size)
  replace Ic := hide (((unhide Ic).below b7).more b7.size)
  replace Ix := hide (((unhide Ix).below b7).more b7.size)
  replace Iy := hide (((unhide Iy).below b7).more b7.size)
  clear b7
  go_wp2_with fail
  refine (list_ints _ _ _ _ _ _ (unhide Ib)).mono ?_
  rintro e w8 ⟨A8, n8, c8, rfl, i8, b8⟩
  replace HB := hide ((unhide HB).trans (b8.mono (unhide HB).size))
  replace Ia := hide (((unhide Ia).below b8).more b8.size)
  replace Ib := hide (((unhide Ib).below b8).more b8.size)
  replace Ic := hide (((unhide Ic).below b8).more b8.size)
  replace Ix := hide (((unhide Ix).below b8).more b8.size)
  replace Iy := hide (((unhide Iy).below b8).more b8.size)
  clear b8
  rw [tIb.out] at i8
  have I1 := hide i8
  clear i8
  go_wp2_with fail
  refine (list_ints _ _ _ _ _ _ (unhide Ia)).mono ?_
  rintro e w9 ⟨A9, n9, c9, rfl, i9, b9⟩
  replace HB := hide ((unhide HB).trans (b9.mono (unhide HB).size))
  replace Ia := hide (((unhide Ia).below b9).more b9.size)
  replace Ib := hide (((unhide Ib).below b9).more b9.size)
  replace Ic := hide (((unhide Ic).below b9).more b9.size)
  replace Ix := hide (((unhide Ix).below b9).more b9.size)
  replace Iy := hide (((unhide Iy).below b9).more b9.size)
  replace I1 := hide (((unhide I1).below b9).more b9.size)
  clear b9
  rw [tIa.out] at i9
  have I2 := hide i9
  clear i9
  go_wp2_with fail
  refine (Meet_ok _ _ _ _ _ _ _ _ _ (unhide I1) (unhide I2) m hb ha).mono ?_
  rintro e w10 ⟨A10, n10, c10, rfl, i10, b10⟩
  replace HB := hide ((unhide HB).trans (b10.mono (unhide HB).size))
  replace Ia := hide (((unhide Ia).below b10).more b10.size)
  replace Ib := hide (((unhide Ib).below b10).more b10.size)
  replace Ic := hide (((unhide Ic).below b10).more b10.size)
  replace Ix := hide (((unhide Ix).below b10).more b10.size)
  replace Iy := hide (((unhide Iy).below b10).more b10.size)
  replace I1 := hide (((unhide I1).below b10).more b10.size)
  replace I2 := hide (((unhide I2).below b10).more b10.size)
  clear b10
  have Iu := hide i10
  clear i10
  clear I1
  clear I2
  go_wp2_with fail
  refine (list_ints _ _ _ _ _ _ (unhide Ib)).mono ?_
  rintro e w11 ⟨A11, n11, c11, rfl, i11, b11⟩
  replace HB := hide ((unhide HB).trans (b11.mono (unhide HB).size))
  replace Ia := hide (((unhide Ia).below b11).more b11.size)
  replace Ib := hide (((unhide Ib).below b11).more b11.size)
  replace Ic := hide (((unhide Ic).below b11).more b11.size)
  replace Ix := hide (((unhide Ix).below b11).more b11.size)
  replace Iy := hide (((unhide Iy).below b11).more b11.size)
  replace Iu := hide (((unhide Iu).below b11).more b11.size)
  clear b11
  rw [tIb.out] at i11
  have I1 := hide i11
  clear i11
  go_wp2_with fail
  refine (list_ints _ _ _ _ _ _ (unhide Ia)).mono ?_
  rintro e w12 ⟨A12, n12, c12, rfl, i12, b12⟩
  replace HB := hide ((unhide HB).trans (b12.mono (unhide HB).size))
  replace Ia := hide (((unhide Ia).below b12).more b12.size)
  replace Ib := hide (((unhide Ib).below b12).more b12.size)
  replace Ic := hide (((unhide Ic).below b12).more b12.size)
  replace Ix := hide (((unhide Ix).below b12).more b12.size)
  replace Iy := hide (((unhide Iy).below b12).more b12.size)
  replace Iu := hide (((unhide Iu).below b12).more b12.size)
  replace I1 := hide (((unhide I1).below b12).more b12.size)
  clear b12
  rw [tIa.out] at i12
  have I2 := hide i12
  clear i12
  go_wp2_with fail
  refine (Join_ok _ _ _ _ _ _ _ _ _ (unhide I1) (unhide I2) m hb ha).mono ?_
  rintro e w13 ⟨A13, n13, c13, rfl, i13, b13⟩
  replace HB := hide ((unhide HB).trans (b13.mono (unhide HB).size))
  replace Ia := hide (((unhide Ia).below b13).more b13.size)
  replace Ib := hide (((unhide Ib).below b13).more b13.size)
  replace Ic := hide (((unhide Ic).below b13).more b13.size)
  replace Ix := hide (((unhide Ix).below b13).more b13.size)
  replace Iy := hide (((unhide Iy).below b13).more b13.size)
  replace Iu := hide (((unhide Iu).below b13).more b13.size)
  replace I1 := hide (((unhide I1).below b13).more b13.size)
  replace I2 := hide (((unhide I2).below b13).more b13.size)
  clear b13
  have Iv := hide i13
  clear i13
  clear I1
  clear I2
  go_wp2_with fail
  refine (equal_any _ _ _ _ _ _ _ _ _ _ _ (unhide Iu) (unhide Ix) true hux).mono ?_
  rintro e w14 ⟨rfl, b14⟩
  replace HB := hide ((unhide HB).trans (b14.mono (unhide HB).size))
  replace Ia := hide (((unhide Ia).below b14).more b14.size)
  replace Ib := hide (((unhide Ib).below b14).more b14.size)
  replace Ic := hide (((unhide Ic).below b14).more b14.size)
  replace Ix := hide (((unhide Ix).below b14).more b14.size)
  replace Iy := hide (((unhide Iy).below b14).more b14.size)
  replace Iu := hide (((unhide Iu).below b14).more b14.size)
  replace Iv := hide (((unhide Iv).below b14).more b14.size)
  clear b14
  clear Iu
  go_wp2_with fail
  refine (equal_any _ _ _ _ _ _ _ _ _ _ _ (unhide Iv) (unhide Iy) true hvy).mono ?_
  rintro e w15 ⟨rfl, b15⟩
  replace HB := hide ((unhide HB).trans (b15.mono (unhide HB).size))
  replace Ia := hide (((unhide Ia).below b15).more b15.size)
  replace Ib := hide (((unhide Ib).below b15).more b15.size)
  replace Ic := hide (((unhide Ic).below b15).more b15.size)
  replace Ix := hide (((unhide Ix).below b15).more b15.size)
  replace Iy := hide (((unhide Iy).below b15).more b15.size)
  replace Iv := hide (((unhide Iv).below b15).more b15.size)
  clear b15
  clear Iv
  go_wp2_with fail
  refine (lparts_is _ _ _ _ _ _ _ _ _ _ _ (unhide Ix) (unhide Ia) (by have := (unhide Ix).len; have := hx.out.len12; omega) hn true hxa).mono ?_
  rintro e w16 ⟨rfl, b16⟩
  replace HB := hide ((unhide HB).trans (b16.mono (unhide HB).size))
  replace Ia := hide (((unhide Ia).below b16).more b16.size)
  replace Ib := hide (((unhide Ib).below b16).more b16.size)
  replace Ic := hide (((unhide Ic).below b16).more b16.size)
  replace Ix := hide (((unhide Ix).below b16).more b16.size)
  replace Iy := hide (((unhide Iy).below b16).more b16.size)
  clear b16
  go_wp2_with fail
  refine (lparts_is _ _ _ _ _ _ _ _ _ _ _ (unhide Iy) (unhide Ia) (by have := (unhide Iy).len; have := hy.out.len12; omega) hn true hya).mono ?_
  rintro e w17 ⟨rfl, b17⟩
  replace HB := hide ((unhide HB).trans (b17.mono (unhide HB).size))
  replace Ia := hide (((unhide Ia).below b17).more b17.size)
  replace Ib := hide (((unhide Ib).below b17).more b17.size)
  replace Ic := hide (((unhide Ic).below b17).more b17.size)
  replace Ix := hide (((unhide Ix).below b17).more b17.size)
  replace Iy := hide (((unhide Iy).below b17).more b17.size)
  clear b17
  go_wp2_with fail
  refine (unevP _ _ _ _ _ _ _ _ _ (unhide Ia) (unhide Ix) m ha hx true dax).mono ?_
  rintro e w18 ⟨rfl, b18⟩
  replace HB := hide ((unhide HB).trans (b18.mono (unhide HB).size))
  replace Ia := hide (((unhide Ia).below b18).more b18.size)
  replace Ib := hide (((unhide Ib).below b18).more b18.size)
  replace Ic := hide (((unhide Ic).below b18).more b18.size)
  replace Ix := hide (((unhide Ix).below b18).more b18.size)
  replace Iy := hide (((unhide Iy).below b18).more b18.size)
  clear b18
  go_wp2_with fail
  refine (unevP _ _ _ _ _ _ _ _ _ (unhide Ib) (unhide Ix) m hb hx true dbx).mono ?_
  rintro e w19 ⟨rfl, b19⟩
  replace HB := hide ((unhide HB).trans (b19.mono (unhide HB).size))
  replace Ia := hide (((unhide Ia).below b19).more b19.size)
  replace Ib := hide (((unhide Ib).below b19).more b19.size)
  replace Ic := hide (((unhide Ic).below b19).more b19.size)
  replace Ix := hide (((unhide Ix).below b19).more b19.size)
  replace Iy := hide (((unhide Iy).below b19).more b19.size)
  clear b19
  go_wp2_with fail
  refine (unevP _ _ _ _ _ _ _ _ _ (unhide Iy) (unhide Ia) m hy ha true dya).mono ?_
  rintro e w20 ⟨rfl, b20⟩
  replace HB := hide ((unhide HB).trans (b20.mono (unhide HB).size))
  replace Ia := hide (((unhide Ia).below b20).more b20.size)
  replace Ib := hide (((unhide Ib).below b20).more b20.size)
  replace Ic := hide (((unhide Ic).below b20).more b20.size)
  replace Ix := hide (((unhide Ix).below b20).more b20.size)
  replace Iy := hide (((unhide Iy).below b20).more b20.size)
  clear b20
  go_wp2_with fail
  refine (unevP _ _ _ _ _ _ _ _ _ (unhide Iy) (unhide Ib) m hy hb true dyb).mono ?_
  rintro e w21 ⟨rfl, b21⟩
  replace HB := hide ((unhide HB).trans (b21.mono (unhide HB).size))
  replace Ia := hide (((unhide Ia).below b21).more b21.size)
  replace Ib := hide (((unhide Ib).below b21).more b21.size)
  replace Ic := hide (((unhide Ic).below b21).more b21.size)
  replace Ix := hide (((unhide Ix).below b21).more b21.size)
  replace Iy := hide (((unhide Iy).below b21).more b21.size)
  clear b21
  go_wp2_with fail
  refine (lparts_is _ _ _ _ _ _ _ _ _ _ _ (unhide Ic) (unhide Ia) hn'' hn true hca).mono ?_
  rintro e w22 ⟨rfl, b22⟩
  replace HB := hide ((unhide HB).trans (b22.mono (unhide HB).size))
  replace Ia := hide (((unhide Ia).below b22).more b22.size)
  replace Ib := hide (((unhide Ib).below b22).more b22.size)
  replace Ic := hide (((unhide Ic).below b22).more b22.size)
  replace Ix := hide (((unhide Ix).below b22).more b22.size)
  replace Iy := hide (((unhide Iy).below b22).more b22.size)
  clear b22
  go_wp2_with fail
  refine (unevP _ _ _ _ _ _ _ _ _ (unhide Ia) (unhide Ic) m ha hc true p1).mono ?_
  rintro e w23 ⟨rfl, b23⟩
  replace HB := hide ((unhide HB).trans (b23.mono (unhide HB).size))
  replace Ia := hide (((unhide Ia).below b23).more b23.size)
  replace Ib := hide (((unhide Ib).below b23).more b23.size)
  replace Ic := hide (((unhide Ic).below b23).more b23.size)
  replace Ix := hide (((unhide Ix).below b23).more b23.size)
  replace Iy := hide (((unhide Iy).below b23).more b23.size)
  clear b23
  go_wp2_with fail
  refine (unevP _ _ _ _ _ _ _ _ _ (unhide Ib) (unhide Ic) m hb hc false p2).mono ?_
  rintro e w24 ⟨rfl, b24⟩
  replace HB := hide ((unhide HB).trans (b24.mono (unhide HB).size))
  replace Ia := hide (((unhide Ia).below b24).more b24.size)
  replace Ib := hide (((unhide Ib).below b24).more b24.size)
  replace Ic := hide (((unhide Ic).below b24).more b24.size)
  replace Ix := hide (((unhide Ix).below b24).more b24.size)
  replace Iy := hide (((unhide Iy).below b24).more b24.size)
  clear b24
  go_wp2_with fail
  refine (unevP _ _ _ _ _ _ _ _ _ (unhide Ic) (unhide Ia) m hc ha true q1).mono ?_
  rintro e w25 ⟨rfl, b25⟩
  replace HB := hide ((unhide HB).trans (b25.mono (unhide HB).size))
  replace Ia := hide (((unhide Ia).below b25).more b25.size)
  replace Ib := hide (((unhide Ib).below b25).more b25.size)
  replace Ic := hide (((unhide Ic).below b25).more b25.size)
  replace Ix := hide (((unhide Ix).below b25).more b25.size)
  replace Iy := hide (((unhide Iy).below b25).more b25.size)
  clear b25
  go_wp2_with fail
  refine (unevP _ _ _ _ _ _ _ _ _ (unhide Ic) (unhide Ib) m hc hb false q2).mono ?_
  rintro e w26 ⟨rfl, b26⟩
  replace HB := hide ((unhide HB).trans (b26.mono (unhide HB).size))
  replace Ia := hide (((unhide Ia).below b26).more b26.size)
  replace Ib := hide (((unhide Ib).below b26).more b26.size)
  replace Ic := hide (((unhide Ic).below b26).more b26.size)
  replace Ix := hide (((unhide Ix).below b26).more b26.size)
  replace Iy := hide (((unhide Iy).below b26).more b26.size)
  clear b26
  go_wp2_with fail
  refine (awake_any _).mono ?_
  rintro e w27 ⟨rfl, b27⟩
  replace HB := hide ((unhide HB).trans (b27.mono (unhide HB).size))
  replace Ia := hide (((unhide Ia).below b27).more b27.size)
  replace Ib := hide (((unhide Ib).below b27).more b27.size)
  replace Ic := hide (((unhide Ic).below b27).more b27.size)
  replace Ix := hide (((unhide Ix).below b27).more b27.size)
  replace Iy := hide (((unhide Iy).below b27).more b27.size)
  clear b27
  go_wp2_with fail
  go_ret
  exact ⟨rfl, unhide HB⟩

set_option maxHeartbeats 4000000 in
theorem Lattice_12 (A A' A'' : Option Addr) (n c n' c' n'' c'' : Nat) (xs ys zs : List Int) (w : World) (h : Ints w w.heap.size A n c xs) (h' : Ints w w.heap.size A' n' c' ys) (h'' : Ints w w.heap.size A'' n'' c'' zs)
    (hn : n ≤ 17592186044416) (hn' : n' ≤ 17592186044416) (hn'' : n'' ≤ 17592186044416) (m : Nat) (ha : Hid (IsP xs m)) (hb : Hid (IsP ys m)) (hc : Hid (IsP zs m)) (p1 : Hid (unevR xs zs = true)) (p2 : Hid (unevR ys zs = false)) (q1 : Hid (unevR zs xs = true)) (q2 : Hid (unevR zs ys = true)) :
    Calls Try.prog 14 #[.slice A n c, .slice A' n' c', .slice A'' n'' c''] w fun e w' => e = .returned (.bool true) ∧ Below w.heap.size w w' := by
  have HB := hide (Below.refl w.heap.size w)
  have Ia := hide h; have Ib := hide h'; have Ic := hide h''; clear h h' h''
  have tIa := hide ha.out.take; have tIb := hide hb.out.take
  have hx := hide (meet_isP ha.out hb.out); have hy := hide (join_isP ha.out hb.out)
  have hab := hide (isP_oneSum ha.out hb.out)
  have hux := hide (show decide (meetF ys xs = meetF xs ys) = true from by rw [decide_eq_true_eq, meet_comm])
  have hvy := hide (show decide (joinF ys xs = joinF xs ys) = true from by rw [decide_eq_true_eq, join_comm])
  have hxa := hide (isP_oneSum hx.out ha.out); have hya := hide (isP_oneSum hy.out ha.out)
  have dax := hide ((unevR_dom ha.out hx.out).2 (dom_meet_left ha.out hb.out))
  have dbx := hide ((unevR_dom hb.out hx.out).2 (by rw [meet_comm]; exact dom_meet_left hb.out ha.out))
  have dya := hide ((unevR_dom hy.out ha.out).2 (dom_join_left ha.out hb.out))
  have dyb := hide ((unevR_dom hy.out hb.out).2 (by rw [join_comm]; exact dom_join_left hb.out ha.out))
  have hca := hide (isP_oneSum hc.out ha.out)
  have q3 := hide ((unevR_dom hc.out hy.out).2 (dom_join ha.out hb.out hc.out ((unevR_dom hc.out ha.out).1 q1.out) ((unevR_dom hc.out hb.out).1 q2.out)))
  go_enter Try.func14, Try.ntmps14
  go_wp2_with fail
  refine (list_ints _ _ _ _ _ _ (unhide Ia)).mono ?_
  rintro e w1 ⟨A1, n1, c1, rfl, i1, b1⟩
  replace HB := hide ((unhide HB).trans (b1.mono (unhide HB).size))
  replace Ia := hide (((unhide Ia).below b1).more b1.size)
  replace Ib := hide (((unhide Ib).below b1).more b1.size)
  replace Ic := hide (((unhide Ic).below b1).more b1.size)
  clear b1
  rw [tIa.out] at i1
  have I1 := hide i1
  clear i1
  go_wp2_with fail
  refine (list_ints _ _ _ _ _ _ (unhide Ib)).mono ?_
  rintro e w2 ⟨A2, n2, c2, rfl, i2, b2⟩
  replace HB := hide ((unhide HB).trans (b2.mono (unhide HB).size))
  replace Ia := hide (((unhide Ia).below b2).more b2.size)
  replace Ib := hide (((unhide Ib).below b2).more b2.size)
  replace Ic := hide (((unhide Ic).below b2).more b2.size)
  replace I1 := hide (((unhide I1).below b2).more b2.size)
  clear b2
  rw [tIb.out] at i2
  have I2 := hide i2
  clear i2
  go_wp2_with fail
  refine (Meet_ok _ _ _ _ _ _ _ _ _ (unhide I1) (unhide I2) m ha hb).mono ?_
  rintro e w3 ⟨A3, n3, c3, rfl, i3, b3⟩
  replace HB := hide ((unhide HB).trans (b3.mono (unhide HB).size))
  replace Ia := hide (((unhide Ia).below b3).more b3.size)
  replace Ib := hide (((unhide Ib).below b3).more b3.size)
  replace Ic := hide (((unhide Ic).below b3).more b3.size)
  replace I1 := hide (((unhide I1).below b3).more b3.size)
  replace I2 := hide (((unhide I2).below b3).more b3.size)
  clear b3
  have Ix := hide i3
  clear i3
  clear I1
  clear I2
  go_wp2_with fail
  refine (list_ints _ _ _ _ _ _ (unhide Ia)).mono ?_
  rintro e w4 ⟨A4, n4, c4, rfl, i4, b4⟩
  replace HB := hide ((unhide HB).trans (b4.mono (unhide HB).size))
  replace Ia := hide (((unhide Ia).below b4).more b4.size)
  replace Ib := hide (((unhide Ib).below b4).more b4.size)
  replace Ic := hide (((unhide Ic).below b4).more b4.size)
  replace Ix := hide (((unhide Ix).below b4).more b4.size)
  clear b4
  rw [tIa.out] at i4
  have I1 := hide i4
  clear i4
  go_wp2_with fail
  refine (list_ints _ _ _ _ _ _ (unhide Ib)).mono ?_
  rintro e w5 ⟨A5, n5, c5, rfl, i5, b5⟩
  replace HB := hide ((unhide HB).trans (b5.mono (unhide HB).size))
  replace Ia := hide (((unhide Ia).below b5).more b5.size)
  replace Ib := hide (((unhide Ib).below b5).more b5.size)
  replace Ic := hide (((unhide Ic).below b5).more b5.size)
  replace Ix := hide (((unhide Ix).below b5).more b5.size)
  replace I1 := hide (((unhide I1).below b5).more b5.size)
  clear b5
  rw [tIb.out] at i5
  have I2 := hide i5
  clear i5
  go_wp2_with fail
  refine (Join_ok _ _ _ _ _ _ _ _ _ (unhide I1) (unhide I2) m ha hb).mono ?_
  rintro e w6 ⟨A6, n6, c6, rfl, i6, b6⟩
  replace HB := hide ((unhide HB).trans (b6.mono (unhide HB).size))
  replace Ia := hide (((unhide Ia).below b6).more b6.size)
  replace Ib := hide (((unhide Ib).below b6).more b6.size)
  replace Ic := hide (((unhide Ic).below b6).more b6.size)
  replace Ix := hide (((unhide Ix).below b6).more b6.size)
  replace I1 := hide (((unhide I1).below b6).more b6.size)
  replace I2 := hide (((unhide I2).below b6).more b6.size)
  clear b6
  have Iy := hide i6
  clear i6
  clear I1
  clear I2
  go_wp2_with fail
  refine (lparts_is _ _ _ _ _ _ _ _ _ _ _ (unhide Ia) (unhide Ib) hn hn' true hab).mono ?_
  rintro e w7 ⟨rfl, b7⟩
  replace HB := hide ((unhide HB).trans (b7.mono (unhide HB).size))
  replace Ia := hide (((unhide Ia).below b7).more b7.size)
  replace Ib := hide (((unhide Ib).below b7).more b7.size)
  replace Ic := hide (((unhide Ic).below b7).more b7.size)
  replace Ix := hide (((unhide Ix).below b7).more b7.size)
  replace Iy := hide (((unhide Iy).below b7).more b7.size)
  clear b7
  go_wp2_with fail
  refine (list_ints _ _ _ _ _ _ (unhide Ib)).mono ?_
  rintro e w8 ⟨A8, n8, c8, rfl, i8, b8⟩
  replace HB := hide ((unhide HB).trans (b8.mono (unhide HB).size))
  replace Ia := hide (((unhide Ia).below b8).more b8.size)
  replace Ib := hide (((unhide Ib).below b8).more b8.size)
  replace Ic := hide (((unhide Ic).below b8).more b8.size)
  replace Ix := hide (((unhide Ix).below b8).more b8.size)
  replace Iy := hide (((unhide Iy).below b8).more b8.size)
  clear b8
  rw [tIb.out] at i8
  have I1 := hide i8
  clear i8
  go_wp2_with fail
  refine (list_ints _ _ _ _ _ _ (unhide Ia)).mono ?_
  rintro e w9 ⟨A9, n9, c9, rfl, i9, b9⟩
  replace HB := hide ((unhide HB).trans (b9.mono (unhide HB).size))
  replace Ia := hide (((unhide Ia).below b9).more b9.size)
  replace Ib := hide (((unhide Ib).below b9).more b9.size)
  replace Ic := hide (((unhide Ic).below b9).more b9.size)
  replace Ix := hide (((unhide Ix).below b9).more b9.size)
  replace Iy := hide (((unhide Iy).below b9).more b9.size)
  replace I1 := hide (((unhide I1).below b9).more b9.size)
  clear b9
  rw [tIa.out] at i9
  have I2 := hide i9
  clear i9
  go_wp2_with fail
  refine (Meet_ok _ _ _ _ _ _ _ _ _ (unhide I1) (unhide I2) m hb ha).mono ?_
  rintro e w10 ⟨A10, n10, c10, rfl, i10, b10⟩
  replace HB := hide ((unhide HB).trans (b10.mono (unhide HB).size))
  replace Ia := hide (((unhide Ia).below b10).more b10.size)
  replace Ib := hide (((unhide Ib).below b10).more b10.size)
  replace Ic := hide (((unhide Ic).below b10).more b10.size)
  replace Ix := hide (((unhide Ix).below b10).more b10.size)
  replace Iy := hide (((unhide Iy).below b10).more b10.size)
  replace I1 := hide (((unhide I1).below b10).more b10.size)
  replace I2 := hide (((unhide I2).below b10).more b10.size)
  clear b10
  have Iu := hide i10
  clear i10
  clear I1
  clear I2
  go_wp2_with fail
  refine (list_ints _ _ _ _ _ _ (unhide Ib)).mono ?_
  rintro e w11 ⟨A11, n11, c11, rfl, i11, b11⟩
  replace HB := hide ((unhide HB).trans (b11.mono (unhide HB).size))
  replace Ia := hide (((unhide Ia).below b11).more b11.size)
  replace Ib := hide (((unhide Ib).below b11).more b11.size)
  replace Ic := hide (((unhide Ic).below b11).more b11.size)
  replace Ix := hide (((unhide Ix).below b11).more b11.size)
  replace Iy := hide (((unhide Iy).below b11).more b11.size)
  replace Iu := hide (((unhide Iu).below b11).more b11.size)
  clear b11
  rw [tIb.out] at i11
  have I1 := hide i11
  clear i11
  go_wp2_with fail
  refine (list_ints _ _ _ _ _ _ (unhide Ia)).mono ?_
  rintro e w12 ⟨A12, n12, c12, rfl, i12, b12⟩
  replace HB := hide ((unhide HB).trans (b12.mono (unhide HB).size))
  replace Ia := hide (((unhide Ia).below b12).more b12.size)
  replace Ib := hide (((unhide Ib).below b12).more b12.size)
  replace Ic := hide (((unhide Ic).below b12).more b12.size)
  replace Ix := hide (((unhide Ix).below b12).more b12.size)
  replace Iy := hide (((unhide Iy).below b12).more b12.size)
  replace Iu := hide (((unhide Iu).below b12).more b12.size)
  replace I1 := hide (((unhide I1).below b12).more b12.size)
  clear b12
  rw [tIa.out] at i12
  have I2 := hide i12
  clear i12
  go_wp2_with fail
  refine (Join_ok _ _ _ _ _ _ _ _ _ (unhide I1) (unhide I2) m hb ha).mono ?_
  rintro e w13 ⟨A13, n13, c13, rfl, i13, b13⟩
  replace HB := hide ((unhide HB).trans (b13.mono (unhide HB).size))
  replace Ia := hide (((unhide Ia).below b13).more b13.size)
  replace Ib := hide (((unhide Ib).below b13).more b13.size)
  replace Ic := hide (((unhide Ic).below b13).more b13.size)
  replace Ix := hide (((unhide Ix).below b13).more b13.size)
  replace Iy := hide (((unhide Iy).below b13).more b13.size)
  replace Iu := hide (((unhide Iu).below b13).more b13.size)
  replace I1 := hide (((unhide I1).below b13).more b13.size)
  replace I2 := hide (((unhide I2).below b13).more b13.size)
  clear b13
  have Iv := hide i13
  clear i13
  clear I1
  clear I2
  go_wp2_with fail
  refine (equal_any _ _ _ _ _ _ _ _ _ _ _ (unhide Iu) (unhide Ix) true hux).mono ?_
  rintro e w14 ⟨rfl, b14⟩
  replace HB := hide ((unhide HB).trans (b14.mono (unhide HB).size))
  replace Ia := hide (((unhide Ia).below b14).more b14.size)
  replace Ib := hide (((unhide Ib).below b14).more b14.size)
  replace Ic := hide (((unhide Ic).below b14).more b14.size)
  replace Ix := hide (((unhide Ix).below b14).more b14.size)
  replace Iy := hide (((unhide Iy).below b14).more b14.size)
  replace Iu := hide (((unhide Iu).below b14).more b14.size)
  replace Iv := hide (((unhide Iv).below b14).more b14.size)
  clear b14
  clear Iu
  go_wp2_with fail
  refine (equal_any _ _ _ _ _ _ _ _ _ _ _ (unhide Iv) (unhide Iy) true hvy).mono ?_
  rintro e w15 ⟨rfl, b15⟩
  replace HB := hide ((unhide HB).trans (b15.mono (unhide HB).size))
  replace Ia := hide (((unhide Ia).below b15).more b15.size)
  replace Ib := hide (((unhide Ib).below b15).more b15.size)
  replace Ic := hide (((unhide Ic).below b15).more b15.size)
  replace Ix := hide (((unhide Ix).below b15).more b15.size)
  replace Iy := hide (((unhide Iy).below b15).more b15.size)
  replace Iv := hide (((unhide Iv).below b15).more b15.size)
  clear b15
  clear Iv
  go_wp2_with fail
  refine (lparts_is _ _ _ _ _ _ _ _ _ _ _ (unhide Ix) (unhide Ia) (by have := (unhide Ix).len; have := hx.out.len12; omega) hn true hxa).mono ?_
  rintro e w16 ⟨rfl, b16⟩
  replace HB := hide ((unhide HB).trans (b16.mono (unhide HB).size))
  replace Ia := hide (((unhide Ia).below b16).more b16.size)
  replace Ib := hide (((unhide Ib).below b16).more b16.size)
  replace Ic := hide (((unhide Ic).below b16).more b16.size)
  replace Ix := hide (((unhide Ix).below b16).more b16.size)
  replace Iy := hide (((unhide Iy).below b16).more b16.size)
  clear b16
  go_wp2_with fail
  refine (lparts_is _ _ _ _ _ _ _ _ _ _ _ (unhide Iy) (unhide Ia) (by have := (unhide Iy).len; have := hy.out.len12; omega) hn true hya).mono ?_
  rintro e w17 ⟨rfl, b17⟩
  replace HB := hide ((unhide HB).trans (b17.mono (unhide HB).size))
  replace Ia := hide (((unhide Ia).below b17).more b17.size)
  replace Ib := hide (((unhide Ib).below b17).more b17.size)
  replace Ic := hide (((unhide Ic).below b17).more b17.size)
  replace Ix := hide (((unhide Ix).below b17).more b17.size)
  replace Iy := hide (((unhide Iy).below b17).more b17.size)
  clear b17
  go_wp2_with fail
  refine (unevP _ _ _ _ _ _ _ _ _ (unhide Ia) (unhide Ix) m ha hx true dax).mono ?_
  rintro e w18 ⟨rfl, b18⟩
  replace HB := hide ((unhide HB).trans (b18.mono (unhide HB).size))
  replace Ia := hide (((unhide Ia).below b18).more b18.size)
  replace Ib := hide (((unhide Ib).below b18).more b18.size)
  replace Ic := hide (((unhide Ic).below b18).more b18.size)
  replace Ix := hide (((unhide Ix).below b18).more b18.size)
  replace Iy := hide (((unhide Iy).below b18).more b18.size)
  clear b18
  go_wp2_with fail
  refine (unevP _ _ _ _ _ _ _ _ _ (unhide Ib) (unhide Ix) m hb hx true dbx).mono ?_
  rintro e w19 ⟨rfl, b19⟩
  replace HB := hide ((unhide HB).trans (b19.mono (unhide HB).size))
  replace Ia := hide (((unhide Ia).below b19).more b19.size)
  replace Ib := hide (((unhide Ib).below b19).more b19.size)
  replace Ic := hide (((unhide Ic).below b19).more b19.size)
  replace Ix := hide (((unhide Ix).below b19).more b19.size)
  replace Iy := hide (((unhide Iy).below b19).more b19.size)
  clear b19
  go_wp2_with fail
  refine (unevP _ _ _ _ _ _ _ _ _ (unhide Iy) (unhide Ia) m hy ha true dya).mono ?_
  rintro e w20 ⟨rfl, b20⟩
  replace HB := hide ((unhide HB).trans (b20.mono (unhide HB).size))
  replace Ia := hide (((unhide Ia).below b20).more b20.size)
  replace Ib := hide (((unhide Ib).below b20).more b20.size)
  replace Ic := hide (((unhide Ic).below b20).more b20.size)
  replace Ix := hide (((unhide Ix).below b20).more b20.size)
  replace Iy := hide (((unhide Iy).below b20).more b20.size)
  clear b20
  go_wp2_with fail
  refine (unevP _ _ _ _ _ _ _ _ _ (unhide Iy) (unhide Ib) m hy hb true dyb).mono ?_
  rintro e w21 ⟨rfl, b21⟩
  replace HB := hide ((unhide HB).trans (b21.mono (unhide HB).size))
  replace Ia := hide (((unhide Ia).below b21).more b21.size)
  replace Ib := hide (((unhide Ib).below b21).more b21.size)
  replace Ic := hide (((unhide Ic).below b21).more b21.size)
  replace Ix := hide (((unhide Ix).below b21).more b21.size)
  replace Iy := hide (((unhide Iy).below b21).more b21.size)
  clear b21
  go_wp2_with fail
  refine (lparts_is _ _ _ _ _ _ _ _ _ _ _ (unhide Ic) (unhide Ia) hn'' hn true hca).mono ?_
  rintro e w22 ⟨rfl, b22⟩
  replace HB := hide ((unhide HB).trans (b22.mono (unhide HB).size))
  replace Ia := hide (((unhide Ia).below b22).more b22.size)
  replace Ib := hide (((unhide Ib).below b22).more b22.size)
  replace Ic := hide (((unhide Ic).below b22).more b22.size)
  replace Ix := hide (((unhide Ix).below b22).more b22.size)
  replace Iy := hide (((unhide Iy).below b22).more b22.size)
  clear b22
  go_wp2_with fail
  refine (unevP _ _ _ _ _ _ _ _ _ (unhide Ia) (unhide Ic) m ha hc true p1).mono ?_
  rintro e w23 ⟨rfl, b23⟩
  replace HB := hide ((unhide HB).trans (b23.mono (unhide HB).size))
  replace Ia := hide (((unhide Ia).below b23).more b23.size)
  replace Ib := hide (((unhide Ib).below b23).more b23.size)
  replace Ic := hide (((unhide Ic).below b23).more b23.size)
  replace Ix := hide (((unhide Ix).below b23).more b23.size)
  replace Iy := hide (((unhide Iy).below b23).more b23.size)
  clear b23
  go_wp2_with fail
  refine (unevP _ _ _ _ _ _ _ _ _ (unhide Ib) (unhide Ic) m hb hc false p2).mono ?_
  rintro e w24 ⟨rfl, b24⟩
  replace HB := hide ((unhide HB).trans (b24.mono (unhide HB).size))
  replace Ia := hide (((unhide Ia).below b24).more b24.size)
  replace Ib := hide (((unhide Ib).below b24).more b24.size)
  replace Ic := hide (((unhide Ic).below b24).more b24.size)
  replace Ix := hide (((unhide Ix).below b24).more b24.size)
  replace Iy := hide (((unhide Iy).below b24).more b24.size)
  clear b24
  go_wp2_with fail
  refine (unevP _ _ _ _ _ _ _ _ _ (unhide Ic) (unhide Ia) m hc ha true q1).mono ?_
  rintro e w25 ⟨rfl, b25⟩
  replace HB := hide ((unhide HB).trans (b25.mono (unhide HB).size))
  replace Ia := hide (((unhide Ia).below b25).more b25.size)
  replace Ib := hide (((unhide Ib).below b25).more b25.size)
  replace Ic := hide (((unhide Ic).below b25).more b25.size)
  replace Ix := hide (((unhide Ix).below b25).more b25.size)
  replace Iy := hide (((unhide Iy).below b25).more b25.size)
  clear b25
  go_wp2_with fail
  refine (unevP _ _ _ _ _ _ _ _ _ (unhide Ic) (unhide Ib) m hc hb true q2).mono ?_
  rintro e w26 ⟨rfl, b26⟩
  replace HB := hide ((unhide HB).trans (b26.mono (unhide HB).size))
  replace Ia := hide (((unhide Ia).below b26).more b26.size)
  replace Ib := hide (((unhide Ib).below b26).more b26.size)
  replace Ic := hide (((unhide Ic).below b26).more b26.size)
  replace Ix := hide (((unhide Ix).below b26).more b26.size)
  replace Iy := hide (((unhide Iy).below b26).more b26.size)
  clear b26
  go_wp2_with fail
  refine (unevP _ _ _ _ _ _ _ _ _ (unhide Ic) (unhide Iy) m hc hy true q3).mono ?_
  rintro e w27 ⟨rfl, b27⟩
  replace HB := hide ((unhide HB).trans (b27.mono (unhide HB).size))
  replace Ia := hide (((unhide Ia).below b27).more b27.size)
  replace Ib := hide (((unhide Ib).below b27).more b27.size)
  replace Ic := hide (((unhide Ic).below b27).more b27.size)
  replace Ix := hide (((unhide Ix).below b27).more b27.size)
  replace Iy := hide (((unhide Iy).below b27).more b27.size)
  clear b27
  go_wp2_with fail
  refine (awake_any _).mono ?_
  rintro e w28 ⟨rfl, b28⟩
  replace HB := hide ((unhide HB).trans (b28.mono (unhide HB).size))
  replace Ia := hide (((unhide Ia).below b28).more b28.size)
  replace Ib := hide (((unhide Ib).below b28).more b28.size)
  replace Ic := hide (((unhide Ic).below b28).more b28.size)
  replace Ix := hide (((unhide Ix).below b28).more b28.size)
  replace Iy := hide (((unhide Iy).below b28).more b28.size)
  clear b28
  go_wp2_with fail
  go_ret
  exact ⟨rfl, unhide HB⟩

set_option maxHeartbeats 4000000 in
theorem Lattice_20 (A A' A'' : Option Addr) (n c n' c' n'' c'' : Nat) (xs ys zs : List Int) (w : World) (h : Ints w w.heap.size A n c xs) (h' : Ints w w.heap.size A' n' c' ys) (h'' : Ints w w.heap.size A'' n'' c'' zs)
    (hn : n ≤ 17592186044416) (hn' : n' ≤ 17592186044416) (hn'' : n'' ≤ 17592186044416) (m : Nat) (ha : Hid (IsP xs m)) (hb : Hid (IsP ys m)) (hc : Hid (IsP zs m)) (p1 : Hid (unevR xs zs = true)) (p2 : Hid (unevR ys zs = true)) (q1 : Hid (unevR zs xs = false)) :
    Calls Try.prog 14 #[.slice A n c, .slice A' n' c', .slice A'' n'' c''] w fun e w' => e = .returned (.bool true) ∧ Below w.heap.size w w' := by
  have HB := hide (Below.refl w.heap.size w)
  have Ia := hide h; have Ib := hide h'; have Ic := hide h''; clear h h' h''
  have tIa := hide ha.out.take; have tIb := hide hb.out.take
  have hx := hide (meet_isP ha.out hb.out); have hy := hide (join_isP ha.out hb.out)
  have hab := hide (isP_oneSum ha.out hb.out)
  have hux := hide (show decide (meetF ys xs = meetF xs ys) = true from by rw [decide_eq_true_eq, meet_comm])
  have hvy := hide (show decide (joinF ys xs = joinF xs ys) = true from by rw [decide_eq_true_eq, join_comm])
  have hxa := hide (isP_oneSum hx.out ha.out); have hya := hide (isP_oneSum hy.out ha.out)
  have dax := hide ((unevR_dom ha.out hx.out).2 (dom_meet_left ha.out hb.out))
  have dbx := hide ((unevR_dom hb.out hx.out).2 (by rw [meet_comm]; exact dom_meet_left hb.out ha.out))
  have dya := hide ((unevR_dom hy.out ha.out).2 (dom_join_left ha.out hb.out))
  have dyb := hide ((unevR_dom hy.out hb.out).2 (by rw [join_comm]; exact dom_join_left hb.out ha.out))
  have hca := hide (isP_oneSum hc.out ha.out)
  have p3 := hide ((unevR_dom hx.out hc.out).2 (dom_meet ha.out hb.out ((unevR_dom ha.out hc.out).1 p1.out) ((unevR_dom hb.out hc.out).1 p2.out)))
  go_enter Try.func14, Try.ntmps14
  go_wp2_with fail
  refine (list_ints _ _ _ _ _ _ (unhide Ia)).mono ?_
  rintro e w1 ⟨A1, n1, c1, rfl, i1, b1⟩
  replace HB := hide ((unhide HB).trans (b1.mono (unhide HB).size))
  replace Ia := hide (((unhide Ia).below b1).more b1.size)
  replace Ib := hide (((unhide Ib).below b1).more b1.size)
  replace Ic := hide (((unhide Ic).below b1).more b1.size)
  clear b1
  rw [tIa.out] at i1
  have I1 := hide i1
  clear i1
  go_wp2_with fail
  refine (list_ints _ _ _ _ _ _ (unhide Ib)).mono ?_
  rintro e w2 ⟨A2, n2, c2, rfl, i2, b2⟩
  replace HB := hide ((unhide HB).trans (b2.mono (unhide HB).size))
  replace Ia := hide (((unhide Ia).below b2).more b2.size)
  replace Ib := hide (((unhide Ib).below b2).more b2.size)
  replace Ic := hide (((unhide Ic).below b2).more b2.size)
  replace I1 := hide (((unhide I1).below b2).more b2.size)
  clear b2
  rw [tIb.out] at i2
  have I2 := hide i2
  clear i2
  go_wp2_with fail
  refine (Meet_ok _ _ _ _ _ _ _ _ _ (unhide I1) (unhide I2) m ha hb).mono ?_
  rintro e w3 ⟨A3, n3, c3, rfl, i3, b3⟩
  replace HB := hide ((unhide HB).trans (b3.mono (unhide HB).size))
  replace Ia := hide (((unhide Ia).below b3).more b3.size)
  replace Ib := hide (((unhide Ib).below b3).more b3.size)
  replace Ic := hide (((unhide Ic).below b3).more b3.size)
  replace I1 := hide (((unhide I1).below b3).more b3.size)
  replace I2 := hide (((unhide I2).below b3).more b3.size)
  clear b3
  have Ix := hide i3
  clear i3
  clear I1
  clear I2
  go_wp2_with fail
  refine (list_ints _ _ _ _ _ _ (unhide Ia)).mono ?_
  rintro e w4 ⟨A4, n4, c4, rfl, i4, b4⟩
  replace HB := hide ((unhide HB).trans (b4.mono (unhide HB).size))
  replace Ia := hide (((unhide Ia).below b4).more b4.size)
  replace Ib := hide (((unhide Ib).below b4).more b4.size)
  replace Ic := hide (((unhide Ic).below b4).more b4.size)
  replace Ix := hide (((unhide Ix).below b4).more b4.size)
  clear b4
  rw [tIa.out] at i4
  have I1 := hide i4
  clear i4
  go_wp2_with fail
  refine (list_ints _ _ _ _ _ _ (unhide Ib)).mono ?_
  rintro e w5 ⟨A5, n5, c5, rfl, i5, b5⟩
  replace HB := hide ((unhide HB).trans (b5.mono (unhide HB).size))
  replace Ia := hide (((unhide Ia).below b5).more b5.size)
  replace Ib := hide (((unhide Ib).below b5).more b5.size)
  replace Ic := hide (((unhide Ic).below b5).more b5.size)
  replace Ix := hide (((unhide Ix).below b5).more b5.size)
  replace I1 := hide (((unhide I1).below b5).more b5.size)
  clear b5
  rw [tIb.out] at i5
  have I2 := hide i5
  clear i5
  go_wp2_with fail
  refine (Join_ok _ _ _ _ _ _ _ _ _ (unhide I1) (unhide I2) m ha hb).mono ?_
  rintro e w6 ⟨A6, n6, c6, rfl, i6, b6⟩
  replace HB := hide ((unhide HB).trans (b6.mono (unhide HB).size))
  replace Ia := hide (((unhide Ia).below b6).more b6.size)
  replace Ib := hide (((unhide Ib).below b6).more b6.size)
  replace Ic := hide (((unhide Ic).below b6).more b6.size)
  replace Ix := hide (((unhide Ix).below b6).more b6.size)
  replace I1 := hide (((unhide I1).below b6).more b6.size)
  replace I2 := hide (((unhide I2).below b6).more b6.size)
  clear b6
  have Iy := hide i6
  clear i6
  clear I1
  clear I2
  go_wp2_with fail
  refine (lparts_is _ _ _ _ _ _ _ _ _ _ _ (unhide Ia) (unhide Ib) hn hn' true hab).mono ?_
  rintro e w7 ⟨rfl, b7⟩
  replace HB := hide ((unhide HB).trans (b7.mono (unhide HB).size))
  replace Ia := hide (((unhide Ia).below b7).more b7.size)
  replace Ib := hide (((unhide Ib).below b7).more b7.size)
  replace Ic := hide (((unhide Ic).below b7).more b7.size)
  replace Ix := hide (((unhide Ix).below b7).more b7.size)
  replace Iy := hide (((unhide Iy).below b7).more b7.size)
  clear b7
  go_wp2_with fail
  refine (list_ints _ _ _ _ _ _ (unhide Ib)).mono ?_
  rintro e w8 ⟨A8, n8, c8, rfl, i8, b8⟩
  replace HB := hide ((unhide HB).trans (b8.mono (unhide HB).size))
  replace Ia := hide (((unhide Ia).below b8).more b8.size)
  replace Ib := hide (((unhide Ib).below b8).more b8.size)
  replace Ic := hide (((unhide Ic).below b8).more b8.size)
  replace Ix := hide (((unhide Ix).below b8).more b8.size)
  replace Iy := hide (((unhide Iy).below b8).more b8.size)
  clear b8
  rw [tIb.out] at i8
  have I1 := hide i8
  clear i8
  go_wp2_with fail
  refine (list_ints _ _ _ _ _ _ (unhide Ia)).mono ?_
  rintro e w9 ⟨A9, n9, c9, rfl, i9, b9⟩
  replace HB := hide ((unhide HB).trans (b9.mono (unhide HB).size))
  replace Ia := hide (((unhide Ia).below b9).more b9.size)
  replace Ib := hide (((unhide Ib).below b9).more b9.size)
  replace Ic := hide (((unhide Ic).below b9).more b9.size)
  replace Ix := hide (((unhide Ix).below b9).more b9.size)
  replace Iy := hide (((unhide Iy).below b9).more b9.size)
  replace I1 := hide (((unhide I1).below b9).more b9.size)
  clear b9
  rw [tIa.out] at i9
  have I2 := hide i9
  clear i9
  go_wp2_with fail
  refine (Meet_ok _ _ _ _ _ _ _ _ _ (unhide I1) (unhide I2) m hb ha).mono ?_
  rintro e w10 ⟨A10, n10, c10, rfl, i10, b10⟩
  replace HB := hide ((unhide HB).trans (b10.mono (unhide HB).size))
  replace Ia := hide (((unhide Ia).below b10).more b10.size)
  replace Ib := hide (((unhide Ib).below b10).more b10.size)
  replace Ic := hide (((unhide Ic).below b10).more b10.size)
  replace Ix := hide (((unhide Ix).below b10).more b10.size)
  replace Iy := hide (((unhide Iy).below b10).more b10.size)
  replace I1 := hide (((unhide I1).below b10).more b10.size)
  replace I2 := hide (((unhide I2).below b10).more b10.size)
  clear b10
  have Iu := hide i10
  clear i10
  clear I1
  clear I2
  go_wp2_with fail
  refine (list_ints _ _ _ _ _ _ (unhide Ib)).mono ?_
  rintro e w11 ⟨A11, n11, c11, rfl, i11, b11⟩
  replace HB := hide ((unhide HB).trans (b11.mono (unhide HB).size))
  replace Ia := hide (((unhide Ia).below b11).more b11.size)
  replace Ib := hide (((unhide Ib).below b11).more b11.size)
  replace Ic := hide (((unhide Ic).below b11).more b11.size)
  replace Ix := hide (((unhide Ix).below b11).more b11.size)
  replace Iy := hide (((unhide Iy).below b11).more b11.size)
  replace Iu := hide (((unhide Iu).below b11).more b11.size)
  clear b11
  rw [tIb.out] at i11
  have I1 := hide i11
  clear i11
  go_wp2_with fail
  refine (list_ints _ _ _ _ _ _ (unhide Ia)).mono ?_
  rintro e w12 ⟨A12, n12, c12, rfl, i12, b12⟩
  replace HB := hide ((unhide HB).trans (b12.mono (unhide HB).size))
  replace Ia := hide (((unhide Ia).below b12).more b12.size)
  replace Ib := hide (((unhide Ib).below b12).more b12.size)
  replace Ic := hide (((unhide Ic).below b12).more b12.size)
  replace Ix := hide (((unhide Ix).below b12).more b12.size)
  replace Iy := hide (((unhide Iy).below b12).more b12.size)
  replace Iu := hide (((unhide Iu).below b12).more b12.size)
  replace I1 := hide (((unhide I1).below b12).more b12.size)
  clear b12
  rw [tIa.out] at i12
  have I2 := hide i12
  clear i12
  go_wp2_with fail
  refine (Join_ok _ _ _ _ _ _ _ _ _ (unhide I1) (unhide I2) m hb ha).mono ?_
  rintro e w13 ⟨A13, n13, c13, rfl, i13, b13⟩
  replace HB := hide ((unhide HB).trans (b13.mono (unhide HB).size))
  replace Ia := hide (((unhide Ia).below b13).more b13.size)
  replace Ib := hide (((unhide Ib).below b13).more b13.size)
  replace Ic := hide (((unhide Ic).below b13).more b13.size)
  replace Ix := hide (((unhide Ix).below b13).more b13.size)
  replace Iy := hide (((unhide Iy).below b13).more b13.size)
  replace Iu := hide (((unhide Iu).below b13).more b13.size)
  replace I1 := hide (((unhide I1).below b13).more b13.size)
  replace I2 := hide (((unhide I2).below b13).more b13.size)
  clear b13
  have Iv := hide i13
  clear i13
  clear I1
  clear I2
  go_wp2_with fail
  refine (equal_any _ _ _ _ _ _ _ _ _ _ _ (unhide Iu) (unhide Ix) true hux).mono ?_
  rintro e w14 ⟨rfl, b14⟩
  replace HB := hide ((unhide HB).trans (b14.mono (unhide HB).size))
  replace Ia := hide (((unhide Ia).below b14).more b14.size)
  replace Ib := hide (((unhide Ib).below b14).more b14.size)
  replace Ic := hide (((unhide Ic).below b14).more b14.size)
  replace Ix := hide (((unhide Ix).below b14).more b14.size)
  replace Iy := hide (((unhide Iy).below b14).more b14.size)
  replace Iu := hide (((unhide Iu).below b14).more b14.size)
  replace Iv := hide (((unhide Iv).below b14).more b14.size)
  clear b14
  clear Iu
  go_wp2_with fail
  refine (equal_any _ _ _ _ _ _ _ _ _ _ _ (unhide Iv) (unhide Iy) true hvy).mono ?_
  rintro e w15 ⟨rfl, b15⟩
  replace HB := hide ((unhide HB).trans (b15.mono (unhide HB).size))
  replace Ia := hide (((unhide Ia).below b15).more b15.size)
  replace Ib := hide (((unhide Ib).below b15).more b15.size)
  replace Ic := hide (((unhide Ic).below b15).more b15.size)
  replace Ix := hide (((unhide Ix).below b15).more b15.size)
  replace Iy := hide (((unhide Iy).below b15).more b15.size)
  replace Iv := hide (((unhide Iv).below b15).more b15.size)
  clear b15
  clear Iv
  go_wp2_with fail
  refine (lparts_is _ _ _ _ _ _ _ _ _ _ _ (unhide Ix) (unhide Ia) (by have := (unhide Ix).len; have := hx.out.len12; omega) hn true hxa).mono ?_
  rintro e w16 ⟨rfl, b16⟩
  replace HB := hide ((unhide HB).trans (b16.mono (unhide HB).size))
  replace Ia := hide (((unhide Ia).below b16).more b16.size)
  replace Ib := hide (((unhide Ib).below b16).more b16.size)
  replace Ic := hide (((unhide Ic).below b16).more b16.size)
  replace Ix := hide (((unhide Ix).below b16).more b16.size)
  replace Iy := hide (((unhide Iy).below b16).more b16.size)
  clear b16
  go_wp2_with fail
  refine (lparts_is _ _ _ _ _ _ _ _ _ _ _ (unhide Iy) (unhide Ia) (by have := (unhide Iy).len; have := hy.out.len12; omega) hn true hya).mono ?_
  rintro e w17 ⟨rfl, b17⟩
  replace HB := hide ((unhide HB).trans (b17.mono (unhide HB).size))
  replace Ia := hide (((unhide Ia).below b17).more b17.size)
  replace Ib := hide (((unhide Ib).below b17).more b17.size)
  replace Ic := hide (((unhide Ic).below b17).more b17.size)
  replace Ix := hide (((unhide Ix).below b17).more b17.size)
  replace Iy := hide (((unhide Iy).below b17).more b17.size)
  clear b17
  go_wp2_with fail
  refine (unevP _ _ _ _ _ _ _ _ _ (unhide Ia) (unhide Ix) m ha hx true dax).mono ?_
  rintro e w18 ⟨rfl, b18⟩
  replace HB := hide ((unhide HB).trans (b18.mono (unhide HB).size))
  replace Ia := hide (((unhide Ia).below b18).more b18.size)
  replace Ib := hide (((unhide Ib).below b18).more b18.size)
  replace Ic := hide (((unhide Ic).below b18).more b18.size)
  replace Ix := hide (((unhide Ix).below b18).more b18.size)
  replace Iy := hide (((unhide Iy).below b18).more b18.size)
  clear b18
  go_wp2_with fail
  refine (unevP _ _ _ _ _ _ _ _ _ (unhide Ib) (unhide Ix) m hb hx true dbx).mono ?_
  rintro e w19 ⟨rfl, b19⟩
  replace HB := hide ((unhide HB).trans (b19.mono (unhide HB).size))
  replace Ia := hide (((unhide Ia).below b19).more b19.size)
  replace Ib := hide (((unhide Ib).below b19).more b19.size)
  replace Ic := hide (((unhide Ic).below b19).more b19.size)
  replace Ix := hide (((unhide Ix).below b19).more b19.size)
  replace Iy := hide (((unhide Iy).below b19).more b19.size)
  clear b19
  go_wp2_with fail
  refine (unevP _ _ _ _ _ _ _ _ _ (unhide Iy) (unhide Ia) m hy ha true dya).mono ?_
  rintro e w20 ⟨rfl, b20⟩
  replace HB := hide ((unhide HB).trans (b20.mono (unhide HB).size))
  replace Ia := hide (((unhide Ia).below b20).more b20.size)
  replace Ib := hide (((unhide Ib).below b20).more b20.size)
  replace Ic := hide (((unhide Ic).below b20).more b20.size)
  replace Ix := hide (((unhide Ix).below b20).more b20.size)
  replace Iy := hide (((unhide Iy).below b20).more b20.size)
  clear b20
  go_wp2_with fail
  refine (unevP _ _ _ _ _ _ _ _ _ (unhide Iy) (unhide Ib) m hy hb true dyb).mono ?_
  rintro e w21 ⟨rfl, b21⟩
  replace HB := hide ((unhide HB).trans (b21.mono (unhide HB).size))
  replace Ia := hide (((unhide Ia).below b21).more b21.size)
  replace Ib := hide (((unhide Ib).below b21).more b21.size)
  replace Ic := hide (((unhide Ic).below b21).more b21.size)
  replace Ix := hide (((unhide Ix).below b21).more b21.size)
  replace Iy := hide (((unhide Iy).below b21).more b21.size)
  clear b21
  go_wp2_with fail
  refine (lparts_is _ _ _ _ _ _ _ _ _ _ _ (unhide Ic) (unhide Ia) hn'' hn true hca).mono ?_
  rintro e w22 ⟨rfl, b22⟩
  replace HB := hide ((unhide HB).trans (b22.mono (unhide HB).size))
  replace Ia := hide (((unhide Ia).below b22).more b22.size)
  replace Ib := hide (((unhide Ib).below b22).more b22.size)
  replace Ic := hide (((unhide Ic).below b22).more b22.size)
  replace Ix := hide (((unhide Ix).below b22).more b22.size)
  replace Iy := hide (((unhide Iy).below b22).more b22.size)
  clear b22
  go_wp2_with fail
  refine (unevP _ _ _ _ _ _ _ _ _ (unhide Ia) (unhide Ic) m ha hc true p1).mono ?_
  rintro e w23 ⟨rfl, b23⟩
  replace HB := hide ((unhide HB).trans (b23.mono (unhide HB).size))
  replace Ia := hide (((unhide Ia).below b23).more b23.size)
  replace Ib := hide (((unhide Ib).below b23).more b23.size)
  replace Ic := hide (((unhide Ic).below b23).more b23.size)
  replace Ix := hide (((unhide Ix).below b23).more b23.size)
  replace Iy := hide (((unhide Iy).below b23).more b23.size)
  clear b23
  go_wp2_with fail
  refine (unevP _ _ _ _ _ _ _ _ _ (unhide Ib) (unhide Ic) m hb hc true p2).mono ?_
  rintro e w24 ⟨rfl, b24⟩
  replace HB := hide ((unhide HB).trans (b24.mono (unhide HB).size))
  replace Ia := hide (((unhide Ia).below b24).more b24.size)
  replace Ib := hide (((unhide Ib).below b24).more b24.size)
  replace Ic := hide (((unhide Ic).below b24).more b24.size)
  replace Ix := hide (((unhide Ix).below b24).more b24.size)
  replace Iy := hide (((unhide Iy).below b24).more b24.size)
  clear b24
  go_wp2_with fail
  refine (unevP _ _ _ _ _ _ _ _ _ (unhide Ix) (unhide Ic) m hx hc true p3).mono ?_
  rintro e w25 ⟨rfl, b25⟩
  replace HB := hide ((unhide HB).trans (b25.mono (unhide HB).size))
  replace Ia := hide (((unhide Ia).below b25).more b25.size)
  replace Ib := hide (((unhide Ib).below b25).more b25.size)
  replace Ic := hide (((unhide Ic).below b25).more b25.size)
  replace Ix := hide (((unhide Ix).below b25).more b25.size)
  replace Iy := hide (((unhide Iy).below b25).more b25.size)
  clear b25
  go_wp2_with fail
  refine (unevP _ _ _ _ _ _ _ _ _ (unhide Ic) (unhide Ia) m hc ha false q1).mono ?_
  rintro e w26 ⟨rfl, b26⟩
  replace HB := hide ((unhide HB).trans (b26.mono (unhide HB).size))
  replace Ia := hide (((unhide Ia).below b26).more b26.size)
  replace Ib := hide (((unhide Ib).below b26).more b26.size)
  replace Ic := hide (((unhide Ic).below b26).more b26.size)
  replace Ix := hide (((unhide Ix).below b26).more b26.size)
  replace Iy := hide (((unhide Iy).below b26).more b26.size)
  clear b26
  go_wp2_with fail
  refine (awake_any _).mono ?_
  rintro e w27 ⟨rfl, b27⟩
  replace HB := hide ((unhide HB).trans (b27.mono (unhide HB).size))
  replace Ia := hide (((unhide Ia).below b27).more b27.size)
  replace Ib := hide (((unhide Ib).below b27).more b27.size)
  replace Ic := hide (((unhide Ic).below b27).more b27.size)
  replace Ix := hide (((unhide Ix).below b27).more b27.size)
  replace Iy := hide (((unhide Iy).below b27).more b27.size)
  clear b27
  go_wp2_with fail
  go_ret
  exact ⟨rfl, unhide HB⟩

set_option maxHeartbeats 4000000 in
theorem Lattice_21 (A A' A'' : Option Addr) (n c n' c' n'' c'' : Nat) (xs ys zs : List Int) (w : World) (h : Ints w w.heap.size A n c xs) (h' : Ints w w.heap.size A' n' c' ys) (h'' : Ints w w.heap.size A'' n'' c'' zs)
    (hn : n ≤ 17592186044416) (hn' : n' ≤ 17592186044416) (hn'' : n'' ≤ 17592186044416) (m : Nat) (ha : Hid (IsP xs m)) (hb : Hid (IsP ys m)) (hc : Hid (IsP zs m)) (p1 : Hid (unevR xs zs = true)) (p2 : Hid (unevR ys zs = true)) (q1 : Hid (unevR zs xs = true)) (q2 : Hid (unevR zs ys = false)) :
    Calls Try.prog 14 #[.slice A n c, .slice A' n' c', .slice A'' n'' c''] w fun e w' => e = .returned (.bool true) ∧ Below w.heap.size w w' := by
  have HB := hide (Below.refl w.heap.size w)
  have Ia := hide h; have Ib := hide h'; have Ic := hide h''; clear h h' h''
  have tIa := hide ha.out.take; have tIb := hide hb.out.take
  have hx := hide (meet_isP ha.out hb.out); have hy := hide (join_isP ha.out hb.out)
  have hab := hide (isP_oneSum ha.out hb.out)
  have hux := hide (show decide (meetF ys xs = meetF xs ys) = true from by rw [decide_eq_true_eq, meet_comm])
  have hvy := hide (show decide (joinF ys xs = joinF xs ys) = true from by rw [decide_eq_true_eq, join_comm])
  have hxa := hide (isP_oneSum hx.out ha.out); have hya := hide (isP_oneSum hy.out ha.out)
  have dax := hide ((unevR_dom ha.out hx.out).2 (dom_meet_left ha.out hb.out))
  have dbx := hide ((unevR_dom hb.out hx.out).2 (by rw [meet_comm]; exact dom_meet_left hb.out ha.out))
  have dya := hide ((unevR_dom hy.out ha.out).2 (dom_join_left ha.out hb.out))
  have dyb := hide ((unevR_dom hy.out hb.out).2 (by rw [join_comm]; exact dom_join_left hb.out ha.out))
  have hca := hide (isP_oneSum hc.out ha.out)
  have p3 := hide ((unevR_dom hx.out hc.out).2 (dom_meet ha.out hb.out ((unevR_dom ha.out hc.out).1 p1.out) ((unevR_dom hb.out hc.out).1 p2.out)))
  go_enter Try.func14, Try.ntmps14
  go_wp2_with fail
  refine (list_ints _ _ _ _ _ _ (unhide Ia)).mono ?_
  rintro e w1 ⟨A1, n1, c1, rfl, i1, b1⟩
  replace HB := hide ((unhide HB).trans (b1.mono (unhide HB).size))
  replace Ia := hide (((unhide Ia).below b1).more b1.size)
  replace Ib := hide (((unhide Ib).below b1).more b1.size)
  replace Ic := hide (((unhide Ic).below b1).more b1.size)
  clear b1
  rw [tIa.out] at i1
  have I1 := hide i1
  clear i1
  go_wp2_with fail
  refine (list_ints _ _ _ _ _ _ (unhide Ib)).mono ?_
  rintro e w2 ⟨A2, n2, c2, rfl, i2, b2⟩
  replace HB := hide ((unhide HB).trans (b2.mono (unhide HB).size))
  replace Ia := hide (((unhide Ia).below b2).more b2.size)
  replace Ib := hide (((unhide Ib).below b2).more b2.size)
  replace Ic := hide (((unhide Ic).below b2).more b2.size)
  replace I1 := hide (((unhide I1).below b2).more b2.size)
  clear b2
  rw [tIb.out] at i2
  have I2 := hide i2
  clear i2
  go_wp2_with fail
  refine (Meet_ok _ _ _ _ _ _ _ _ _ (unhide I1) (unhide I2) m ha hb).mono ?_
  rintro e w3 ⟨A3, n3, c3, rfl, i3, b3⟩
  replace HB := hide ((unhide HB).trans (b3.mono (unhide HB).size))
  replace Ia := hide (((unhide Ia).below b3).more b3.size)
  replace Ib := hide (((unhide Ib).below b3).more b3.size)
  replace Ic := hide (((unhide Ic).below b3).more b3.size)
  replace I1 := hide (((unhide I1).below b3).more b3.size)
  replace I2 := hide (((unhide I2).below b3).more b3.size)
  clear b3
  have Ix := hide i3
  clear i3
  clear I1
  clear I2
  go_wp2_with fail
  refine (list_ints _ _ _ _ _ _ (unhide Ia)).mono ?_
  rintro e w4 ⟨A4, n4, c4, rfl, i4, b4⟩
  replace HB := hide ((unhide HB).trans (b4.mono (unhide HB).size))
  replace Ia := hide (((unhide Ia).below b4).more b4.size)
  replace Ib := hide (((unhide Ib).below b4).more b4.size)
  replace Ic := hide (((unhide Ic).below b4).more b4.size)
  replace Ix := hide (((unhide Ix).below b4).more b4.size)
  clear b4
  rw [tIa.out] at i4
  have I1 := hide i4
  clear i4
  go_wp2_with fail
  refine (list_ints _ _ _ _ _ _ (unhide Ib)).mono ?_
  rintro e w5 ⟨A5, n5, c5, rfl, i5, b5⟩
  replace HB := hide ((unhide HB).trans (b5.mono (unhide HB).size))
  replace Ia := hide (((unhide Ia).below b5).more b5.size)
  replace Ib := hide (((unhide Ib).below b5).more b5.size)
  replace Ic := hide (((unhide Ic).below b5).more b5.size)
  replace Ix := hide (((unhide Ix).below b5).more b5.size)
  replace I1 := hide (((unhide I1).below b5).more b5.size)
  clear b5
  rw [tIb.out] at i5
  have I2 := hide i5
  clear i5
  go_wp2_with fail
  refine (Join_ok _ _ _ _ _ _ _ _ _ (unhide I1) (unhide I2) m ha hb).mono ?_
  rintro e w6 ⟨A6, n6, c6, rfl, i6, b6⟩
  replace HB := hide ((unhide HB).trans (b6.mono (unhide HB).size))
  replace Ia := hide (((unhide Ia).below b6).more b6.size)
  replace Ib := hide (((unhide Ib).below b6).more b6.size)
  replace Ic := hide (((unhide Ic).below b6).more b6.size)
  replace Ix := hide (((unhide Ix).below b6).more b6.size)
  replace I1 := hide (((unhide I1).below b6).more b6.size)
  replace I2 := hide (((unhide I2).below b6).more b6.size)
  clear b6
  have Iy := hide i6
  clear i6
  clear I1
  clear I2
  go_wp2_with fail
  refine (lparts_is _ _ _ _ _ _ _ _ _ _ _ (unhide Ia) (unhide Ib) hn hn' true hab).mono ?_
  rintro e w7 ⟨rfl, b7⟩
  replace HB := hide ((unhide HB).trans (b7.mono (unhide HB).size))
  replace Ia := hide (((unhide Ia).below b7).more b7.size)
  replace Ib := hide (((unhide Ib).below b7).more b7.size)
  replace Ic := hide (((unhide Ic).below b7).more b7.size)
  replace Ix := hide (((unhide Ix).below b7).more b7.size)
  replace Iy := hide (((unhide Iy).below b7).more b7.size)
  clear b7
  go_wp2_with fail
  refine (list_ints _ _ _ _ _ _ (unhide Ib)).mono ?_
  rintro e w8 ⟨A8, n8, c8, rfl, i8, b8⟩
  replace HB := hide ((unhide HB).trans (b8.mono (unhide HB).size))
  replace Ia := hide (((unhide Ia).below b8).more b8.size)
  replace Ib := hide (((unhide Ib).below b8).more b8.size)
  replace Ic := hide (((unhide Ic).below b8).more b8.size)
  replace Ix := hide (((unhide Ix).below b8).more b8.size)
  replace Iy := hide (((unhide Iy).below b8).more b8.size)
  clear b8
  rw [tIb.out] at i8
  have I1 := hide i8
  clear i8
  go_wp2_with fail
  refine (list_ints _ _ _ _ _ _ (unhide Ia)).mono ?_
  rintro e w9 ⟨A9, n9, c9, rfl, i9, b9⟩
  replace HB := hide ((unhide HB).trans (b9.mono (unhide HB).size))
  replace Ia := hide (((unhide Ia).below b9).more b9.size)
  replace Ib := hide (((unhide Ib).below b9).more b9.size)
  replace Ic := hide (((unhide Ic).below b9).more b9.size)
  replace Ix := hide (((unhide Ix).below b9).more b9.size)
  replace Iy := hide (((unhide Iy).below b9).more b9.size)
  replace I1 := hide (((unhide I1).below b9).more b9.size)
  clear b9
  rw [tIa.out] at i9
  have I2 := hide i9
  clear i9
  go_wp2_with fail
  refine (Meet_ok _ _ _ _ _ _ _ _ _ (unhide I1) (unhide I2) m hb ha).mono ?_
  rintro e w10 ⟨A10, n10, c10, rfl, i10, b10⟩
  replace HB := hide ((unhide HB).trans (b10.mono (unhide HB).size))
  replace Ia := hide (((unhide Ia).below b10).more b10.size)
  replace Ib := hide (((unhide Ib).below b10).more b10.size)
  replace Ic := hide (((unhide Ic).below b10).more b10.size)
  replace Ix := hide (((unhide Ix).below b10).more b10.size)
  replace Iy := hide (((unhide Iy).below b10).more b10.size)
  replace I1 := hide (((unhide I1).below b10).more b10.size)
  replace I2 := hide (((unhide I2).below b10).more b10.size)
  clear b10
  have Iu := hide i10
  clear i10
  clear I1
  clear I2
  go_wp2_with fail
  refine (list_ints _ _ _ _ _ _ (unhide Ib)).mono ?_
  rintro e w11 ⟨A11, n11, c11, rfl, i11, b11⟩
  replace HB := hide ((unhide HB).trans (b11.mono (unhide HB).size))
  replace Ia := hide (((unhide Ia).below b11).more b11.size)
  replace Ib := hide (((unhide Ib).below b11).more b11.size)
  replace Ic := hide (((unhide Ic).below b11).more b11.size)
  replace Ix := hide (((unhide Ix).below b11).more b11.size)
  replace Iy := hide (((unhide Iy).below b11).more b11.size)
  replace Iu := hide (((unhide Iu).below b11).more b11.size)
  clear b11
  rw [tIb.out] at i11
  have I1 := hide i11
  clear i11
  go_wp2_with fail
  refine (list_ints _ _ _ _ _ _ (unhide Ia)).mono ?_
  rintro e w12 ⟨A12, n12, c12, rfl, i12, b12⟩
  replace HB := hide ((unhide HB).trans (b12.mono (unhide HB).size))
  replace Ia := hide (((unhide Ia).below b12).more b12.size)
  replace Ib := hide (((unhide Ib).below b12).more b12.size)
  replace Ic := hide (((unhide Ic).below b12).more b12.size)
  replace Ix := hide (((unhide Ix).below b12).more b12.size)
  replace Iy := hide (((unhide Iy).below b12).more b12.size)
  replace Iu := hide (((unhide Iu).below b12).more b12.size)
  replace I1 := hide (((unhide I1).below b12).more b12.size)
  clear b12
  rw [tIa.out] at i12
  have I2 := hide i12
  clear i12
  go_wp2_with fail
  refine (Join_ok _ _ _ _ _ _ _ _ _ (unhide I1) (unhide I2) m hb ha).mono ?_
  rintro e w13 ⟨A13, n13, c13, rfl, i13, b13⟩
  replace HB := hide ((unhide HB).trans (b13.mono (unhide HB).size))
  replace Ia := hide (((unhide Ia).below b13).more b13.size)
  replace Ib := hide (((unhide Ib).below b13).more b13.size)
  replace Ic := hide (((unhide Ic).below b13).more b13.size)
  replace Ix := hide (((unhide Ix).below b13).more b13.size)
  replace Iy := hide (((unhide Iy).below b13).more b13.size)
  replace Iu := hide (((unhide Iu).below b13).more b13.size)
  replace I1 := hide (((unhide I1).below b13).more b13.size)
  replace I2 := hide (((unhide I2).below b13).more b13.size)
  clear b13
  have Iv := hide i13
  clear i13
  clear I1
  clear I2
  go_wp2_with fail
  refine (equal_any _ _ _ _ _ _ _ _ _ _ _ (unhide Iu) (unhide Ix) true hux).mono ?_
  rintro e w14 ⟨rfl, b14⟩
  replace HB := hide ((unhide HB).trans (b14.mono (unhide HB).size))
  replace Ia := hide (((unhide Ia).below b14).more b14.size)
  replace Ib := hide (((unhide Ib).below b14).more b14.size)
  replace Ic := hide (((unhide Ic).below b14).more b14.size)
  replace Ix := hide (((unhide Ix).below b14).more b14.size)
  replace Iy := hide (((unhide Iy).below b14).more b14.size)
  replace Iu := hide (((unhide Iu).below b14).more b14.size)
  replace Iv := hide (((unhide Iv).below b14).more b14.size)
  clear b14
  clear Iu
  go_wp2_with fail
  refine (equal_any _ _ _ _ _ _ _ _ _ _ _ (unhide Iv) (unhide Iy) true hvy).mono ?_
  rintro e w15 ⟨rfl, b15⟩
  replace HB := hide ((unhide HB).trans (b15.mono (unhide HB).size))
  replace Ia := hide (((unhide Ia).below b15).more b15.size)
  replace Ib := hide (((unhide Ib).below b15).more b15.size)
  replace Ic := hide (((unhide Ic).below b15).more b15.size)
  replace Ix := hide (((unhide Ix).below b15).more b15.size)
  replace Iy := hide (((unhide Iy).below b15).more b15.size)
  replace Iv := hide (((unhide Iv).below b15).more b15.size)
  clear b15
  clear Iv
  go_wp2_with fail
  refine (lparts_is _ _ _ _ _ _ _ _ _ _ _ (unhide Ix) (unhide Ia) (by have := (unhide Ix).len; have := hx.out.len12; omega) hn true hxa).mono ?_
  rintro e w16 ⟨rfl, b16⟩
  replace HB := hide ((unhide HB).trans (b16.mono (unhide HB).size))
  replace Ia := hide (((unhide Ia).below b16).more b16.size)
  replace Ib := hide (((unhide Ib).below b16).more b16.size)
  replace Ic := hide (((unhide Ic).below b16).more b16.size)
  replace Ix := hide (((unhide Ix).below b16).more b16.size)
  replace Iy := hide (((unhide Iy).below b16).more b16.size)
  clear b16
  go_wp2_with fail
  refine (lparts_is _ _ _ _ _ _ _ _ _ _ _ (unhide Iy) (unhide Ia) (by have := (unhide Iy).len; have := hy.out.len12; omega) hn true hya).mono ?_
  rintro e w17 ⟨rfl, b17⟩
  replace HB := hide ((unhide HB).trans (b17.mono (unhide HB).size))
  replace Ia := hide (((unhide Ia).below b17).more b17.size)
  replace Ib := hide (((unhide Ib).below b17).more b17.size)
  replace Ic := hide (((unhide Ic).below b17).more b17.size)
  replace Ix := hide (((unhide Ix).below b17).more b17.size)
  replace Iy := hide (((unhide Iy).below b17).more b17.size)
  clear b17
  go_wp2_with fail
  refine (unevP _ _ _ _ _ _ _ _ _ (unhide Ia) (unhide Ix) m ha hx true dax).mono ?_
  rintro e w18 ⟨rfl, b18⟩
  replace HB := hide ((unhide HB).trans (b18.mono (unhide HB).size))
  replace Ia := hide (((unhide Ia).below b18).more b18.size)
  replace Ib := hide (((unhide Ib).below b18).more b18.size)
  replace Ic := hide (((unhide Ic).below b18).more b18.size)
  replace Ix := hide (((unhide Ix).below b18).more b18.size)
  replace Iy := hide (((unhide Iy).below b18).more b18.size)
  clear b18
  go_wp2_with fail
  refine (unevP _ _ _ _ _ _ _ _ _ (unhide Ib) (unhide Ix) m hb hx true dbx).mono ?_
  rintro e w19 ⟨rfl, b19⟩
  replace HB := hide ((unhide HB).trans (b19.mono (unhide HB).size))
  replace Ia := hide (((unhide Ia).below b19).more b19.size)
  replace Ib := hide (((unhide Ib).below b19).more b19.size)
  replace Ic := hide (((unhide Ic).below b19).more b19.size)
  replace Ix := hide (((unhide Ix).below b19).more b19.size)
  replace Iy := hide (((unhide Iy).below b19).more b19.size)
  clear b19
  go_wp2_with fail
  refine (unevP _ _ _ _ _ _ _ _ _ (unhide Iy) (unhide Ia) m hy ha true dya).mono ?_
  rintro e w20 ⟨rfl, b20⟩
  replace HB := hide ((unhide HB).trans (b20.mono (unhide HB).size))
  replace Ia := hide (((unhide Ia).below b20).more b20.size)
  replace Ib := hide (((unhide Ib).below b20).more b20.size)
  replace Ic := hide (((unhide Ic).below b20).more b20.size)
  replace Ix := hide (((unhide Ix).below b20).more b20.size)
  replace Iy := hide (((unhide Iy).below b20).more b20.size)
  clear b20
  go_wp2_with fail
  refine (unevP _ _ _ _ _ _ _ _ _ (unhide Iy) (unhide Ib) m hy hb true dyb).mono ?_
  rintro e w21 ⟨rfl, b21⟩
  replace HB := hide ((unhide HB).trans (b21.mono (unhide HB).size))
  replace Ia := hide (((unhide Ia).below b21).more b21.size)
  replace Ib := hide (((unhide Ib).below b21).more b21.size)
  replace Ic := hide (((unhide Ic).below b21).more b21.size)
  replace Ix := hide (((unhide Ix).below b21).more b21.size)
  replace Iy := hide (((unhide Iy).below b21).more b21.size)
  clear b21
  go_wp2_with fail
  refine (lparts_is _ _ _ _ _ _ _ _ _ _ _ (unhide Ic) (unhide Ia) hn'' hn true hca).mono ?_
  rintro e w22 ⟨rfl, b22⟩
  replace HB := hide ((unhide HB).trans (b22.mono (unhide HB).size))
  replace Ia := hide (((unhide Ia).below b22).more b22.size)
  replace Ib := hide (((unhide Ib).below b22).more b22.size)
  replace Ic := hide (((unhide Ic).below b22).more b22.size)
  replace Ix := hide (((unhide Ix).below b22).more b22.size)
  replace Iy := hide (((unhide Iy).below b22).more b22.size)
  clear b22
  go_wp2_with fail
  refine (unevP _ _ _ _ _ _ _ _ _ (unhide Ia) (unhide Ic) m ha hc true p1).mono ?_
  rintro e w23 ⟨rfl, b23⟩
  replace HB := hide ((unhide HB).trans (b23.mono (unhide HB).size))
  replace Ia := hide (((unhide Ia).below b23).more b23.size)
  replace Ib := hide (((unhide Ib).below b23).more b23.size)
  replace Ic := hide (((unhide Ic).below b23).more b23.size)
  replace Ix := hide (((unhide Ix).below b23).more b23.size)
  replace Iy := hide (((unhide Iy).below b23).more b23.size)
  clear b23
  go_wp2_with fail
  refine (unevP _ _ _ _ _ _ _ _ _ (unhide Ib) (unhide Ic) m hb hc true p2).mono ?_
  rintro e w24 ⟨rfl, b24⟩
  replace HB := hide ((unhide HB).trans (b24.mono (unhide HB).size))
  replace Ia := hide (((unhide Ia).below b24).more b24.size)
  replace Ib := hide (((unhide Ib).below b24).more b24.size)
  replace Ic := hide (((unhide Ic).below b24).more b24.size)
  replace Ix := hide (((unhide Ix).below b24).more b24.size)
  replace Iy := hide (((unhide Iy).below b24).more b24.size)
  clear b24
  go_wp2_with fail
  refine (unevP _ _ _ _ _ _ _ _ _ (unhide Ix) (unhide Ic) m hx hc true p3).mono ?_
  rintro e w25 ⟨rfl, b25⟩
  replace HB := hide ((unhide HB).trans (b25.mono (unhide HB).size))
  replace Ia := hide (((unhide Ia).below b25).more b25.size)
  replace Ib := hide (((unhide Ib).below b25).more b25.size)
  replace Ic := hide (((unhide Ic).below b25).more b25.size)
  replace Ix := hide (((unhide Ix).below b25).more b25.size)
  replace Iy := hide (((unhide Iy).below b25).more b25.size)
  clear b25
  go_wp2_with fail
  refine (unevP _ _ _ _ _ _ _ _ _ (unhide Ic) (unhide Ia) m hc ha true q1).mono ?_
  rintro e w26 ⟨rfl, b26⟩
  replace HB := hide ((unhide HB).trans (b26.mono (unhide HB).size))
  replace Ia := hide (((unhide Ia).below b26).more b26.size)
  replace Ib := hide (((unhide Ib).below b26).more b26.size)
  replace Ic := hide (((unhide Ic).below b26).more b26.size)
  replace Ix := hide (((unhide Ix).below b26).more b26.size)
  replace Iy := hide (((unhide Iy).below b26).more b26.size)
  clear b26
  go_wp2_with fail
  refine (unevP _ _ _ _ _ _ _ _ _ (unhide Ic) (unhide Ib) m hc hb false q2).mono ?_
  rintro e w27 ⟨rfl, b27⟩
  replace HB := hide ((unhide HB).trans (b27.mono (unhide HB).size))
  replace Ia := hide (((unhide Ia).below b27).more b27.size)
  replace Ib := hide (((unhide Ib).below b27).more b27.size)
  replace Ic := hide (((unhide Ic).below b27).more b27.size)
  replace Ix := hide (((unhide Ix).below b27).more b27.size)
  replace Iy := hide (((unhide Iy).below b27).more b27.size)
  clear b27
  go_wp2_with fail
  refine (awake_any _).mono ?_
  rintro e w28 ⟨rfl, b28⟩
  replace HB := hide ((unhide HB).trans (b28.mono (unhide HB).size))
  replace Ia := hide (((unhide Ia).below b28).more b28.size)
  replace Ib := hide (((unhide Ib).below b28).more b28.size)
  replace Ic := hide (((unhide Ic).below b28).more b28.size)
  replace Ix := hide (((unhide Ix).below b28).more b28.size)
  replace Iy := hide (((unhide Iy).below b28).more b28.size)
  clear b28
  go_wp2_with fail
  go_ret
  exact ⟨rfl, unhide HB⟩

set_option maxHeartbeats 4000000 in
theorem Lattice_22 (A A' A'' : Option Addr) (n c n' c' n'' c'' : Nat) (xs ys zs : List Int) (w : World) (h : Ints w w.heap.size A n c xs) (h' : Ints w w.heap.size A' n' c' ys) (h'' : Ints w w.heap.size A'' n'' c'' zs)
    (hn : n ≤ 17592186044416) (hn' : n' ≤ 17592186044416) (hn'' : n'' ≤ 17592186044416) (m : Nat) (ha : Hid (IsP xs m)) (hb : Hid (IsP ys m)) (hc : Hid (IsP zs m)) (p1 : Hid (unevR xs zs = true)) (p2 : Hid (unevR ys zs = true)) (q1 : Hid (unevR zs xs = true)) (q2 : Hid (unevR zs ys = true)) :
    Calls Try.prog 14 #[.slice A n c, .slice A' n' c', .slice A'' n'' c''] w fun e w' => e = .returned (.bool true) ∧ Below w.heap.size w w' := by
  have HB := hide (Below.refl w.heap.size w)
  have Ia := hide h; have Ib := hide h'; have Ic := hide h''; clear h h' h''
  have tIa := hide ha.out.take; have tIb := hide hb.out.take
  have hx := hide (meet_isP ha.out hb.out); have hy := hide (join_isP ha.out hb.out)
  have hab := hide (isP_oneSum ha.out hb.out)
  have hux := hide (show decide (meetF ys xs = meetF xs ys) = true from by rw [decide_eq_true_eq, meet_comm])
  have hvy := hide (show decide (joinF ys xs = joinF xs ys) = true from by rw [decide_eq_true_eq, join_comm])
  have hxa := hide (isP_oneSum hx.out ha.out); have hya := hide (isP_oneSum hy.out ha.out)
  have dax := hide ((unevR_dom ha.out hx.out).2 (dom_meet_left ha.out hb.out))
  have dbx := hide ((unevR_dom hb.out hx.out).2 (by rw [meet_comm]; exact dom_meet_left hb.out ha.out))
  have dya := hide ((unevR_dom hy.out ha.out).2 (dom_join_left ha.out hb.out))
  have dyb := hide ((unevR_dom hy.out hb.out).2 (by rw [join_comm]; exact dom_join_left hb.out ha.out))
  have hca := hide (isP_oneSum hc.out ha.out)
  have p3 := hide ((unevR_dom hx.out hc.out).2 (dom_meet ha.out hb.out ((unevR_dom ha.out hc.out).1 p1.out) ((unevR_dom hb.out hc.out).1 p2.out)))
  have q3 := hide ((unevR_dom hc.out hy.out).2 (dom_join ha.out hb.out hc.out ((unevR_dom hc.out ha.out).1 q1.out) ((unevR_dom hc.out hb.out).1 q2.out)))
  go_enter Try.func14, Try.ntmps14
  go_wp2_with fail
  refine (list_ints _ _ _ _ _ _ (unhide Ia)).mono ?_
  rintro e w1 ⟨A1, n1, c1, rfl, i1, b1⟩
  replace HB := hide ((unhide HB).trans (b1.mono (unhide HB).size))
  replace Ia := hide (((unhide Ia).below b1).more b1.size)
  replace Ib := hide (((unhide Ib).below b1).more b1.size)
  replace Ic := hide (((unhide Ic).below b1).more b1.size)
  clear b1
  rw [tIa.out] at i1
  have I1 := hide i1
  clear i1
  go_wp2_with fail
  refine (list_ints _ _ _ _ _ _ (unhide Ib)).mono ?_
  rintro e w2 ⟨A2, n2, c2, rfl, i2, b2⟩
  replace HB := hide ((unhide HB).trans (b2.mono (unhide HB).size))
  replace Ia := hide (((unhide Ia).below b2).more b2.size)
  replace Ib := hide (((unhide Ib).below b2).more b2.size)
  replace Ic := hide (((unhide Ic).below b2).more b2.size)
  replace I1 := hide (((unhide I1).below b2).more b2.size)
  clear b2
  rw [tIb.out] at i2
  have I2 := hide i2
  clear i2
  go_wp2_with fail
  refine (Meet_ok _ _ _ _ _ _ _ _ _ (unhide I1) (unhide I2) m ha hb).mono ?_
  rintro e w3 ⟨A3, n3, c3, rfl, i3, b3⟩
  replace HB := hide ((unhide HB).trans (b3.mono (unhide HB).size))
  replace Ia := hide (((unhide Ia).below b3).more b3.size)
  replace Ib := hide (((unhide Ib).below b3).more b3.size)
  replace Ic := hide (((unhide Ic).below b3).more b3.size)
  replace I1 := hide (((unhide I1).below b3).more b3.size)
  replace I2 := hide (((unhide I2).below b3).more b3.size)
  clear b3
  have Ix := hide i3
  clear i3
  clear I1
  clear I2
  go_wp2_with fail
  refine (list_ints _ _ _ _ _ _ (unhide Ia)).mono ?_
  rintro e w4 ⟨A4, n4, c4, rfl, i4, b4⟩
  replace HB := hide ((unhide HB).trans (b4.mono (unhide HB).size))
  replace Ia := hide (((unhide Ia).below b4).more b4.size)
  replace Ib := hide (((unhide Ib).below b4).more b4.size)
  replace Ic := hide (((unhide Ic).below b4).more b4.size)
  replace Ix := hide (((unhide Ix).below b4).more b4.size)
  clear b4
  rw [tIa.out] at i4
  have I1 := hide i4
  clear i4
  go_wp2_with fail
  refine (list_ints _ _ _ _ _ _ (unhide Ib)).mono ?_
  rintro e w5 ⟨A5, n5, c5, rfl, i5, b5⟩
  replace HB := hide ((unhide HB).trans (b5.mono (unhide HB).size))
  replace Ia := hide (((unhide Ia).below b5).more b5.size)
  replace Ib := hide (((unhide Ib).below b5).more b5.size)
  replace Ic := hide (((unhide Ic).below b5).more b5.size)
  replace Ix := hide (((unhide Ix).below b5).more b5.size)
  replace I1 := hide (((unhide I1).below b5).more b5.size)
  clear b5
  rw [tIb.out] at i5
  have I2 := hide i5
  clear i5
  go_wp2_with fail
  refine (Join_ok _ _ _ _ _ _ _ _ _ (unhide I1) (unhide I2) m ha hb).mono ?_
  rintro e w6 ⟨A6, n6, c6, rfl, i6, b6⟩
  replace HB := hide ((unhide HB).trans (b6.mono (unhide HB).size))
  replace Ia := hide (((unhide Ia).below b6).more b6.size)
  replace Ib := hide (((unhide Ib).below b6).more b6.size)
  replace Ic := hide (((unhide Ic).below b6).more b6.size)
  replace Ix := hide (((unhide Ix).below b6).more b6.size)
  replace I1 := hide (((unhide I1).below b6).more b6.size)
  replace I2 := hide (((unhide I2).below b6).more b6.size)
  clear b6
  have Iy := hide i6
  clear i6
  clear I1
  clear I2
  go_wp2_with fail
  refine (lparts_is _ _ _ _ _ _ _ _ _ _ _ (unhide Ia) (unhide Ib) hn hn' true hab).mono ?_
  rintro e w7 ⟨rfl, b7⟩
  replace HB := hide ((unhide HB).trans (b7.mono (unhide HB).size))
  replace Ia := hide (((unhide Ia).below b7).more b7.size)
  replace Ib := hide (((unhide Ib).below b7).more b7.size)
  replace Ic := hide (((unhide Ic).below b7).more b7.size)
  replace Ix := hide (((unhide Ix).below b7).more b7.size)
  replace Iy := hide (((unhide Iy).below b7).more b7.size)
  clear b7
  go_wp2_with fail
  refine (list_ints _ _ _ _ _ _ (unhide Ib)).mono ?_
  rintro e w8 ⟨A8, n8, c8, rfl, i8, b8⟩
  replace HB := hide ((unhide HB).trans (b8.mono (unhide HB).size))
  replace Ia := hide (((unhide Ia).below b8).more b8.size)
  replace Ib := hide (((unhide Ib).below b8).more b8.size)
  replace Ic := hide (((unhide Ic).below b8).more b8.size)
  replace Ix := hide (((unhide Ix).below b8).more b8.size)
  replace Iy := hide (((unhide Iy).below b8).more b8.size)
  clear b8
  rw [tIb.out] at i8
  have I1 := hide i8
  clear i8
  go_wp2_with fail
  refine (list_ints _ _ _ _ _ _ (unhide Ia)).mono ?_
  rintro e w9 ⟨A9, n9, c9, rfl, i9, b9⟩
  replace HB := hide ((unhide HB).trans (b9.mono (unhide HB).size))
  replace Ia := hide (((unhide Ia).below b9).more b9.size)
  replace Ib := hide (((unhide Ib).below b9).more b9.size)
  replace Ic := hide (((unhide Ic).below b9).more b9.size)
  replace Ix := hide (((unhide Ix).below b9).more b9.size)
  replace Iy := hide (((unhide Iy).below b9).more b9.size)
  replace I1 := hide (((unhide I1).below b9).more b9.size)
  clear b9
  rw [tIa.out] at i9
  have I2 := hide i9
  clear i9
  go_wp2_with fail
  refine (Meet_ok _ _ _ _ _ _ _ _ _ (unhide I1) (unhide I2) m hb ha).mono ?_
  rintro e w10 ⟨A10, n10, c10, rfl, i10, b10⟩
  replace HB := hide ((unhide HB).trans (b10.mono (unhide HB).size))
  replace Ia := hide (((unhide Ia).below b10).more b10.size)
  replace Ib := hide (((unhide Ib).below b10).more b10.size)
  replace Ic := hide (((unhide Ic).below b10).more b10.size)
  replace Ix := hide (((unhide Ix).below b10).more b10.size)
  replace Iy := hide (((unhide Iy).below b10).more b10.size)
  replace I1 := hide (((unhide I1).below b10).more b10.size)
  replace I2 := hide (((unhide I2).below b10).more b10.size)
  clear b10
  have Iu := hide i10
  clear i10
  clear I1
  clear I2
  go_wp2_with fail
  refine (list_ints _ _ _ _ _ _ (unhide Ib)).mono ?_
  rintro e w11 ⟨A11, n11, c11, rfl, i11, b11⟩
  replace HB := hide ((unhide HB).trans (b11.mono (unhide HB).size))
  replace Ia := hide (((unhide Ia).below b11).more b11.size)
  replace Ib := hide (((unhide Ib).below b11).more b11.size)
  replace Ic := hide (((unhide Ic).below b11).more b11.size)
  replace Ix := hide (((unhide Ix).below b11).more b11.size)
  replace Iy := hide (((unhide Iy).below b11).more b11.size)
  replace Iu := hide (((unhide Iu).below b11).more b11.size)
  clear b11
  rw [tIb.out] at i11
  have I1 := hide i11
  clear i11
  go_wp2_with fail
  refine (list_ints _ _ _ _ _ _ (unhide Ia)).mono ?_
  rintro e w12 ⟨A12, n12, c12, rfl, i12, b12⟩
  replace HB := hide ((unhide HB).trans (b12.mono (unhide HB).size))
  replace Ia := hide (((unhide Ia).below b12).more b12.size)
  replace Ib := hide (((unhide Ib).below b12).more b12.size)
  replace Ic := hide (((unhide Ic).below b12).more b12.size)
  replace Ix := hide (((unhide Ix).below b12).more b12.size)
  replace Iy := hide (((unhide Iy).below b12).more b12.size)
  replace Iu := hide (((unhide Iu).below b12).more b12.size)
  replace I1 := hide (((unhide I1).below b12).more b12.size)
  clear b12
  rw [tIa.out] at i12
  have I2 := hide i12
  clear i12
  go_wp2_with fail
  refine (Join_ok _ _ _ _ _ _ _ _ _ (unhide I1) (unhide I2) m hb ha).mono ?_
  rintro e w13 ⟨A13, n13, c13, rfl, i13, b13⟩
  replace HB := hide ((unhide HB).trans (b13.mono (unhide HB).size))
  replace Ia := hide (((unhide Ia).below b13).more b13.size)
  replace Ib := hide (((unhide Ib).below b13).more b13.size)
  replace Ic := hide (((unhide Ic).below b13).more b13.size)
  replace Ix := hide (((unhide Ix).below b13).more b13.size)
  replace Iy := hide (((unhide Iy).below b13).more b13.size)
  replace Iu := hide (((unhide Iu).below b13).more b13.size)
  replace I1 := hide (((unhide I1).below b13).more b13.size)
  replace I2 := hide (((unhide I2).below b13).more b13.size)
  clear b13
  have Iv := hide i13
  clear i13
  clear I1
  clear I2
  go_wp2_with fail
  refine (equal_any _ _ _ _ _ _ _ _ _ _ _ (unhide Iu) (unhide Ix) true hux).mono ?_
  rintro e w14 ⟨rfl, b14⟩
  replace HB := hide ((unhide HB).trans (b14.mono (unhide HB).size))
  replace Ia := hide (((unhide Ia).below b14).more b14.size)
  replace Ib := hide (((unhide Ib).below b14).more b14.size)
  replace Ic := hide (((unhide Ic).below b14).more b14.size)
  replace Ix := hide (((unhide Ix).below b14).more b14.size)
  replace Iy := hide (((unhide Iy).below b14).more b14.size)
  replace Iu := hide (((unhide Iu).below b14).more b14.size)
  replace Iv := hide (((unhide Iv).below b14).more b14.size)
  clear b14
  clear Iu
  go_wp2_with fail
  refine (equal_any _ _ _ _ _ _ _ _ _ _ _ (unhide Iv) (unhide Iy) true hvy).mono ?_
  rintro e w15 ⟨rfl, b15⟩
  replace HB := hide ((unhide HB).trans (b15.mono (unhide HB).size))
  replace Ia := hide (((unhide Ia).below b15).more b15.size)
  replace Ib := hide (((unhide Ib).below b15).more b15.size)
  replace Ic := hide (((unhide Ic).below b15).more b15.size)
  replace Ix := hide (((unhide Ix).below b15).more b15.size)
  replace Iy := hide (((unhide Iy).below b15).more b15.size)
  replace Iv := hide (((unhide Iv).below b15).more b15.size)
  clear b15
  clear Iv
  go_wp2_with fail
  refine (lparts_is _ _ _ _ _ _ _ _ _ _ _ (unhide Ix) (unhide Ia) (by have := (unhide Ix).len; have := hx.out.len12; omega) hn true hxa).mono ?_
  rintro e w16 ⟨rfl, b16⟩
  replace HB := hide ((unhide HB).trans (b16.mono (unhide HB).size))
  replace Ia := hide (((unhide Ia).below b16).more b16.size)
  replace Ib := hide (((unhide Ib).below b16).more b16.size)
  replace Ic := hide (((unhide Ic).below b16).more b16.size)
  replace Ix := hide (((unhide Ix).below b16).more b16.size)
  replace Iy := hide (((unhide Iy).below b16).more b16.size)
  clear b16
  go_wp2_with fail
  refine (lparts_is _ _ _ _ _ _ _ _ _ _ _ (unhide Iy) (unhide Ia) (by have := (unhide Iy).len; have := hy.out.len12; omega) hn true hya).mono ?_
  rintro e w17 ⟨rfl, b17⟩
  replace HB := hide ((unhide HB).trans (b17.mono (unhide HB).size))
  replace Ia := hide (((unhide Ia).below b17).more b17.size)
  replace Ib := hide (((unhide Ib).below b17).more b17.size)
  replace Ic := hide (((unhide Ic).below b17).more b17.size)
  replace Ix := hide (((unhide Ix).below b17).more b17.size)
  replace Iy := hide (((unhide Iy).below b17).more b17.size)
  clear b17
  go_wp2_with fail
  refine (unevP _ _ _ _ _ _ _ _ _ (unhide Ia) (unhide Ix) m ha hx true dax).mono ?_
  rintro e w18 ⟨rfl, b18⟩
  replace HB := hide ((unhide HB).trans (b18.mono (unhide HB).size))
  replace Ia := hide (((unhide Ia).below b18).more b18.size)
  replace Ib := hide (((unhide Ib).below b18).more b18.size)
  replace Ic := hide (((unhide Ic).below b18).more b18.size)
  replace Ix := hide (((unhide Ix).below b18).more b18.size)
  replace Iy := hide (((unhide Iy).below b18).more b18.size)
  clear b18
  go_wp2_with fail
  refine (unevP _ _ _ _ _ _ _ _ _ (unhide Ib) (unhide Ix) m hb hx true dbx).mono ?_
  rintro e w19 ⟨rfl, b19⟩
  replace HB := hide ((unhide HB).trans (b19.mono (unhide HB).size))
  replace Ia := hide (((unhide Ia).below b19).more b19.size)
  replace Ib := hide (((unhide Ib).below b19).more b19.size)
  replace Ic := hide (((unhide Ic).below b19).more b19.size)
  replace Ix := hide (((unhide Ix).below b19).more b19.size)
  replace Iy := hide (((unhide Iy).below b19).more b19.size)
  clear b19
  go_wp2_with fail
  refine (unevP _ _ _ _ _ _ _ _ _ (unhide Iy) (unhide Ia) m hy ha true dya).mono ?_
  rintro e w20 ⟨rfl, b20⟩
  replace HB := hide ((unhide HB).trans (b20.mono (unhide HB).size))
  replace Ia := hide (((unhide Ia).below b20).more b20.size)
  replace Ib := hide (((unhide Ib).below b20).more b20.size)
  replace Ic := hide (((unhide Ic).below b20).more b20.size)
  replace Ix := hide (((unhide Ix).below b20).more b20.size)
  replace Iy := hide (((unhide Iy).below b20).more b20.size)
  clear b20
  go_wp2_with fail
  refine (unevP _ _ _ _ _ _ _ _ _ (unhide Iy) (unhide Ib) m hy hb true dyb).mono ?_
  rintro e w21 ⟨rfl, b21⟩
  replace HB := hide ((unhide HB).trans (b21.mono (unhide HB).size))
  replace Ia := hide (((unhide Ia).below b21).more b21.size)
  replace Ib := hide (((unhide Ib).below b21).more b21.size)
  replace Ic := hide (((unhide Ic).below b21).more b21.size)
  replace Ix := hide (((unhide Ix).below b21).more b21.size)
  replace Iy := hide (((unhide Iy).below b21).more b21.size)
  clear b21
  go_wp2_with fail
  refine (lparts_is _ _ _ _ _ _ _ _ _ _ _ (unhide Ic) (unhide Ia) hn'' hn true hca).mono ?_
  rintro e w22 ⟨rfl, b22⟩
  replace HB := hide ((unhide HB).trans (b22.mono (unhide HB).size))
  replace Ia := hide (((unhide Ia).below b22).more b22.size)
  replace Ib := hide (((unhide Ib).below b22).more b22.size)
  replace Ic := hide (((unhide Ic).below b22).more b22.size)
  replace Ix := hide (((unhide Ix).below b22).more b22.size)
  replace Iy := hide (((unhide Iy).below b22).more b22.size)
  clear b22
  go_wp2_with fail
  refine (unevP _ _ _ _ _ _ _ _ _ (unhide Ia) (unhide Ic) m ha hc true p1).mono ?_
  rintro e w23 ⟨rfl, b23⟩
  replace HB := hide ((unhide HB).trans (b23.mono (unhide HB).size))
  replace Ia := hide (((unhide Ia).below b23).more b23.size)
  replace Ib := hide (((unhide Ib).below b23).more b23.size)
  replace Ic := hide (((unhide Ic).below b23).more b23.size)
  replace Ix := hide (((unhide Ix).below b23).more b23.size)
  replace Iy := hide (((unhide Iy).below b23).more b23.size)
  clear b23
  go_wp2_with fail
  refine (unevP _ _ _ _ _ _ _ _ _ (unhide Ib) (unhide Ic) m hb hc true p2).mono ?_
  rintro e w24 ⟨rfl, b24⟩
  replace HB := hide ((unhide HB).trans (b24.mono (unhide HB).size))
  replace Ia := hide (((unhide Ia).below b24).more b24.size)
  replace Ib := hide (((unhide Ib).below b24).more b24.size)
  replace Ic := hide (((unhide Ic).below b24).more b24.size)
  replace Ix := hide (((unhide Ix).below b24).more b24.size)
  replace Iy := hide (((unhide Iy).below b24).more b24.size)
  clear b24
  go_wp2_with fail
  refine (unevP _ _ _ _ _ _ _ _ _ (unhide Ix) (unhide Ic) m hx hc true p3).mono ?_
  rintro e w25 ⟨rfl, b25⟩
  replace HB := hide ((unhide HB).trans (b25.mono (unhide HB).size))
  replace Ia := hide (((unhide Ia).below b25).more b25.size)
  replace Ib := hide (((unhide Ib).below b25).more b25.size)
  replace Ic := hide (((unhide Ic).below b25).more b25.size)
  replace Ix := hide (((unhide Ix).below b25).more b25.size)
  replace Iy := hide (((unhide Iy).below b25).more b25.size)
  clear b25
  go_wp2_with fail
  refine (unevP _ _ _ _ _ _ _ _ _ (unhide Ic) (unhide Ia) m hc ha true q1).mono ?_
  rintro e w26 ⟨rfl, b26⟩
  replace HB := hide ((unhide HB).trans (b26.mono (unhide HB).size))
  replace Ia := hide (((unhide Ia).below b26).more b26.size)
  replace Ib := hide (((unhide Ib).below b26).more b26.size)
  replace Ic := hide (((unhide Ic).below b26).more b26.size)
  replace Ix := hide (((unhide Ix).below b26).more b26.size)
  replace Iy := hide (((unhide Iy).below b26).more b26.size)
  clear b26
  go_wp2_with fail
  refine (unevP _ _ _ _ _ _ _ _ _ (unhide Ic) (unhide Ib) m hc hb true q2).mono ?_
  rintro e w27 ⟨rfl, b27⟩
  replace HB := hide ((unhide HB).trans (b27.mono (unhide HB).size))
  replace Ia := hide (((unhide Ia).below b27).more b27.size)
  replace Ib := hide (((unhide Ib).below b27).more b27.size)
  replace Ic := hide (((unhide Ic).below b27).more b27.size)
  replace Ix := hide (((unhide Ix).below b27).more b27.size)
  replace Iy := hide (((unhide Iy).below b27).more b27.size)
  clear b27
  go_wp2_with fail
  refine (unevP _ _ _ _ _ _ _ _ _ (unhide Ic) (unhide Iy) m hc hy true q3).mono ?_
  rintro e w28 ⟨rfl, b28⟩
  replace HB := hide ((unhide HB).trans (b28.mono (unhide HB).size))
  replace Ia := hide (((unhide Ia).below b28).more b28.size)
  replace Ib := hide (((unhide Ib).below b28).more b28.size)
  replace Ic := hide (((unhide Ic).below b28).more b28.size)
  replace Ix := hide (((unhide Ix).below b28).more b28.size)
  replace Iy := hide (((unhide Iy).below b28).more b28.size)
  clear b28
  go_wp2_with fail
  refine (awake_any _).mono ?_
  rintro e w29 ⟨rfl, b29⟩
  replace HB := hide ((unhide HB).trans (b29.mono (unhide HB).size))
  replace Ia := hide (((unhide Ia).below b29).more b29.size)
  replace Ib := hide (((unhide Ib).below b29).more b29.size)
  replace Ic := hide (((unhide Ic).below b29).more b29.size)
  replace Ix := hide (((unhide Ix).below b29).more b29.size)
  replace Iy := hide (((unhide Iy).below b29).more b29.size)
  clear b29
  go_wp2_with fail
  go_ret
  exact ⟨rfl, unhide HB⟩

theorem Lattice_any (A A' A'' : Option Addr) (n c n' c' n'' c'' : Nat) (xs ys zs : List Int) (w : World) (h : Ints w w.heap.size A n c xs) (h' : Ints w w.heap.size A' n' c' ys) (h'' : Ints w w.heap.size A'' n'' c'' zs)
    (hn : n ≤ 17592186044416) (hn' : n' ≤ 17592186044416) (hn'' : n'' ≤ 17592186044416) :
    Calls Try.prog 14 #[.slice A n c, .slice A' n' c', .slice A'' n'' c''] w fun e w' => e = .returned (.bool true) ∧ Below w.heap.size w w' := by
  rcases hs : oneSum xs ys
  · exact Lattice_A _ _ _ _ _ _ _ _ _ _ _ _ _ h h' h'' hn hn' hn'' (hide hs)
  obtain ⟨m, ha, hb⟩ := oneSum_isP hs
  rcases hca : oneSum zs xs
  · exact Lattice_B1 _ _ _ _ _ _ _ _ _ _ _ _ _ h h' h'' hn hn' hn'' m (hide ha) (hide hb) (hide hca)
  obtain ⟨m', hc, ha'⟩ := oneSum_isP hca
  obtain rfl : m' = m := by have := ha'.sum; have := ha.sum; omega
  rcases p1 : unevR xs zs <;> rcases p2 : unevR ys zs <;> rcases q1 : unevR zs xs <;> rcases q2 : unevR zs ys
  · exact Lattice_00 _ _ _ _ _ _ _ _ _ _ _ _ _ h h' h'' hn hn' hn'' _ (hide ha) (hide hb) (hide hc) (hide p1) (hide q1)
  · exact Lattice_00 _ _ _ _ _ _ _ _ _ _ _ _ _ h h' h'' hn hn' hn'' _ (hide ha) (hide hb) (hide hc) (hide p1) (hide q1)
  · exact Lattice_01 _ _ _ _ _ _ _ _ _ _ _ _ _ h h' h'' hn hn' hn'' _ (hide ha) (hide hb) (hide hc) (hide p1) (hide q1) (hide q2)
  · exact Lattice_02 _ _ _ _ _ _ _ _ _ _ _ _ _ h h' h'' hn hn' hn'' _ (hide ha) (hide hb) (hide hc) (hide p1) (hide q1) (hide q2)
  · exact Lattice_00 _ _ _ _ _ _ _ _ _ _ _ _ _ h h' h'' hn hn' hn'' _ (hide ha) (hide hb) (hide hc) (hide p1) (hide q1)
  · exact Lattice_00 _ _ _ _ _ _ _ _ _ _ _ _ _ h h' h'' hn hn' hn'' _ (hide ha) (hide hb) (hide hc) (hide p1) (hide q1)
  · exact Lattice_01 _ _ _ _ _ _ _ _ _ _ _ _ _ h h' h'' hn hn' hn'' _ (hide ha) (hide hb) (hide hc) (hide p1) (hide q1) (hide q2)
  · exact Lattice_02 _ _ _ _ _ _ _ _ _ _ _ _ _ h h' h'' hn hn' hn'' _ (hide ha) (hide hb) (hide hc) (hide p1) (hide q1) (hide q2)
  · exact Lattice_10 _ _ _ _ _ _ _ _ _ _ _ _ _ h h' h'' hn hn' hn'' _ (hide ha) (hide hb) (hide hc) (hide p1) (hide p2) (hide q1)
  · exact Lattice_10 _ _ _ _ _ _ _ _ _ _ _ _ _ h h' h'' hn hn' hn'' _ (hide ha) (hide hb) (hide hc) (hide p1) (hide p2) (hide q1)
  · exact Lattice_11 _ _ _ _ _ _ _ _ _ _ _ _ _ h h' h'' hn hn' hn'' _ (hide ha) (hide hb) (hide hc) (hide p1) (hide p2) (hide q1) (hide q2)
  · exact Lattice_12 _ _ _ _ _ _ _ _ _ _ _ _ _ h h' h'' hn hn' hn'' _ (hide ha) (hide hb) (hide hc) (hide p1) (hide p2) (hide q1) (hide q2)
  · exact Lattice_20 _ _ _ _ _ _ _ _ _ _ _ _ _ h h' h'' hn hn' hn'' _ (hide ha) (hide hb) (hide hc) (hide p1) (hide p2) (hide q1)
  · exact Lattice_20 _ _ _ _ _ _ _ _ _ _ _ _ _ h h' h'' hn hn' hn'' _ (hide ha) (hide hb) (hide hc) (hide p1) (hide p2) (hide q1)
  · exact Lattice_21 _ _ _ _ _ _ _ _ _ _ _ _ _ h h' h'' hn hn' hn'' _ (hide ha) (hide hb) (hide hc) (hide p1) (hide p2) (hide q1) (hide q2)
  · exact Lattice_22 _ _ _ _ _ _ _ _ _ _ _ _ _ h h' h'' hn hn' hn'' _ (hide ha) (hide hb) (hide hc) (hide p1) (hide p2) (hide q1) (hide q2)
end Go.Proofs.Ytmpdalcdkibgpaa
