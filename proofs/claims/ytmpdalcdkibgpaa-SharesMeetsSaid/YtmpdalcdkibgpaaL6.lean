import Derived.Test.YtmpdalcdkibgpaaR8
namespace Go.Proofs.Ytmpdalcdkibgpaa
open Go.RowKit Go.Sort

set_option maxHeartbeats 1000000 in
theorem Meets_A (A A' : Option Addr) (n c n' c' : Nat) (xs ys : List Int) (w : World) (h : Ints w w.heap.size A n c xs) (h' : Ints w w.heap.size A' n' c' ys)
    (hn : n ≤ 17592186044416) (hn' : n' ≤ 17592186044416) (hs : Hid (oneSum xs ys = false)) :
    Calls Try.prog 8 #[.slice A n c, .slice A' n' c'] w fun e w' => e = .returned (.bool true) ∧ Below w.heap.size w w' := by
  have HB := hide (Below.refl w.heap.size w)
  have Ia := hide h; have Ib := hide h'; clear h h'
  have hs1 := hide (show oneSum (xs.take 15) (ys.take 15) = false from by rw [oneSum_take]; exact hs.out)
  go_enter Try.func8, Try.ntmps8
  go_wp2_with fail
  refine (list_ints _ _ _ _ _ _ (unhide Ia)).mono ?_
  rintro e w1 ⟨A1, n1, c1, rfl, i1, b1⟩
  replace HB := hide ((unhide HB).trans (b1.mono (unhide HB).size))
  replace Ia := hide (((unhide Ia).below b1).more b1.size)
  replace Ib := hide (((unhide Ib).below b1).more b1.size)
  clear b1
  have I1 := hide i1
  clear i1
  go_wp2_with fail
  refine (list_ints _ _ _ _ _ _ (unhide Ib)).mono ?_
  rintro e w2 ⟨A2, n2, c2, rfl, i2, b2⟩
  replace HB := hide ((unhide HB).trans (b2.mono (unhide HB).size))
  replace Ia := hide (((unhide Ia).below b2).more b2.size)
  replace Ib := hide (((unhide Ib).below b2).more b2.size)
  replace I1 := hide (((unhide I1).below b2).more b2.size)
  clear b2
  have I2 := hide i2
  clear i2
  go_wp2_with fail
  refine (Meet_no _ _ _ _ _ _ _ _ _ _ _ (unhide I1) (unhide I2) hs1).mono ?_
  rintro e w3 ⟨rfl, b3⟩
  replace HB := hide ((unhide HB).trans (b3.mono (unhide HB).size))
  replace Ia := hide (((unhide Ia).below b3).more b3.size)
  replace Ib := hide (((unhide Ib).below b3).more b3.size)
  replace I1 := hide (((unhide I1).below b3).more b3.size)
  replace I2 := hide (((unhide I2).below b3).more b3.size)
  clear b3
  clear I1
  clear I2
  go_wp2_with fail
  refine (list_ints _ _ _ _ _ _ (unhide Ia)).mono ?_
  rintro e w4 ⟨A4, n4, c4, rfl, i4, b4⟩
  replace HB := hide ((unhide HB).trans (b4.mono (unhide HB).size))
  replace Ia := hide (((unhide Ia).below b4).more b4.size)
  replace Ib := hide (((unhide Ib).below b4).more b4.size)
  clear b4
  have I1 := hide i4
  clear i4
  go_wp2_with fail
  refine (list_ints _ _ _ _ _ _ (unhide Ib)).mono ?_
  rintro e w5 ⟨A5, n5, c5, rfl, i5, b5⟩
  replace HB := hide ((unhide HB).trans (b5.mono (unhide HB).size))
  replace Ia := hide (((unhide Ia).below b5).more b5.size)
  replace Ib := hide (((unhide Ib).below b5).more b5.size)
  replace I1 := hide (((unhide I1).below b5).more b5.size)
  clear b5
  have I2 := hide i5
  clear i5
  go_wp2_with fail
  refine (Join_no _ _ _ _ _ _ _ _ _ _ _ (unhide I1) (unhide I2) hs1).mono ?_
  rintro e w6 ⟨rfl, b6⟩
  replace HB := hide ((unhide HB).trans (b6.mono (unhide HB).size))
  replace Ia := hide (((unhide Ia).below b6).more b6.size)
  replace Ib := hide (((unhide Ib).below b6).more b6.size)
  replace I1 := hide (((unhide I1).below b6).more b6.size)
  replace I2 := hide (((unhide I2).below b6).more b6.size)
  clear b6
  clear I1
  clear I2
  go_wp2_with fail
  refine (lparts_is _ _ _ _ _ _ _ _ _ _ _ (unhide Ia) (unhide Ib) hn hn' false hs).mono ?_
  rintro e w7 ⟨rfl, b7⟩
  replace HB := hide ((unhide HB).trans (b7.mono (unhide HB).size))
  replace Ia := hide (((unhide Ia).below b7).more b7.size)
  replace Ib := hide (((unhide Ib).below b7).more b7.size)
  clear b7
  go_wp2_with fail
  refine (awake_any _).mono ?_
  rintro e w8 ⟨rfl, b8⟩
  replace HB := hide ((unhide HB).trans (b8.mono (unhide HB).size))
  replace Ia := hide (((unhide Ia).below b8).more b8.size)
  replace Ib := hide (((unhide Ib).below b8).more b8.size)
  clear b8
  go_wp2_with fail
  go_ret
  exact ⟨rfl, unhide HB⟩

set_option maxHeartbeats 2000000 in
theorem Meets_B (A A' : Option Addr) (n c n' c' : Nat) (xs ys : List Int) (w : World) (h : Ints w w.heap.size A n c xs) (h' : Ints w w.heap.size A' n' c' ys)
    (hn : n ≤ 17592186044416) (hn' : n' ≤ 17592186044416) (m : Nat) (ha : Hid (IsP xs m)) (hb : Hid (IsP ys m)) :
    Calls Try.prog 8 #[.slice A n c, .slice A' n' c'] w fun e w' => e = .returned (.bool true) ∧ Below w.heap.size w w' := by
  have HB := hide (Below.refl w.heap.size w)
  have Ia := hide h; have Ib := hide h'; clear h h'
  have ta := hide ha.out.take; have tb := hide hb.out.take
  have hab := hide (isP_oneSum ha.out hb.out)
  go_enter Try.func8, Try.ntmps8
  go_wp2_with fail
  refine (list_ints _ _ _ _ _ _ (unhide Ia)).mono ?_
  rintro e w1 ⟨A1, n1, c1, rfl, i1, b1⟩
  replace HB := hide ((unhide HB).trans (b1.mono (unhide HB).size))
  replace Ia := hide (((unhide Ia).below b1).more b1.size)
  replace Ib := hide (((unhide Ib).below b1).more b1.size)
  clear b1
  rw [ta.out] at i1
  have I1 := hide i1
  clear i1
  go_wp2_with fail
  refine (list_ints _ _ _ _ _ _ (unhide Ib)).mono ?_
  rintro e w2 ⟨A2, n2, c2, rfl, i2, b2⟩
  replace HB := hide ((unhide HB).trans (b2.mono (unhide HB).size))
  replace Ia := hide (((unhide Ia).below b2).more b2.size)
  replace Ib := hide (((unhide Ib).below b2).more b2.size)
  replace I1 := hide (((unhide I1).below b2).more b2.size)
  clear b2
  rw [tb.out] at i2
  have I2 := hide i2
  clear i2
  go_wp2_with fail
  refine (Meet_ok _ _ _ _ _ _ _ _ _ (unhide I1) (unhide I2) m ha hb).mono ?_
  rintro e w3 ⟨A3, n3, c3, rfl, i3, b3⟩
  replace HB := hide ((unhide HB).trans (b3.mono (unhide HB).size))
  replace Ia := hide (((unhide Ia).below b3).more b3.size)
  replace Ib := hide (((unhide Ib).below b3).more b3.size)
  replace I1 := hide (((unhide I1).below b3).more b3.size)
  replace I2 := hide (((unhide I2).below b3).more b3.size)
  clear b3
  have Ix := hide i3
  clear i3
  clear I1
  clear I2
  go_wp2_with fail
  refine (list_ints _ _ _ _ _ _ (unhide Ia)).mono ?_
  rintro e w4 ⟨A4, n4, c4, rfl, i4, b4⟩
  replace HB := hide ((unhide HB).trans (b4.mono (unhide HB).size))
  replace Ia := hide (((unhide Ia).below b4).more b4.size)
  replace Ib := hide (((unhide Ib).below b4).more b4.size)
  replace Ix := hide (((unhide Ix).below b4).more b4.size)
  clear b4
  rw [ta.out] at i4
  have I1 := hide i4
  clear i4
  go_wp2_with fail
  refine (list_ints _ _ _ _ _ _ (unhide Ib)).mono ?_
  rintro e w5 ⟨A5, n5, c5, rfl, i5, b5⟩
  replace HB := hide ((unhide HB).trans (b5.mono (unhide HB).size))
  replace Ia := hide (((unhide Ia).below b5).more b5.size)
  replace Ib := hide (((unhide Ib).below b5).more b5.size)
  replace Ix := hide (((unhide Ix).below b5).more b5.size)
  replace I1 := hide (((unhide I1).below b5).more b5.size)
  clear b5
  rw [tb.out] at i5
  have I2 := hide i5
  clear i5
  go_wp2_with fail
  refine (Join_ok _ _ _ _ _ _ _ _ _ (unhide I1) (unhide I2) m ha hb).mono ?_
  rintro e w6 ⟨A6, n6, c6, rfl, i6, b6⟩
  replace HB := hide ((unhide HB).trans (b6.mono (unhide HB).size))
  replace Ia := hide (((unhide Ia).below b6).more b6.size)
  replace Ib := hide (((unhide Ib).below b6).more b6.size)
  replace Ix := hide (((unhide Ix).below b6).more b6.size)
  replace I1 := hide (((unhide I1).below b6).more b6.size)
  replace I2 := hide (((unhide I2).below b6).more b6.size)
  clear b6
  have Iy := hide i6
  clear i6
  clear I1
  clear I2
  go_wp2_with fail
  refine (lparts_is _ _ _ _ _ _ _ _ _ _ _ (unhide Ia) (unhide Ib) hn hn' true hab).mono ?_
  rintro e w7 ⟨rfl, b7⟩
  replace HB := hide ((unhide HB).trans (b7.mono (unhide HB).size))
  replace Ia := hide (((unhide Ia).below b7).more b7.size)
  replace Ib := hide (((unhide Ib).below b7).more b7.size)
  replace Ix := hide (((unhide Ix).below b7).more b7.size)
  replace Iy := hide (((unhide Iy).below b7).more b7.size)
  clear b7
  go_wp2_with fail
  refine (RMeet_any _ _ _ _ _ _ _ _ _ (unhide Ia) (unhide Ib) m ha hb).mono ?_
  rintro e w8 ⟨A8, n8, c8, rfl, i8, b8⟩
  replace HB := hide ((unhide HB).trans (b8.mono (unhide HB).size))
  replace Ia := hide (((unhide Ia).below b8).more b8.size)
  replace Ib := hide (((unhide Ib).below b8).more b8.size)
  replace Ix := hide (((unhide Ix).below b8).more b8.size)
  replace Iy := hide (((unhide Iy).below b8).more b8.size)
  clear b8
  have Iu := hide i8
  clear i8
  go_wp2_with fail
  refine (equal_any _ _ _ _ _ _ _ _ _ _ _ (unhide Ix) (unhide Iu) true (hide (decide_eq_true rfl))).mono ?_
  rintro e w9 ⟨rfl, b9⟩
  replace HB := hide ((unhide HB).trans (b9.mono (unhide HB).size))
  replace Ia := hide (((unhide Ia).below b9).more b9.size)
  replace Ib := hide (((unhide Ib).below b9).more b9.size)
  replace Ix := hide (((unhide Ix).below b9).more b9.size)
  replace Iy := hide (((unhide Iy).below b9).more b9.size)
  replace Iu := hide (((unhide Iu).below b9).more b9.size)
  clear b9
  clear Iu
  go_wp2_with fail
  refine (RJoin_any _ _ _ _ _ _ _ _ _ (unhide Ia) (unhide Ib) m ha hb).mono ?_
  rintro e w10 ⟨A10, n10, c10, rfl, i10, b10⟩
  replace HB := hide ((unhide HB).trans (b10.mono (unhide HB).size))
  replace Ia := hide (((unhide Ia).below b10).more b10.size)
  replace Ib := hide (((unhide Ib).below b10).more b10.size)
  replace Ix := hide (((unhide Ix).below b10).more b10.size)
  replace Iy := hide (((unhide Iy).below b10).more b10.size)
  clear b10
  have Iv := hide i10
  clear i10
  go_wp2_with fail
  refine (equal_any _ _ _ _ _ _ _ _ _ _ _ (unhide Iy) (unhide Iv) true (hide (decide_eq_true rfl))).mono ?_
  rintro e w11 ⟨rfl, b11⟩
  replace HB := hide ((unhide HB).trans (b11.mono (unhide HB).size))
  replace Ia := hide (((unhide Ia).below b11).more b11.size)
  replace Ib := hide (((unhide Ib).below b11).more b11.size)
  replace Ix := hide (((unhide Ix).below b11).more b11.size)
  replace Iy := hide (((unhide Iy).below b11).more b11.size)
  replace Iv := hide (((unhide Iv).below b11).more b11.size)
  clear b11
  clear Iv
  go_wp2_with fail
  refine (awake_any _).mono ?_
  rintro e w12 ⟨rfl, b12⟩
  replace HB := hide ((unhide HB).trans (b12.mono (unhide HB).size))
  replace Ia := hide (((unhide Ia).below b12).more b12.size)
  replace Ib := hide (((unhide Ib).below b12).more b12.size)
  replace Ix := hide (((unhide Ix).below b12).more b12.size)
  replace Iy := hide (((unhide Iy).below b12).more b12.size)
  clear b12
  go_wp2_with fail
  go_ret
  exact ⟨rfl, unhide HB⟩

theorem Meets_any (A A' : Option Addr) (n c n' c' : Nat) (xs ys : List Int) (w : World) (h : Ints w w.heap.size A n c xs) (h' : Ints w w.heap.size A' n' c' ys)
    (hn : n ≤ 17592186044416) (hn' : n' ≤ 17592186044416) :
    Calls Try.prog 8 #[.slice A n c, .slice A' n' c'] w fun e w' => e = .returned (.bool true) ∧ Below w.heap.size w w' := by
  rcases hs : oneSum xs ys
  · exact Meets_A _ _ _ _ _ _ _ _ _ h h' hn hn' (hide hs)
  · obtain ⟨m, ha, hb⟩ := oneSum_isP hs
    exact Meets_B _ _ _ _ _ _ _ _ _ h h' hn hn' m (hide ha) (hide hb)
end Go.Proofs.Ytmpdalcdkibgpaa
