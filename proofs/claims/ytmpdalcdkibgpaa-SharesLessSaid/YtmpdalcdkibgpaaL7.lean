import Derived.Test.YtmpdalcdkibgpaaG6
namespace Go.Proofs.Ytmpdalcdkibgpaa
open Go.RowKit Go.Sort

set_option maxHeartbeats 2000000 in
theorem Less_A (A A' A'' : Option Addr) (n c n' c' n'' c'' : Nat) (xs ys : List Int) (gs : List G) (w : World) (h : Ints w w.heap.size A n c xs) (h' : Ints w w.heap.size A' n' c' ys) (h'' : Gs w w.heap.size A'' n'' c'' gs) (hs : Hid (areSh xs ys = false)) :
    Calls Try.prog 10 #[.slice A n c, .slice A' n' c', .slice A'' n'' c''] w fun e w' => e = .returned (.bool true) ∧ Below w.heap.size w w' := by
  have HB := hide (Below.refl w.heap.size w)
  have Ia := hide h; have Ib := hide h'; have Ig := hide h''; clear h h' h''
  have hs1 := hide (show areSh (xs.take 15) (ys.take 15) = false from by rw [areSh_take]; exact hs.out)
  go_enter Try.func10, Try.ntmps10
  go_wp2_with fail
  refine (list_ints _ _ _ _ _ _ (unhide Ia)).mono ?_
  rintro e w1 ⟨A1, n1, c1, rfl, i1, b1⟩
  replace HB := hide ((unhide HB).trans (b1.mono (unhide HB).size))
  replace Ia := hide (((unhide Ia).below b1).more b1.size)
  replace Ib := hide (((unhide Ib).below b1).more b1.size)
  replace Ig := hide (((unhide Ig).below b1).more b1.size)
  clear b1
  have I1 := hide i1
  clear i1
  go_wp2_with fail
  refine (list_ints _ _ _ _ _ _ (unhide Ib)).mono ?_
  rintro e w2 ⟨A2, n2, c2, rfl, i2, b2⟩
  replace HB := hide ((unhide HB).trans (b2.mono (unhide HB).size))
  replace Ia := hide (((unhide Ia).below b2).more b2.size)
  replace Ib := hide (((unhide Ib).below b2).more b2.size)
  replace Ig := hide (((unhide Ig).below b2).more b2.size)
  replace I1 := hide (((unhide I1).below b2).more b2.size)
  clear b2
  have I2 := hide i2
  clear i2
  go_wp2_with fail
  refine (Of_any _ _ _ _ _ (unhide Ig)).mono ?_
  rintro e w3 ⟨A3, n3, c3, rfl, i3, b3⟩
  replace HB := hide ((unhide HB).trans (b3.mono (unhide HB).size))
  replace Ia := hide (((unhide Ia).below b3).more b3.size)
  replace Ib := hide (((unhide Ib).below b3).more b3.size)
  replace Ig := hide (((unhide Ig).below b3).more b3.size)
  replace I1 := hide (((unhide I1).below b3).more b3.size)
  replace I2 := hide (((unhide I2).below b3).more b3.size)
  clear b3
  have Og := hide i3
  clear i3
  go_wp2_with fail
  refine (CheckGives_no _ _ _ _ _ _ _ _ _ _ _ _ _ _ (unhide I1) (unhide I2) hs1).mono ?_
  rintro e w4 ⟨rfl, b4⟩
  replace HB := hide ((unhide HB).trans (b4.mono (unhide HB).size))
  replace Ia := hide (((unhide Ia).below b4).more b4.size)
  replace Ib := hide (((unhide Ib).below b4).more b4.size)
  replace Ig := hide (((unhide Ig).below b4).more b4.size)
  replace I1 := hide (((unhide I1).below b4).more b4.size)
  replace I2 := hide (((unhide I2).below b4).more b4.size)
  replace Og := hide (((unhide Og).below b4).more b4.size)
  clear b4
  clear I1
  clear I2
  clear Og
  go_wp2_with fail
  refine (awake_any _).mono ?_
  rintro e w5 ⟨rfl, b5⟩
  replace HB := hide ((unhide HB).trans (b5.mono (unhide HB).size))
  replace Ia := hide (((unhide Ia).below b5).more b5.size)
  replace Ib := hide (((unhide Ib).below b5).more b5.size)
  replace Ig := hide (((unhide Ig).below b5).more b5.size)
  clear b5
  go_wp2_with fail
  go_ret
  exact ⟨rfl, unhide HB⟩

set_option maxHeartbeats 2000000 in
theorem Less_ttff (A A' A'' : Option Addr) (n c n' c' n'' c'' : Nat) (xs ys : List Int) (gs : List G) (w : World) (h : Ints w w.heap.size A n c xs) (h' : Ints w w.heap.size A' n' c' ys) (h'' : Gs w w.heap.size A'' n'' c'' gs) (hs : Hid (areSh xs ys = true)) (hok : Hid (decide (runG xs (gs.take 60) = some ys) = true)) (his : Hid (unevS xs ys = true)) (hx : Hid (isFal xs = false)) (hg : Hid (gap ys ≤ gap xs)) :
    Calls Try.prog 10 #[.slice A n c, .slice A' n' c', .slice A'' n'' c''] w fun e w' => e = .returned (.bool true) ∧ Below w.heap.size w w' := by
  have HB := hide (Below.refl w.heap.size w)
  have Ia := hide h; have Ib := hide h'; have Ig := hide h''; clear h h' h''
  have ta := hide (take_of_sh (areSh_left hs.out).1); have tb := hide (take_of_sh (areSh_left hs.out).2.1)
  have sa := hide (areSh_left hs.out).1; have sb := hide (areSh_left hs.out).2.1
  have hno := hide (show (areSh xs ys && (isFal xs && isFal ys)) = false from by rw [hx.out]; simp)
  obtain ⟨gx, hgx⟩ : ∃ z, gap xs = z := ⟨_, rfl⟩
  obtain ⟨gy, hgy⟩ : ∃ z, gap ys = z := ⟨_, rfl⟩
  have hle : gy ≤ gx := by have := hg.out; rw [hgx, hgy] at this; exact this
  have hgx' := hide hgx; have hgy' := hide hgy; clear hgx hgy
  go_enter Try.func10, Try.ntmps10
  go_wp2_with fail
  refine (list_ints _ _ _ _ _ _ (unhide Ia)).mono ?_
  rintro e w1 ⟨A1, n1, c1, rfl, i1, b1⟩
  replace HB := hide ((unhide HB).trans (b1.mono (unhide HB).size))
  replace Ia := hide (((unhide Ia).below b1).more b1.size)
  replace Ib := hide (((unhide Ib).below b1).more b1.size)
  replace Ig := hide (((unhide Ig).below b1).more b1.size)
  clear b1
  rw [ta.out] at i1
  have I1 := hide i1
  clear i1
  go_wp2_with fail
  refine (list_ints _ _ _ _ _ _ (unhide Ib)).mono ?_
  rintro e w2 ⟨A2, n2, c2, rfl, i2, b2⟩
  replace HB := hide ((unhide HB).trans (b2.mono (unhide HB).size))
  replace Ia := hide (((unhide Ia).below b2).more b2.size)
  replace Ib := hide (((unhide Ib).below b2).more b2.size)
  replace Ig := hide (((unhide Ig).below b2).more b2.size)
  replace I1 := hide (((unhide I1).below b2).more b2.size)
  clear b2
  rw [tb.out] at i2
  have I2 := hide i2
  clear i2
  go_wp2_with fail
  refine (Of_any _ _ _ _ _ (unhide Ig)).mono ?_
  rintro e w3 ⟨A3, n3, c3, rfl, i3, b3⟩
  replace HB := hide ((unhide HB).trans (b3.mono (unhide HB).size))
  replace Ia := hide (((unhide Ia).below b3).more b3.size)
  replace Ib := hide (((unhide Ib).below b3).more b3.size)
  replace Ig := hide (((unhide Ig).below b3).more b3.size)
  replace I1 := hide (((unhide I1).below b3).more b3.size)
  replace I2 := hide (((unhide I2).below b3).more b3.size)
  clear b3
  have Og := hide i3
  clear i3
  go_wp2_with fail
  refine (CheckGives_ok _ _ _ _ _ _ _ _ _ _ _ _ _ (unhide I1) (unhide I2) (unhide Og) hs true hok).mono ?_
  rintro e w4 ⟨rfl, b4⟩
  replace HB := hide ((unhide HB).trans (b4.mono (unhide HB).size))
  replace Ia := hide (((unhide Ia).below b4).more b4.size)
  replace Ib := hide (((unhide Ib).below b4).more b4.size)
  replace Ig := hide (((unhide Ig).below b4).more b4.size)
  replace I1 := hide (((unhide I1).below b4).more b4.size)
  replace I2 := hide (((unhide I2).below b4).more b4.size)
  replace Og := hide (((unhide Og).below b4).more b4.size)
  clear b4
  clear I1
  clear I2
  clear Og
  go_wp2_with fail
  refine (Two_is _ _ _ _ _ _ _ _ _ _ _ (unhide Ia) (unhide Ib) true hs).mono ?_
  rintro e w5 ⟨rfl, rfl⟩
  go_wp2_with fail
  refine (list_ints _ _ _ _ _ _ (unhide Ia)).mono ?_
  rintro e w6 ⟨A6, n6, c6, rfl, i6, b6⟩
  replace HB := hide ((unhide HB).trans (b6.mono (unhide HB).size))
  replace Ia := hide (((unhide Ia).below b6).more b6.size)
  replace Ib := hide (((unhide Ib).below b6).more b6.size)
  replace Ig := hide (((unhide Ig).below b6).more b6.size)
  clear b6
  rw [ta.out] at i6
  have I1 := hide i6
  clear i6
  go_wp2_with fail
  refine (list_ints _ _ _ _ _ _ (unhide Ib)).mono ?_
  rintro e w7 ⟨A7, n7, c7, rfl, i7, b7⟩
  replace HB := hide ((unhide HB).trans (b7.mono (unhide HB).size))
  replace Ia := hide (((unhide Ia).below b7).more b7.size)
  replace Ib := hide (((unhide Ib).below b7).more b7.size)
  replace Ig := hide (((unhide Ig).below b7).more b7.size)
  replace I1 := hide (((unhide I1).below b7).more b7.size)
  clear b7
  rw [tb.out] at i7
  have I2 := hide i7
  clear i7
  go_wp2_with fail
  refine (Uneven_is _ _ _ _ _ _ _ _ _ (unhide I1) (unhide I2) hs true his).mono ?_
  rintro e w8 ⟨rfl, b8⟩
  replace HB := hide ((unhide HB).trans (b8.mono (unhide HB).size))
  replace Ia := hide (((unhide Ia).below b8).more b8.size)
  replace Ib := hide (((unhide Ib).below b8).more b8.size)
  replace Ig := hide (((unhide Ig).below b8).more b8.size)
  replace I1 := hide (((unhide I1).below b8).more b8.size)
  replace I2 := hide (((unhide I2).below b8).more b8.size)
  clear b8
  clear I1
  clear I2
  go_wp2_with fail
  refine (list_ints _ _ _ _ _ _ (unhide Ia)).mono ?_
  rintro e w9 ⟨A9, n9, c9, rfl, i9, b9⟩
  replace HB := hide ((unhide HB).trans (b9.mono (unhide HB).size))
  replace Ia := hide (((unhide Ia).below b9).more b9.size)
  replace Ib := hide (((unhide Ib).below b9).more b9.size)
  replace Ig := hide (((unhide Ig).below b9).more b9.size)
  clear b9
  rw [ta.out] at i9
  have I1 := hide i9
  clear i9
  go_wp2_with fail
  refine (Gap_is _ _ _ _ _ _ (unhide I1) sa gx hgx').mono ?_
  rintro e w10 ⟨rfl, rfl⟩
  clear I1
  go_wp2_with fail
  refine (list_ints _ _ _ _ _ _ (unhide Ib)).mono ?_
  rintro e w11 ⟨A11, n11, c11, rfl, i11, b11⟩
  replace HB := hide ((unhide HB).trans (b11.mono (unhide HB).size))
  replace Ia := hide (((unhide Ia).below b11).more b11.size)
  replace Ib := hide (((unhide Ib).below b11).more b11.size)
  replace Ig := hide (((unhide Ig).below b11).more b11.size)
  clear b11
  rw [tb.out] at i11
  have I1 := hide i11
  clear i11
  go_wp2_with fail
  refine (Gap_is _ _ _ _ _ _ (unhide I1) sb gy hgy').mono ?_
  rintro e w12 ⟨rfl, rfl⟩
  clear I1
  go_wp2_with fail
  refine (list_ints _ _ _ _ _ _ (unhide Ia)).mono ?_
  rintro e w13 ⟨A13, n13, c13, rfl, i13, b13⟩
  replace HB := hide ((unhide HB).trans (b13.mono (unhide HB).size))
  replace Ia := hide (((unhide Ia).below b13).more b13.size)
  replace Ib := hide (((unhide Ib).below b13).more b13.size)
  replace Ig := hide (((unhide Ig).below b13).more b13.size)
  clear b13
  rw [ta.out] at i13
  have I1 := hide i13
  clear i13
  go_wp2_with fail
  refine (list_ints _ _ _ _ _ _ (unhide Ib)).mono ?_
  rintro e w14 ⟨A14, n14, c14, rfl, i14, b14⟩
  replace HB := hide ((unhide HB).trans (b14.mono (unhide HB).size))
  replace Ia := hide (((unhide Ia).below b14).more b14.size)
  replace Ib := hide (((unhide Ib).below b14).more b14.size)
  replace Ig := hide (((unhide Ig).below b14).more b14.size)
  replace I1 := hide (((unhide I1).below b14).more b14.size)
  clear b14
  rw [tb.out] at i14
  have I2 := hide i14
  clear i14
  go_wp2_with fail
  refine (Gives_arg _ _ _ _ _ _ _ _ _ _ _ (unhide I1) (unhide I2) hno).mono ?_
  rintro e w15 ⟨rfl, b15⟩
  replace HB := hide ((unhide HB).trans (b15.mono (unhide HB).size))
  replace Ia := hide (((unhide Ia).below b15).more b15.size)
  replace Ib := hide (((unhide Ib).below b15).more b15.size)
  replace Ig := hide (((unhide Ig).below b15).more b15.size)
  replace I1 := hide (((unhide I1).below b15).more b15.size)
  replace I2 := hide (((unhide I2).below b15).more b15.size)
  clear b15
  clear I1
  clear I2
  go_wp2_with fail
  refine (Falling_b _ _ _ _ _ _ (unhide Ia) false hx).mono ?_
  rintro e w16 ⟨rfl, b16⟩
  replace HB := hide ((unhide HB).trans (b16.mono (unhide HB).size))
  replace Ia := hide (((unhide Ia).below b16).more b16.size)
  replace Ib := hide (((unhide Ib).below b16).more b16.size)
  replace Ig := hide (((unhide Ig).below b16).more b16.size)
  clear b16
  go_wp2_with fail
  refine (awake_any _).mono ?_
  rintro e w17 ⟨rfl, b17⟩
  replace HB := hide ((unhide HB).trans (b17.mono (unhide HB).size))
  replace Ia := hide (((unhide Ia).below b17).more b17.size)
  replace Ib := hide (((unhide Ib).below b17).more b17.size)
  replace Ig := hide (((unhide Ig).below b17).more b17.size)
  clear b17
  go_wp2_with fail
  go_ret
  exact ⟨rfl, unhide HB⟩

set_option maxHeartbeats 2000000 in
theorem Less_tttf (A A' A'' : Option Addr) (n c n' c' n'' c'' : Nat) (xs ys : List Int) (gs : List G) (w : World) (h : Ints w w.heap.size A n c xs) (h' : Ints w w.heap.size A' n' c' ys) (h'' : Gs w w.heap.size A'' n'' c'' gs) (hs : Hid (areSh xs ys = true)) (hok : Hid (decide (runG xs (gs.take 60) = some ys) = true)) (his : Hid (unevS xs ys = true)) (hx : Hid (isFal xs = true)) (hy : Hid (isFal ys = false)) (hg : Hid (gap ys ≤ gap xs)) :
    Calls Try.prog 10 #[.slice A n c, .slice A' n' c', .slice A'' n'' c''] w fun e w' => e = .returned (.bool true) ∧ Below w.heap.size w w' := by
  have HB := hide (Below.refl w.heap.size w)
  have Ia := hide h; have Ib := hide h'; have Ig := hide h''; clear h h' h''
  have ta := hide (take_of_sh (areSh_left hs.out).1); have tb := hide (take_of_sh (areSh_left hs.out).2.1)
  have sa := hide (areSh_left hs.out).1; have sb := hide (areSh_left hs.out).2.1
  have hno := hide (show (areSh xs ys && (isFal xs && isFal ys)) = false from by rw [hx.out, hy.out]; simp)
  obtain ⟨gx, hgx⟩ : ∃ z, gap xs = z := ⟨_, rfl⟩
  obtain ⟨gy, hgy⟩ : ∃ z, gap ys = z := ⟨_, rfl⟩
  have hle : gy ≤ gx := by have := hg.out; rw [hgx, hgy] at this; exact this
  have hgx' := hide hgx; have hgy' := hide hgy; clear hgx hgy
  go_enter Try.func10, Try.ntmps10
  go_wp2_with fail
  refine (list_ints _ _ _ _ _ _ (unhide Ia)).mono ?_
  rintro e w1 ⟨A1, n1, c1, rfl, i1, b1⟩
  replace HB := hide ((unhide HB).trans (b1.mono (unhide HB).size))
  replace Ia := hide (((unhide Ia).below b1).more b1.size)
  replace Ib := hide (((unhide Ib).below b1).more b1.size)
  replace Ig := hide (((unhide Ig).below b1).more b1.size)
  clear b1
  rw [ta.out] at i1
  have I1 := hide i1
  clear i1
  go_wp2_with fail
  refine (list_ints _ _ _ _ _ _ (unhide Ib)).mono ?_
  rintro e w2 ⟨A2, n2, c2, rfl, i2, b2⟩
  replace HB := hide ((unhide HB).trans (b2.mono (unhide HB).size))
  replace Ia := hide (((unhide Ia).below b2).more b2.size)
  replace Ib := hide (((unhide Ib).below b2).more b2.size)
  replace Ig := hide (((unhide Ig).below b2).more b2.size)
  replace I1 := hide (((unhide I1).below b2).more b2.size)
  clear b2
  rw [tb.out] at i2
  have I2 := hide i2
  clear i2
  go_wp2_with fail
  refine (Of_any _ _ _ _ _ (unhide Ig)).mono ?_
  rintro e w3 ⟨A3, n3, c3, rfl, i3, b3⟩
  replace HB := hide ((unhide HB).trans (b3.mono (unhide HB).size))
  replace Ia := hide (((unhide Ia).below b3).more b3.size)
  replace Ib := hide (((unhide Ib).below b3).more b3.size)
  replace Ig := hide (((unhide Ig).below b3).more b3.size)
  replace I1 := hide (((unhide I1).below b3).more b3.size)
  replace I2 := hide (((unhide I2).below b3).more b3.size)
  clear b3
  have Og := hide i3
  clear i3
  go_wp2_with fail
  refine (CheckGives_ok _ _ _ _ _ _ _ _ _ _ _ _ _ (unhide I1) (unhide I2) (unhide Og) hs true hok).mono ?_
  rintro e w4 ⟨rfl, b4⟩
  replace HB := hide ((unhide HB).trans (b4.mono (unhide HB).size))
  replace Ia := hide (((unhide Ia).below b4).more b4.size)
  replace Ib := hide (((unhide Ib).below b4).more b4.size)
  replace Ig := hide (((unhide Ig).below b4).more b4.size)
  replace I1 := hide (((unhide I1).below b4).more b4.size)
  replace I2 := hide (((unhide I2).below b4).more b4.size)
  replace Og := hide (((unhide Og).below b4).more b4.size)
  clear b4
  clear I1
  clear I2
  clear Og
  go_wp2_with fail
  refine (Two_is _ _ _ _ _ _ _ _ _ _ _ (unhide Ia) (unhide Ib) true hs).mono ?_
  rintro e w5 ⟨rfl, rfl⟩
  go_wp2_with fail
  refine (list_ints _ _ _ _ _ _ (unhide Ia)).mono ?_
  rintro e w6 ⟨A6, n6, c6, rfl, i6, b6⟩
  replace HB := hide ((unhide HB).trans (b6.mono (unhide HB).size))
  replace Ia := hide (((unhide Ia).below b6).more b6.size)
  replace Ib := hide (((unhide Ib).below b6).more b6.size)
  replace Ig := hide (((unhide Ig).below b6).more b6.size)
  clear b6
  rw [ta.out] at i6
  have I1 := hide i6
  clear i6
  go_wp2_with fail
  refine (list_ints _ _ _ _ _ _ (unhide Ib)).mono ?_
  rintro e w7 ⟨A7, n7, c7, rfl, i7, b7⟩
  replace HB := hide ((unhide HB).trans (b7.mono (unhide HB).size))
  replace Ia := hide (((unhide Ia).below b7).more b7.size)
  replace Ib := hide (((unhide Ib).below b7).more b7.size)
  replace Ig := hide (((unhide Ig).below b7).more b7.size)
  replace I1 := hide (((unhide I1).below b7).more b7.size)
  clear b7
  rw [tb.out] at i7
  have I2 := hide i7
  clear i7
  go_wp2_with fail
  refine (Uneven_is _ _ _ _ _ _ _ _ _ (unhide I1) (unhide I2) hs true his).mono ?_
  rintro e w8 ⟨rfl, b8⟩
  replace HB := hide ((unhide HB).trans (b8.mono (unhide HB).size))
  replace Ia := hide (((unhide Ia).below b8).more b8.size)
  replace Ib := hide (((unhide Ib).below b8).more b8.size)
  replace Ig := hide (((unhide Ig).below b8).more b8.size)
  replace I1 := hide (((unhide I1).below b8).more b8.size)
  replace I2 := hide (((unhide I2).below b8).more b8.size)
  clear b8
  clear I1
  clear I2
  go_wp2_with fail
  refine (list_ints _ _ _ _ _ _ (unhide Ia)).mono ?_
  rintro e w9 ⟨A9, n9, c9, rfl, i9, b9⟩
  replace HB := hide ((unhide HB).trans (b9.mono (unhide HB).size))
  replace Ia := hide (((unhide Ia).below b9).more b9.size)
  replace Ib := hide (((unhide Ib).below b9).more b9.size)
  replace Ig := hide (((unhide Ig).below b9).more b9.size)
  clear b9
  rw [ta.out] at i9
  have I1 := hide i9
  clear i9
  go_wp2_with fail
  refine (Gap_is _ _ _ _ _ _ (unhide I1) sa gx hgx').mono ?_
  rintro e w10 ⟨rfl, rfl⟩
  clear I1
  go_wp2_with fail
  refine (list_ints _ _ _ _ _ _ (unhide Ib)).mono ?_
  rintro e w11 ⟨A11, n11, c11, rfl, i11, b11⟩
  replace HB := hide ((unhide HB).trans (b11.mono (unhide HB).size))
  replace Ia := hide (((unhide Ia).below b11).more b11.size)
  replace Ib := hide (((unhide Ib).below b11).more b11.size)
  replace Ig := hide (((unhide Ig).below b11).more b11.size)
  clear b11
  rw [tb.out] at i11
  have I1 := hide i11
  clear i11
  go_wp2_with fail
  refine (Gap_is _ _ _ _ _ _ (unhide I1) sb gy hgy').mono ?_
  rintro e w12 ⟨rfl, rfl⟩
  clear I1
  go_wp2_with fail
  refine (list_ints _ _ _ _ _ _ (unhide Ia)).mono ?_
  rintro e w13 ⟨A13, n13, c13, rfl, i13, b13⟩
  replace HB := hide ((unhide HB).trans (b13.mono (unhide HB).size))
  replace Ia := hide (((unhide Ia).below b13).more b13.size)
  replace Ib := hide (((unhide Ib).below b13).more b13.size)
  replace Ig := hide (((unhide Ig).below b13).more b13.size)
  clear b13
  rw [ta.out] at i13
  have I1 := hide i13
  clear i13
  go_wp2_with fail
  refine (list_ints _ _ _ _ _ _ (unhide Ib)).mono ?_
  rintro e w14 ⟨A14, n14, c14, rfl, i14, b14⟩
  replace HB := hide ((unhide HB).trans (b14.mono (unhide HB).size))
  replace Ia := hide (((unhide Ia).below b14).more b14.size)
  replace Ib := hide (((unhide Ib).below b14).more b14.size)
  replace Ig := hide (((unhide Ig).below b14).more b14.size)
  replace I1 := hide (((unhide I1).below b14).more b14.size)
  clear b14
  rw [tb.out] at i14
  have I2 := hide i14
  clear i14
  go_wp2_with fail
  refine (Gives_arg _ _ _ _ _ _ _ _ _ _ _ (unhide I1) (unhide I2) hno).mono ?_
  rintro e w15 ⟨rfl, b15⟩
  replace HB := hide ((unhide HB).trans (b15.mono (unhide HB).size))
  replace Ia := hide (((unhide Ia).below b15).more b15.size)
  replace Ib := hide (((unhide Ib).below b15).more b15.size)
  replace Ig := hide (((unhide Ig).below b15).more b15.size)
  replace I1 := hide (((unhide I1).below b15).more b15.size)
  replace I2 := hide (((unhide I2).below b15).more b15.size)
  clear b15
  clear I1
  clear I2
  go_wp2_with fail
  refine (Falling_b _ _ _ _ _ _ (unhide Ia) true hx).mono ?_
  rintro e w16 ⟨rfl, b16⟩
  replace HB := hide ((unhide HB).trans (b16.mono (unhide HB).size))
  replace Ia := hide (((unhide Ia).below b16).more b16.size)
  replace Ib := hide (((unhide Ib).below b16).more b16.size)
  replace Ig := hide (((unhide Ig).below b16).more b16.size)
  clear b16
  go_wp2_with fail
  refine (Falling_b _ _ _ _ _ _ (unhide Ib) false hy).mono ?_
  rintro e w17 ⟨rfl, b17⟩
  replace HB := hide ((unhide HB).trans (b17.mono (unhide HB).size))
  replace Ia := hide (((unhide Ia).below b17).more b17.size)
  replace Ib := hide (((unhide Ib).below b17).more b17.size)
  replace Ig := hide (((unhide Ig).below b17).more b17.size)
  clear b17
  go_wp2_with fail
  refine (awake_any _).mono ?_
  rintro e w18 ⟨rfl, b18⟩
  replace HB := hide ((unhide HB).trans (b18.mono (unhide HB).size))
  replace Ia := hide (((unhide Ia).below b18).more b18.size)
  replace Ib := hide (((unhide Ib).below b18).more b18.size)
  replace Ig := hide (((unhide Ig).below b18).more b18.size)
  clear b18
  go_wp2_with fail
  go_ret
  exact ⟨rfl, unhide HB⟩

set_option maxHeartbeats 2000000 in
theorem Less_tttt (A A' A'' : Option Addr) (n c n' c' n'' c'' : Nat) (xs ys : List Int) (gs : List G) (w : World) (h : Ints w w.heap.size A n c xs) (h' : Ints w w.heap.size A' n' c' ys) (h'' : Gs w w.heap.size A'' n'' c'' gs) (hs : Hid (areSh xs ys = true)) (hok : Hid (decide (runG xs (gs.take 60) = some ys) = true)) (his : Hid (unevS xs ys = true)) (hx : Hid (isFal xs = true)) (hy : Hid (isFal ys = true)) (hg : Hid (gap ys ≤ gap xs)) :
    Calls Try.prog 10 #[.slice A n c, .slice A' n' c', .slice A'' n'' c''] w fun e w' => e = .returned (.bool true) ∧ Below w.heap.size w w' := by
  have HB := hide (Below.refl w.heap.size w)
  have Ia := hide h; have Ib := hide h'; have Ig := hide h''; clear h h' h''
  have ta := hide (take_of_sh (areSh_left hs.out).1); have tb := hide (take_of_sh (areSh_left hs.out).2.1)
  have sa := hide (areSh_left hs.out).1; have sb := hide (areSh_left hs.out).2.1
  have hd := hide (show domB xs ys = true from by rw [← unevS_fal hx.out hy.out]; exact his.out)
  obtain ⟨gx, hgx⟩ : ∃ z, gap xs = z := ⟨_, rfl⟩
  obtain ⟨gy, hgy⟩ : ∃ z, gap ys = z := ⟨_, rfl⟩
  have hle : gy ≤ gx := by have := hg.out; rw [hgx, hgy] at this; exact this
  have hgx' := hide hgx; have hgy' := hide hgy; clear hgx hgy
  go_enter Try.func10, Try.ntmps10
  go_wp2_with fail
  refine (list_ints _ _ _ _ _ _ (unhide Ia)).mono ?_
  rintro e w1 ⟨A1, n1, c1, rfl, i1, b1⟩
  replace HB := hide ((unhide HB).trans (b1.mono (unhide HB).size))
  replace Ia := hide (((unhide Ia).below b1).more b1.size)
  replace Ib := hide (((unhide Ib).below b1).more b1.size)
  replace Ig := hide (((unhide Ig).below b1).more b1.size)
  clear b1
  rw [ta.out] at i1
  have I1 := hide i1
  clear i1
  go_wp2_with fail
  refine (list_ints _ _ _ _ _ _ (unhide Ib)).mono ?_
  rintro e w2 ⟨A2, n2, c2, rfl, i2, b2⟩
  replace HB := hide ((unhide HB).trans (b2.mono (unhide HB).size))
  replace Ia := hide (((unhide Ia).below b2).more b2.size)
  replace Ib := hide (((unhide Ib).below b2).more b2.size)
  replace Ig := hide (((unhide Ig).below b2).more b2.size)
  replace I1 := hide (((unhide I1).below b2).more b2.size)
  clear b2
  rw [tb.out] at i2
  have I2 := hide i2
  clear i2
  go_wp2_with fail
  refine (Of_any _ _ _ _ _ (unhide Ig)).mono ?_
  rintro e w3 ⟨A3, n3, c3, rfl, i3, b3⟩
  replace HB := hide ((unhide HB).trans (b3.mono (unhide HB).size))
  replace Ia := hide (((unhide Ia).below b3).more b3.size)
  replace Ib := hide (((unhide Ib).below b3).more b3.size)
  replace Ig := hide (((unhide Ig).below b3).more b3.size)
  replace I1 := hide (((unhide I1).below b3).more b3.size)
  replace I2 := hide (((unhide I2).below b3).more b3.size)
  clear b3
  have Og := hide i3
  clear i3
  go_wp2_with fail
  refine (CheckGives_ok _ _ _ _ _ _ _ _ _ _ _ _ _ (unhide I1) (unhide I2) (unhide Og) hs true hok).mono ?_
  rintro e w4 ⟨rfl, b4⟩
  replace HB := hide ((unhide HB).trans (b4.mono (unhide HB).size))
  replace Ia := hide (((unhide Ia).below b4).more b4.size)
  replace Ib := hide (((unhide Ib).below b4).more b4.size)
  replace Ig := hide (((unhide Ig).below b4).more b4.size)
  replace I1 := hide (((unhide I1).below b4).more b4.size)
  replace I2 := hide (((unhide I2).below b4).more b4.size)
  replace Og := hide (((unhide Og).below b4).more b4.size)
  clear b4
  clear I1
  clear I2
  clear Og
  go_wp2_with fail
  refine (Two_is _ _ _ _ _ _ _ _ _ _ _ (unhide Ia) (unhide Ib) true hs).mono ?_
  rintro e w5 ⟨rfl, rfl⟩
  go_wp2_with fail
  refine (list_ints _ _ _ _ _ _ (unhide Ia)).mono ?_
  rintro e w6 ⟨A6, n6, c6, rfl, i6, b6⟩
  replace HB := hide ((unhide HB).trans (b6.mono (unhide HB).size))
  replace Ia := hide (((unhide Ia).below b6).more b6.size)
  replace Ib := hide (((unhide Ib).below b6).more b6.size)
  replace Ig := hide (((unhide Ig).below b6).more b6.size)
  clear b6
  rw [ta.out] at i6
  have I1 := hide i6
  clear i6
  go_wp2_with fail
  refine (list_ints _ _ _ _ _ _ (unhide Ib)).mono ?_
  rintro e w7 ⟨A7, n7, c7, rfl, i7, b7⟩
  replace HB := hide ((unhide HB).trans (b7.mono (unhide HB).size))
  replace Ia := hide (((unhide Ia).below b7).more b7.size)
  replace Ib := hide (((unhide Ib).below b7).more b7.size)
  replace Ig := hide (((unhide Ig).below b7).more b7.size)
  replace I1 := hide (((unhide I1).below b7).more b7.size)
  clear b7
  rw [tb.out] at i7
  have I2 := hide i7
  clear i7
  go_wp2_with fail
  refine (Uneven_is _ _ _ _ _ _ _ _ _ (unhide I1) (unhide I2) hs true his).mono ?_
  rintro e w8 ⟨rfl, b8⟩
  replace HB := hide ((unhide HB).trans (b8.mono (unhide HB).size))
  replace Ia := hide (((unhide Ia).below b8).more b8.size)
  replace Ib := hide (((unhide Ib).below b8).more b8.size)
  replace Ig := hide (((unhide Ig).below b8).more b8.size)
  replace I1 := hide (((unhide I1).below b8).more b8.size)
  replace I2 := hide (((unhide I2).below b8).more b8.size)
  clear b8
  clear I1
  clear I2
  go_wp2_with fail
  refine (list_ints _ _ _ _ _ _ (unhide Ia)).mono ?_
  rintro e w9 ⟨A9, n9, c9, rfl, i9, b9⟩
  replace HB := hide ((unhide HB).trans (b9.mono (unhide HB).size))
  replace Ia := hide (((unhide Ia).below b9).more b9.size)
  replace Ib := hide (((unhide Ib).below b9).more b9.size)
  replace Ig := hide (((unhide Ig).below b9).more b9.size)
  clear b9
  rw [ta.out] at i9
  have I1 := hide i9
  clear i9
  go_wp2_with fail
  refine (Gap_is _ _ _ _ _ _ (unhide I1) sa gx hgx').mono ?_
  rintro e w10 ⟨rfl, rfl⟩
  clear I1
  go_wp2_with fail
  refine (list_ints _ _ _ _ _ _ (unhide Ib)).mono ?_
  rintro e w11 ⟨A11, n11, c11, rfl, i11, b11⟩
  replace HB := hide ((unhide HB).trans (b11.mono (unhide HB).size))
  replace Ia := hide (((unhide Ia).below b11).more b11.size)
  replace Ib := hide (((unhide Ib).below b11).more b11.size)
  replace Ig := hide (((unhide Ig).below b11).more b11.size)
  clear b11
  rw [tb.out] at i11
  have I1 := hide i11
  clear i11
  go_wp2_with fail
  refine (Gap_is _ _ _ _ _ _ (unhide I1) sb gy hgy').mono ?_
  rintro e w12 ⟨rfl, rfl⟩
  clear I1
  go_wp2_with fail
  refine (list_ints _ _ _ _ _ _ (unhide Ia)).mono ?_
  rintro e w13 ⟨A13, n13, c13, rfl, i13, b13⟩
  replace HB := hide ((unhide HB).trans (b13.mono (unhide HB).size))
  replace Ia := hide (((unhide Ia).below b13).more b13.size)
  replace Ib := hide (((unhide Ib).below b13).more b13.size)
  replace Ig := hide (((unhide Ig).below b13).more b13.size)
  clear b13
  rw [ta.out] at i13
  have I1 := hide i13
  clear i13
  go_wp2_with fail
  refine (list_ints _ _ _ _ _ _ (unhide Ib)).mono ?_
  rintro e w14 ⟨A14, n14, c14, rfl, i14, b14⟩
  replace HB := hide ((unhide HB).trans (b14.mono (unhide HB).size))
  replace Ia := hide (((unhide Ia).below b14).more b14.size)
  replace Ib := hide (((unhide Ib).below b14).more b14.size)
  replace Ig := hide (((unhide Ig).below b14).more b14.size)
  replace I1 := hide (((unhide I1).below b14).more b14.size)
  clear b14
  rw [tb.out] at i14
  have I2 := hide i14
  clear i14
  go_wp2_with fail
  refine (Gives_ok _ _ _ _ _ _ _ _ _ (unhide I1) (unhide I2) hs hx hy hd).mono ?_
  rintro e w15 ⟨A15, n15, c15, gz, rfl, i15, hr, hl, b15⟩
  replace HB := hide ((unhide HB).trans (b15.mono (unhide HB).size))
  replace Ia := hide (((unhide Ia).below b15).more b15.size)
  replace Ib := hide (((unhide Ib).below b15).more b15.size)
  replace Ig := hide (((unhide Ig).below b15).more b15.size)
  replace I1 := hide (((unhide I1).below b15).more b15.size)
  replace I2 := hide (((unhide I2).below b15).more b15.size)
  clear b15
  have Iz := hide i15
  clear i15
  clear I1
  clear I2
  go_wp2_with fail
  refine (list_ints _ _ _ _ _ _ (unhide Ia)).mono ?_
  rintro e w16 ⟨A16, n16, c16, rfl, i16, b16⟩
  replace HB := hide ((unhide HB).trans (b16.mono (unhide HB).size))
  replace Ia := hide (((unhide Ia).below b16).more b16.size)
  replace Ib := hide (((unhide Ib).below b16).more b16.size)
  replace Ig := hide (((unhide Ig).below b16).more b16.size)
  replace Iz := hide (((unhide Iz).below b16).more b16.size)
  clear b16
  rw [ta.out] at i16
  have I1 := hide i16
  clear i16
  go_wp2_with fail
  refine (list_ints _ _ _ _ _ _ (unhide Ib)).mono ?_
  rintro e w17 ⟨A17, n17, c17, rfl, i17, b17⟩
  replace HB := hide ((unhide HB).trans (b17.mono (unhide HB).size))
  replace Ia := hide (((unhide Ia).below b17).more b17.size)
  replace Ib := hide (((unhide Ib).below b17).more b17.size)
  replace Ig := hide (((unhide Ig).below b17).more b17.size)
  replace Iz := hide (((unhide Iz).below b17).more b17.size)
  replace I1 := hide (((unhide I1).below b17).more b17.size)
  clear b17
  rw [tb.out] at i17
  have I2 := hide i17
  clear i17
  go_wp2_with fail
  refine (CheckGives_ok _ _ _ _ _ _ _ _ _ _ _ _ _ (unhide I1) (unhide I2) (unhide Iz) hs true (hide (decide_eq_true hr.out))).mono ?_
  rintro e w18 ⟨rfl, b18⟩
  replace HB := hide ((unhide HB).trans (b18.mono (unhide HB).size))
  replace Ia := hide (((unhide Ia).below b18).more b18.size)
  replace Ib := hide (((unhide Ib).below b18).more b18.size)
  replace Ig := hide (((unhide Ig).below b18).more b18.size)
  replace Iz := hide (((unhide Iz).below b18).more b18.size)
  replace I1 := hide (((unhide I1).below b18).more b18.size)
  replace I2 := hide (((unhide I2).below b18).more b18.size)
  clear b18
  clear I1
  clear I2
  go_wp2_with fail
  refine (awake_any _).mono ?_
  rintro e w19 ⟨rfl, b19⟩
  replace HB := hide ((unhide HB).trans (b19.mono (unhide HB).size))
  replace Ia := hide (((unhide Ia).below b19).more b19.size)
  replace Ib := hide (((unhide Ib).below b19).more b19.size)
  replace Ig := hide (((unhide Ig).below b19).more b19.size)
  replace Iz := hide (((unhide Iz).below b19).more b19.size)
  clear b19
  go_wp2_with fail
  go_ret
  exact ⟨rfl, unhide HB⟩

set_option maxHeartbeats 2000000 in
theorem Less_ftff (A A' A'' : Option Addr) (n c n' c' n'' c'' : Nat) (xs ys : List Int) (gs : List G) (w : World) (h : Ints w w.heap.size A n c xs) (h' : Ints w w.heap.size A' n' c' ys) (h'' : Gs w w.heap.size A'' n'' c'' gs) (hs : Hid (areSh xs ys = true)) (hok : Hid (decide (runG xs (gs.take 60) = some ys) = false)) (his : Hid (unevS xs ys = true)) (hx : Hid (isFal xs = false)) :
    Calls Try.prog 10 #[.slice A n c, .slice A' n' c', .slice A'' n'' c''] w fun e w' => e = .returned (.bool true) ∧ Below w.heap.size w w' := by
  have HB := hide (Below.refl w.heap.size w)
  have Ia := hide h; have Ib := hide h'; have Ig := hide h''; clear h h' h''
  have ta := hide (take_of_sh (areSh_left hs.out).1); have tb := hide (take_of_sh (areSh_left hs.out).2.1)
  have sa := hide (areSh_left hs.out).1; have sb := hide (areSh_left hs.out).2.1
  have hno := hide (show (areSh xs ys && (isFal xs && isFal ys)) = false from by rw [hx.out]; simp)
  obtain ⟨gx, hgx⟩ : ∃ z, gap xs = z := ⟨_, rfl⟩
  obtain ⟨gy, hgy⟩ : ∃ z, gap ys = z := ⟨_, rfl⟩
  have hgx' := hide hgx; have hgy' := hide hgy; clear hgx hgy
  go_enter Try.func10, Try.ntmps10
  go_wp2_with fail
  refine (list_ints _ _ _ _ _ _ (unhide Ia)).mono ?_
  rintro e w1 ⟨A1, n1, c1, rfl, i1, b1⟩
  replace HB := hide ((unhide HB).trans (b1.mono (unhide HB).size))
  replace Ia := hide (((unhide Ia).below b1).more b1.size)
  replace Ib := hide (((unhide Ib).below b1).more b1.size)
  replace Ig := hide (((unhide Ig).below b1).more b1.size)
  clear b1
  rw [ta.out] at i1
  have I1 := hide i1
  clear i1
  go_wp2_with fail
  refine (list_ints _ _ _ _ _ _ (unhide Ib)).mono ?_
  rintro e w2 ⟨A2, n2, c2, rfl, i2, b2⟩
  replace HB := hide ((unhide HB).trans (b2.mono (unhide HB).size))
  replace Ia := hide (((unhide Ia).below b2).more b2.size)
  replace Ib := hide (((unhide Ib).below b2).more b2.size)
  replace Ig := hide (((unhide Ig).below b2).more b2.size)
  replace I1 := hide (((unhide I1).below b2).more b2.size)
  clear b2
  rw [tb.out] at i2
  have I2 := hide i2
  clear i2
  go_wp2_with fail
  refine (Of_any _ _ _ _ _ (unhide Ig)).mono ?_
  rintro e w3 ⟨A3, n3, c3, rfl, i3, b3⟩
  replace HB := hide ((unhide HB).trans (b3.mono (unhide HB).size))
  replace Ia := hide (((unhide Ia).below b3).more b3.size)
  replace Ib := hide (((unhide Ib).below b3).more b3.size)
  replace Ig := hide (((unhide Ig).below b3).more b3.size)
  replace I1 := hide (((unhide I1).below b3).more b3.size)
  replace I2 := hide (((unhide I2).below b3).more b3.size)
  clear b3
  have Og := hide i3
  clear i3
  go_wp2_with fail
  refine (CheckGives_ok _ _ _ _ _ _ _ _ _ _ _ _ _ (unhide I1) (unhide I2) (unhide Og) hs false hok).mono ?_
  rintro e w4 ⟨rfl, b4⟩
  replace HB := hide ((unhide HB).trans (b4.mono (unhide HB).size))
  replace Ia := hide (((unhide Ia).below b4).more b4.size)
  replace Ib := hide (((unhide Ib).below b4).more b4.size)
  replace Ig := hide (((unhide Ig).below b4).more b4.size)
  replace I1 := hide (((unhide I1).below b4).more b4.size)
  replace I2 := hide (((unhide I2).below b4).more b4.size)
  replace Og := hide (((unhide Og).below b4).more b4.size)
  clear b4
  clear I1
  clear I2
  clear Og
  go_wp2_with fail
  refine (Two_is _ _ _ _ _ _ _ _ _ _ _ (unhide Ia) (unhide Ib) true hs).mono ?_
  rintro e w5 ⟨rfl, rfl⟩
  go_wp2_with fail
  refine (list_ints _ _ _ _ _ _ (unhide Ia)).mono ?_
  rintro e w6 ⟨A6, n6, c6, rfl, i6, b6⟩
  replace HB := hide ((unhide HB).trans (b6.mono (unhide HB).size))
  replace Ia := hide (((unhide Ia).below b6).more b6.size)
  replace Ib := hide (((unhide Ib).below b6).more b6.size)
  replace Ig := hide (((unhide Ig).below b6).more b6.size)
  clear b6
  rw [ta.out] at i6
  have I1 := hide i6
  clear i6
  go_wp2_with fail
  refine (list_ints _ _ _ _ _ _ (unhide Ib)).mono ?_
  rintro e w7 ⟨A7, n7, c7, rfl, i7, b7⟩
  replace HB := hide ((unhide HB).trans (b7.mono (unhide HB).size))
  replace Ia := hide (((unhide Ia).below b7).more b7.size)
  replace Ib := hide (((unhide Ib).below b7).more b7.size)
  replace Ig := hide (((unhide Ig).below b7).more b7.size)
  replace I1 := hide (((unhide I1).below b7).more b7.size)
  clear b7
  rw [tb.out] at i7
  have I2 := hide i7
  clear i7
  go_wp2_with fail
  refine (Uneven_is _ _ _ _ _ _ _ _ _ (unhide I1) (unhide I2) hs true his).mono ?_
  rintro e w8 ⟨rfl, b8⟩
  replace HB := hide ((unhide HB).trans (b8.mono (unhide HB).size))
  replace Ia := hide (((unhide Ia).below b8).more b8.size)
  replace Ib := hide (((unhide Ib).below b8).more b8.size)
  replace Ig := hide (((unhide Ig).below b8).more b8.size)
  replace I1 := hide (((unhide I1).below b8).more b8.size)
  replace I2 := hide (((unhide I2).below b8).more b8.size)
  clear b8
  clear I1
  clear I2
  go_wp2_with fail
  refine (list_ints _ _ _ _ _ _ (unhide Ia)).mono ?_
  rintro e w9 ⟨A9, n9, c9, rfl, i9, b9⟩
  replace HB := hide ((unhide HB).trans (b9.mono (unhide HB).size))
  replace Ia := hide (((unhide Ia).below b9).more b9.size)
  replace Ib := hide (((unhide Ib).below b9).more b9.size)
  replace Ig := hide (((unhide Ig).below b9).more b9.size)
  clear b9
  rw [ta.out] at i9
  have I1 := hide i9
  clear i9
  go_wp2_with fail
  refine (Gap_is _ _ _ _ _ _ (unhide I1) sa gx hgx').mono ?_
  rintro e w10 ⟨rfl, rfl⟩
  clear I1
  go_wp2_with fail
  refine (list_ints _ _ _ _ _ _ (unhide Ib)).mono ?_
  rintro e w11 ⟨A11, n11, c11, rfl, i11, b11⟩
  replace HB := hide ((unhide HB).trans (b11.mono (unhide HB).size))
  replace Ia := hide (((unhide Ia).below b11).more b11.size)
  replace Ib := hide (((unhide Ib).below b11).more b11.size)
  replace Ig := hide (((unhide Ig).below b11).more b11.size)
  clear b11
  rw [tb.out] at i11
  have I1 := hide i11
  clear i11
  go_wp2_with fail
  refine (Gap_is _ _ _ _ _ _ (unhide I1) sb gy hgy').mono ?_
  rintro e w12 ⟨rfl, rfl⟩
  clear I1
  go_wp2_with fail
  refine (list_ints _ _ _ _ _ _ (unhide Ia)).mono ?_
  rintro e w13 ⟨A13, n13, c13, rfl, i13, b13⟩
  replace HB := hide ((unhide HB).trans (b13.mono (unhide HB).size))
  replace Ia := hide (((unhide Ia).below b13).more b13.size)
  replace Ib := hide (((unhide Ib).below b13).more b13.size)
  replace Ig := hide (((unhide Ig).below b13).more b13.size)
  clear b13
  rw [ta.out] at i13
  have I1 := hide i13
  clear i13
  go_wp2_with fail
  refine (list_ints _ _ _ _ _ _ (unhide Ib)).mono ?_
  rintro e w14 ⟨A14, n14, c14, rfl, i14, b14⟩
  replace HB := hide ((unhide HB).trans (b14.mono (unhide HB).size))
  replace Ia := hide (((unhide Ia).below b14).more b14.size)
  replace Ib := hide (((unhide Ib).below b14).more b14.size)
  replace Ig := hide (((unhide Ig).below b14).more b14.size)
  replace I1 := hide (((unhide I1).below b14).more b14.size)
  clear b14
  rw [tb.out] at i14
  have I2 := hide i14
  clear i14
  go_wp2_with fail
  refine (Gives_arg _ _ _ _ _ _ _ _ _ _ _ (unhide I1) (unhide I2) hno).mono ?_
  rintro e w15 ⟨rfl, b15⟩
  replace HB := hide ((unhide HB).trans (b15.mono (unhide HB).size))
  replace Ia := hide (((unhide Ia).below b15).more b15.size)
  replace Ib := hide (((unhide Ib).below b15).more b15.size)
  replace Ig := hide (((unhide Ig).below b15).more b15.size)
  replace I1 := hide (((unhide I1).below b15).more b15.size)
  replace I2 := hide (((unhide I2).below b15).more b15.size)
  clear b15
  clear I1
  clear I2
  go_wp2_with fail
  refine (Falling_b _ _ _ _ _ _ (unhide Ia) false hx).mono ?_
  rintro e w16 ⟨rfl, b16⟩
  replace HB := hide ((unhide HB).trans (b16.mono (unhide HB).size))
  replace Ia := hide (((unhide Ia).below b16).more b16.size)
  replace Ib := hide (((unhide Ib).below b16).more b16.size)
  replace Ig := hide (((unhide Ig).below b16).more b16.size)
  clear b16
  go_wp2_with fail
  refine (awake_any _).mono ?_
  rintro e w17 ⟨rfl, b17⟩
  replace HB := hide ((unhide HB).trans (b17.mono (unhide HB).size))
  replace Ia := hide (((unhide Ia).below b17).more b17.size)
  replace Ib := hide (((unhide Ib).below b17).more b17.size)
  replace Ig := hide (((unhide Ig).below b17).more b17.size)
  clear b17
  go_wp2_with fail
  go_ret
  exact ⟨rfl, unhide HB⟩

set_option maxHeartbeats 2000000 in
theorem Less_fttf (A A' A'' : Option Addr) (n c n' c' n'' c'' : Nat) (xs ys : List Int) (gs : List G) (w : World) (h : Ints w w.heap.size A n c xs) (h' : Ints w w.heap.size A' n' c' ys) (h'' : Gs w w.heap.size A'' n'' c'' gs) (hs : Hid (areSh xs ys = true)) (hok : Hid (decide (runG xs (gs.take 60) = some ys) = false)) (his : Hid (unevS xs ys = true)) (hx : Hid (isFal xs = true)) (hy : Hid (isFal ys = false)) :
    Calls Try.prog 10 #[.slice A n c, .slice A' n' c', .slice A'' n'' c''] w fun e w' => e = .returned (.bool true) ∧ Below w.heap.size w w' := by
  have HB := hide (Below.refl w.heap.size w)
  have Ia := hide h; have Ib := hide h'; have Ig := hide h''; clear h h' h''
  have ta := hide (take_of_sh (areSh_left hs.out).1); have tb := hide (take_of_sh (areSh_left hs.out).2.1)
  have sa := hide (areSh_left hs.out).1; have sb := hide (areSh_left hs.out).2.1
  have hno := hide (show (areSh xs ys && (isFal xs && isFal ys)) = false from by rw [hx.out, hy.out]; simp)
  obtain ⟨gx, hgx⟩ : ∃ z, gap xs = z := ⟨_, rfl⟩
  obtain ⟨gy, hgy⟩ : ∃ z, gap ys = z := ⟨_, rfl⟩
  have hgx' := hide hgx; have hgy' := hide hgy; clear hgx hgy
  go_enter Try.func10, Try.ntmps10
  go_wp2_with fail
  refine (list_ints _ _ _ _ _ _ (unhide Ia)).mono ?_
  rintro e w1 ⟨A1, n1, c1, rfl, i1, b1⟩
  replace HB := hide ((unhide HB).trans (b1.mono (unhide HB).size))
  replace Ia := hide (((unhide Ia).below b1).more b1.size)
  replace Ib := hide (((unhide Ib).below b1).more b1.size)
  replace Ig := hide (((unhide Ig).below b1).more b1.size)
  clear b1
  rw [ta.out] at i1
  have I1 := hide i1
  clear i1
  go_wp2_with fail
  refine (list_ints _ _ _ _ _ _ (unhide Ib)).mono ?_
  rintro e w2 ⟨A2, n2, c2, rfl, i2, b2⟩
  replace HB := hide ((unhide HB).trans (b2.mono (unhide HB).size))
  replace Ia := hide (((unhide Ia).below b2).more b2.size)
  replace Ib := hide (((unhide Ib).below b2).more b2.size)
  replace Ig := hide (((unhide Ig).below b2).more b2.size)
  replace I1 := hide (((unhide I1).below b2).more b2.size)
  clear b2
  rw [tb.out] at i2
  have I2 := hide i2
  clear i2
  go_wp2_with fail
  refine (Of_any _ _ _ _ _ (unhide Ig)).mono ?_
  rintro e w3 ⟨A3, n3, c3, rfl, i3, b3⟩
  replace HB := hide ((unhide HB).trans (b3.mono (unhide HB).size))
  replace Ia := hide (((unhide Ia).below b3).more b3.size)
  replace Ib := hide (((unhide Ib).below b3).more b3.size)
  replace Ig := hide (((unhide Ig).below b3).more b3.size)
  replace I1 := hide (((unhide I1).below b3).more b3.size)
  replace I2 := hide (((unhide I2).below b3).more b3.size)
  clear b3
  have Og := hide i3
  clear i3
  go_wp2_with fail
  refine (CheckGives_ok _ _ _ _ _ _ _ _ _ _ _ _ _ (unhide I1) (unhide I2) (unhide Og) hs false hok).mono ?_
  rintro e w4 ⟨rfl, b4⟩
  replace HB := hide ((unhide HB).trans (b4.mono (unhide HB).size))
  replace Ia := hide (((unhide Ia).below b4).more b4.size)
  replace Ib := hide (((unhide Ib).below b4).more b4.size)
  replace Ig := hide (((unhide Ig).below b4).more b4.size)
  replace I1 := hide (((unhide I1).below b4).more b4.size)
  replace I2 := hide (((unhide I2).below b4).more b4.size)
  replace Og := hide (((unhide Og).below b4).more b4.size)
  clear b4
  clear I1
  clear I2
  clear Og
  go_wp2_with fail
  refine (Two_is _ _ _ _ _ _ _ _ _ _ _ (unhide Ia) (unhide Ib) true hs).mono ?_
  rintro e w5 ⟨rfl, rfl⟩
  go_wp2_with fail
  refine (list_ints _ _ _ _ _ _ (unhide Ia)).mono ?_
  rintro e w6 ⟨A6, n6, c6, rfl, i6, b6⟩
  replace HB := hide ((unhide HB).trans (b6.mono (unhide HB).size))
  replace Ia := hide (((unhide Ia).below b6).more b6.size)
  replace Ib := hide (((unhide Ib).below b6).more b6.size)
  replace Ig := hide (((unhide Ig).below b6).more b6.size)
  clear b6
  rw [ta.out] at i6
  have I1 := hide i6
  clear i6
  go_wp2_with fail
  refine (list_ints _ _ _ _ _ _ (unhide Ib)).mono ?_
  rintro e w7 ⟨A7, n7, c7, rfl, i7, b7⟩
  replace HB := hide ((unhide HB).trans (b7.mono (unhide HB).size))
  replace Ia := hide (((unhide Ia).below b7).more b7.size)
  replace Ib := hide (((unhide Ib).below b7).more b7.size)
  replace Ig := hide (((unhide Ig).below b7).more b7.size)
  replace I1 := hide (((unhide I1).below b7).more b7.size)
  clear b7
  rw [tb.out] at i7
  have I2 := hide i7
  clear i7
  go_wp2_with fail
  refine (Uneven_is _ _ _ _ _ _ _ _ _ (unhide I1) (unhide I2) hs true his).mono ?_
  rintro e w8 ⟨rfl, b8⟩
  replace HB := hide ((unhide HB).trans (b8.mono (unhide HB).size))
  replace Ia := hide (((unhide Ia).below b8).more b8.size)
  replace Ib := hide (((unhide Ib).below b8).more b8.size)
  replace Ig := hide (((unhide Ig).below b8).more b8.size)
  replace I1 := hide (((unhide I1).below b8).more b8.size)
  replace I2 := hide (((unhide I2).below b8).more b8.size)
  clear b8
  clear I1
  clear I2
  go_wp2_with fail
  refine (list_ints _ _ _ _ _ _ (unhide Ia)).mono ?_
  rintro e w9 ⟨A9, n9, c9, rfl, i9, b9⟩
  replace HB := hide ((unhide HB).trans (b9.mono (unhide HB).size))
  replace Ia := hide (((unhide Ia).below b9).more b9.size)
  replace Ib := hide (((unhide Ib).below b9).more b9.size)
  replace Ig := hide (((unhide Ig).below b9).more b9.size)
  clear b9
  rw [ta.out] at i9
  have I1 := hide i9
  clear i9
  go_wp2_with fail
  refine (Gap_is _ _ _ _ _ _ (unhide I1) sa gx hgx').mono ?_
  rintro e w10 ⟨rfl, rfl⟩
  clear I1
  go_wp2_with fail
  refine (list_ints _ _ _ _ _ _ (unhide Ib)).mono ?_
  rintro e w11 ⟨A11, n11, c11, rfl, i11, b11⟩
  replace HB := hide ((unhide HB).trans (b11.mono (unhide HB).size))
  replace Ia := hide (((unhide Ia).below b11).more b11.size)
  replace Ib := hide (((unhide Ib).below b11).more b11.size)
  replace Ig := hide (((unhide Ig).below b11).more b11.size)
  clear b11
  rw [tb.out] at i11
  have I1 := hide i11
  clear i11
  go_wp2_with fail
  refine (Gap_is _ _ _ _ _ _ (unhide I1) sb gy hgy').mono ?_
  rintro e w12 ⟨rfl, rfl⟩
  clear I1
  go_wp2_with fail
  refine (list_ints _ _ _ _ _ _ (unhide Ia)).mono ?_
  rintro e w13 ⟨A13, n13, c13, rfl, i13, b13⟩
  replace HB := hide ((unhide HB).trans (b13.mono (unhide HB).size))
  replace Ia := hide (((unhide Ia).below b13).more b13.size)
  replace Ib := hide (((unhide Ib).below b13).more b13.size)
  replace Ig := hide (((unhide Ig).below b13).more b13.size)
  clear b13
  rw [ta.out] at i13
  have I1 := hide i13
  clear i13
  go_wp2_with fail
  refine (list_ints _ _ _ _ _ _ (unhide Ib)).mono ?_
  rintro e w14 ⟨A14, n14, c14, rfl, i14, b14⟩
  replace HB := hide ((unhide HB).trans (b14.mono (unhide HB).size))
  replace Ia := hide (((unhide Ia).below b14).more b14.size)
  replace Ib := hide (((unhide Ib).below b14).more b14.size)
  replace Ig := hide (((unhide Ig).below b14).more b14.size)
  replace I1 := hide (((unhide I1).below b14).more b14.size)
  clear b14
  rw [tb.out] at i14
  have I2 := hide i14
  clear i14
  go_wp2_with fail
  refine (Gives_arg _ _ _ _ _ _ _ _ _ _ _ (unhide I1) (unhide I2) hno).mono ?_
  rintro e w15 ⟨rfl, b15⟩
  replace HB := hide ((unhide HB).trans (b15.mono (unhide HB).size))
  replace Ia := hide (((unhide Ia).below b15).more b15.size)
  replace Ib := hide (((unhide Ib).below b15).more b15.size)
  replace Ig := hide (((unhide Ig).below b15).more b15.size)
  replace I1 := hide (((unhide I1).below b15).more b15.size)
  replace I2 := hide (((unhide I2).below b15).more b15.size)
  clear b15
  clear I1
  clear I2
  go_wp2_with fail
  refine (Falling_b _ _ _ _ _ _ (unhide Ia) true hx).mono ?_
  rintro e w16 ⟨rfl, b16⟩
  replace HB := hide ((unhide HB).trans (b16.mono (unhide HB).size))
  replace Ia := hide (((unhide Ia).below b16).more b16.size)
  replace Ib := hide (((unhide Ib).below b16).more b16.size)
  replace Ig := hide (((unhide Ig).below b16).more b16.size)
  clear b16
  go_wp2_with fail
  refine (Falling_b _ _ _ _ _ _ (unhide Ib) false hy).mono ?_
  rintro e w17 ⟨rfl, b17⟩
  replace HB := hide ((unhide HB).trans (b17.mono (unhide HB).size))
  replace Ia := hide (((unhide Ia).below b17).more b17.size)
  replace Ib := hide (((unhide Ib).below b17).more b17.size)
  replace Ig := hide (((unhide Ig).below b17).more b17.size)
  clear b17
  go_wp2_with fail
  refine (awake_any _).mono ?_
  rintro e w18 ⟨rfl, b18⟩
  replace HB := hide ((unhide HB).trans (b18.mono (unhide HB).size))
  replace Ia := hide (((unhide Ia).below b18).more b18.size)
  replace Ib := hide (((unhide Ib).below b18).more b18.size)
  replace Ig := hide (((unhide Ig).below b18).more b18.size)
  clear b18
  go_wp2_with fail
  go_ret
  exact ⟨rfl, unhide HB⟩

set_option maxHeartbeats 2000000 in
theorem Less_fttt (A A' A'' : Option Addr) (n c n' c' n'' c'' : Nat) (xs ys : List Int) (gs : List G) (w : World) (h : Ints w w.heap.size A n c xs) (h' : Ints w w.heap.size A' n' c' ys) (h'' : Gs w w.heap.size A'' n'' c'' gs) (hs : Hid (areSh xs ys = true)) (hok : Hid (decide (runG xs (gs.take 60) = some ys) = false)) (his : Hid (unevS xs ys = true)) (hx : Hid (isFal xs = true)) (hy : Hid (isFal ys = true)) :
    Calls Try.prog 10 #[.slice A n c, .slice A' n' c', .slice A'' n'' c''] w fun e w' => e = .returned (.bool true) ∧ Below w.heap.size w w' := by
  have HB := hide (Below.refl w.heap.size w)
  have Ia := hide h; have Ib := hide h'; have Ig := hide h''; clear h h' h''
  have ta := hide (take_of_sh (areSh_left hs.out).1); have tb := hide (take_of_sh (areSh_left hs.out).2.1)
  have sa := hide (areSh_left hs.out).1; have sb := hide (areSh_left hs.out).2.1
  have hd := hide (show domB xs ys = true from by rw [← unevS_fal hx.out hy.out]; exact his.out)
  obtain ⟨gx, hgx⟩ : ∃ z, gap xs = z := ⟨_, rfl⟩
  obtain ⟨gy, hgy⟩ : ∃ z, gap ys = z := ⟨_, rfl⟩
  have hgx' := hide hgx; have hgy' := hide hgy; clear hgx hgy
  go_enter Try.func10, Try.ntmps10
  go_wp2_with fail
  refine (list_ints _ _ _ _ _ _ (unhide Ia)).mono ?_
  rintro e w1 ⟨A1, n1, c1, rfl, i1, b1⟩
  replace HB := hide ((unhide HB).trans (b1.mono (unhide HB).size))
  replace Ia := hide (((unhide Ia).below b1).more b1.size)
  replace Ib := hide (((unhide Ib).below b1).more b1.size)
  replace Ig := hide (((unhide Ig).below b1).more b1.size)
  clear b1
  rw [ta.out] at i1
  have I1 := hide i1
  clear i1
  go_wp2_with fail
  refine (list_ints _ _ _ _ _ _ (unhide Ib)).mono ?_
  rintro e w2 ⟨A2, n2, c2, rfl, i2, b2⟩
  replace HB := hide ((unhide HB).trans (b2.mono (unhide HB).size))
  replace Ia := hide (((unhide Ia).below b2).more b2.size)
  replace Ib := hide (((unhide Ib).below b2).more b2.size)
  replace Ig := hide (((unhide Ig).below b2).more b2.size)
  replace I1 := hide (((unhide I1).below b2).more b2.size)
  clear b2
  rw [tb.out] at i2
  have I2 := hide i2
  clear i2
  go_wp2_with fail
  refine (Of_any _ _ _ _ _ (unhide Ig)).mono ?_
  rintro e w3 ⟨A3, n3, c3, rfl, i3, b3⟩
  replace HB := hide ((unhide HB).trans (b3.mono (unhide HB).size))
  replace Ia := hide (((unhide Ia).below b3).more b3.size)
  replace Ib := hide (((unhide Ib).below b3).more b3.size)
  replace Ig := hide (((unhide Ig).below b3).more b3.size)
  replace I1 := hide (((unhide I1).below b3).more b3.size)
  replace I2 := hide (((unhide I2).below b3).more b3.size)
  clear b3
  have Og := hide i3
  clear i3
  go_wp2_with fail
  refine (CheckGives_ok _ _ _ _ _ _ _ _ _ _ _ _ _ (unhide I1) (unhide I2) (unhide Og) hs false hok).mono ?_
  rintro e w4 ⟨rfl, b4⟩
  replace HB := hide ((unhide HB).trans (b4.mono (unhide HB).size))
  replace Ia := hide (((unhide Ia).below b4).more b4.size)
  replace Ib := hide (((unhide Ib).below b4).more b4.size)
  replace Ig := hide (((unhide Ig).below b4).more b4.size)
  replace I1 := hide (((unhide I1).below b4).more b4.size)
  replace I2 := hide (((unhide I2).below b4).more b4.size)
  replace Og := hide (((unhide Og).below b4).more b4.size)
  clear b4
  clear I1
  clear I2
  clear Og
  go_wp2_with fail
  refine (Two_is _ _ _ _ _ _ _ _ _ _ _ (unhide Ia) (unhide Ib) true hs).mono ?_
  rintro e w5 ⟨rfl, rfl⟩
  go_wp2_with fail
  refine (list_ints _ _ _ _ _ _ (unhide Ia)).mono ?_
  rintro e w6 ⟨A6, n6, c6, rfl, i6, b6⟩
  replace HB := hide ((unhide HB).trans (b6.mono (unhide HB).size))
  replace Ia := hide (((unhide Ia).below b6).more b6.size)
  replace Ib := hide (((unhide Ib).below b6).more b6.size)
  replace Ig := hide (((unhide Ig).below b6).more b6.size)
  clear b6
  rw [ta.out] at i6
  have I1 := hide i6
  clear i6
  go_wp2_with fail
  refine (list_ints _ _ _ _ _ _ (unhide Ib)).mono ?_
  rintro e w7 ⟨A7, n7, c7, rfl, i7, b7⟩
  replace HB := hide ((unhide HB).trans (b7.mono (unhide HB).size))
  replace Ia := hide (((unhide Ia).below b7).more b7.size)
  replace Ib := hide (((unhide Ib).below b7).more b7.size)
  replace Ig := hide (((unhide Ig).below b7).more b7.size)
  replace I1 := hide (((unhide I1).below b7).more b7.size)
  clear b7
  rw [tb.out] at i7
  have I2 := hide i7
  clear i7
  go_wp2_with fail
  refine (Uneven_is _ _ _ _ _ _ _ _ _ (unhide I1) (unhide I2) hs true his).mono ?_
  rintro e w8 ⟨rfl, b8⟩
  replace HB := hide ((unhide HB).trans (b8.mono (unhide HB).size))
  replace Ia := hide (((unhide Ia).below b8).more b8.size)
  replace Ib := hide (((unhide Ib).below b8).more b8.size)
  replace Ig := hide (((unhide Ig).below b8).more b8.size)
  replace I1 := hide (((unhide I1).below b8).more b8.size)
  replace I2 := hide (((unhide I2).below b8).more b8.size)
  clear b8
  clear I1
  clear I2
  go_wp2_with fail
  refine (list_ints _ _ _ _ _ _ (unhide Ia)).mono ?_
  rintro e w9 ⟨A9, n9, c9, rfl, i9, b9⟩
  replace HB := hide ((unhide HB).trans (b9.mono (unhide HB).size))
  replace Ia := hide (((unhide Ia).below b9).more b9.size)
  replace Ib := hide (((unhide Ib).below b9).more b9.size)
  replace Ig := hide (((unhide Ig).below b9).more b9.size)
  clear b9
  rw [ta.out] at i9
  have I1 := hide i9
  clear i9
  go_wp2_with fail
  refine (Gap_is _ _ _ _ _ _ (unhide I1) sa gx hgx').mono ?_
  rintro e w10 ⟨rfl, rfl⟩
  clear I1
  go_wp2_with fail
  refine (list_ints _ _ _ _ _ _ (unhide Ib)).mono ?_
  rintro e w11 ⟨A11, n11, c11, rfl, i11, b11⟩
  replace HB := hide ((unhide HB).trans (b11.mono (unhide HB).size))
  replace Ia := hide (((unhide Ia).below b11).more b11.size)
  replace Ib := hide (((unhide Ib).below b11).more b11.size)
  replace Ig := hide (((unhide Ig).below b11).more b11.size)
  clear b11
  rw [tb.out] at i11
  have I1 := hide i11
  clear i11
  go_wp2_with fail
  refine (Gap_is _ _ _ _ _ _ (unhide I1) sb gy hgy').mono ?_
  rintro e w12 ⟨rfl, rfl⟩
  clear I1
  go_wp2_with fail
  refine (list_ints _ _ _ _ _ _ (unhide Ia)).mono ?_
  rintro e w13 ⟨A13, n13, c13, rfl, i13, b13⟩
  replace HB := hide ((unhide HB).trans (b13.mono (unhide HB).size))
  replace Ia := hide (((unhide Ia).below b13).more b13.size)
  replace Ib := hide (((unhide Ib).below b13).more b13.size)
  replace Ig := hide (((unhide Ig).below b13).more b13.size)
  clear b13
  rw [ta.out] at i13
  have I1 := hide i13
  clear i13
  go_wp2_with fail
  refine (list_ints _ _ _ _ _ _ (unhide Ib)).mono ?_
  rintro e w14 ⟨A14, n14, c14, rfl, i14, b14⟩
  replace HB := hide ((unhide HB).trans (b14.mono (unhide HB).size))
  replace Ia := hide (((unhide Ia).below b14).more b14.size)
  replace Ib := hide (((unhide Ib).below b14).more b14.size)
  replace Ig := hide (((unhide Ig).below b14).more b14.size)
  replace I1 := hide (((unhide I1).below b14).more b14.size)
  clear b14
  rw [tb.out] at i14
  have I2 := hide i14
  clear i14
  go_wp2_with fail
  refine (Gives_ok _ _ _ _ _ _ _ _ _ (unhide I1) (unhide I2) hs hx hy hd).mono ?_
  rintro e w15 ⟨A15, n15, c15, gz, rfl, i15, hr, hl, b15⟩
  replace HB := hide ((unhide HB).trans (b15.mono (unhide HB).size))
  replace Ia := hide (((unhide Ia).below b15).more b15.size)
  replace Ib := hide (((unhide Ib).below b15).more b15.size)
  replace Ig := hide (((unhide Ig).below b15).more b15.size)
  replace I1 := hide (((unhide I1).below b15).more b15.size)
  replace I2 := hide (((unhide I2).below b15).more b15.size)
  clear b15
  have Iz := hide i15
  clear i15
  clear I1
  clear I2
  go_wp2_with fail
  refine (list_ints _ _ _ _ _ _ (unhide Ia)).mono ?_
  rintro e w16 ⟨A16, n16, c16, rfl, i16, b16⟩
  replace HB := hide ((unhide HB).trans (b16.mono (unhide HB).size))
  replace Ia := hide (((unhide Ia).below b16).more b16.size)
  replace Ib := hide (((unhide Ib).below b16).more b16.size)
  replace Ig := hide (((unhide Ig).below b16).more b16.size)
  replace Iz := hide (((unhide Iz).below b16).more b16.size)
  clear b16
  rw [ta.out] at i16
  have I1 := hide i16
  clear i16
  go_wp2_with fail
  refine (list_ints _ _ _ _ _ _ (unhide Ib)).mono ?_
  rintro e w17 ⟨A17, n17, c17, rfl, i17, b17⟩
  replace HB := hide ((unhide HB).trans (b17.mono (unhide HB).size))
  replace Ia := hide (((unhide Ia).below b17).more b17.size)
  replace Ib := hide (((unhide Ib).below b17).more b17.size)
  replace Ig := hide (((unhide Ig).below b17).more b17.size)
  replace Iz := hide (((unhide Iz).below b17).more b17.size)
  replace I1 := hide (((unhide I1).below b17).more b17.size)
  clear b17
  rw [tb.out] at i17
  have I2 := hide i17
  clear i17
  go_wp2_with fail
  refine (CheckGives_ok _ _ _ _ _ _ _ _ _ _ _ _ _ (unhide I1) (unhide I2) (unhide Iz) hs true (hide (decide_eq_true hr.out))).mono ?_
  rintro e w18 ⟨rfl, b18⟩
  replace HB := hide ((unhide HB).trans (b18.mono (unhide HB).size))
  replace Ia := hide (((unhide Ia).below b18).more b18.size)
  replace Ib := hide (((unhide Ib).below b18).more b18.size)
  replace Ig := hide (((unhide Ig).below b18).more b18.size)
  replace Iz := hide (((unhide Iz).below b18).more b18.size)
  replace I1 := hide (((unhide I1).below b18).more b18.size)
  replace I2 := hide (((unhide I2).below b18).more b18.size)
  clear b18
  clear I1
  clear I2
  go_wp2_with fail
  refine (awake_any _).mono ?_
  rintro e w19 ⟨rfl, b19⟩
  replace HB := hide ((unhide HB).trans (b19.mono (unhide HB).size))
  replace Ia := hide (((unhide Ia).below b19).more b19.size)
  replace Ib := hide (((unhide Ib).below b19).more b19.size)
  replace Ig := hide (((unhide Ig).below b19).more b19.size)
  replace Iz := hide (((unhide Iz).below b19).more b19.size)
  clear b19
  go_wp2_with fail
  go_ret
  exact ⟨rfl, unhide HB⟩

set_option maxHeartbeats 2000000 in
theorem Less_ffff (A A' A'' : Option Addr) (n c n' c' n'' c'' : Nat) (xs ys : List Int) (gs : List G) (w : World) (h : Ints w w.heap.size A n c xs) (h' : Ints w w.heap.size A' n' c' ys) (h'' : Gs w w.heap.size A'' n'' c'' gs) (hs : Hid (areSh xs ys = true)) (hok : Hid (decide (runG xs (gs.take 60) = some ys) = false)) (his : Hid (unevS xs ys = false)) (hx : Hid (isFal xs = false)) :
    Calls Try.prog 10 #[.slice A n c, .slice A' n' c', .slice A'' n'' c''] w fun e w' => e = .returned (.bool true) ∧ Below w.heap.size w w' := by
  have HB := hide (Below.refl w.heap.size w)
  have Ia := hide h; have Ib := hide h'; have Ig := hide h''; clear h h' h''
  have ta := hide (take_of_sh (areSh_left hs.out).1); have tb := hide (take_of_sh (areSh_left hs.out).2.1)
  have sa := hide (areSh_left hs.out).1; have sb := hide (areSh_left hs.out).2.1
  have hno := hide (show (areSh xs ys && (isFal xs && isFal ys)) = false from by rw [hx.out]; simp)
  obtain ⟨gx, hgx⟩ : ∃ z, gap xs = z := ⟨_, rfl⟩
  obtain ⟨gy, hgy⟩ : ∃ z, gap ys = z := ⟨_, rfl⟩
  have hgx' := hide hgx; have hgy' := hide hgy; clear hgx hgy
  go_enter Try.func10, Try.ntmps10
  go_wp2_with fail
  refine (list_ints _ _ _ _ _ _ (unhide Ia)).mono ?_
  rintro e w1 ⟨A1, n1, c1, rfl, i1, b1⟩
  replace HB := hide ((unhide HB).trans (b1.mono (unhide HB).size))
  replace Ia := hide (((unhide Ia).below b1).more b1.size)
  replace Ib := hide (((unhide Ib).below b1).more b1.size)
  replace Ig := hide (((unhide Ig).below b1).more b1.size)
  clear b1
  rw [ta.out] at i1
  have I1 := hide i1
  clear i1
  go_wp2_with fail
  refine (list_ints _ _ _ _ _ _ (unhide Ib)).mono ?_
  rintro e w2 ⟨A2, n2, c2, rfl, i2, b2⟩
  replace HB := hide ((unhide HB).trans (b2.mono (unhide HB).size))
  replace Ia := hide (((unhide Ia).below b2).more b2.size)
  replace Ib := hide (((unhide Ib).below b2).more b2.size)
  replace Ig := hide (((unhide Ig).below b2).more b2.size)
  replace I1 := hide (((unhide I1).below b2).more b2.size)
  clear b2
  rw [tb.out] at i2
  have I2 := hide i2
  clear i2
  go_wp2_with fail
  refine (Of_any _ _ _ _ _ (unhide Ig)).mono ?_
  rintro e w3 ⟨A3, n3, c3, rfl, i3, b3⟩
  replace HB := hide ((unhide HB).trans (b3.mono (unhide HB).size))
  replace Ia := hide (((unhide Ia).below b3).more b3.size)
  replace Ib := hide (((unhide Ib).below b3).more b3.size)
  replace Ig := hide (((unhide Ig).below b3).more b3.size)
  replace I1 := hide (((unhide I1).below b3).more b3.size)
  replace I2 := hide (((unhide I2).below b3).more b3.size)
  clear b3
  have Og := hide i3
  clear i3
  go_wp2_with fail
  refine (CheckGives_ok _ _ _ _ _ _ _ _ _ _ _ _ _ (unhide I1) (unhide I2) (unhide Og) hs false hok).mono ?_
  rintro e w4 ⟨rfl, b4⟩
  replace HB := hide ((unhide HB).trans (b4.mono (unhide HB).size))
  replace Ia := hide (((unhide Ia).below b4).more b4.size)
  replace Ib := hide (((unhide Ib).below b4).more b4.size)
  replace Ig := hide (((unhide Ig).below b4).more b4.size)
  replace I1 := hide (((unhide I1).below b4).more b4.size)
  replace I2 := hide (((unhide I2).below b4).more b4.size)
  replace Og := hide (((unhide Og).below b4).more b4.size)
  clear b4
  clear I1
  clear I2
  clear Og
  go_wp2_with fail
  refine (Two_is _ _ _ _ _ _ _ _ _ _ _ (unhide Ia) (unhide Ib) true hs).mono ?_
  rintro e w5 ⟨rfl, rfl⟩
  go_wp2_with fail
  refine (list_ints _ _ _ _ _ _ (unhide Ia)).mono ?_
  rintro e w6 ⟨A6, n6, c6, rfl, i6, b6⟩
  replace HB := hide ((unhide HB).trans (b6.mono (unhide HB).size))
  replace Ia := hide (((unhide Ia).below b6).more b6.size)
  replace Ib := hide (((unhide Ib).below b6).more b6.size)
  replace Ig := hide (((unhide Ig).below b6).more b6.size)
  clear b6
  rw [ta.out] at i6
  have I1 := hide i6
  clear i6
  go_wp2_with fail
  refine (list_ints _ _ _ _ _ _ (unhide Ib)).mono ?_
  rintro e w7 ⟨A7, n7, c7, rfl, i7, b7⟩
  replace HB := hide ((unhide HB).trans (b7.mono (unhide HB).size))
  replace Ia := hide (((unhide Ia).below b7).more b7.size)
  replace Ib := hide (((unhide Ib).below b7).more b7.size)
  replace Ig := hide (((unhide Ig).below b7).more b7.size)
  replace I1 := hide (((unhide I1).below b7).more b7.size)
  clear b7
  rw [tb.out] at i7
  have I2 := hide i7
  clear i7
  go_wp2_with fail
  refine (Uneven_is _ _ _ _ _ _ _ _ _ (unhide I1) (unhide I2) hs false his).mono ?_
  rintro e w8 ⟨rfl, b8⟩
  replace HB := hide ((unhide HB).trans (b8.mono (unhide HB).size))
  replace Ia := hide (((unhide Ia).below b8).more b8.size)
  replace Ib := hide (((unhide Ib).below b8).more b8.size)
  replace Ig := hide (((unhide Ig).below b8).more b8.size)
  replace I1 := hide (((unhide I1).below b8).more b8.size)
  replace I2 := hide (((unhide I2).below b8).more b8.size)
  clear b8
  clear I1
  clear I2
  go_wp2_with fail
  refine (list_ints _ _ _ _ _ _ (unhide Ia)).mono ?_
  rintro e w9 ⟨A9, n9, c9, rfl, i9, b9⟩
  replace HB := hide ((unhide HB).trans (b9.mono (unhide HB).size))
  replace Ia := hide (((unhide Ia).below b9).more b9.size)
  replace Ib := hide (((unhide Ib).below b9).more b9.size)
  replace Ig := hide (((unhide Ig).below b9).more b9.size)
  clear b9
  rw [ta.out] at i9
  have I1 := hide i9
  clear i9
  go_wp2_with fail
  refine (Gap_is _ _ _ _ _ _ (unhide I1) sa gx hgx').mono ?_
  rintro e w10 ⟨rfl, rfl⟩
  clear I1
  go_wp2_with fail
  refine (list_ints _ _ _ _ _ _ (unhide Ib)).mono ?_
  rintro e w11 ⟨A11, n11, c11, rfl, i11, b11⟩
  replace HB := hide ((unhide HB).trans (b11.mono (unhide HB).size))
  replace Ia := hide (((unhide Ia).below b11).more b11.size)
  replace Ib := hide (((unhide Ib).below b11).more b11.size)
  replace Ig := hide (((unhide Ig).below b11).more b11.size)
  clear b11
  rw [tb.out] at i11
  have I1 := hide i11
  clear i11
  go_wp2_with fail
  refine (Gap_is _ _ _ _ _ _ (unhide I1) sb gy hgy').mono ?_
  rintro e w12 ⟨rfl, rfl⟩
  clear I1
  go_wp2_with fail
  refine (list_ints _ _ _ _ _ _ (unhide Ia)).mono ?_
  rintro e w13 ⟨A13, n13, c13, rfl, i13, b13⟩
  replace HB := hide ((unhide HB).trans (b13.mono (unhide HB).size))
  replace Ia := hide (((unhide Ia).below b13).more b13.size)
  replace Ib := hide (((unhide Ib).below b13).more b13.size)
  replace Ig := hide (((unhide Ig).below b13).more b13.size)
  clear b13
  rw [ta.out] at i13
  have I1 := hide i13
  clear i13
  go_wp2_with fail
  refine (list_ints _ _ _ _ _ _ (unhide Ib)).mono ?_
  rintro e w14 ⟨A14, n14, c14, rfl, i14, b14⟩
  replace HB := hide ((unhide HB).trans (b14.mono (unhide HB).size))
  replace Ia := hide (((unhide Ia).below b14).more b14.size)
  replace Ib := hide (((unhide Ib).below b14).more b14.size)
  replace Ig := hide (((unhide Ig).below b14).more b14.size)
  replace I1 := hide (((unhide I1).below b14).more b14.size)
  clear b14
  rw [tb.out] at i14
  have I2 := hide i14
  clear i14
  go_wp2_with fail
  refine (Gives_arg _ _ _ _ _ _ _ _ _ _ _ (unhide I1) (unhide I2) hno).mono ?_
  rintro e w15 ⟨rfl, b15⟩
  replace HB := hide ((unhide HB).trans (b15.mono (unhide HB).size))
  replace Ia := hide (((unhide Ia).below b15).more b15.size)
  replace Ib := hide (((unhide Ib).below b15).more b15.size)
  replace Ig := hide (((unhide Ig).below b15).more b15.size)
  replace I1 := hide (((unhide I1).below b15).more b15.size)
  replace I2 := hide (((unhide I2).below b15).more b15.size)
  clear b15
  clear I1
  clear I2
  go_wp2_with fail
  refine (Falling_b _ _ _ _ _ _ (unhide Ia) false hx).mono ?_
  rintro e w16 ⟨rfl, b16⟩
  replace HB := hide ((unhide HB).trans (b16.mono (unhide HB).size))
  replace Ia := hide (((unhide Ia).below b16).more b16.size)
  replace Ib := hide (((unhide Ib).below b16).more b16.size)
  replace Ig := hide (((unhide Ig).below b16).more b16.size)
  clear b16
  go_wp2_with fail
  refine (awake_any _).mono ?_
  rintro e w17 ⟨rfl, b17⟩
  replace HB := hide ((unhide HB).trans (b17.mono (unhide HB).size))
  replace Ia := hide (((unhide Ia).below b17).more b17.size)
  replace Ib := hide (((unhide Ib).below b17).more b17.size)
  replace Ig := hide (((unhide Ig).below b17).more b17.size)
  clear b17
  go_wp2_with fail
  go_ret
  exact ⟨rfl, unhide HB⟩

set_option maxHeartbeats 2000000 in
theorem Less_fftf (A A' A'' : Option Addr) (n c n' c' n'' c'' : Nat) (xs ys : List Int) (gs : List G) (w : World) (h : Ints w w.heap.size A n c xs) (h' : Ints w w.heap.size A' n' c' ys) (h'' : Gs w w.heap.size A'' n'' c'' gs) (hs : Hid (areSh xs ys = true)) (hok : Hid (decide (runG xs (gs.take 60) = some ys) = false)) (his : Hid (unevS xs ys = false)) (hx : Hid (isFal xs = true)) (hy : Hid (isFal ys = false)) :
    Calls Try.prog 10 #[.slice A n c, .slice A' n' c', .slice A'' n'' c''] w fun e w' => e = .returned (.bool true) ∧ Below w.heap.size w w' := by
  have HB := hide (Below.refl w.heap.size w)
  have Ia := hide h; have Ib := hide h'; have Ig := hide h''; clear h h' h''
  have ta := hide (take_of_sh (areSh_left hs.out).1); have tb := hide (take_of_sh (areSh_left hs.out).2.1)
  have sa := hide (areSh_left hs.out).1; have sb := hide (areSh_left hs.out).2.1
  have hno := hide (show (areSh xs ys && (isFal xs && isFal ys)) = false from by rw [hx.out, hy.out]; simp)
  obtain ⟨gx, hgx⟩ : ∃ z, gap xs = z := ⟨_, rfl⟩
  obtain ⟨gy, hgy⟩ : ∃ z, gap ys = z := ⟨_, rfl⟩
  have hgx' := hide hgx; have hgy' := hide hgy; clear hgx hgy
  go_enter Try.func10, Try.ntmps10
  go_wp2_with fail
  refine (list_ints _ _ _ _ _ _ (unhide Ia)).mono ?_
  rintro e w1 ⟨A1, n1, c1, rfl, i1, b1⟩
  replace HB := hide ((unhide HB).trans (b1.mono (unhide HB).size))
  replace Ia := hide (((unhide Ia).below b1).more b1.size)
  replace Ib := hide (((unhide Ib).below b1).more b1.size)
  replace Ig := hide (((unhide Ig).below b1).more b1.size)
  clear b1
  rw [ta.out] at i1
  have I1 := hide i1
  clear i1
  go_wp2_with fail
  refine (list_ints _ _ _ _ _ _ (unhide Ib)).mono ?_
  rintro e w2 ⟨A2, n2, c2, rfl, i2, b2⟩
  replace HB := hide ((unhide HB).trans (b2.mono (unhide HB).size))
  replace Ia := hide (((unhide Ia).below b2).more b2.size)
  replace Ib := hide (((unhide Ib).below b2).more b2.size)
  replace Ig := hide (((unhide Ig).below b2).more b2.size)
  replace I1 := hide (((unhide I1).below b2).more b2.size)
  clear b2
  rw [tb.out] at i2
  have I2 := hide i2
  clear i2
  go_wp2_with fail
  refine (Of_any _ _ _ _ _ (unhide Ig)).mono ?_
  rintro e w3 ⟨A3, n3, c3, rfl, i3, b3⟩
  replace HB := hide ((unhide HB).trans (b3.mono (unhide HB).size))
  replace Ia := hide (((unhide Ia).below b3).more b3.size)
  replace Ib := hide (((unhide Ib).below b3).more b3.size)
  replace Ig := hide (((unhide Ig).below b3).more b3.size)
  replace I1 := hide (((unhide I1).below b3).more b3.size)
  replace I2 := hide (((unhide I2).below b3).more b3.size)
  clear b3
  have Og := hide i3
  clear i3
  go_wp2_with fail
  refine (CheckGives_ok _ _ _ _ _ _ _ _ _ _ _ _ _ (unhide I1) (unhide I2) (unhide Og) hs false hok).mono ?_
  rintro e w4 ⟨rfl, b4⟩
  replace HB := hide ((unhide HB).trans (b4.mono (unhide HB).size))
  replace Ia := hide (((unhide Ia).below b4).more b4.size)
  replace Ib := hide (((unhide Ib).below b4).more b4.size)
  replace Ig := hide (((unhide Ig).below b4).more b4.size)
  replace I1 := hide (((unhide I1).below b4).more b4.size)
  replace I2 := hide (((unhide I2).below b4).more b4.size)
  replace Og := hide (((unhide Og).below b4).more b4.size)
  clear b4
  clear I1
  clear I2
  clear Og
  go_wp2_with fail
  refine (Two_is _ _ _ _ _ _ _ _ _ _ _ (unhide Ia) (unhide Ib) true hs).mono ?_
  rintro e w5 ⟨rfl, rfl⟩
  go_wp2_with fail
  refine (list_ints _ _ _ _ _ _ (unhide Ia)).mono ?_
  rintro e w6 ⟨A6, n6, c6, rfl, i6, b6⟩
  replace HB := hide ((unhide HB).trans (b6.mono (unhide HB).size))
  replace Ia := hide (((unhide Ia).below b6).more b6.size)
  replace Ib := hide (((unhide Ib).below b6).more b6.size)
  replace Ig := hide (((unhide Ig).below b6).more b6.size)
  clear b6
  rw [ta.out] at i6
  have I1 := hide i6
  clear i6
  go_wp2_with fail
  refine (list_ints _ _ _ _ _ _ (unhide Ib)).mono ?_
  rintro e w7 ⟨A7, n7, c7, rfl, i7, b7⟩
  replace HB := hide ((unhide HB).trans (b7.mono (unhide HB).size))
  replace Ia := hide (((unhide Ia).below b7).more b7.size)
  replace Ib := hide (((unhide Ib).below b7).more b7.size)
  replace Ig := hide (((unhide Ig).below b7).more b7.size)
  replace I1 := hide (((unhide I1).below b7).more b7.size)
  clear b7
  rw [tb.out] at i7
  have I2 := hide i7
  clear i7
  go_wp2_with fail
  refine (Uneven_is _ _ _ _ _ _ _ _ _ (unhide I1) (unhide I2) hs false his).mono ?_
  rintro e w8 ⟨rfl, b8⟩
  replace HB := hide ((unhide HB).trans (b8.mono (unhide HB).size))
  replace Ia := hide (((unhide Ia).below b8).more b8.size)
  replace Ib := hide (((unhide Ib).below b8).more b8.size)
  replace Ig := hide (((unhide Ig).below b8).more b8.size)
  replace I1 := hide (((unhide I1).below b8).more b8.size)
  replace I2 := hide (((unhide I2).below b8).more b8.size)
  clear b8
  clear I1
  clear I2
  go_wp2_with fail
  refine (list_ints _ _ _ _ _ _ (unhide Ia)).mono ?_
  rintro e w9 ⟨A9, n9, c9, rfl, i9, b9⟩
  replace HB := hide ((unhide HB).trans (b9.mono (unhide HB).size))
  replace Ia := hide (((unhide Ia).below b9).more b9.size)
  replace Ib := hide (((unhide Ib).below b9).more b9.size)
  replace Ig := hide (((unhide Ig).below b9).more b9.size)
  clear b9
  rw [ta.out] at i9
  have I1 := hide i9
  clear i9
  go_wp2_with fail
  refine (Gap_is _ _ _ _ _ _ (unhide I1) sa gx hgx').mono ?_
  rintro e w10 ⟨rfl, rfl⟩
  clear I1
  go_wp2_with fail
  refine (list_ints _ _ _ _ _ _ (unhide Ib)).mono ?_
  rintro e w11 ⟨A11, n11, c11, rfl, i11, b11⟩
  replace HB := hide ((unhide HB).trans (b11.mono (unhide HB).size))
  replace Ia := hide (((unhide Ia).below b11).more b11.size)
  replace Ib := hide (((unhide Ib).below b11).more b11.size)
  replace Ig := hide (((unhide Ig).below b11).more b11.size)
  clear b11
  rw [tb.out] at i11
  have I1 := hide i11
  clear i11
  go_wp2_with fail
  refine (Gap_is _ _ _ _ _ _ (unhide I1) sb gy hgy').mono ?_
  rintro e w12 ⟨rfl, rfl⟩
  clear I1
  go_wp2_with fail
  refine (list_ints _ _ _ _ _ _ (unhide Ia)).mono ?_
  rintro e w13 ⟨A13, n13, c13, rfl, i13, b13⟩
  replace HB := hide ((unhide HB).trans (b13.mono (unhide HB).size))
  replace Ia := hide (((unhide Ia).below b13).more b13.size)
  replace Ib := hide (((unhide Ib).below b13).more b13.size)
  replace Ig := hide (((unhide Ig).below b13).more b13.size)
  clear b13
  rw [ta.out] at i13
  have I1 := hide i13
  clear i13
  go_wp2_with fail
  refine (list_ints _ _ _ _ _ _ (unhide Ib)).mono ?_
  rintro e w14 ⟨A14, n14, c14, rfl, i14, b14⟩
  replace HB := hide ((unhide HB).trans (b14.mono (unhide HB).size))
  replace Ia := hide (((unhide Ia).below b14).more b14.size)
  replace Ib := hide (((unhide Ib).below b14).more b14.size)
  replace Ig := hide (((unhide Ig).below b14).more b14.size)
  replace I1 := hide (((unhide I1).below b14).more b14.size)
  clear b14
  rw [tb.out] at i14
  have I2 := hide i14
  clear i14
  go_wp2_with fail
  refine (Gives_arg _ _ _ _ _ _ _ _ _ _ _ (unhide I1) (unhide I2) hno).mono ?_
  rintro e w15 ⟨rfl, b15⟩
  replace HB := hide ((unhide HB).trans (b15.mono (unhide HB).size))
  replace Ia := hide (((unhide Ia).below b15).more b15.size)
  replace Ib := hide (((unhide Ib).below b15).more b15.size)
  replace Ig := hide (((unhide Ig).below b15).more b15.size)
  replace I1 := hide (((unhide I1).below b15).more b15.size)
  replace I2 := hide (((unhide I2).below b15).more b15.size)
  clear b15
  clear I1
  clear I2
  go_wp2_with fail
  refine (Falling_b _ _ _ _ _ _ (unhide Ia) true hx).mono ?_
  rintro e w16 ⟨rfl, b16⟩
  replace HB := hide ((unhide HB).trans (b16.mono (unhide HB).size))
  replace Ia := hide (((unhide Ia).below b16).more b16.size)
  replace Ib := hide (((unhide Ib).below b16).more b16.size)
  replace Ig := hide (((unhide Ig).below b16).more b16.size)
  clear b16
  go_wp2_with fail
  refine (Falling_b _ _ _ _ _ _ (unhide Ib) false hy).mono ?_
  rintro e w17 ⟨rfl, b17⟩
  replace HB := hide ((unhide HB).trans (b17.mono (unhide HB).size))
  replace Ia := hide (((unhide Ia).below b17).more b17.size)
  replace Ib := hide (((unhide Ib).below b17).more b17.size)
  replace Ig := hide (((unhide Ig).below b17).more b17.size)
  clear b17
  go_wp2_with fail
  refine (awake_any _).mono ?_
  rintro e w18 ⟨rfl, b18⟩
  replace HB := hide ((unhide HB).trans (b18.mono (unhide HB).size))
  replace Ia := hide (((unhide Ia).below b18).more b18.size)
  replace Ib := hide (((unhide Ib).below b18).more b18.size)
  replace Ig := hide (((unhide Ig).below b18).more b18.size)
  clear b18
  go_wp2_with fail
  go_ret
  exact ⟨rfl, unhide HB⟩

set_option maxHeartbeats 2000000 in
theorem Less_fftt (A A' A'' : Option Addr) (n c n' c' n'' c'' : Nat) (xs ys : List Int) (gs : List G) (w : World) (h : Ints w w.heap.size A n c xs) (h' : Ints w w.heap.size A' n' c' ys) (h'' : Gs w w.heap.size A'' n'' c'' gs) (hs : Hid (areSh xs ys = true)) (hok : Hid (decide (runG xs (gs.take 60) = some ys) = false)) (his : Hid (unevS xs ys = false)) (hx : Hid (isFal xs = true)) (hy : Hid (isFal ys = true)) :
    Calls Try.prog 10 #[.slice A n c, .slice A' n' c', .slice A'' n'' c''] w fun e w' => e = .returned (.bool true) ∧ Below w.heap.size w w' := by
  have HB := hide (Below.refl w.heap.size w)
  have Ia := hide h; have Ib := hide h'; have Ig := hide h''; clear h h' h''
  have ta := hide (take_of_sh (areSh_left hs.out).1); have tb := hide (take_of_sh (areSh_left hs.out).2.1)
  have sa := hide (areSh_left hs.out).1; have sb := hide (areSh_left hs.out).2.1
  have hd := hide (show domB xs ys = false from by rw [← unevS_fal hx.out hy.out]; exact his.out)
  obtain ⟨gx, hgx⟩ : ∃ z, gap xs = z := ⟨_, rfl⟩
  obtain ⟨gy, hgy⟩ : ∃ z, gap ys = z := ⟨_, rfl⟩
  have hgx' := hide hgx; have hgy' := hide hgy; clear hgx hgy
  go_enter Try.func10, Try.ntmps10
  go_wp2_with fail
  refine (list_ints _ _ _ _ _ _ (unhide Ia)).mono ?_
  rintro e w1 ⟨A1, n1, c1, rfl, i1, b1⟩
  replace HB := hide ((unhide HB).trans (b1.mono (unhide HB).size))
  replace Ia := hide (((unhide Ia).below b1).more b1.size)
  replace Ib := hide (((unhide Ib).below b1).more b1.size)
  replace Ig := hide (((unhide Ig).below b1).more b1.size)
  clear b1
  rw [ta.out] at i1
  have I1 := hide i1
  clear i1
  go_wp2_with fail
  refine (list_ints _ _ _ _ _ _ (unhide Ib)).mono ?_
  rintro e w2 ⟨A2, n2, c2, rfl, i2, b2⟩
  replace HB := hide ((unhide HB).trans (b2.mono (unhide HB).size))
  replace Ia := hide (((unhide Ia).below b2).more b2.size)
  replace Ib := hide (((unhide Ib).below b2).more b2.size)
  replace Ig := hide (((unhide Ig).below b2).more b2.size)
  replace I1 := hide (((unhide I1).below b2).more b2.size)
  clear b2
  rw [tb.out] at i2
  have I2 := hide i2
  clear i2
  go_wp2_with fail
  refine (Of_any _ _ _ _ _ (unhide Ig)).mono ?_
  rintro e w3 ⟨A3, n3, c3, rfl, i3, b3⟩
  replace HB := hide ((unhide HB).trans (b3.mono (unhide HB).size))
  replace Ia := hide (((unhide Ia).below b3).more b3.size)
  replace Ib := hide (((unhide Ib).below b3).more b3.size)
  replace Ig := hide (((unhide Ig).below b3).more b3.size)
  replace I1 := hide (((unhide I1).below b3).more b3.size)
  replace I2 := hide (((unhide I2).below b3).more b3.size)
  clear b3
  have Og := hide i3
  clear i3
  go_wp2_with fail
  refine (CheckGives_ok _ _ _ _ _ _ _ _ _ _ _ _ _ (unhide I1) (unhide I2) (unhide Og) hs false hok).mono ?_
  rintro e w4 ⟨rfl, b4⟩
  replace HB := hide ((unhide HB).trans (b4.mono (unhide HB).size))
  replace Ia := hide (((unhide Ia).below b4).more b4.size)
  replace Ib := hide (((unhide Ib).below b4).more b4.size)
  replace Ig := hide (((unhide Ig).below b4).more b4.size)
  replace I1 := hide (((unhide I1).below b4).more b4.size)
  replace I2 := hide (((unhide I2).below b4).more b4.size)
  replace Og := hide (((unhide Og).below b4).more b4.size)
  clear b4
  clear I1
  clear I2
  clear Og
  go_wp2_with fail
  refine (Two_is _ _ _ _ _ _ _ _ _ _ _ (unhide Ia) (unhide Ib) true hs).mono ?_
  rintro e w5 ⟨rfl, rfl⟩
  go_wp2_with fail
  refine (list_ints _ _ _ _ _ _ (unhide Ia)).mono ?_
  rintro e w6 ⟨A6, n6, c6, rfl, i6, b6⟩
  replace HB := hide ((unhide HB).trans (b6.mono (unhide HB).size))
  replace Ia := hide (((unhide Ia).below b6).more b6.size)
  replace Ib := hide (((unhide Ib).below b6).more b6.size)
  replace Ig := hide (((unhide Ig).below b6).more b6.size)
  clear b6
  rw [ta.out] at i6
  have I1 := hide i6
  clear i6
  go_wp2_with fail
  refine (list_ints _ _ _ _ _ _ (unhide Ib)).mono ?_
  rintro e w7 ⟨A7, n7, c7, rfl, i7, b7⟩
  replace HB := hide ((unhide HB).trans (b7.mono (unhide HB).size))
  replace Ia := hide (((unhide Ia).below b7).more b7.size)
  replace Ib := hide (((unhide Ib).below b7).more b7.size)
  replace Ig := hide (((unhide Ig).below b7).more b7.size)
  replace I1 := hide (((unhide I1).below b7).more b7.size)
  clear b7
  rw [tb.out] at i7
  have I2 := hide i7
  clear i7
  go_wp2_with fail
  refine (Uneven_is _ _ _ _ _ _ _ _ _ (unhide I1) (unhide I2) hs false his).mono ?_
  rintro e w8 ⟨rfl, b8⟩
  replace HB := hide ((unhide HB).trans (b8.mono (unhide HB).size))
  replace Ia := hide (((unhide Ia).below b8).more b8.size)
  replace Ib := hide (((unhide Ib).below b8).more b8.size)
  replace Ig := hide (((unhide Ig).below b8).more b8.size)
  replace I1 := hide (((unhide I1).below b8).more b8.size)
  replace I2 := hide (((unhide I2).below b8).more b8.size)
  clear b8
  clear I1
  clear I2
  go_wp2_with fail
  refine (list_ints _ _ _ _ _ _ (unhide Ia)).mono ?_
  rintro e w9 ⟨A9, n9, c9, rfl, i9, b9⟩
  replace HB := hide ((unhide HB).trans (b9.mono (unhide HB).size))
  replace Ia := hide (((unhide Ia).below b9).more b9.size)
  replace Ib := hide (((unhide Ib).below b9).more b9.size)
  replace Ig := hide (((unhide Ig).below b9).more b9.size)
  clear b9
  rw [ta.out] at i9
  have I1 := hide i9
  clear i9
  go_wp2_with fail
  refine (Gap_is _ _ _ _ _ _ (unhide I1) sa gx hgx').mono ?_
  rintro e w10 ⟨rfl, rfl⟩
  clear I1
  go_wp2_with fail
  refine (list_ints _ _ _ _ _ _ (unhide Ib)).mono ?_
  rintro e w11 ⟨A11, n11, c11, rfl, i11, b11⟩
  replace HB := hide ((unhide HB).trans (b11.mono (unhide HB).size))
  replace Ia := hide (((unhide Ia).below b11).more b11.size)
  replace Ib := hide (((unhide Ib).below b11).more b11.size)
  replace Ig := hide (((unhide Ig).below b11).more b11.size)
  clear b11
  rw [tb.out] at i11
  have I1 := hide i11
  clear i11
  go_wp2_with fail
  refine (Gap_is _ _ _ _ _ _ (unhide I1) sb gy hgy').mono ?_
  rintro e w12 ⟨rfl, rfl⟩
  clear I1
  go_wp2_with fail
  refine (list_ints _ _ _ _ _ _ (unhide Ia)).mono ?_
  rintro e w13 ⟨A13, n13, c13, rfl, i13, b13⟩
  replace HB := hide ((unhide HB).trans (b13.mono (unhide HB).size))
  replace Ia := hide (((unhide Ia).below b13).more b13.size)
  replace Ib := hide (((unhide Ib).below b13).more b13.size)
  replace Ig := hide (((unhide Ig).below b13).more b13.size)
  clear b13
  rw [ta.out] at i13
  have I1 := hide i13
  clear i13
  go_wp2_with fail
  refine (list_ints _ _ _ _ _ _ (unhide Ib)).mono ?_
  rintro e w14 ⟨A14, n14, c14, rfl, i14, b14⟩
  replace HB := hide ((unhide HB).trans (b14.mono (unhide HB).size))
  replace Ia := hide (((unhide Ia).below b14).more b14.size)
  replace Ib := hide (((unhide Ib).below b14).more b14.size)
  replace Ig := hide (((unhide Ig).below b14).more b14.size)
  replace I1 := hide (((unhide I1).below b14).more b14.size)
  clear b14
  rw [tb.out] at i14
  have I2 := hide i14
  clear i14
  go_wp2_with fail
  refine (Gives_none _ _ _ _ _ _ _ _ _ _ _ (unhide I1) (unhide I2) hs hx hy hd).mono ?_
  rintro e w15 ⟨rfl, b15⟩
  replace HB := hide ((unhide HB).trans (b15.mono (unhide HB).size))
  replace Ia := hide (((unhide Ia).below b15).more b15.size)
  replace Ib := hide (((unhide Ib).below b15).more b15.size)
  replace Ig := hide (((unhide Ig).below b15).more b15.size)
  replace I1 := hide (((unhide I1).below b15).more b15.size)
  replace I2 := hide (((unhide I2).below b15).more b15.size)
  clear b15
  clear I1
  clear I2
  go_wp2_with fail
  refine (awake_any _).mono ?_
  rintro e w16 ⟨rfl, b16⟩
  replace HB := hide ((unhide HB).trans (b16.mono (unhide HB).size))
  replace Ia := hide (((unhide Ia).below b16).more b16.size)
  replace Ib := hide (((unhide Ib).below b16).more b16.size)
  replace Ig := hide (((unhide Ig).below b16).more b16.size)
  clear b16
  go_wp2_with fail
  go_ret
  exact ⟨rfl, unhide HB⟩

theorem Less_any (A A' A'' : Option Addr) (n c n' c' n'' c'' : Nat) (xs ys : List Int) (gs : List G) (w : World) (h : Ints w w.heap.size A n c xs) (h' : Ints w w.heap.size A' n' c' ys) (h'' : Gs w w.heap.size A'' n'' c'' gs) :
    Calls Try.prog 10 #[.slice A n c, .slice A' n' c', .slice A'' n'' c''] w fun e w' => e = .returned (.bool true) ∧ Below w.heap.size w w' := by
  rcases hs : areSh xs ys
  · exact Less_A _ _ _ _ _ _ _ _ _ _ _ _ _ h h' h'' (hide hs)
  have hl := (areSh_left hs).2.2
  rcases hok : decide (runG xs (gs.take 60) = some ys)
  · rcases his : unevS xs ys
    · rcases hx : isFal xs
      · exact Less_ffff _ _ _ _ _ _ _ _ _ _ _ _ _ h h' h'' (hide hs) (hide hok) (hide his) (hide hx)
      · rcases hy : isFal ys
        · exact Less_fftf _ _ _ _ _ _ _ _ _ _ _ _ _ h h' h'' (hide hs) (hide hok) (hide his) (hide hx) (hide hy)
        · exact Less_fftt _ _ _ _ _ _ _ _ _ _ _ _ _ h h' h'' (hide hs) (hide hok) (hide his) (hide hx) (hide hy)
    · rcases hx : isFal xs
      · exact Less_ftff _ _ _ _ _ _ _ _ _ _ _ _ _ h h' h'' (hide hs) (hide hok) (hide his) (hide hx)
      · rcases hy : isFal ys
        · exact Less_fttf _ _ _ _ _ _ _ _ _ _ _ _ _ h h' h'' (hide hs) (hide hok) (hide his) (hide hx) (hide hy)
        · exact Less_fttt _ _ _ _ _ _ _ _ _ _ _ _ _ h h' h'' (hide hs) (hide hok) (hide his) (hide hx) (hide hy)
  · have his : unevS xs ys = true := (unevS_maj hl).2 (runG_maj _ _ _ (of_decide_eq_true hok)).1
    have hg := gap_le hl his
    rcases hx : isFal xs
    · exact Less_ttff _ _ _ _ _ _ _ _ _ _ _ _ _ h h' h'' (hide hs) (hide hok) (hide his) (hide hx) (hide hg)
    · rcases hy : isFal ys
      · exact Less_tttf _ _ _ _ _ _ _ _ _ _ _ _ _ h h' h'' (hide hs) (hide hok) (hide his) (hide hx) (hide hy) (hide hg)
      · exact Less_tttt _ _ _ _ _ _ _ _ _ _ _ _ _ h h' h'' (hide hs) (hide hok) (hide his) (hide hx) (hide hy) (hide hg)
end Go.Proofs.Ytmpdalcdkibgpaa
