import Derived.Test.YtmpdalcdkibgpaaG9
namespace Go.Proofs.Ytmpdalcdkibgpaa
open Go.RowKit Go.Sort

set_option maxHeartbeats 2000000 in
theorem Gives_A (A A' A'' : Option Addr) (n c n' c' n'' c'' : Nat) (xs ys : List Int) (gs : List G) (w : World) (h : Ints w w.heap.size A n c xs) (h' : Ints w w.heap.size A' n' c' ys) (h'' : Gs w w.heap.size A'' n'' c'' gs) (hs : Hid (areSh xs ys = false)) :
    Calls Try.prog 4 #[.slice A n c, .slice A' n' c', .slice A'' n'' c''] w fun e w' => e = .returned (.bool true) ∧ Below w.heap.size w w' := by
  have HB := hide (Below.refl w.heap.size w)
  have Ia := hide h; have Ib := hide h'; have Ig := hide h''; clear h h' h''
  have hs1 := hide (show areSh (xs.take 15) (ys.take 15) = false from by rw [areSh_take]; exact hs.out)
  have hs2 := hide (show (areSh (xs.take 15) (ys.take 15) && (isFal (xs.take 15) && isFal (ys.take 15))) = false from by rw [hs1.out]; rfl)
  go_enter Try.func4, Try.ntmps4
  go_wp2_with fail
  refine (list_ints _ _ _ _ _ _ (unhide Ia)).mono ?_
  rintro e w1 ⟨A1, n1, c1, rfl, i1, b1⟩
  replace HB := hide ((unhide HB).trans (b1.mono (unhide HB).size))
  replace Ia := hide (((unhide Ia).below b1).more b1.size)
  replace Ib := hide (((unhide Ib).below b1).more b1.size)
  replace Ig := hide (((unhide Ig).below b1).more b1.size)
  clear b1
  have I1 := hide i1
  clear i1
  go_wp2_with fail
  refine (list_ints _ _ _ _ _ _ (unhide Ib)).mono ?_
  rintro e w2 ⟨A2, n2, c2, rfl, i2, b2⟩
  replace HB := hide ((unhide HB).trans (b2.mono (unhide HB).size))
  replace Ia := hide (((unhide Ia).below b2).more b2.size)
  replace Ib := hide (((unhide Ib).below b2).more b2.size)
  replace Ig := hide (((unhide Ig).below b2).more b2.size)
  replace I1 := hide (((unhide I1).below b2).more b2.size)
  clear b2
  have I2 := hide i2
  clear i2
  go_wp2_with fail
  refine (Gives_arg _ _ _ _ _ _ _ _ _ _ _ (unhide I1) (unhide I2) hs2).mono ?_
  rintro e w3 ⟨rfl, b3⟩
  replace HB := hide ((unhide HB).trans (b3.mono (unhide HB).size))
  replace Ia := hide (((unhide Ia).below b3).more b3.size)
  replace Ib := hide (((unhide Ib).below b3).more b3.size)
  replace Ig := hide (((unhide Ig).below b3).more b3.size)
  replace I1 := hide (((unhide I1).below b3).more b3.size)
  replace I2 := hide (((unhide I2).below b3).more b3.size)
  clear b3
  clear I1
  clear I2
  go_wp2_with fail
  refine (list_ints _ _ _ _ _ _ (unhide Ia)).mono ?_
  rintro e w4 ⟨A4, n4, c4, rfl, i4, b4⟩
  replace HB := hide ((unhide HB).trans (b4.mono (unhide HB).size))
  replace Ia := hide (((unhide Ia).below b4).more b4.size)
  replace Ib := hide (((unhide Ib).below b4).more b4.size)
  replace Ig := hide (((unhide Ig).below b4).more b4.size)
  clear b4
  have I1 := hide i4
  clear i4
  go_wp2_with fail
  refine (list_ints _ _ _ _ _ _ (unhide Ib)).mono ?_
  rintro e w5 ⟨A5, n5, c5, rfl, i5, b5⟩
  replace HB := hide ((unhide HB).trans (b5.mono (unhide HB).size))
  replace Ia := hide (((unhide Ia).below b5).more b5.size)
  replace Ib := hide (((unhide Ib).below b5).more b5.size)
  replace Ig := hide (((unhide Ig).below b5).more b5.size)
  replace I1 := hide (((unhide I1).below b5).more b5.size)
  clear b5
  have I2 := hide i5
  clear i5
  go_wp2_with fail
  refine (Of_any _ _ _ _ _ (unhide Ig)).mono ?_
  rintro e w6 ⟨A6, n6, c6, rfl, i6, b6⟩
  replace HB := hide ((unhide HB).trans (b6.mono (unhide HB).size))
  replace Ia := hide (((unhide Ia).below b6).more b6.size)
  replace Ib := hide (((unhide Ib).below b6).more b6.size)
  replace Ig := hide (((unhide Ig).below b6).more b6.size)
  replace I1 := hide (((unhide I1).below b6).more b6.size)
  replace I2 := hide (((unhide I2).below b6).more b6.size)
  clear b6
  have Og := hide i6
  clear i6
  go_wp2_with fail
  refine (CheckGives_no _ _ _ _ _ _ _ _ _ _ _ _ _ _ (unhide I1) (unhide I2) hs1).mono ?_
  rintro e w7 ⟨rfl, b7⟩
  replace HB := hide ((unhide HB).trans (b7.mono (unhide HB).size))
  replace Ia := hide (((unhide Ia).below b7).more b7.size)
  replace Ib := hide (((unhide Ib).below b7).more b7.size)
  replace Ig := hide (((unhide Ig).below b7).more b7.size)
  replace I1 := hide (((unhide I1).below b7).more b7.size)
  replace I2 := hide (((unhide I2).below b7).more b7.size)
  replace Og := hide (((unhide Og).below b7).more b7.size)
  clear b7
  clear I1
  clear I2
  clear Og
  go_wp2_with fail
  refine (Two_is _ _ _ _ _ _ _ _ _ _ _ (unhide Ia) (unhide Ib) false hs).mono ?_
  rintro e w8 ⟨rfl, rfl⟩
  go_wp2_with fail
  refine (awake_any _).mono ?_
  rintro e w9 ⟨rfl, b9⟩
  replace HB := hide ((unhide HB).trans (b9.mono (unhide HB).size))
  replace Ia := hide (((unhide Ia).below b9).more b9.size)
  replace Ib := hide (((unhide Ib).below b9).more b9.size)
  replace Ig := hide (((unhide Ig).below b9).more b9.size)
  clear b9
  go_wp2_with fail
  go_ret
  exact ⟨rfl, unhide HB⟩

set_option maxHeartbeats 2000000 in
theorem Gives_ff_tL (A A' A'' : Option Addr) (n c n' c' n'' c'' : Nat) (xs ys : List Int) (gs : List G) (w : World) (h : Ints w w.heap.size A n c xs) (h' : Ints w w.heap.size A' n' c' ys) (h'' : Gs w w.heap.size A'' n'' c'' gs) (hs : Hid (areSh xs ys = true)) (hok : Hid (decide (runG xs (gs.take 60) = some ys) = true)) (hx : Hid (isFal xs = false)) (hL : 60 < n'') :
    Calls Try.prog 4 #[.slice A n c, .slice A' n' c', .slice A'' n'' c''] w fun e w' => e = .returned (.bool true) ∧ Below w.heap.size w w' := by
  have HB := hide (Below.refl w.heap.size w)
  have Ia := hide h; have Ib := hide h'; have Ig := hide h''; clear h h' h''
  have ta := hide (take_of_sh (areSh_left hs.out).1); have tb := hide (take_of_sh (areSh_left hs.out).2.1)
  have hLb : decide ((60 : Int) < (n'' : Int)) = true := by simp; omega
  have hno := hide (show (areSh xs ys && (isFal xs && isFal ys)) = false from by rw [hx.out]; simp)
  go_enter Try.func4, Try.ntmps4
  go_wp2_with fail
  refine (list_ints _ _ _ _ _ _ (unhide Ia)).mono ?_
  rintro e w1 ⟨A1, n1, c1, rfl, i1, b1⟩
  replace HB := hide ((unhide HB).trans (b1.mono (unhide HB).size))
  replace Ia := hide (((unhide Ia).below b1).more b1.size)
  replace Ib := hide (((unhide Ib).below b1).more b1.size)
  replace Ig := hide (((unhide Ig).below b1).more b1.size)
  clear b1
  rw [ta.out] at i1
  have I1 := hide i1
  clear i1
  go_wp2_with fail
  refine (list_ints _ _ _ _ _ _ (unhide Ib)).mono ?_
  rintro e w2 ⟨A2, n2, c2, rfl, i2, b2⟩
  replace HB := hide ((unhide HB).trans (b2.mono (unhide HB).size))
  replace Ia := hide (((unhide Ia).below b2).more b2.size)
  replace Ib := hide (((unhide Ib).below b2).more b2.size)
  replace Ig := hide (((unhide Ig).below b2).more b2.size)
  replace I1 := hide (((unhide I1).below b2).more b2.size)
  clear b2
  rw [tb.out] at i2
  have I2 := hide i2
  clear i2
  go_wp2_with fail
  refine (Gives_arg _ _ _ _ _ _ _ _ _ _ _ (unhide I1) (unhide I2) hno).mono ?_
  rintro e w3 ⟨rfl, b3⟩
  replace HB := hide ((unhide HB).trans (b3.mono (unhide HB).size))
  replace Ia := hide (((unhide Ia).below b3).more b3.size)
  replace Ib := hide (((unhide Ib).below b3).more b3.size)
  replace Ig := hide (((unhide Ig).below b3).more b3.size)
  replace I1 := hide (((unhide I1).below b3).more b3.size)
  replace I2 := hide (((unhide I2).below b3).more b3.size)
  clear b3
  clear I1
  clear I2
  go_wp2_with fail
  refine (list_ints _ _ _ _ _ _ (unhide Ia)).mono ?_
  rintro e w4 ⟨A4, n4, c4, rfl, i4, b4⟩
  replace HB := hide ((unhide HB).trans (b4.mono (unhide HB).size))
  replace Ia := hide (((unhide Ia).below b4).more b4.size)
  replace Ib := hide (((unhide Ib).below b4).more b4.size)
  replace Ig := hide (((unhide Ig).below b4).more b4.size)
  clear b4
  rw [ta.out] at i4
  have I1 := hide i4
  clear i4
  go_wp2_with fail
  refine (list_ints _ _ _ _ _ _ (unhide Ib)).mono ?_
  rintro e w5 ⟨A5, n5, c5, rfl, i5, b5⟩
  replace HB := hide ((unhide HB).trans (b5.mono (unhide HB).size))
  replace Ia := hide (((unhide Ia).below b5).more b5.size)
  replace Ib := hide (((unhide Ib).below b5).more b5.size)
  replace Ig := hide (((unhide Ig).below b5).more b5.size)
  replace I1 := hide (((unhide I1).below b5).more b5.size)
  clear b5
  rw [tb.out] at i5
  have I2 := hide i5
  clear i5
  go_wp2_with fail
  refine (Of_any _ _ _ _ _ (unhide Ig)).mono ?_
  rintro e w6 ⟨A6, n6, c6, rfl, i6, b6⟩
  replace HB := hide ((unhide HB).trans (b6.mono (unhide HB).size))
  replace Ia := hide (((unhide Ia).below b6).more b6.size)
  replace Ib := hide (((unhide Ib).below b6).more b6.size)
  replace Ig := hide (((unhide Ig).below b6).more b6.size)
  replace I1 := hide (((unhide I1).below b6).more b6.size)
  replace I2 := hide (((unhide I2).below b6).more b6.size)
  clear b6
  have Og := hide i6
  clear i6
  go_wp2_with fail
  refine (CheckGives_ok _ _ _ _ _ _ _ _ _ _ _ _ _ (unhide I1) (unhide I2) (unhide Og) hs true hok).mono ?_
  rintro e w7 ⟨rfl, b7⟩
  replace HB := hide ((unhide HB).trans (b7.mono (unhide HB).size))
  replace Ia := hide (((unhide Ia).below b7).more b7.size)
  replace Ib := hide (((unhide Ib).below b7).more b7.size)
  replace Ig := hide (((unhide Ig).below b7).more b7.size)
  replace I1 := hide (((unhide I1).below b7).more b7.size)
  replace I2 := hide (((unhide I2).below b7).more b7.size)
  replace Og := hide (((unhide Og).below b7).more b7.size)
  clear b7
  clear I1
  clear I2
  clear Og
  go_wp2_with fail
  refine (Two_is _ _ _ _ _ _ _ _ _ _ _ (unhide Ia) (unhide Ib) true hs).mono ?_
  rintro e w8 ⟨rfl, rfl⟩
  go_wp2_with fail
  refine (Falling_b _ _ _ _ _ _ (unhide Ia) false hx).mono ?_
  rintro e w9 ⟨rfl, b9⟩
  replace HB := hide ((unhide HB).trans (b9.mono (unhide HB).size))
  replace Ia := hide (((unhide Ia).below b9).more b9.size)
  replace Ib := hide (((unhide Ib).below b9).more b9.size)
  replace Ig := hide (((unhide Ig).below b9).more b9.size)
  clear b9
  go_wp2_with fail
  refine (awake_any _).mono ?_
  rintro e w10 ⟨rfl, b10⟩
  replace HB := hide ((unhide HB).trans (b10.mono (unhide HB).size))
  replace Ia := hide (((unhide Ia).below b10).more b10.size)
  replace Ib := hide (((unhide Ib).below b10).more b10.size)
  replace Ig := hide (((unhide Ig).below b10).more b10.size)
  clear b10
  go_wp2_with fail
  go_ret
  exact ⟨rfl, unhide HB⟩

set_option maxHeartbeats 2000000 in
theorem Gives_ff_tS (A A' A'' : Option Addr) (n c n' c' n'' c'' : Nat) (xs ys : List Int) (gs : List G) (w : World) (h : Ints w w.heap.size A n c xs) (h' : Ints w w.heap.size A' n' c' ys) (h'' : Gs w w.heap.size A'' n'' c'' gs) (hs : Hid (areSh xs ys = true)) (hok : Hid (decide (runG xs (gs.take 60) = some ys) = true)) (hx : Hid (isFal xs = false)) (hL : n'' ≤ 60) :
    Calls Try.prog 4 #[.slice A n c, .slice A' n' c', .slice A'' n'' c''] w fun e w' => e = .returned (.bool true) ∧ Below w.heap.size w w' := by
  have HB := hide (Below.refl w.heap.size w)
  have Ia := hide h; have Ib := hide h'; have Ig := hide h''; clear h h' h''
  have ta := hide (take_of_sh (areSh_left hs.out).1); have tb := hide (take_of_sh (areSh_left hs.out).2.1)
  have hLb : decide ((60 : Int) < (n'' : Int)) = false := by simp; omega
  have hok2 := hide (show decide (runG xs gs = some ys) = true from by have e := (unhide Ig).len; have h0 := hok.out; rw [List.take_of_length_le (by omega)] at h0; exact h0)
  have hno := hide (show (areSh xs ys && (isFal xs && isFal ys)) = false from by rw [hx.out]; simp)
  go_enter Try.func4, Try.ntmps4
  go_wp2_with fail
  refine (list_ints _ _ _ _ _ _ (unhide Ia)).mono ?_
  rintro e w1 ⟨A1, n1, c1, rfl, i1, b1⟩
  replace HB := hide ((unhide HB).trans (b1.mono (unhide HB).size))
  replace Ia := hide (((unhide Ia).below b1).more b1.size)
  replace Ib := hide (((unhide Ib).below b1).more b1.size)
  replace Ig := hide (((unhide Ig).below b1).more b1.size)
  clear b1
  rw [ta.out] at i1
  have I1 := hide i1
  clear i1
  go_wp2_with fail
  refine (list_ints _ _ _ _ _ _ (unhide Ib)).mono ?_
  rintro e w2 ⟨A2, n2, c2, rfl, i2, b2⟩
  replace HB := hide ((unhide HB).trans (b2.mono (unhide HB).size))
  replace Ia := hide (((unhide Ia).below b2).more b2.size)
  replace Ib := hide (((unhide Ib).below b2).more b2.size)
  replace Ig := hide (((unhide Ig).below b2).more b2.size)
  replace I1 := hide (((unhide I1).below b2).more b2.size)
  clear b2
  rw [tb.out] at i2
  have I2 := hide i2
  clear i2
  go_wp2_with fail
  refine (Gives_arg _ _ _ _ _ _ _ _ _ _ _ (unhide I1) (unhide I2) hno).mono ?_
  rintro e w3 ⟨rfl, b3⟩
  replace HB := hide ((unhide HB).trans (b3.mono (unhide HB).size))
  replace Ia := hide (((unhide Ia).below b3).more b3.size)
  replace Ib := hide (((unhide Ib).below b3).more b3.size)
  replace Ig := hide (((unhide Ig).below b3).more b3.size)
  replace I1 := hide (((unhide I1).below b3).more b3.size)
  replace I2 := hide (((unhide I2).below b3).more b3.size)
  clear b3
  clear I1
  clear I2
  go_wp2_with fail
  refine (list_ints _ _ _ _ _ _ (unhide Ia)).mono ?_
  rintro e w4 ⟨A4, n4, c4, rfl, i4, b4⟩
  replace HB := hide ((unhide HB).trans (b4.mono (unhide HB).size))
  replace Ia := hide (((unhide Ia).below b4).more b4.size)
  replace Ib := hide (((unhide Ib).below b4).more b4.size)
  replace Ig := hide (((unhide Ig).below b4).more b4.size)
  clear b4
  rw [ta.out] at i4
  have I1 := hide i4
  clear i4
  go_wp2_with fail
  refine (list_ints _ _ _ _ _ _ (unhide Ib)).mono ?_
  rintro e w5 ⟨A5, n5, c5, rfl, i5, b5⟩
  replace HB := hide ((unhide HB).trans (b5.mono (unhide HB).size))
  replace Ia := hide (((unhide Ia).below b5).more b5.size)
  replace Ib := hide (((unhide Ib).below b5).more b5.size)
  replace Ig := hide (((unhide Ig).below b5).more b5.size)
  replace I1 := hide (((unhide I1).below b5).more b5.size)
  clear b5
  rw [tb.out] at i5
  have I2 := hide i5
  clear i5
  go_wp2_with fail
  refine (Of_any _ _ _ _ _ (unhide Ig)).mono ?_
  rintro e w6 ⟨A6, n6, c6, rfl, i6, b6⟩
  replace HB := hide ((unhide HB).trans (b6.mono (unhide HB).size))
  replace Ia := hide (((unhide Ia).below b6).more b6.size)
  replace Ib := hide (((unhide Ib).below b6).more b6.size)
  replace Ig := hide (((unhide Ig).below b6).more b6.size)
  replace I1 := hide (((unhide I1).below b6).more b6.size)
  replace I2 := hide (((unhide I2).below b6).more b6.size)
  clear b6
  have Og := hide i6
  clear i6
  go_wp2_with fail
  refine (CheckGives_ok _ _ _ _ _ _ _ _ _ _ _ _ _ (unhide I1) (unhide I2) (unhide Og) hs true hok).mono ?_
  rintro e w7 ⟨rfl, b7⟩
  replace HB := hide ((unhide HB).trans (b7.mono (unhide HB).size))
  replace Ia := hide (((unhide Ia).below b7).more b7.size)
  replace Ib := hide (((unhide Ib).below b7).more b7.size)
  replace Ig := hide (((unhide Ig).below b7).more b7.size)
  replace I1 := hide (((unhide I1).below b7).more b7.size)
  replace I2 := hide (((unhide I2).below b7).more b7.size)
  replace Og := hide (((unhide Og).below b7).more b7.size)
  clear b7
  clear I1
  clear I2
  clear Og
  go_wp2_with fail
  refine (Two_is _ _ _ _ _ _ _ _ _ _ _ (unhide Ia) (unhide Ib) true hs).mono ?_
  rintro e w8 ⟨rfl, rfl⟩
  go_wp2_with fail
  refine (Falling_b _ _ _ _ _ _ (unhide Ia) false hx).mono ?_
  rintro e w9 ⟨rfl, b9⟩
  replace HB := hide ((unhide HB).trans (b9.mono (unhide HB).size))
  replace Ia := hide (((unhide Ia).below b9).more b9.size)
  replace Ib := hide (((unhide Ib).below b9).more b9.size)
  replace Ig := hide (((unhide Ig).below b9).more b9.size)
  clear b9
  go_wp2_with fail
  refine (Turns_is _ _ _ _ _ _ _ _ _ _ _ _ _ (unhide Ia) (unhide Ib) (unhide Ig) hs true hok2).mono ?_
  rintro e w10 ⟨rfl, b10⟩
  replace HB := hide ((unhide HB).trans (b10.mono (unhide HB).size))
  replace Ia := hide (((unhide Ia).below b10).more b10.size)
  replace Ib := hide (((unhide Ib).below b10).more b10.size)
  replace Ig := hide (((unhide Ig).below b10).more b10.size)
  clear b10
  go_wp2_with fail
  refine (awake_any _).mono ?_
  rintro e w11 ⟨rfl, b11⟩
  replace HB := hide ((unhide HB).trans (b11.mono (unhide HB).size))
  replace Ia := hide (((unhide Ia).below b11).more b11.size)
  replace Ib := hide (((unhide Ib).below b11).more b11.size)
  replace Ig := hide (((unhide Ig).below b11).more b11.size)
  clear b11
  go_wp2_with fail
  go_ret
  exact ⟨rfl, unhide HB⟩

set_option maxHeartbeats 2000000 in
theorem Gives_ff_fL (A A' A'' : Option Addr) (n c n' c' n'' c'' : Nat) (xs ys : List Int) (gs : List G) (w : World) (h : Ints w w.heap.size A n c xs) (h' : Ints w w.heap.size A' n' c' ys) (h'' : Gs w w.heap.size A'' n'' c'' gs) (hs : Hid (areSh xs ys = true)) (hok : Hid (decide (runG xs (gs.take 60) = some ys) = false)) (hx : Hid (isFal xs = false)) (hL : 60 < n'') :
    Calls Try.prog 4 #[.slice A n c, .slice A' n' c', .slice A'' n'' c''] w fun e w' => e = .returned (.bool true) ∧ Below w.heap.size w w' := by
  have HB := hide (Below.refl w.heap.size w)
  have Ia := hide h; have Ib := hide h'; have Ig := hide h''; clear h h' h''
  have ta := hide (take_of_sh (areSh_left hs.out).1); have tb := hide (take_of_sh (areSh_left hs.out).2.1)
  have hLb : decide ((60 : Int) < (n'' : Int)) = true := by simp; omega
  have hno := hide (show (areSh xs ys && (isFal xs && isFal ys)) = false from by rw [hx.out]; simp)
  go_enter Try.func4, Try.ntmps4
  go_wp2_with fail
  refine (list_ints _ _ _ _ _ _ (unhide Ia)).mono ?_
  rintro e w1 ⟨A1, n1, c1, rfl, i1, b1⟩
  replace HB := hide ((unhide HB).trans (b1.mono (unhide HB).size))
  replace Ia := hide (((unhide Ia).below b1).more b1.size)
  replace Ib := hide (((unhide Ib).below b1).more b1.size)
  replace Ig := hide (((unhide Ig).below b1).more b1.size)
  clear b1
  rw [ta.out] at i1
  have I1 := hide i1
  clear i1
  go_wp2_with fail
  refine (list_ints _ _ _ _ _ _ (unhide Ib)).mono ?_
  rintro e w2 ⟨A2, n2, c2, rfl, i2, b2⟩
  replace HB := hide ((unhide HB).trans (b2.mono (unhide HB).size))
  replace Ia := hide (((unhide Ia).below b2).more b2.size)
  replace Ib := hide (((unhide Ib).below b2).more b2.size)
  replace Ig := hide (((unhide Ig).below b2).more b2.size)
  replace I1 := hide (((unhide I1).below b2).more b2.size)
  clear b2
  rw [tb.out] at i2
  have I2 := hide i2
  clear i2
  go_wp2_with fail
  refine (Gives_arg _ _ _ _ _ _ _ _ _ _ _ (unhide I1) (unhide I2) hno).mono ?_
  rintro e w3 ⟨rfl, b3⟩
  replace HB := hide ((unhide HB).trans (b3.mono (unhide HB).size))
  replace Ia := hide (((unhide Ia).below b3).more b3.size)
  replace Ib := hide (((unhide Ib).below b3).more b3.size)
  replace Ig := hide (((unhide Ig).below b3).more b3.size)
  replace I1 := hide (((unhide I1).below b3).more b3.size)
  replace I2 := hide (((unhide I2).below b3).more b3.size)
  clear b3
  clear I1
  clear I2
  go_wp2_with fail
  refine (list_ints _ _ _ _ _ _ (unhide Ia)).mono ?_
  rintro e w4 ⟨A4, n4, c4, rfl, i4, b4⟩
  replace HB := hide ((unhide HB).trans (b4.mono (unhide HB).size))
  replace Ia := hide (((unhide Ia).below b4).more b4.size)
  replace Ib := hide (((unhide Ib).below b4).more b4.size)
  replace Ig := hide (((unhide Ig).below b4).more b4.size)
  clear b4
  rw [ta.out] at i4
  have I1 := hide i4
  clear i4
  go_wp2_with fail
  refine (list_ints _ _ _ _ _ _ (unhide Ib)).mono ?_
  rintro e w5 ⟨A5, n5, c5, rfl, i5, b5⟩
  replace HB := hide ((unhide HB).trans (b5.mono (unhide HB).size))
  replace Ia := hide (((unhide Ia).below b5).more b5.size)
  replace Ib := hide (((unhide Ib).below b5).more b5.size)
  replace Ig := hide (((unhide Ig).below b5).more b5.size)
  replace I1 := hide (((unhide I1).below b5).more b5.size)
  clear b5
  rw [tb.out] at i5
  have I2 := hide i5
  clear i5
  go_wp2_with fail
  refine (Of_any _ _ _ _ _ (unhide Ig)).mono ?_
  rintro e w6 ⟨A6, n6, c6, rfl, i6, b6⟩
  replace HB := hide ((unhide HB).trans (b6.mono (unhide HB).size))
  replace Ia := hide (((unhide Ia).below b6).more b6.size)
  replace Ib := hide (((unhide Ib).below b6).more b6.size)
  replace Ig := hide (((unhide Ig).below b6).more b6.size)
  replace I1 := hide (((unhide I1).below b6).more b6.size)
  replace I2 := hide (((unhide I2).below b6).more b6.size)
  clear b6
  have Og := hide i6
  clear i6
  go_wp2_with fail
  refine (CheckGives_ok _ _ _ _ _ _ _ _ _ _ _ _ _ (unhide I1) (unhide I2) (unhide Og) hs false hok).mono ?_
  rintro e w7 ⟨rfl, b7⟩
  replace HB := hide ((unhide HB).trans (b7.mono (unhide HB).size))
  replace Ia := hide (((unhide Ia).below b7).more b7.size)
  replace Ib := hide (((unhide Ib).below b7).more b7.size)
  replace Ig := hide (((unhide Ig).below b7).more b7.size)
  replace I1 := hide (((unhide I1).below b7).more b7.size)
  replace I2 := hide (((unhide I2).below b7).more b7.size)
  replace Og := hide (((unhide Og).below b7).more b7.size)
  clear b7
  clear I1
  clear I2
  clear Og
  go_wp2_with fail
  refine (Two_is _ _ _ _ _ _ _ _ _ _ _ (unhide Ia) (unhide Ib) true hs).mono ?_
  rintro e w8 ⟨rfl, rfl⟩
  go_wp2_with fail
  refine (Falling_b _ _ _ _ _ _ (unhide Ia) false hx).mono ?_
  rintro e w9 ⟨rfl, b9⟩
  replace HB := hide ((unhide HB).trans (b9.mono (unhide HB).size))
  replace Ia := hide (((unhide Ia).below b9).more b9.size)
  replace Ib := hide (((unhide Ib).below b9).more b9.size)
  replace Ig := hide (((unhide Ig).below b9).more b9.size)
  clear b9
  go_wp2_with fail
  refine (awake_any _).mono ?_
  rintro e w10 ⟨rfl, b10⟩
  replace HB := hide ((unhide HB).trans (b10.mono (unhide HB).size))
  replace Ia := hide (((unhide Ia).below b10).more b10.size)
  replace Ib := hide (((unhide Ib).below b10).more b10.size)
  replace Ig := hide (((unhide Ig).below b10).more b10.size)
  clear b10
  go_wp2_with fail
  go_ret
  exact ⟨rfl, unhide HB⟩

set_option maxHeartbeats 2000000 in
theorem Gives_ff_fS (A A' A'' : Option Addr) (n c n' c' n'' c'' : Nat) (xs ys : List Int) (gs : List G) (w : World) (h : Ints w w.heap.size A n c xs) (h' : Ints w w.heap.size A' n' c' ys) (h'' : Gs w w.heap.size A'' n'' c'' gs) (hs : Hid (areSh xs ys = true)) (hok : Hid (decide (runG xs (gs.take 60) = some ys) = false)) (hx : Hid (isFal xs = false)) (hL : n'' ≤ 60) :
    Calls Try.prog 4 #[.slice A n c, .slice A' n' c', .slice A'' n'' c''] w fun e w' => e = .returned (.bool true) ∧ Below w.heap.size w w' := by
  have HB := hide (Below.refl w.heap.size w)
  have Ia := hide h; have Ib := hide h'; have Ig := hide h''; clear h h' h''
  have ta := hide (take_of_sh (areSh_left hs.out).1); have tb := hide (take_of_sh (areSh_left hs.out).2.1)
  have hLb : decide ((60 : Int) < (n'' : Int)) = false := by simp; omega
  have hok2 := hide (show decide (runG xs gs = some ys) = false from by have e := (unhide Ig).len; have h0 := hok.out; rw [List.take_of_length_le (by omega)] at h0; exact h0)
  have hno := hide (show (areSh xs ys && (isFal xs && isFal ys)) = false from by rw [hx.out]; simp)
  go_enter Try.func4, Try.ntmps4
  go_wp2_with fail
  refine (list_ints _ _ _ _ _ _ (unhide Ia)).mono ?_
  rintro e w1 ⟨A1, n1, c1, rfl, i1, b1⟩
  replace HB := hide ((unhide HB).trans (b1.mono (unhide HB).size))
  replace Ia := hide (((unhide Ia).below b1).more b1.size)
  replace Ib := hide (((unhide Ib).below b1).more b1.size)
  replace Ig := hide (((unhide Ig).below b1).more b1.size)
  clear b1
  rw [ta.out] at i1
  have I1 := hide i1
  clear i1
  go_wp2_with fail
  refine (list_ints _ _ _ _ _ _ (unhide Ib)).mono ?_
  rintro e w2 ⟨A2, n2, c2, rfl, i2, b2⟩
  replace HB := hide ((unhide HB).trans (b2.mono (unhide HB).size))
  replace Ia := hide (((unhide Ia).below b2).more b2.size)
  replace Ib := hide (((unhide Ib).below b2).more b2.size)
  replace Ig := hide (((unhide Ig).below b2).more b2.size)
  replace I1 := hide (((unhide I1).below b2).more b2.size)
  clear b2
  rw [tb.out] at i2
  have I2 := hide i2
  clear i2
  go_wp2_with fail
  refine (Gives_arg _ _ _ _ _ _ _ _ _ _ _ (unhide I1) (unhide I2) hno).mono ?_
  rintro e w3 ⟨rfl, b3⟩
  replace HB := hide ((unhide HB).trans (b3.mono (unhide HB).size))
  replace Ia := hide (((unhide Ia).below b3).more b3.size)
  replace Ib := hide (((unhide Ib).below b3).more b3.size)
  replace Ig := hide (((unhide Ig).below b3).more b3.size)
  replace I1 := hide (((unhide I1).below b3).more b3.size)
  replace I2 := hide (((unhide I2).below b3).more b3.size)
  clear b3
  clear I1
  clear I2
  go_wp2_with fail
  refine (list_ints _ _ _ _ _ _ (unhide Ia)).mono ?_
  rintro e w4 ⟨A4, n4, c4, rfl, i4, b4⟩
  replace HB := hide ((unhide HB).trans (b4.mono (unhide HB).size))
  replace Ia := hide (((unhide Ia).below b4).more b4.size)
  replace Ib := hide (((unhide Ib).below b4).more b4.size)
  replace Ig := hide (((unhide Ig).below b4).more b4.size)
  clear b4
  rw [ta.out] at i4
  have I1 := hide i4
  clear i4
  go_wp2_with fail
  refine (list_ints _ _ _ _ _ _ (unhide Ib)).mono ?_
  rintro e w5 ⟨A5, n5, c5, rfl, i5, b5⟩
  replace HB := hide ((unhide HB).trans (b5.mono (unhide HB).size))
  replace Ia := hide (((unhide Ia).below b5).more b5.size)
  replace Ib := hide (((unhide Ib).below b5).more b5.size)
  replace Ig := hide (((unhide Ig).below b5).more b5.size)
  replace I1 := hide (((unhide I1).below b5).more b5.size)
  clear b5
  rw [tb.out] at i5
  have I2 := hide i5
  clear i5
  go_wp2_with fail
  refine (Of_any _ _ _ _ _ (unhide Ig)).mono ?_
  rintro e w6 ⟨A6, n6, c6, rfl, i6, b6⟩
  replace HB := hide ((unhide HB).trans (b6.mono (unhide HB).size))
  replace Ia := hide (((unhide Ia).below b6).more b6.size)
  replace Ib := hide (((unhide Ib).below b6).more b6.size)
  replace Ig := hide (((unhide Ig).below b6).more b6.size)
  replace I1 := hide (((unhide I1).below b6).more b6.size)
  replace I2 := hide (((unhide I2).below b6).more b6.size)
  clear b6
  have Og := hide i6
  clear i6
  go_wp2_with fail
  refine (CheckGives_ok _ _ _ _ _ _ _ _ _ _ _ _ _ (unhide I1) (unhide I2) (unhide Og) hs false hok).mono ?_
  rintro e w7 ⟨rfl, b7⟩
  replace HB := hide ((unhide HB).trans (b7.mono (unhide HB).size))
  replace Ia := hide (((unhide Ia).below b7).more b7.size)
  replace Ib := hide (((unhide Ib).below b7).more b7.size)
  replace Ig := hide (((unhide Ig).below b7).more b7.size)
  replace I1 := hide (((unhide I1).below b7).more b7.size)
  replace I2 := hide (((unhide I2).below b7).more b7.size)
  replace Og := hide (((unhide Og).below b7).more b7.size)
  clear b7
  clear I1
  clear I2
  clear Og
  go_wp2_with fail
  refine (Two_is _ _ _ _ _ _ _ _ _ _ _ (unhide Ia) (unhide Ib) true hs).mono ?_
  rintro e w8 ⟨rfl, rfl⟩
  go_wp2_with fail
  refine (Falling_b _ _ _ _ _ _ (unhide Ia) false hx).mono ?_
  rintro e w9 ⟨rfl, b9⟩
  replace HB := hide ((unhide HB).trans (b9.mono (unhide HB).size))
  replace Ia := hide (((unhide Ia).below b9).more b9.size)
  replace Ib := hide (((unhide Ib).below b9).more b9.size)
  replace Ig := hide (((unhide Ig).below b9).more b9.size)
  clear b9
  go_wp2_with fail
  refine (Turns_is _ _ _ _ _ _ _ _ _ _ _ _ _ (unhide Ia) (unhide Ib) (unhide Ig) hs false hok2).mono ?_
  rintro e w10 ⟨rfl, b10⟩
  replace HB := hide ((unhide HB).trans (b10.mono (unhide HB).size))
  replace Ia := hide (((unhide Ia).below b10).more b10.size)
  replace Ib := hide (((unhide Ib).below b10).more b10.size)
  replace Ig := hide (((unhide Ig).below b10).more b10.size)
  clear b10
  go_wp2_with fail
  refine (awake_any _).mono ?_
  rintro e w11 ⟨rfl, b11⟩
  replace HB := hide ((unhide HB).trans (b11.mono (unhide HB).size))
  replace Ia := hide (((unhide Ia).below b11).more b11.size)
  replace Ib := hide (((unhide Ib).below b11).more b11.size)
  replace Ig := hide (((unhide Ig).below b11).more b11.size)
  clear b11
  go_wp2_with fail
  go_ret
  exact ⟨rfl, unhide HB⟩

set_option maxHeartbeats 2000000 in
theorem Gives_tf_tL (A A' A'' : Option Addr) (n c n' c' n'' c'' : Nat) (xs ys : List Int) (gs : List G) (w : World) (h : Ints w w.heap.size A n c xs) (h' : Ints w w.heap.size A' n' c' ys) (h'' : Gs w w.heap.size A'' n'' c'' gs) (hs : Hid (areSh xs ys = true)) (hok : Hid (decide (runG xs (gs.take 60) = some ys) = true)) (hx : Hid (isFal xs = true)) (hy : Hid (isFal ys = false)) (hL : 60 < n'') :
    Calls Try.prog 4 #[.slice A n c, .slice A' n' c', .slice A'' n'' c''] w fun e w' => e = .returned (.bool true) ∧ Below w.heap.size w w' := by
  have HB := hide (Below.refl w.heap.size w)
  have Ia := hide h; have Ib := hide h'; have Ig := hide h''; clear h h' h''
  have ta := hide (take_of_sh (areSh_left hs.out).1); have tb := hide (take_of_sh (areSh_left hs.out).2.1)
  have hLb : decide ((60 : Int) < (n'' : Int)) = true := by simp; omega
  have hno := hide (show (areSh xs ys && (isFal xs && isFal ys)) = false from by rw [hx.out, hy.out]; simp)
  go_enter Try.func4, Try.ntmps4
  go_wp2_with fail
  refine (list_ints _ _ _ _ _ _ (unhide Ia)).mono ?_
  rintro e w1 ⟨A1, n1, c1, rfl, i1, b1⟩
  replace HB := hide ((unhide HB).trans (b1.mono (unhide HB).size))
  replace Ia := hide (((unhide Ia).below b1).more b1.size)
  replace Ib := hide (((unhide Ib).below b1).more b1.size)
  replace Ig := hide (((unhide Ig).below b1).more b1.size)
  clear b1
  rw [ta.out] at i1
  have I1 := hide i1
  clear i1
  go_wp2_with fail
  refine (list_ints _ _ _ _ _ _ (unhide Ib)).mono ?_
  rintro e w2 ⟨A2, n2, c2, rfl, i2, b2⟩
  replace HB := hide ((unhide HB).trans (b2.mono (unhide HB).size))
  replace Ia := hide (((unhide Ia).below b2).more b2.size)
  replace Ib := hide (((unhide Ib).below b2).more b2.size)
  replace Ig := hide (((unhide Ig).below b2).more b2.size)
  replace I1 := hide (((unhide I1).below b2).more b2.size)
  clear b2
  rw [tb.out] at i2
  have I2 := hide i2
  clear i2
  go_wp2_with fail
  refine (Gives_arg _ _ _ _ _ _ _ _ _ _ _ (unhide I1) (unhide I2) hno).mono ?_
  rintro e w3 ⟨rfl, b3⟩
  replace HB := hide ((unhide HB).trans (b3.mono (unhide HB).size))
  replace Ia := hide (((unhide Ia).below b3).more b3.size)
  replace Ib := hide (((unhide Ib).below b3).more b3.size)
  replace Ig := hide (((unhide Ig).below b3).more b3.size)
  replace I1 := hide (((unhide I1).below b3).more b3.size)
  replace I2 := hide (((unhide I2).below b3).more b3.size)
  clear b3
  clear I1
  clear I2
  go_wp2_with fail
  refine (list_ints _ _ _ _ _ _ (unhide Ia)).mono ?_
  rintro e w4 ⟨A4, n4, c4, rfl, i4, b4⟩
  replace HB := hide ((unhide HB).trans (b4.mono (unhide HB).size))
  replace Ia := hide (((unhide Ia).below b4).more b4.size)
  replace Ib := hide (((unhide Ib).below b4).more b4.size)
  replace Ig := hide (((unhide Ig).below b4).more b4.size)
  clear b4
  rw [ta.out] at i4
  have I1 := hide i4
  clear i4
  go_wp2_with fail
  refine (list_ints _ _ _ _ _ _ (unhide Ib)).mono ?_
  rintro e w5 ⟨A5, n5, c5, rfl, i5, b5⟩
  replace HB := hide ((unhide HB).trans (b5.mono (unhide HB).size))
  replace Ia := hide (((unhide Ia).below b5).more b5.size)
  replace Ib := hide (((unhide Ib).below b5).more b5.size)
  replace Ig := hide (((unhide Ig).below b5).more b5.size)
  replace I1 := hide (((unhide I1).below b5).more b5.size)
  clear b5
  rw [tb.out] at i5
  have I2 := hide i5
  clear i5
  go_wp2_with fail
  refine (Of_any _ _ _ _ _ (unhide Ig)).mono ?_
  rintro e w6 ⟨A6, n6, c6, rfl, i6, b6⟩
  replace HB := hide ((unhide HB).trans (b6.mono (unhide HB).size))
  replace Ia := hide (((unhide Ia).below b6).more b6.size)
  replace Ib := hide (((unhide Ib).below b6).more b6.size)
  replace Ig := hide (((unhide Ig).below b6).more b6.size)
  replace I1 := hide (((unhide I1).below b6).more b6.size)
  replace I2 := hide (((unhide I2).below b6).more b6.size)
  clear b6
  have Og := hide i6
  clear i6
  go_wp2_with fail
  refine (CheckGives_ok _ _ _ _ _ _ _ _ _ _ _ _ _ (unhide I1) (unhide I2) (unhide Og) hs true hok).mono ?_
  rintro e w7 ⟨rfl, b7⟩
  replace HB := hide ((unhide HB).trans (b7.mono (unhide HB).size))
  replace Ia := hide (((unhide Ia).below b7).more b7.size)
  replace Ib := hide (((unhide Ib).below b7).more b7.size)
  replace Ig := hide (((unhide Ig).below b7).more b7.size)
  replace I1 := hide (((unhide I1).below b7).more b7.size)
  replace I2 := hide (((unhide I2).below b7).more b7.size)
  replace Og := hide (((unhide Og).below b7).more b7.size)
  clear b7
  clear I1
  clear I2
  clear Og
  go_wp2_with fail
  refine (Two_is _ _ _ _ _ _ _ _ _ _ _ (unhide Ia) (unhide Ib) true hs).mono ?_
  rintro e w8 ⟨rfl, rfl⟩
  go_wp2_with fail
  refine (Falling_b _ _ _ _ _ _ (unhide Ia) true hx).mono ?_
  rintro e w9 ⟨rfl, b9⟩
  replace HB := hide ((unhide HB).trans (b9.mono (unhide HB).size))
  replace Ia := hide (((unhide Ia).below b9).more b9.size)
  replace Ib := hide (((unhide Ib).below b9).more b9.size)
  replace Ig := hide (((unhide Ig).below b9).more b9.size)
  clear b9
  go_wp2_with fail
  refine (Falling_b _ _ _ _ _ _ (unhide Ib) false hy).mono ?_
  rintro e w10 ⟨rfl, b10⟩
  replace HB := hide ((unhide HB).trans (b10.mono (unhide HB).size))
  replace Ia := hide (((unhide Ia).below b10).more b10.size)
  replace Ib := hide (((unhide Ib).below b10).more b10.size)
  replace Ig := hide (((unhide Ig).below b10).more b10.size)
  clear b10
  go_wp2_with fail
  refine (awake_any _).mono ?_
  rintro e w11 ⟨rfl, b11⟩
  replace HB := hide ((unhide HB).trans (b11.mono (unhide HB).size))
  replace Ia := hide (((unhide Ia).below b11).more b11.size)
  replace Ib := hide (((unhide Ib).below b11).more b11.size)
  replace Ig := hide (((unhide Ig).below b11).more b11.size)
  clear b11
  go_wp2_with fail
  go_ret
  exact ⟨rfl, unhide HB⟩

set_option maxHeartbeats 2000000 in
theorem Gives_tf_tS (A A' A'' : Option Addr) (n c n' c' n'' c'' : Nat) (xs ys : List Int) (gs : List G) (w : World) (h : Ints w w.heap.size A n c xs) (h' : Ints w w.heap.size A' n' c' ys) (h'' : Gs w w.heap.size A'' n'' c'' gs) (hs : Hid (areSh xs ys = true)) (hok : Hid (decide (runG xs (gs.take 60) = some ys) = true)) (hx : Hid (isFal xs = true)) (hy : Hid (isFal ys = false)) (hL : n'' ≤ 60) :
    Calls Try.prog 4 #[.slice A n c, .slice A' n' c', .slice A'' n'' c''] w fun e w' => e = .returned (.bool true) ∧ Below w.heap.size w w' := by
  have HB := hide (Below.refl w.heap.size w)
  have Ia := hide h; have Ib := hide h'; have Ig := hide h''; clear h h' h''
  have ta := hide (take_of_sh (areSh_left hs.out).1); have tb := hide (take_of_sh (areSh_left hs.out).2.1)
  have hLb : decide ((60 : Int) < (n'' : Int)) = false := by simp; omega
  have hok2 := hide (show decide (runG xs gs = some ys) = true from by have e := (unhide Ig).len; have h0 := hok.out; rw [List.take_of_length_le (by omega)] at h0; exact h0)
  have hno := hide (show (areSh xs ys && (isFal xs && isFal ys)) = false from by rw [hx.out, hy.out]; simp)
  go_enter Try.func4, Try.ntmps4
  go_wp2_with fail
  refine (list_ints _ _ _ _ _ _ (unhide Ia)).mono ?_
  rintro e w1 ⟨A1, n1, c1, rfl, i1, b1⟩
  replace HB := hide ((unhide HB).trans (b1.mono (unhide HB).size))
  replace Ia := hide (((unhide Ia).below b1).more b1.size)
  replace Ib := hide (((unhide Ib).below b1).more b1.size)
  replace Ig := hide (((unhide Ig).below b1).more b1.size)
  clear b1
  rw [ta.out] at i1
  have I1 := hide i1
  clear i1
  go_wp2_with fail
  refine (list_ints _ _ _ _ _ _ (unhide Ib)).mono ?_
  rintro e w2 ⟨A2, n2, c2, rfl, i2, b2⟩
  replace HB := hide ((unhide HB).trans (b2.mono (unhide HB).size))
  replace Ia := hide (((unhide Ia).below b2).more b2.size)
  replace Ib := hide (((unhide Ib).below b2).more b2.size)
  replace Ig := hide (((unhide Ig).below b2).more b2.size)
  replace I1 := hide (((unhide I1).below b2).more b2.size)
  clear b2
  rw [tb.out] at i2
  have I2 := hide i2
  clear i2
  go_wp2_with fail
  refine (Gives_arg _ _ _ _ _ _ _ _ _ _ _ (unhide I1) (unhide I2) hno).mono ?_
  rintro e w3 ⟨rfl, b3⟩
  replace HB := hide ((unhide HB).trans (b3.mono (unhide HB).size))
  replace Ia := hide (((unhide Ia).below b3).more b3.size)
  replace Ib := hide (((unhide Ib).below b3).more b3.size)
  replace Ig := hide (((unhide Ig).below b3).more b3.size)
  replace I1 := hide (((unhide I1).below b3).more b3.size)
  replace I2 := hide (((unhide I2).below b3).more b3.size)
  clear b3
  clear I1
  clear I2
  go_wp2_with fail
  refine (list_ints _ _ _ _ _ _ (unhide Ia)).mono ?_
  rintro e w4 ⟨A4, n4, c4, rfl, i4, b4⟩
  replace HB := hide ((unhide HB).trans (b4.mono (unhide HB).size))
  replace Ia := hide (((unhide Ia).below b4).more b4.size)
  replace Ib := hide (((unhide Ib).below b4).more b4.size)
  replace Ig := hide (((unhide Ig).below b4).more b4.size)
  clear b4
  rw [ta.out] at i4
  have I1 := hide i4
  clear i4
  go_wp2_with fail
  refine (list_ints _ _ _ _ _ _ (unhide Ib)).mono ?_
  rintro e w5 ⟨A5, n5, c5, rfl, i5, b5⟩
  replace HB := hide ((unhide HB).trans (b5.mono (unhide HB).size))
  replace Ia := hide (((unhide Ia).below b5).more b5.size)
  replace Ib := hide (((unhide Ib).below b5).more b5.size)
  replace Ig := hide (((unhide Ig).below b5).more b5.size)
  replace I1 := hide (((unhide I1).below b5).more b5.size)
  clear b5
  rw [tb.out] at i5
  have I2 := hide i5
  clear i5
  go_wp2_with fail
  refine (Of_any _ _ _ _ _ (unhide Ig)).mono ?_
  rintro e w6 ⟨A6, n6, c6, rfl, i6, b6⟩
  replace HB := hide ((unhide HB).trans (b6.mono (unhide HB).size))
  replace Ia := hide (((unhide Ia).below b6).more b6.size)
  replace Ib := hide (((unhide Ib).below b6).more b6.size)
  replace Ig := hide (((unhide Ig).below b6).more b6.size)
  replace I1 := hide (((unhide I1).below b6).more b6.size)
  replace I2 := hide (((unhide I2).below b6).more b6.size)
  clear b6
  have Og := hide i6
  clear i6
  go_wp2_with fail
  refine (CheckGives_ok _ _ _ _ _ _ _ _ _ _ _ _ _ (unhide I1) (unhide I2) (unhide Og) hs true hok).mono ?_
  rintro e w7 ⟨rfl, b7⟩
  replace HB := hide ((unhide HB).trans (b7.mono (unhide HB).size))
  replace Ia := hide (((unhide Ia).below b7).more b7.size)
  replace Ib := hide (((unhide Ib).below b7).more b7.size)
  replace Ig := hide (((unhide Ig).below b7).more b7.size)
  replace I1 := hide (((unhide I1).below b7).more b7.size)
  replace I2 := hide (((unhide I2).below b7).more b7.size)
  replace Og := hide (((unhide Og).below b7).more b7.size)
  clear b7
  clear I1
  clear I2
  clear Og
  go_wp2_with fail
  refine (Two_is _ _ _ _ _ _ _ _ _ _ _ (unhide Ia) (unhide Ib) true hs).mono ?_
  rintro e w8 ⟨rfl, rfl⟩
  go_wp2_with fail
  refine (Falling_b _ _ _ _ _ _ (unhide Ia) true hx).mono ?_
  rintro e w9 ⟨rfl, b9⟩
  replace HB := hide ((unhide HB).trans (b9.mono (unhide HB).size))
  replace Ia := hide (((unhide Ia).below b9).more b9.size)
  replace Ib := hide (((unhide Ib).below b9).more b9.size)
  replace Ig := hide (((unhide Ig).below b9).more b9.size)
  clear b9
  go_wp2_with fail
  refine (Falling_b _ _ _ _ _ _ (unhide Ib) false hy).mono ?_
  rintro e w10 ⟨rfl, b10⟩
  replace HB := hide ((unhide HB).trans (b10.mono (unhide HB).size))
  replace Ia := hide (((unhide Ia).below b10).more b10.size)
  replace Ib := hide (((unhide Ib).below b10).more b10.size)
  replace Ig := hide (((unhide Ig).below b10).more b10.size)
  clear b10
  go_wp2_with fail
  refine (Turns_is _ _ _ _ _ _ _ _ _ _ _ _ _ (unhide Ia) (unhide Ib) (unhide Ig) hs true hok2).mono ?_
  rintro e w11 ⟨rfl, b11⟩
  replace HB := hide ((unhide HB).trans (b11.mono (unhide HB).size))
  replace Ia := hide (((unhide Ia).below b11).more b11.size)
  replace Ib := hide (((unhide Ib).below b11).more b11.size)
  replace Ig := hide (((unhide Ig).below b11).more b11.size)
  clear b11
  go_wp2_with fail
  refine (awake_any _).mono ?_
  rintro e w12 ⟨rfl, b12⟩
  replace HB := hide ((unhide HB).trans (b12.mono (unhide HB).size))
  replace Ia := hide (((unhide Ia).below b12).more b12.size)
  replace Ib := hide (((unhide Ib).below b12).more b12.size)
  replace Ig := hide (((unhide Ig).below b12).more b12.size)
  clear b12
  go_wp2_with fail
  go_ret
  exact ⟨rfl, unhide HB⟩

set_option maxHeartbeats 2000000 in
theorem Gives_tf_fL (A A' A'' : Option Addr) (n c n' c' n'' c'' : Nat) (xs ys : List Int) (gs : List G) (w : World) (h : Ints w w.heap.size A n c xs) (h' : Ints w w.heap.size A' n' c' ys) (h'' : Gs w w.heap.size A'' n'' c'' gs) (hs : Hid (areSh xs ys = true)) (hok : Hid (decide (runG xs (gs.take 60) = some ys) = false)) (hx : Hid (isFal xs = true)) (hy : Hid (isFal ys = false)) (hL : 60 < n'') :
    Calls Try.prog 4 #[.slice A n c, .slice A' n' c', .slice A'' n'' c''] w fun e w' => e = .returned (.bool true) ∧ Below w.heap.size w w' := by
  have HB := hide (Below.refl w.heap.size w)
  have Ia := hide h; have Ib := hide h'; have Ig := hide h''; clear h h' h''
  have ta := hide (take_of_sh (areSh_left hs.out).1); have tb := hide (take_of_sh (areSh_left hs.out).2.1)
  have hLb : decide ((60 : Int) < (n'' : Int)) = true := by simp; omega
  have hno := hide (show (areSh xs ys && (isFal xs && isFal ys)) = false from by rw [hx.out, hy.out]; simp)
  go_enter Try.func4, Try.ntmps4
  go_wp2_with fail
  refine (list_ints _ _ _ _ _ _ (unhide Ia)).mono ?_
  rintro e w1 ⟨A1, n1, c1, rfl, i1, b1⟩
  replace HB := hide ((unhide HB).trans (b1.mono (unhide HB).size))
  replace Ia := hide (((unhide Ia).below b1).more b1.size)
  replace Ib := hide (((unhide Ib).below b1).more b1.size)
  replace Ig := hide (((unhide Ig).below b1).more b1.size)
  clear b1
  rw [ta.out] at i1
  have I1 := hide i1
  clear i1
  go_wp2_with fail
  refine (list_ints _ _ _ _ _ _ (unhide Ib)).mono ?_
  rintro e w2 ⟨A2, n2, c2, rfl, i2, b2⟩
  replace HB := hide ((unhide HB).trans (b2.mono (unhide HB).size))
  replace Ia := hide (((unhide Ia).below b2).more b2.size)
  replace Ib := hide (((unhide Ib).below b2).more b2.size)
  replace Ig := hide (((unhide Ig).below b2).more b2.size)
  replace I1 := hide (((unhide I1).below b2).more b2.size)
  clear b2
  rw [tb.out] at i2
  have I2 := hide i2
  clear i2
  go_wp2_with fail
  refine (Gives_arg _ _ _ _ _ _ _ _ _ _ _ (unhide I1) (unhide I2) hno).mono ?_
  rintro e w3 ⟨rfl, b3⟩
  replace HB := hide ((unhide HB).trans (b3.mono (unhide HB).size))
  replace Ia := hide (((unhide Ia).below b3).more b3.size)
  replace Ib := hide (((unhide Ib).below b3).more b3.size)
  replace Ig := hide (((unhide Ig).below b3).more b3.size)
  replace I1 := hide (((unhide I1).below b3).more b3.size)
  replace I2 := hide (((unhide I2).below b3).more b3.size)
  clear b3
  clear I1
  clear I2
  go_wp2_with fail
  refine (list_ints _ _ _ _ _ _ (unhide Ia)).mono ?_
  rintro e w4 ⟨A4, n4, c4, rfl, i4, b4⟩
  replace HB := hide ((unhide HB).trans (b4.mono (unhide HB).size))
  replace Ia := hide (((unhide Ia).below b4).more b4.size)
  replace Ib := hide (((unhide Ib).below b4).more b4.size)
  replace Ig := hide (((unhide Ig).below b4).more b4.size)
  clear b4
  rw [ta.out] at i4
  have I1 := hide i4
  clear i4
  go_wp2_with fail
  refine (list_ints _ _ _ _ _ _ (unhide Ib)).mono ?_
  rintro e w5 ⟨A5, n5, c5, rfl, i5, b5⟩
  replace HB := hide ((unhide HB).trans (b5.mono (unhide HB).size))
  replace Ia := hide (((unhide Ia).below b5).more b5.size)
  replace Ib := hide (((unhide Ib).below b5).more b5.size)
  replace Ig := hide (((unhide Ig).below b5).more b5.size)
  replace I1 := hide (((unhide I1).below b5).more b5.size)
  clear b5
  rw [tb.out] at i5
  have I2 := hide i5
  clear i5
  go_wp2_with fail
  refine (Of_any _ _ _ _ _ (unhide Ig)).mono ?_
  rintro e w6 ⟨A6, n6, c6, rfl, i6, b6⟩
  replace HB := hide ((unhide HB).trans (b6.mono (unhide HB).size))
  replace Ia := hide (((unhide Ia).below b6).more b6.size)
  replace Ib := hide (((unhide Ib).below b6).more b6.size)
  replace Ig := hide (((unhide Ig).below b6).more b6.size)
  replace I1 := hide (((unhide I1).below b6).more b6.size)
  replace I2 := hide (((unhide I2).below b6).more b6.size)
  clear b6
  have Og := hide i6
  clear i6
  go_wp2_with fail
  refine (CheckGives_ok _ _ _ _ _ _ _ _ _ _ _ _ _ (unhide I1) (unhide I2) (unhide Og) hs false hok).mono ?_
  rintro e w7 ⟨rfl, b7⟩
  replace HB := hide ((unhide HB).trans (b7.mono (unhide HB).size))
  replace Ia := hide (((unhide Ia).below b7).more b7.size)
  replace Ib := hide (((unhide Ib).below b7).more b7.size)
  replace Ig := hide (((unhide Ig).below b7).more b7.size)
  replace I1 := hide (((unhide I1).below b7).more b7.size)
  replace I2 := hide (((unhide I2).below b7).more b7.size)
  replace Og := hide (((unhide Og).below b7).more b7.size)
  clear b7
  clear I1
  clear I2
  clear Og
  go_wp2_with fail
  refine (Two_is _ _ _ _ _ _ _ _ _ _ _ (unhide Ia) (unhide Ib) true hs).mono ?_
  rintro e w8 ⟨rfl, rfl⟩
  go_wp2_with fail
  refine (Falling_b _ _ _ _ _ _ (unhide Ia) true hx).mono ?_
  rintro e w9 ⟨rfl, b9⟩
  replace HB := hide ((unhide HB).trans (b9.mono (unhide HB).size))
  replace Ia := hide (((unhide Ia).below b9).more b9.size)
  replace Ib := hide (((unhide Ib).below b9).more b9.size)
  replace Ig := hide (((unhide Ig).below b9).more b9.size)
  clear b9
  go_wp2_with fail
  refine (Falling_b _ _ _ _ _ _ (unhide Ib) false hy).mono ?_
  rintro e w10 ⟨rfl, b10⟩
  replace HB := hide ((unhide HB).trans (b10.mono (unhide HB).size))
  replace Ia := hide (((unhide Ia).below b10).more b10.size)
  replace Ib := hide (((unhide Ib).below b10).more b10.size)
  replace Ig := hide (((unhide Ig).below b10).more b10.size)
  clear b10
  go_wp2_with fail
  refine (awake_any _).mono ?_
  rintro e w11 ⟨rfl, b11⟩
  replace HB := hide ((unhide HB).trans (b11.mono (unhide HB).size))
  replace Ia := hide (((unhide Ia).below b11).more b11.size)
  replace Ib := hide (((unhide Ib).below b11).more b11.size)
  replace Ig := hide (((unhide Ig).below b11).more b11.size)
  clear b11
  go_wp2_with fail
  go_ret
  exact ⟨rfl, unhide HB⟩

set_option maxHeartbeats 2000000 in
theorem Gives_tf_fS (A A' A'' : Option Addr) (n c n' c' n'' c'' : Nat) (xs ys : List Int) (gs : List G) (w : World) (h : Ints w w.heap.size A n c xs) (h' : Ints w w.heap.size A' n' c' ys) (h'' : Gs w w.heap.size A'' n'' c'' gs) (hs : Hid (areSh xs ys = true)) (hok : Hid (decide (runG xs (gs.take 60) = some ys) = false)) (hx : Hid (isFal xs = true)) (hy : Hid (isFal ys = false)) (hL : n'' ≤ 60) :
    Calls Try.prog 4 #[.slice A n c, .slice A' n' c', .slice A'' n'' c''] w fun e w' => e = .returned (.bool true) ∧ Below w.heap.size w w' := by
  have HB := hide (Below.refl w.heap.size w)
  have Ia := hide h; have Ib := hide h'; have Ig := hide h''; clear h h' h''
  have ta := hide (take_of_sh (areSh_left hs.out).1); have tb := hide (take_of_sh (areSh_left hs.out).2.1)
  have hLb : decide ((60 : Int) < (n'' : Int)) = false := by simp; omega
  have hok2 := hide (show decide (runG xs gs = some ys) = false from by have e := (unhide Ig).len; have h0 := hok.out; rw [List.take_of_length_le (by omega)] at h0; exact h0)
  have hno := hide (show (areSh xs ys && (isFal xs && isFal ys)) = false from by rw [hx.out, hy.out]; simp)
  go_enter Try.func4, Try.ntmps4
  go_wp2_with fail
  refine (list_ints _ _ _ _ _ _ (unhide Ia)).mono ?_
  rintro e w1 ⟨A1, n1, c1, rfl, i1, b1⟩
  replace HB := hide ((unhide HB).trans (b1.mono (unhide HB).size))
  replace Ia := hide (((unhide Ia).below b1).more b1.size)
  replace Ib := hide (((unhide Ib).below b1).more b1.size)
  replace Ig := hide (((unhide Ig).below b1).more b1.size)
  clear b1
  rw [ta.out] at i1
  have I1 := hide i1
  clear i1
  go_wp2_with fail
  refine (list_ints _ _ _ _ _ _ (unhide Ib)).mono ?_
  rintro e w2 ⟨A2, n2, c2, rfl, i2, b2⟩
  replace HB := hide ((unhide HB).trans (b2.mono (unhide HB).size))
  replace Ia := hide (((unhide Ia).below b2).more b2.size)
  replace Ib := hide (((unhide Ib).below b2).more b2.size)
  replace Ig := hide (((unhide Ig).below b2).more b2.size)
  replace I1 := hide (((unhide I1).below b2).more b2.size)
  clear b2
  rw [tb.out] at i2
  have I2 := hide i2
  clear i2
  go_wp2_with fail
  refine (Gives_arg _ _ _ _ _ _ _ _ _ _ _ (unhide I1) (unhide I2) hno).mono ?_
  rintro e w3 ⟨rfl, b3⟩
  replace HB := hide ((unhide HB).trans (b3.mono (unhide HB).size))
  replace Ia := hide (((unhide Ia).below b3).more b3.size)
  replace Ib := hide (((unhide Ib).below b3).more b3.size)
  replace Ig := hide (((unhide Ig).below b3).more b3.size)
  replace I1 := hide (((unhide I1).below b3).more b3.size)
  replace I2 := hide (((unhide I2).below b3).more b3.size)
  clear b3
  clear I1
  clear I2
  go_wp2_with fail
  refine (list_ints _ _ _ _ _ _ (unhide Ia)).mono ?_
  rintro e w4 ⟨A4, n4, c4, rfl, i4, b4⟩
  replace HB := hide ((unhide HB).trans (b4.mono (unhide HB).size))
  replace Ia := hide (((unhide Ia).below b4).more b4.size)
  replace Ib := hide (((unhide Ib).below b4).more b4.size)
  replace Ig := hide (((unhide Ig).below b4).more b4.size)
  clear b4
  rw [ta.out] at i4
  have I1 := hide i4
  clear i4
  go_wp2_with fail
  refine (list_ints _ _ _ _ _ _ (unhide Ib)).mono ?_
  rintro e w5 ⟨A5, n5, c5, rfl, i5, b5⟩
  replace HB := hide ((unhide HB).trans (b5.mono (unhide HB).size))
  replace Ia := hide (((unhide Ia).below b5).more b5.size)
  replace Ib := hide (((unhide Ib).below b5).more b5.size)
  replace Ig := hide (((unhide Ig).below b5).more b5.size)
  replace I1 := hide (((unhide I1).below b5).more b5.size)
  clear b5
  rw [tb.out] at i5
  have I2 := hide i5
  clear i5
  go_wp2_with fail
  refine (Of_any _ _ _ _ _ (unhide Ig)).mono ?_
  rintro e w6 ⟨A6, n6, c6, rfl, i6, b6⟩
  replace HB := hide ((unhide HB).trans (b6.mono (unhide HB).size))
  replace Ia := hide (((unhide Ia).below b6).more b6.size)
  replace Ib := hide (((unhide Ib).below b6).more b6.size)
  replace Ig := hide (((unhide Ig).below b6).more b6.size)
  replace I1 := hide (((unhide I1).below b6).more b6.size)
  replace I2 := hide (((unhide I2).below b6).more b6.size)
  clear b6
  have Og := hide i6
  clear i6
  go_wp2_with fail
  refine (CheckGives_ok _ _ _ _ _ _ _ _ _ _ _ _ _ (unhide I1) (unhide I2) (unhide Og) hs false hok).mono ?_
  rintro e w7 ⟨rfl, b7⟩
  replace HB := hide ((unhide HB).trans (b7.mono (unhide HB).size))
  replace Ia := hide (((unhide Ia).below b7).more b7.size)
  replace Ib := hide (((unhide Ib).below b7).more b7.size)
  replace Ig := hide (((unhide Ig).below b7).more b7.size)
  replace I1 := hide (((unhide I1).below b7).more b7.size)
  replace I2 := hide (((unhide I2).below b7).more b7.size)
  replace Og := hide (((unhide Og).below b7).more b7.size)
  clear b7
  clear I1
  clear I2
  clear Og
  go_wp2_with fail
  refine (Two_is _ _ _ _ _ _ _ _ _ _ _ (unhide Ia) (unhide Ib) true hs).mono ?_
  rintro e w8 ⟨rfl, rfl⟩
  go_wp2_with fail
  refine (Falling_b _ _ _ _ _ _ (unhide Ia) true hx).mono ?_
  rintro e w9 ⟨rfl, b9⟩
  replace HB := hide ((unhide HB).trans (b9.mono (unhide HB).size))
  replace Ia := hide (((unhide Ia).below b9).more b9.size)
  replace Ib := hide (((unhide Ib).below b9).more b9.size)
  replace Ig := hide (((unhide Ig).below b9).more b9.size)
  clear b9
  go_wp2_with fail
  refine (Falling_b _ _ _ _ _ _ (unhide Ib) false hy).mono ?_
  rintro e w10 ⟨rfl, b10⟩
  replace HB := hide ((unhide HB).trans (b10.mono (unhide HB).size))
  replace Ia := hide (((unhide Ia).below b10).more b10.size)
  replace Ib := hide (((unhide Ib).below b10).more b10.size)
  replace Ig := hide (((unhide Ig).below b10).more b10.size)
  clear b10
  go_wp2_with fail
  refine (Turns_is _ _ _ _ _ _ _ _ _ _ _ _ _ (unhide Ia) (unhide Ib) (unhide Ig) hs false hok2).mono ?_
  rintro e w11 ⟨rfl, b11⟩
  replace HB := hide ((unhide HB).trans (b11.mono (unhide HB).size))
  replace Ia := hide (((unhide Ia).below b11).more b11.size)
  replace Ib := hide (((unhide Ib).below b11).more b11.size)
  replace Ig := hide (((unhide Ig).below b11).more b11.size)
  clear b11
  go_wp2_with fail
  refine (awake_any _).mono ?_
  rintro e w12 ⟨rfl, b12⟩
  replace HB := hide ((unhide HB).trans (b12.mono (unhide HB).size))
  replace Ia := hide (((unhide Ia).below b12).more b12.size)
  replace Ib := hide (((unhide Ib).below b12).more b12.size)
  replace Ig := hide (((unhide Ig).below b12).more b12.size)
  clear b12
  go_wp2_with fail
  go_ret
  exact ⟨rfl, unhide HB⟩

set_option maxHeartbeats 2000000 in
theorem Gives_tn_tL (A A' A'' : Option Addr) (n c n' c' n'' c'' : Nat) (xs ys : List Int) (gs : List G) (w : World) (h : Ints w w.heap.size A n c xs) (h' : Ints w w.heap.size A' n' c' ys) (h'' : Gs w w.heap.size A'' n'' c'' gs) (hs : Hid (areSh xs ys = true)) (hok : Hid (decide (runG xs (gs.take 60) = some ys) = true)) (hx : Hid (isFal xs = true)) (hy : Hid (isFal ys = true)) (his : Hid (unevS xs ys = false)) (hL : 60 < n'') :
    Calls Try.prog 4 #[.slice A n c, .slice A' n' c', .slice A'' n'' c''] w fun e w' => e = .returned (.bool true) ∧ Below w.heap.size w w' := by
  have HB := hide (Below.refl w.heap.size w)
  have Ia := hide h; have Ib := hide h'; have Ig := hide h''; clear h h' h''
  have ta := hide (take_of_sh (areSh_left hs.out).1); have tb := hide (take_of_sh (areSh_left hs.out).2.1)
  have hLb : decide ((60 : Int) < (n'' : Int)) = true := by simp; omega
  have hd := hide (show domB xs ys = false from by rw [← unevS_fal hx.out hy.out]; exact his.out)
  go_enter Try.func4, Try.ntmps4
  go_wp2_with fail
  refine (list_ints _ _ _ _ _ _ (unhide Ia)).mono ?_
  rintro e w1 ⟨A1, n1, c1, rfl, i1, b1⟩
  replace HB := hide ((unhide HB).trans (b1.mono (unhide HB).size))
  replace Ia := hide (((unhide Ia).below b1).more b1.size)
  replace Ib := hide (((unhide Ib).below b1).more b1.size)
  replace Ig := hide (((unhide Ig).below b1).more b1.size)
  clear b1
  rw [ta.out] at i1
  have I1 := hide i1
  clear i1
  go_wp2_with fail
  refine (list_ints _ _ _ _ _ _ (unhide Ib)).mono ?_
  rintro e w2 ⟨A2, n2, c2, rfl, i2, b2⟩
  replace HB := hide ((unhide HB).trans (b2.mono (unhide HB).size))
  replace Ia := hide (((unhide Ia).below b2).more b2.size)
  replace Ib := hide (((unhide Ib).below b2).more b2.size)
  replace Ig := hide (((unhide Ig).below b2).more b2.size)
  replace I1 := hide (((unhide I1).below b2).more b2.size)
  clear b2
  rw [tb.out] at i2
  have I2 := hide i2
  clear i2
  go_wp2_with fail
  refine (Gives_none _ _ _ _ _ _ _ _ _ _ _ (unhide I1) (unhide I2) hs hx hy hd).mono ?_
  rintro e w3 ⟨rfl, b3⟩
  replace HB := hide ((unhide HB).trans (b3.mono (unhide HB).size))
  replace Ia := hide (((unhide Ia).below b3).more b3.size)
  replace Ib := hide (((unhide Ib).below b3).more b3.size)
  replace Ig := hide (((unhide Ig).below b3).more b3.size)
  replace I1 := hide (((unhide I1).below b3).more b3.size)
  replace I2 := hide (((unhide I2).below b3).more b3.size)
  clear b3
  clear I1
  clear I2
  go_wp2_with fail
  refine (list_ints _ _ _ _ _ _ (unhide Ia)).mono ?_
  rintro e w4 ⟨A4, n4, c4, rfl, i4, b4⟩
  replace HB := hide ((unhide HB).trans (b4.mono (unhide HB).size))
  replace Ia := hide (((unhide Ia).below b4).more b4.size)
  replace Ib := hide (((unhide Ib).below b4).more b4.size)
  replace Ig := hide (((unhide Ig).below b4).more b4.size)
  clear b4
  rw [ta.out] at i4
  have I1 := hide i4
  clear i4
  go_wp2_with fail
  refine (list_ints _ _ _ _ _ _ (unhide Ib)).mono ?_
  rintro e w5 ⟨A5, n5, c5, rfl, i5, b5⟩
  replace HB := hide ((unhide HB).trans (b5.mono (unhide HB).size))
  replace Ia := hide (((unhide Ia).below b5).more b5.size)
  replace Ib := hide (((unhide Ib).below b5).more b5.size)
  replace Ig := hide (((unhide Ig).below b5).more b5.size)
  replace I1 := hide (((unhide I1).below b5).more b5.size)
  clear b5
  rw [tb.out] at i5
  have I2 := hide i5
  clear i5
  go_wp2_with fail
  refine (Of_any _ _ _ _ _ (unhide Ig)).mono ?_
  rintro e w6 ⟨A6, n6, c6, rfl, i6, b6⟩
  replace HB := hide ((unhide HB).trans (b6.mono (unhide HB).size))
  replace Ia := hide (((unhide Ia).below b6).more b6.size)
  replace Ib := hide (((unhide Ib).below b6).more b6.size)
  replace Ig := hide (((unhide Ig).below b6).more b6.size)
  replace I1 := hide (((unhide I1).below b6).more b6.size)
  replace I2 := hide (((unhide I2).below b6).more b6.size)
  clear b6
  have Og := hide i6
  clear i6
  go_wp2_with fail
  refine (CheckGives_ok _ _ _ _ _ _ _ _ _ _ _ _ _ (unhide I1) (unhide I2) (unhide Og) hs true hok).mono ?_
  rintro e w7 ⟨rfl, b7⟩
  replace HB := hide ((unhide HB).trans (b7.mono (unhide HB).size))
  replace Ia := hide (((unhide Ia).below b7).more b7.size)
  replace Ib := hide (((unhide Ib).below b7).more b7.size)
  replace Ig := hide (((unhide Ig).below b7).more b7.size)
  replace I1 := hide (((unhide I1).below b7).more b7.size)
  replace I2 := hide (((unhide I2).below b7).more b7.size)
  replace Og := hide (((unhide Og).below b7).more b7.size)
  clear b7
  clear I1
  clear I2
  clear Og
  go_wp2_with fail
  refine (Two_is _ _ _ _ _ _ _ _ _ _ _ (unhide Ia) (unhide Ib) true hs).mono ?_
  rintro e w8 ⟨rfl, rfl⟩
  go_wp2_with fail
  refine (Falling_b _ _ _ _ _ _ (unhide Ia) true hx).mono ?_
  rintro e w9 ⟨rfl, b9⟩
  replace HB := hide ((unhide HB).trans (b9.mono (unhide HB).size))
  replace Ia := hide (((unhide Ia).below b9).more b9.size)
  replace Ib := hide (((unhide Ib).below b9).more b9.size)
  replace Ig := hide (((unhide Ig).below b9).more b9.size)
  clear b9
  go_wp2_with fail
  refine (Falling_b _ _ _ _ _ _ (unhide Ib) true hy).mono ?_
  rintro e w10 ⟨rfl, b10⟩
  replace HB := hide ((unhide HB).trans (b10.mono (unhide HB).size))
  replace Ia := hide (((unhide Ia).below b10).more b10.size)
  replace Ib := hide (((unhide Ib).below b10).more b10.size)
  replace Ig := hide (((unhide Ig).below b10).more b10.size)
  clear b10
  go_wp2_with fail
  refine (RUneven_is _ _ _ _ _ _ _ _ _ (unhide Ia) (unhide Ib) hs false his).mono ?_
  rintro e w11 ⟨rfl, b11⟩
  replace HB := hide ((unhide HB).trans (b11.mono (unhide HB).size))
  replace Ia := hide (((unhide Ia).below b11).more b11.size)
  replace Ib := hide (((unhide Ib).below b11).more b11.size)
  replace Ig := hide (((unhide Ig).below b11).more b11.size)
  clear b11
  go_wp2_with fail
  refine (awake_any _).mono ?_
  rintro e w12 ⟨rfl, b12⟩
  replace HB := hide ((unhide HB).trans (b12.mono (unhide HB).size))
  replace Ia := hide (((unhide Ia).below b12).more b12.size)
  replace Ib := hide (((unhide Ib).below b12).more b12.size)
  replace Ig := hide (((unhide Ig).below b12).more b12.size)
  clear b12
  go_wp2_with fail
  go_ret
  exact ⟨rfl, unhide HB⟩

set_option maxHeartbeats 2000000 in
theorem Gives_tn_tS (A A' A'' : Option Addr) (n c n' c' n'' c'' : Nat) (xs ys : List Int) (gs : List G) (w : World) (h : Ints w w.heap.size A n c xs) (h' : Ints w w.heap.size A' n' c' ys) (h'' : Gs w w.heap.size A'' n'' c'' gs) (hs : Hid (areSh xs ys = true)) (hok : Hid (decide (runG xs (gs.take 60) = some ys) = true)) (hx : Hid (isFal xs = true)) (hy : Hid (isFal ys = true)) (his : Hid (unevS xs ys = false)) (hL : n'' ≤ 60) :
    Calls Try.prog 4 #[.slice A n c, .slice A' n' c', .slice A'' n'' c''] w fun e w' => e = .returned (.bool true) ∧ Below w.heap.size w w' := by
  have HB := hide (Below.refl w.heap.size w)
  have Ia := hide h; have Ib := hide h'; have Ig := hide h''; clear h h' h''
  have ta := hide (take_of_sh (areSh_left hs.out).1); have tb := hide (take_of_sh (areSh_left hs.out).2.1)
  have hLb : decide ((60 : Int) < (n'' : Int)) = false := by simp; omega
  have hok2 := hide (show decide (runG xs gs = some ys) = true from by have e := (unhide Ig).len; have h0 := hok.out; rw [List.take_of_length_le (by omega)] at h0; exact h0)
  have hd := hide (show domB xs ys = false from by rw [← unevS_fal hx.out hy.out]; exact his.out)
  go_enter Try.func4, Try.ntmps4
  go_wp2_with fail
  refine (list_ints _ _ _ _ _ _ (unhide Ia)).mono ?_
  rintro e w1 ⟨A1, n1, c1, rfl, i1, b1⟩
  replace HB := hide ((unhide HB).trans (b1.mono (unhide HB).size))
  replace Ia := hide (((unhide Ia).below b1).more b1.size)
  replace Ib := hide (((unhide Ib).below b1).more b1.size)
  replace Ig := hide (((unhide Ig).below b1).more b1.size)
  clear b1
  rw [ta.out] at i1
  have I1 := hide i1
  clear i1
  go_wp2_with fail
  refine (list_ints _ _ _ _ _ _ (unhide Ib)).mono ?_
  rintro e w2 ⟨A2, n2, c2, rfl, i2, b2⟩
  replace HB := hide ((unhide HB).trans (b2.mono (unhide HB).size))
  replace Ia := hide (((unhide Ia).below b2).more b2.size)
  replace Ib := hide (((unhide Ib).below b2).more b2.size)
  replace Ig := hide (((unhide Ig).below b2).more b2.size)
  replace I1 := hide (((unhide I1).below b2).more b2.size)
  clear b2
  rw [tb.out] at i2
  have I2 := hide i2
  clear i2
  go_wp2_with fail
  refine (Gives_none _ _ _ _ _ _ _ _ _ _ _ (unhide I1) (unhide I2) hs hx hy hd).mono ?_
  rintro e w3 ⟨rfl, b3⟩
  replace HB := hide ((unhide HB).trans (b3.mono (unhide HB).size))
  replace Ia := hide (((unhide Ia).below b3).more b3.size)
  replace Ib := hide (((unhide Ib).below b3).more b3.size)
  replace Ig := hide (((unhide Ig).below b3).more b3.size)
  replace I1 := hide (((unhide I1).below b3).more b3.size)
  replace I2 := hide (((unhide I2).below b3).more b3.size)
  clear b3
  clear I1
  clear I2
  go_wp2_with fail
  refine (list_ints _ _ _ _ _ _ (unhide Ia)).mono ?_
  rintro e w4 ⟨A4, n4, c4, rfl, i4, b4⟩
  replace HB := hide ((unhide HB).trans (b4.mono (unhide HB).size))
  replace Ia := hide (((unhide Ia).below b4).more b4.size)
  replace Ib := hide (((unhide Ib).below b4).more b4.size)
  replace Ig := hide (((unhide Ig).below b4).more b4.size)
  clear b4
  rw [ta.out] at i4
  have I1 := hide i4
  clear i4
  go_wp2_with fail
  refine (list_ints _ _ _ _ _ _ (unhide Ib)).mono ?_
  rintro e w5 ⟨A5, n5, c5, rfl, i5, b5⟩
  replace HB := hide ((unhide HB).trans (b5.mono (unhide HB).size))
  replace Ia := hide (((unhide Ia).below b5).more b5.size)
  replace Ib := hide (((unhide Ib).below b5).more b5.size)
  replace Ig := hide (((unhide Ig).below b5).more b5.size)
  replace I1 := hide (((unhide I1).below b5).more b5.size)
  clear b5
  rw [tb.out] at i5
  have I2 := hide i5
  clear i5
  go_wp2_with fail
  refine (Of_any _ _ _ _ _ (unhide Ig)).mono ?_
  rintro e w6 ⟨A6, n6, c6, rfl, i6, b6⟩
  replace HB := hide ((unhide HB).trans (b6.mono (unhide HB).size))
  replace Ia := hide (((unhide Ia).below b6).more b6.size)
  replace Ib := hide (((unhide Ib).below b6).more b6.size)
  replace Ig := hide (((unhide Ig).below b6).more b6.size)
  replace I1 := hide (((unhide I1).below b6).more b6.size)
  replace I2 := hide (((unhide I2).below b6).more b6.size)
  clear b6
  have Og := hide i6
  clear i6
  go_wp2_with fail
  refine (CheckGives_ok _ _ _ _ _ _ _ _ _ _ _ _ _ (unhide I1) (unhide I2) (unhide Og) hs true hok).mono ?_
  rintro e w7 ⟨rfl, b7⟩
  replace HB := hide ((unhide HB).trans (b7.mono (unhide HB).size))
  replace Ia := hide (((unhide Ia).below b7).more b7.size)
  replace Ib := hide (((unhide Ib).below b7).more b7.size)
  replace Ig := hide (((unhide Ig).below b7).more b7.size)
  replace I1 := hide (((unhide I1).below b7).more b7.size)
  replace I2 := hide (((unhide I2).below b7).more b7.size)
  replace Og := hide (((unhide Og).below b7).more b7.size)
  clear b7
  clear I1
  clear I2
  clear Og
  go_wp2_with fail
  refine (Two_is _ _ _ _ _ _ _ _ _ _ _ (unhide Ia) (unhide Ib) true hs).mono ?_
  rintro e w8 ⟨rfl, rfl⟩
  go_wp2_with fail
  refine (Falling_b _ _ _ _ _ _ (unhide Ia) true hx).mono ?_
  rintro e w9 ⟨rfl, b9⟩
  replace HB := hide ((unhide HB).trans (b9.mono (unhide HB).size))
  replace Ia := hide (((unhide Ia).below b9).more b9.size)
  replace Ib := hide (((unhide Ib).below b9).more b9.size)
  replace Ig := hide (((unhide Ig).below b9).more b9.size)
  clear b9
  go_wp2_with fail
  refine (Falling_b _ _ _ _ _ _ (unhide Ib) true hy).mono ?_
  rintro e w10 ⟨rfl, b10⟩
  replace HB := hide ((unhide HB).trans (b10.mono (unhide HB).size))
  replace Ia := hide (((unhide Ia).below b10).more b10.size)
  replace Ib := hide (((unhide Ib).below b10).more b10.size)
  replace Ig := hide (((unhide Ig).below b10).more b10.size)
  clear b10
  go_wp2_with fail
  refine (RUneven_is _ _ _ _ _ _ _ _ _ (unhide Ia) (unhide Ib) hs false his).mono ?_
  rintro e w11 ⟨rfl, b11⟩
  replace HB := hide ((unhide HB).trans (b11.mono (unhide HB).size))
  replace Ia := hide (((unhide Ia).below b11).more b11.size)
  replace Ib := hide (((unhide Ib).below b11).more b11.size)
  replace Ig := hide (((unhide Ig).below b11).more b11.size)
  clear b11
  go_wp2_with fail
  refine (Turns_is _ _ _ _ _ _ _ _ _ _ _ _ _ (unhide Ia) (unhide Ib) (unhide Ig) hs true hok2).mono ?_
  rintro e w12 ⟨rfl, b12⟩
  replace HB := hide ((unhide HB).trans (b12.mono (unhide HB).size))
  replace Ia := hide (((unhide Ia).below b12).more b12.size)
  replace Ib := hide (((unhide Ib).below b12).more b12.size)
  replace Ig := hide (((unhide Ig).below b12).more b12.size)
  clear b12
  go_wp2_with fail
  refine (awake_any _).mono ?_
  rintro e w13 ⟨rfl, b13⟩
  replace HB := hide ((unhide HB).trans (b13.mono (unhide HB).size))
  replace Ia := hide (((unhide Ia).below b13).more b13.size)
  replace Ib := hide (((unhide Ib).below b13).more b13.size)
  replace Ig := hide (((unhide Ig).below b13).more b13.size)
  clear b13
  go_wp2_with fail
  go_ret
  exact ⟨rfl, unhide HB⟩

set_option maxHeartbeats 2000000 in
theorem Gives_tn_fL (A A' A'' : Option Addr) (n c n' c' n'' c'' : Nat) (xs ys : List Int) (gs : List G) (w : World) (h : Ints w w.heap.size A n c xs) (h' : Ints w w.heap.size A' n' c' ys) (h'' : Gs w w.heap.size A'' n'' c'' gs) (hs : Hid (areSh xs ys = true)) (hok : Hid (decide (runG xs (gs.take 60) = some ys) = false)) (hx : Hid (isFal xs = true)) (hy : Hid (isFal ys = true)) (his : Hid (unevS xs ys = false)) (hL : 60 < n'') :
    Calls Try.prog 4 #[.slice A n c, .slice A' n' c', .slice A'' n'' c''] w fun e w' => e = .returned (.bool true) ∧ Below w.heap.size w w' := by
  have HB := hide (Below.refl w.heap.size w)
  have Ia := hide h; have Ib := hide h'; have Ig := hide h''; clear h h' h''
  have ta := hide (take_of_sh (areSh_left hs.out).1); have tb := hide (take_of_sh (areSh_left hs.out).2.1)
  have hLb : decide ((60 : Int) < (n'' : Int)) = true := by simp; omega
  have hd := hide (show domB xs ys = false from by rw [← unevS_fal hx.out hy.out]; exact his.out)
  go_enter Try.func4, Try.ntmps4
  go_wp2_with fail
  refine (list_ints _ _ _ _ _ _ (unhide Ia)).mono ?_
  rintro e w1 ⟨A1, n1, c1, rfl, i1, b1⟩
  replace HB := hide ((unhide HB).trans (b1.mono (unhide HB).size))
  replace Ia := hide (((unhide Ia).below b1).more b1.size)
  replace Ib := hide (((unhide Ib).below b1).more b1.size)
  replace Ig := hide (((unhide Ig).below b1).more b1.size)
  clear b1
  rw [ta.out] at i1
  have I1 := hide i1
  clear i1
  go_wp2_with fail
  refine (list_ints _ _ _ _ _ _ (unhide Ib)).mono ?_
  rintro e w2 ⟨A2, n2, c2, rfl, i2, b2⟩
  replace HB := hide ((unhide HB).trans (b2.mono (unhide HB).size))
  replace Ia := hide (((unhide Ia).below b2).more b2.size)
  replace Ib := hide (((unhide Ib).below b2).more b2.size)
  replace Ig := hide (((unhide Ig).below b2).more b2.size)
  replace I1 := hide (((unhide I1).below b2).more b2.size)
  clear b2
  rw [tb.out] at i2
  have I2 := hide i2
  clear i2
  go_wp2_with fail
  refine (Gives_none _ _ _ _ _ _ _ _ _ _ _ (unhide I1) (unhide I2) hs hx hy hd).mono ?_
  rintro e w3 ⟨rfl, b3⟩
  replace HB := hide ((unhide HB).trans (b3.mono (unhide HB).size))
  replace Ia := hide (((unhide Ia).below b3).more b3.size)
  replace Ib := hide (((unhide Ib).below b3).more b3.size)
  replace Ig := hide (((unhide Ig).below b3).more b3.size)
  replace I1 := hide (((unhide I1).below b3).more b3.size)
  replace I2 := hide (((unhide I2).below b3).more b3.size)
  clear b3
  clear I1
  clear I2
  go_wp2_with fail
  refine (list_ints _ _ _ _ _ _ (unhide Ia)).mono ?_
  rintro e w4 ⟨A4, n4, c4, rfl, i4, b4⟩
  replace HB := hide ((unhide HB).trans (b4.mono (unhide HB).size))
  replace Ia := hide (((unhide Ia).below b4).more b4.size)
  replace Ib := hide (((unhide Ib).below b4).more b4.size)
  replace Ig := hide (((unhide Ig).below b4).more b4.size)
  clear b4
  rw [ta.out] at i4
  have I1 := hide i4
  clear i4
  go_wp2_with fail
  refine (list_ints _ _ _ _ _ _ (unhide Ib)).mono ?_
  rintro e w5 ⟨A5, n5, c5, rfl, i5, b5⟩
  replace HB := hide ((unhide HB).trans (b5.mono (unhide HB).size))
  replace Ia := hide (((unhide Ia).below b5).more b5.size)
  replace Ib := hide (((unhide Ib).below b5).more b5.size)
  replace Ig := hide (((unhide Ig).below b5).more b5.size)
  replace I1 := hide (((unhide I1).below b5).more b5.size)
  clear b5
  rw [tb.out] at i5
  have I2 := hide i5
  clear i5
  go_wp2_with fail
  refine (Of_any _ _ _ _ _ (unhide Ig)).mono ?_
  rintro e w6 ⟨A6, n6, c6, rfl, i6, b6⟩
  replace HB := hide ((unhide HB).trans (b6.mono (unhide HB).size))
  replace Ia := hide (((unhide Ia).below b6).more b6.size)
  replace Ib := hide (((unhide Ib).below b6).more b6.size)
  replace Ig := hide (((unhide Ig).below b6).more b6.size)
  replace I1 := hide (((unhide I1).below b6).more b6.size)
  replace I2 := hide (((unhide I2).below b6).more b6.size)
  clear b6
  have Og := hide i6
  clear i6
  go_wp2_with fail
  refine (CheckGives_ok _ _ _ _ _ _ _ _ _ _ _ _ _ (unhide I1) (unhide I2) (unhide Og) hs false hok).mono ?_
  rintro e w7 ⟨rfl, b7⟩
  replace HB := hide ((unhide HB).trans (b7.mono (unhide HB).size))
  replace Ia := hide (((unhide Ia).below b7).more b7.size)
  replace Ib := hide (((unhide Ib).below b7).more b7.size)
  replace Ig := hide (((unhide Ig).below b7).more b7.size)
  replace I1 := hide (((unhide I1).below b7).more b7.size)
  replace I2 := hide (((unhide I2).below b7).more b7.size)
  replace Og := hide (((unhide Og).below b7).more b7.size)
  clear b7
  clear I1
  clear I2
  clear Og
  go_wp2_with fail
  refine (Two_is _ _ _ _ _ _ _ _ _ _ _ (unhide Ia) (unhide Ib) true hs).mono ?_
  rintro e w8 ⟨rfl, rfl⟩
  go_wp2_with fail
  refine (Falling_b _ _ _ _ _ _ (unhide Ia) true hx).mono ?_
  rintro e w9 ⟨rfl, b9⟩
  replace HB := hide ((unhide HB).trans (b9.mono (unhide HB).size))
  replace Ia := hide (((unhide Ia).below b9).more b9.size)
  replace Ib := hide (((unhide Ib).below b9).more b9.size)
  replace Ig := hide (((unhide Ig).below b9).more b9.size)
  clear b9
  go_wp2_with fail
  refine (Falling_b _ _ _ _ _ _ (unhide Ib) true hy).mono ?_
  rintro e w10 ⟨rfl, b10⟩
  replace HB := hide ((unhide HB).trans (b10.mono (unhide HB).size))
  replace Ia := hide (((unhide Ia).below b10).more b10.size)
  replace Ib := hide (((unhide Ib).below b10).more b10.size)
  replace Ig := hide (((unhide Ig).below b10).more b10.size)
  clear b10
  go_wp2_with fail
  refine (RUneven_is _ _ _ _ _ _ _ _ _ (unhide Ia) (unhide Ib) hs false his).mono ?_
  rintro e w11 ⟨rfl, b11⟩
  replace HB := hide ((unhide HB).trans (b11.mono (unhide HB).size))
  replace Ia := hide (((unhide Ia).below b11).more b11.size)
  replace Ib := hide (((unhide Ib).below b11).more b11.size)
  replace Ig := hide (((unhide Ig).below b11).more b11.size)
  clear b11
  go_wp2_with fail
  refine (awake_any _).mono ?_
  rintro e w12 ⟨rfl, b12⟩
  replace HB := hide ((unhide HB).trans (b12.mono (unhide HB).size))
  replace Ia := hide (((unhide Ia).below b12).more b12.size)
  replace Ib := hide (((unhide Ib).below b12).more b12.size)
  replace Ig := hide (((unhide Ig).below b12).more b12.size)
  clear b12
  go_wp2_with fail
  go_ret
  exact ⟨rfl, unhide HB⟩

set_option maxHeartbeats 2000000 in
theorem Gives_tn_fS (A A' A'' : Option Addr) (n c n' c' n'' c'' : Nat) (xs ys : List Int) (gs : List G) (w : World) (h : Ints w w.heap.size A n c xs) (h' : Ints w w.heap.size A' n' c' ys) (h'' : Gs w w.heap.size A'' n'' c'' gs) (hs : Hid (areSh xs ys = true)) (hok : Hid (decide (runG xs (gs.take 60) = some ys) = false)) (hx : Hid (isFal xs = true)) (hy : Hid (isFal ys = true)) (his : Hid (unevS xs ys = false)) (hL : n'' ≤ 60) :
    Calls Try.prog 4 #[.slice A n c, .slice A' n' c', .slice A'' n'' c''] w fun e w' => e = .returned (.bool true) ∧ Below w.heap.size w w' := by
  have HB := hide (Below.refl w.heap.size w)
  have Ia := hide h; have Ib := hide h'; have Ig := hide h''; clear h h' h''
  have ta := hide (take_of_sh (areSh_left hs.out).1); have tb := hide (take_of_sh (areSh_left hs.out).2.1)
  have hLb : decide ((60 : Int) < (n'' : Int)) = false := by simp; omega
  have hok2 := hide (show decide (runG xs gs = some ys) = false from by have e := (unhide Ig).len; have h0 := hok.out; rw [List.take_of_length_le (by omega)] at h0; exact h0)
  have hd := hide (show domB xs ys = false from by rw [← unevS_fal hx.out hy.out]; exact his.out)
  go_enter Try.func4, Try.ntmps4
  go_wp2_with fail
  refine (list_ints _ _ _ _ _ _ (unhide Ia)).mono ?_
  rintro e w1 ⟨A1, n1, c1, rfl, i1, b1⟩
  replace HB := hide ((unhide HB).trans (b1.mono (unhide HB).size))
  replace Ia := hide (((unhide Ia).below b1).more b1.size)
  replace Ib := hide (((unhide Ib).below b1).more b1.size)
  replace Ig := hide (((unhide Ig).below b1).more b1.size)
  clear b1
  rw [ta.out] at i1
  have I1 := hide i1
  clear i1
  go_wp2_with fail
  refine (list_ints _ _ _ _ _ _ (unhide Ib)).mono ?_
  rintro e w2 ⟨A2, n2, c2, rfl, i2, b2⟩
  replace HB := hide ((unhide HB).trans (b2.mono (unhide HB).size))
  replace Ia := hide (((unhide Ia).below b2).more b2.size)
  replace Ib := hide (((unhide Ib).below b2).more b2.size)
  replace Ig := hide (((unhide Ig).below b2).more b2.size)
  replace I1 := hide (((unhide I1).below b2).more b2.size)
  clear b2
  rw [tb.out] at i2
  have I2 := hide i2
  clear i2
  go_wp2_with fail
  refine (Gives_none _ _ _ _ _ _ _ _ _ _ _ (unhide I1) (unhide I2) hs hx hy hd).mono ?_
  rintro e w3 ⟨rfl, b3⟩
  replace HB := hide ((unhide HB).trans (b3.mono (unhide HB).size))
  replace Ia := hide (((unhide Ia).below b3).more b3.size)
  replace Ib := hide (((unhide Ib).below b3).more b3.size)
  replace Ig := hide (((unhide Ig).below b3).more b3.size)
  replace I1 := hide (((unhide I1).below b3).more b3.size)
  replace I2 := hide (((unhide I2).below b3).more b3.size)
  clear b3
  clear I1
  clear I2
  go_wp2_with fail
  refine (list_ints _ _ _ _ _ _ (unhide Ia)).mono ?_
  rintro e w4 ⟨A4, n4, c4, rfl, i4, b4⟩
  replace HB := hide ((unhide HB).trans (b4.mono (unhide HB).size))
  replace Ia := hide (((unhide Ia).below b4).more b4.size)
  replace Ib := hide (((unhide Ib).below b4).more b4.size)
  replace Ig := hide (((unhide Ig).below b4).more b4.size)
  clear b4
  rw [ta.out] at i4
  have I1 := hide i4
  clear i4
  go_wp2_with fail
  refine (list_ints _ _ _ _ _ _ (unhide Ib)).mono ?_
  rintro e w5 ⟨A5, n5, c5, rfl, i5, b5⟩
  replace HB := hide ((unhide HB).trans (b5.mono (unhide HB).size))
  replace Ia := hide (((unhide Ia).below b5).more b5.size)
  replace Ib := hide (((unhide Ib).below b5).more b5.size)
  replace Ig := hide (((unhide Ig).below b5).more b5.size)
  replace I1 := hide (((unhide I1).below b5).more b5.size)
  clear b5
  rw [tb.out] at i5
  have I2 := hide i5
  clear i5
  go_wp2_with fail
  refine (Of_any _ _ _ _ _ (unhide Ig)).mono ?_
  rintro e w6 ⟨A6, n6, c6, rfl, i6, b6⟩
  replace HB := hide ((unhide HB).trans (b6.mono (unhide HB).size))
  replace Ia := hide (((unhide Ia).below b6).more b6.size)
  replace Ib := hide (((unhide Ib).below b6).more b6.size)
  replace Ig := hide (((unhide Ig).below b6).more b6.size)
  replace I1 := hide (((unhide I1).below b6).more b6.size)
  replace I2 := hide (((unhide I2).below b6).more b6.size)
  clear b6
  have Og := hide i6
  clear i6
  go_wp2_with fail
  refine (CheckGives_ok _ _ _ _ _ _ _ _ _ _ _ _ _ (unhide I1) (unhide I2) (unhide Og) hs false hok).mono ?_
  rintro e w7 ⟨rfl, b7⟩
  replace HB := hide ((unhide HB).trans (b7.mono (unhide HB).size))
  replace Ia := hide (((unhide Ia).below b7).more b7.size)
  replace Ib := hide (((unhide Ib).below b7).more b7.size)
  replace Ig := hide (((unhide Ig).below b7).more b7.size)
  replace I1 := hide (((unhide I1).below b7).more b7.size)
  replace I2 := hide (((unhide I2).below b7).more b7.size)
  replace Og := hide (((unhide Og).below b7).more b7.size)
  clear b7
  clear I1
  clear I2
  clear Og
  go_wp2_with fail
  refine (Two_is _ _ _ _ _ _ _ _ _ _ _ (unhide Ia) (unhide Ib) true hs).mono ?_
  rintro e w8 ⟨rfl, rfl⟩
  go_wp2_with fail
  refine (Falling_b _ _ _ _ _ _ (unhide Ia) true hx).mono ?_
  rintro e w9 ⟨rfl, b9⟩
  replace HB := hide ((unhide HB).trans (b9.mono (unhide HB).size))
  replace Ia := hide (((unhide Ia).below b9).more b9.size)
  replace Ib := hide (((unhide Ib).below b9).more b9.size)
  replace Ig := hide (((unhide Ig).below b9).more b9.size)
  clear b9
  go_wp2_with fail
  refine (Falling_b _ _ _ _ _ _ (unhide Ib) true hy).mono ?_
  rintro e w10 ⟨rfl, b10⟩
  replace HB := hide ((unhide HB).trans (b10.mono (unhide HB).size))
  replace Ia := hide (((unhide Ia).below b10).more b10.size)
  replace Ib := hide (((unhide Ib).below b10).more b10.size)
  replace Ig := hide (((unhide Ig).below b10).more b10.size)
  clear b10
  go_wp2_with fail
  refine (RUneven_is _ _ _ _ _ _ _ _ _ (unhide Ia) (unhide Ib) hs false his).mono ?_
  rintro e w11 ⟨rfl, b11⟩
  replace HB := hide ((unhide HB).trans (b11.mono (unhide HB).size))
  replace Ia := hide (((unhide Ia).below b11).more b11.size)
  replace Ib := hide (((unhide Ib).below b11).more b11.size)
  replace Ig := hide (((unhide Ig).below b11).more b11.size)
  clear b11
  go_wp2_with fail
  refine (Turns_is _ _ _ _ _ _ _ _ _ _ _ _ _ (unhide Ia) (unhide Ib) (unhide Ig) hs false hok2).mono ?_
  rintro e w12 ⟨rfl, b12⟩
  replace HB := hide ((unhide HB).trans (b12.mono (unhide HB).size))
  replace Ia := hide (((unhide Ia).below b12).more b12.size)
  replace Ib := hide (((unhide Ib).below b12).more b12.size)
  replace Ig := hide (((unhide Ig).below b12).more b12.size)
  clear b12
  go_wp2_with fail
  refine (awake_any _).mono ?_
  rintro e w13 ⟨rfl, b13⟩
  replace HB := hide ((unhide HB).trans (b13.mono (unhide HB).size))
  replace Ia := hide (((unhide Ia).below b13).more b13.size)
  replace Ib := hide (((unhide Ib).below b13).more b13.size)
  replace Ig := hide (((unhide Ig).below b13).more b13.size)
  clear b13
  go_wp2_with fail
  go_ret
  exact ⟨rfl, unhide HB⟩

set_option maxHeartbeats 2000000 in
theorem Gives_tt_tL (A A' A'' : Option Addr) (n c n' c' n'' c'' : Nat) (xs ys : List Int) (gs : List G) (w : World) (h : Ints w w.heap.size A n c xs) (h' : Ints w w.heap.size A' n' c' ys) (h'' : Gs w w.heap.size A'' n'' c'' gs) (hs : Hid (areSh xs ys = true)) (hok : Hid (decide (runG xs (gs.take 60) = some ys) = true)) (hx : Hid (isFal xs = true)) (hy : Hid (isFal ys = true)) (his : Hid (unevS xs ys = true)) (hL : 60 < n'') :
    Calls Try.prog 4 #[.slice A n c, .slice A' n' c', .slice A'' n'' c''] w fun e w' => e = .returned (.bool true) ∧ Below w.heap.size w w' := by
  have HB := hide (Below.refl w.heap.size w)
  have Ia := hide h; have Ib := hide h'; have Ig := hide h''; clear h h' h''
  have ta := hide (take_of_sh (areSh_left hs.out).1); have tb := hide (take_of_sh (areSh_left hs.out).2.1)
  have hLb : decide ((60 : Int) < (n'' : Int)) = true := by simp; omega
  have hd := hide (show domB xs ys = true from by rw [← unevS_fal hx.out hy.out]; exact his.out)
  go_enter Try.func4, Try.ntmps4
  go_wp2_with fail
  refine (list_ints _ _ _ _ _ _ (unhide Ia)).mono ?_
  rintro e w1 ⟨A1, n1, c1, rfl, i1, b1⟩
  replace HB := hide ((unhide HB).trans (b1.mono (unhide HB).size))
  replace Ia := hide (((unhide Ia).below b1).more b1.size)
  replace Ib := hide (((unhide Ib).below b1).more b1.size)
  replace Ig := hide (((unhide Ig).below b1).more b1.size)
  clear b1
  rw [ta.out] at i1
  have I1 := hide i1
  clear i1
  go_wp2_with fail
  refine (list_ints _ _ _ _ _ _ (unhide Ib)).mono ?_
  rintro e w2 ⟨A2, n2, c2, rfl, i2, b2⟩
  replace HB := hide ((unhide HB).trans (b2.mono (unhide HB).size))
  replace Ia := hide (((unhide Ia).below b2).more b2.size)
  replace Ib := hide (((unhide Ib).below b2).more b2.size)
  replace Ig := hide (((unhide Ig).below b2).more b2.size)
  replace I1 := hide (((unhide I1).below b2).more b2.size)
  clear b2
  rw [tb.out] at i2
  have I2 := hide i2
  clear i2
  go_wp2_with fail
  refine (Gives_ok _ _ _ _ _ _ _ _ _ (unhide I1) (unhide I2) hs hx hy hd).mono ?_
  rintro e w3 ⟨A3, n3, c3, gz, rfl, i3, hr, hl, b3⟩
  replace HB := hide ((unhide HB).trans (b3.mono (unhide HB).size))
  replace Ia := hide (((unhide Ia).below b3).more b3.size)
  replace Ib := hide (((unhide Ib).below b3).more b3.size)
  replace Ig := hide (((unhide Ig).below b3).more b3.size)
  replace I1 := hide (((unhide I1).below b3).more b3.size)
  replace I2 := hide (((unhide I2).below b3).more b3.size)
  clear b3
  have hz60 : n3 ≤ 60 := by have e1 := i3.len; have e2 := hl.out; omega
  have Iz := hide i3
  clear i3
  clear I1
  clear I2
  go_wp2_with fail
  refine (list_ints _ _ _ _ _ _ (unhide Ia)).mono ?_
  rintro e w4 ⟨A4, n4, c4, rfl, i4, b4⟩
  replace HB := hide ((unhide HB).trans (b4.mono (unhide HB).size))
  replace Ia := hide (((unhide Ia).below b4).more b4.size)
  replace Ib := hide (((unhide Ib).below b4).more b4.size)
  replace Ig := hide (((unhide Ig).below b4).more b4.size)
  replace Iz := hide (((unhide Iz).below b4).more b4.size)
  clear b4
  rw [ta.out] at i4
  have I1 := hide i4
  clear i4
  go_wp2_with fail
  refine (list_ints _ _ _ _ _ _ (unhide Ib)).mono ?_
  rintro e w5 ⟨A5, n5, c5, rfl, i5, b5⟩
  replace HB := hide ((unhide HB).trans (b5.mono (unhide HB).size))
  replace Ia := hide (((unhide Ia).below b5).more b5.size)
  replace Ib := hide (((unhide Ib).below b5).more b5.size)
  replace Ig := hide (((unhide Ig).below b5).more b5.size)
  replace Iz := hide (((unhide Iz).below b5).more b5.size)
  replace I1 := hide (((unhide I1).below b5).more b5.size)
  clear b5
  rw [tb.out] at i5
  have I2 := hide i5
  clear i5
  go_wp2_with fail
  refine (Of_any _ _ _ _ _ (unhide Ig)).mono ?_
  rintro e w6 ⟨A6, n6, c6, rfl, i6, b6⟩
  replace HB := hide ((unhide HB).trans (b6.mono (unhide HB).size))
  replace Ia := hide (((unhide Ia).below b6).more b6.size)
  replace Ib := hide (((unhide Ib).below b6).more b6.size)
  replace Ig := hide (((unhide Ig).below b6).more b6.size)
  replace Iz := hide (((unhide Iz).below b6).more b6.size)
  replace I1 := hide (((unhide I1).below b6).more b6.size)
  replace I2 := hide (((unhide I2).below b6).more b6.size)
  clear b6
  have Og := hide i6
  clear i6
  go_wp2_with fail
  refine (CheckGives_ok _ _ _ _ _ _ _ _ _ _ _ _ _ (unhide I1) (unhide I2) (unhide Og) hs true hok).mono ?_
  rintro e w7 ⟨rfl, b7⟩
  replace HB := hide ((unhide HB).trans (b7.mono (unhide HB).size))
  replace Ia := hide (((unhide Ia).below b7).more b7.size)
  replace Ib := hide (((unhide Ib).below b7).more b7.size)
  replace Ig := hide (((unhide Ig).below b7).more b7.size)
  replace Iz := hide (((unhide Iz).below b7).more b7.size)
  replace I1 := hide (((unhide I1).below b7).more b7.size)
  replace I2 := hide (((unhide I2).below b7).more b7.size)
  replace Og := hide (((unhide Og).below b7).more b7.size)
  clear b7
  clear I1
  clear I2
  clear Og
  go_wp2_with fail
  refine (Two_is _ _ _ _ _ _ _ _ _ _ _ (unhide Ia) (unhide Ib) true hs).mono ?_
  rintro e w8 ⟨rfl, rfl⟩
  go_wp2_with fail
  refine (Falling_b _ _ _ _ _ _ (unhide Ia) true hx).mono ?_
  rintro e w9 ⟨rfl, b9⟩
  replace HB := hide ((unhide HB).trans (b9.mono (unhide HB).size))
  replace Ia := hide (((unhide Ia).below b9).more b9.size)
  replace Ib := hide (((unhide Ib).below b9).more b9.size)
  replace Ig := hide (((unhide Ig).below b9).more b9.size)
  replace Iz := hide (((unhide Iz).below b9).more b9.size)
  clear b9
  go_wp2_with fail
  refine (Falling_b _ _ _ _ _ _ (unhide Ib) true hy).mono ?_
  rintro e w10 ⟨rfl, b10⟩
  replace HB := hide ((unhide HB).trans (b10.mono (unhide HB).size))
  replace Ia := hide (((unhide Ia).below b10).more b10.size)
  replace Ib := hide (((unhide Ib).below b10).more b10.size)
  replace Ig := hide (((unhide Ig).below b10).more b10.size)
  replace Iz := hide (((unhide Iz).below b10).more b10.size)
  clear b10
  go_wp2_with fail
  refine (RUneven_is _ _ _ _ _ _ _ _ _ (unhide Ia) (unhide Ib) hs true his).mono ?_
  rintro e w11 ⟨rfl, b11⟩
  replace HB := hide ((unhide HB).trans (b11.mono (unhide HB).size))
  replace Ia := hide (((unhide Ia).below b11).more b11.size)
  replace Ib := hide (((unhide Ib).below b11).more b11.size)
  replace Ig := hide (((unhide Ig).below b11).more b11.size)
  replace Iz := hide (((unhide Iz).below b11).more b11.size)
  clear b11
  go_wp2_with fail
  refine (own_any _ _ _ _ _ (unhide Iz) hz60).mono ?_
  rintro e w12 ⟨A12, n12, c12, rfl, i12, b12⟩
  replace HB := hide ((unhide HB).trans (b12.mono (unhide HB).size))
  replace Ia := hide (((unhide Ia).below b12).more b12.size)
  replace Ib := hide (((unhide Ib).below b12).more b12.size)
  replace Ig := hide (((unhide Ig).below b12).more b12.size)
  replace Iz := hide (((unhide Iz).below b12).more b12.size)
  clear b12
  have Iw := hide i12
  clear i12
  go_wp2_with fail
  refine (Turns_is _ _ _ _ _ _ _ _ _ _ _ _ _ (unhide Ia) (unhide Ib) (unhide Iw) hs true (hide (decide_eq_true hr.out))).mono ?_
  rintro e w13 ⟨rfl, b13⟩
  replace HB := hide ((unhide HB).trans (b13.mono (unhide HB).size))
  replace Ia := hide (((unhide Ia).below b13).more b13.size)
  replace Ib := hide (((unhide Ib).below b13).more b13.size)
  replace Ig := hide (((unhide Ig).below b13).more b13.size)
  replace Iz := hide (((unhide Iz).below b13).more b13.size)
  replace Iw := hide (((unhide Iw).below b13).more b13.size)
  clear b13
  clear Iw
  clear Iz
  go_wp2_with fail
  refine (awake_any _).mono ?_
  rintro e w14 ⟨rfl, b14⟩
  replace HB := hide ((unhide HB).trans (b14.mono (unhide HB).size))
  replace Ia := hide (((unhide Ia).below b14).more b14.size)
  replace Ib := hide (((unhide Ib).below b14).more b14.size)
  replace Ig := hide (((unhide Ig).below b14).more b14.size)
  clear b14
  go_wp2_with fail
  go_ret
  exact ⟨rfl, unhide HB⟩

set_option maxHeartbeats 2000000 in
theorem Gives_tt_tS (A A' A'' : Option Addr) (n c n' c' n'' c'' : Nat) (xs ys : List Int) (gs : List G) (w : World) (h : Ints w w.heap.size A n c xs) (h' : Ints w w.heap.size A' n' c' ys) (h'' : Gs w w.heap.size A'' n'' c'' gs) (hs : Hid (areSh xs ys = true)) (hok : Hid (decide (runG xs (gs.take 60) = some ys) = true)) (hx : Hid (isFal xs = true)) (hy : Hid (isFal ys = true)) (his : Hid (unevS xs ys = true)) (hL : n'' ≤ 60) :
    Calls Try.prog 4 #[.slice A n c, .slice A' n' c', .slice A'' n'' c''] w fun e w' => e = .returned (.bool true) ∧ Below w.heap.size w w' := by
  have HB := hide (Below.refl w.heap.size w)
  have Ia := hide h; have Ib := hide h'; have Ig := hide h''; clear h h' h''
  have ta := hide (take_of_sh (areSh_left hs.out).1); have tb := hide (take_of_sh (areSh_left hs.out).2.1)
  have hLb : decide ((60 : Int) < (n'' : Int)) = false := by simp; omega
  have hok2 := hide (show decide (runG xs gs = some ys) = true from by have e := (unhide Ig).len; have h0 := hok.out; rw [List.take_of_length_le (by omega)] at h0; exact h0)
  have hd := hide (show domB xs ys = true from by rw [← unevS_fal hx.out hy.out]; exact his.out)
  go_enter Try.func4, Try.ntmps4
  go_wp2_with fail
  refine (list_ints _ _ _ _ _ _ (unhide Ia)).mono ?_
  rintro e w1 ⟨A1, n1, c1, rfl, i1, b1⟩
  replace HB := hide ((unhide HB).trans (b1.mono (unhide HB).size))
  replace Ia := hide (((unhide Ia).below b1).more b1.size)
  replace Ib := hide (((unhide Ib).below b1).more b1.size)
  replace Ig := hide (((unhide Ig).below b1).more b1.size)
  clear b1
  rw [ta.out] at i1
  have I1 := hide i1
  clear i1
  go_wp2_with fail
  refine (list_ints _ _ _ _ _ _ (unhide Ib)).mono ?_
  rintro e w2 ⟨A2, n2, c2, rfl, i2, b2⟩
  replace HB := hide ((unhide HB).trans (b2.mono (unhide HB).size))
  replace Ia := hide (((unhide Ia).below b2).more b2.size)
  replace Ib := hide (((unhide Ib).below b2).more b2.size)
  replace Ig := hide (((unhide Ig).below b2).more b2.size)
  replace I1 := hide (((unhide I1).below b2).more b2.size)
  clear b2
  rw [tb.out] at i2
  have I2 := hide i2
  clear i2
  go_wp2_with fail
  refine (Gives_ok _ _ _ _ _ _ _ _ _ (unhide I1) (unhide I2) hs hx hy hd).mono ?_
  rintro e w3 ⟨A3, n3, c3, gz, rfl, i3, hr, hl, b3⟩
  replace HB := hide ((unhide HB).trans (b3.mono (unhide HB).size))
  replace Ia := hide (((unhide Ia).below b3).more b3.size)
  replace Ib := hide (((unhide Ib).below b3).more b3.size)
  replace Ig := hide (((unhide Ig).below b3).more b3.size)
  replace I1 := hide (((unhide I1).below b3).more b3.size)
  replace I2 := hide (((unhide I2).below b3).more b3.size)
  clear b3
  have hz60 : n3 ≤ 60 := by have e1 := i3.len; have e2 := hl.out; omega
  have Iz := hide i3
  clear i3
  clear I1
  clear I2
  go_wp2_with fail
  refine (list_ints _ _ _ _ _ _ (unhide Ia)).mono ?_
  rintro e w4 ⟨A4, n4, c4, rfl, i4, b4⟩
  replace HB := hide ((unhide HB).trans (b4.mono (unhide HB).size))
  replace Ia := hide (((unhide Ia).below b4).more b4.size)
  replace Ib := hide (((unhide Ib).below b4).more b4.size)
  replace Ig := hide (((unhide Ig).below b4).more b4.size)
  replace Iz := hide (((unhide Iz).below b4).more b4.size)
  clear b4
  rw [ta.out] at i4
  have I1 := hide i4
  clear i4
  go_wp2_with fail
  refine (list_ints _ _ _ _ _ _ (unhide Ib)).mono ?_
  rintro e w5 ⟨A5, n5, c5, rfl, i5, b5⟩
  replace HB := hide ((unhide HB).trans (b5.mono (unhide HB).size))
  replace Ia := hide (((unhide Ia).below b5).more b5.size)
  replace Ib := hide (((unhide Ib).below b5).more b5.size)
  replace Ig := hide (((unhide Ig).below b5).more b5.size)
  replace Iz := hide (((unhide Iz).below b5).more b5.size)
  replace I1 := hide (((unhide I1).below b5).more b5.size)
  clear b5
  rw [tb.out] at i5
  have I2 := hide i5
  clear i5
  go_wp2_with fail
  refine (Of_any _ _ _ _ _ (unhide Ig)).mono ?_
  rintro e w6 ⟨A6, n6, c6, rfl, i6, b6⟩
  replace HB := hide ((unhide HB).trans (b6.mono (unhide HB).size))
  replace Ia := hide (((unhide Ia).below b6).more b6.size)
  replace Ib := hide (((unhide Ib).below b6).more b6.size)
  replace Ig := hide (((unhide Ig).below b6).more b6.size)
  replace Iz := hide (((unhide Iz).below b6).more b6.size)
  replace I1 := hide (((unhide I1).below b6).more b6.size)
  replace I2 := hide (((unhide I2).below b6).more b6.size)
  clear b6
  have Og := hide i6
  clear i6
  go_wp2_with fail
  refine (CheckGives_ok _ _ _ _ _ _ _ _ _ _ _ _ _ (unhide I1) (unhide I2) (unhide Og) hs true hok).mono ?_
  rintro e w7 ⟨rfl, b7⟩
  replace HB := hide ((unhide HB).trans (b7.mono (unhide HB).size))
  replace Ia := hide (((unhide Ia).below b7).more b7.size)
  replace Ib := hide (((unhide Ib).below b7).more b7.size)
  replace Ig := hide (((unhide Ig).below b7).more b7.size)
  replace Iz := hide (((unhide Iz).below b7).more b7.size)
  replace I1 := hide (((unhide I1).below b7).more b7.size)
  replace I2 := hide (((unhide I2).below b7).more b7.size)
  replace Og := hide (((unhide Og).below b7).more b7.size)
  clear b7
  clear I1
  clear I2
  clear Og
  go_wp2_with fail
  refine (Two_is _ _ _ _ _ _ _ _ _ _ _ (unhide Ia) (unhide Ib) true hs).mono ?_
  rintro e w8 ⟨rfl, rfl⟩
  go_wp2_with fail
  refine (Falling_b _ _ _ _ _ _ (unhide Ia) true hx).mono ?_
  rintro e w9 ⟨rfl, b9⟩
  replace HB := hide ((unhide HB).trans (b9.mono (unhide HB).size))
  replace Ia := hide (((unhide Ia).below b9).more b9.size)
  replace Ib := hide (((unhide Ib).below b9).more b9.size)
  replace Ig := hide (((unhide Ig).below b9).more b9.size)
  replace Iz := hide (((unhide Iz).below b9).more b9.size)
  clear b9
  go_wp2_with fail
  refine (Falling_b _ _ _ _ _ _ (unhide Ib) true hy).mono ?_
  rintro e w10 ⟨rfl, b10⟩
  replace HB := hide ((unhide HB).trans (b10.mono (unhide HB).size))
  replace Ia := hide (((unhide Ia).below b10).more b10.size)
  replace Ib := hide (((unhide Ib).below b10).more b10.size)
  replace Ig := hide (((unhide Ig).below b10).more b10.size)
  replace Iz := hide (((unhide Iz).below b10).more b10.size)
  clear b10
  go_wp2_with fail
  refine (RUneven_is _ _ _ _ _ _ _ _ _ (unhide Ia) (unhide Ib) hs true his).mono ?_
  rintro e w11 ⟨rfl, b11⟩
  replace HB := hide ((unhide HB).trans (b11.mono (unhide HB).size))
  replace Ia := hide (((unhide Ia).below b11).more b11.size)
  replace Ib := hide (((unhide Ib).below b11).more b11.size)
  replace Ig := hide (((unhide Ig).below b11).more b11.size)
  replace Iz := hide (((unhide Iz).below b11).more b11.size)
  clear b11
  go_wp2_with fail
  refine (own_any _ _ _ _ _ (unhide Iz) hz60).mono ?_
  rintro e w12 ⟨A12, n12, c12, rfl, i12, b12⟩
  replace HB := hide ((unhide HB).trans (b12.mono (unhide HB).size))
  replace Ia := hide (((unhide Ia).below b12).more b12.size)
  replace Ib := hide (((unhide Ib).below b12).more b12.size)
  replace Ig := hide (((unhide Ig).below b12).more b12.size)
  replace Iz := hide (((unhide Iz).below b12).more b12.size)
  clear b12
  have Iw := hide i12
  clear i12
  go_wp2_with fail
  refine (Turns_is _ _ _ _ _ _ _ _ _ _ _ _ _ (unhide Ia) (unhide Ib) (unhide Iw) hs true (hide (decide_eq_true hr.out))).mono ?_
  rintro e w13 ⟨rfl, b13⟩
  replace HB := hide ((unhide HB).trans (b13.mono (unhide HB).size))
  replace Ia := hide (((unhide Ia).below b13).more b13.size)
  replace Ib := hide (((unhide Ib).below b13).more b13.size)
  replace Ig := hide (((unhide Ig).below b13).more b13.size)
  replace Iz := hide (((unhide Iz).below b13).more b13.size)
  replace Iw := hide (((unhide Iw).below b13).more b13.size)
  clear b13
  clear Iw
  clear Iz
  go_wp2_with fail
  refine (Turns_is _ _ _ _ _ _ _ _ _ _ _ _ _ (unhide Ia) (unhide Ib) (unhide Ig) hs true hok2).mono ?_
  rintro e w14 ⟨rfl, b14⟩
  replace HB := hide ((unhide HB).trans (b14.mono (unhide HB).size))
  replace Ia := hide (((unhide Ia).below b14).more b14.size)
  replace Ib := hide (((unhide Ib).below b14).more b14.size)
  replace Ig := hide (((unhide Ig).below b14).more b14.size)
  clear b14
  go_wp2_with fail
  refine (awake_any _).mono ?_
  rintro e w15 ⟨rfl, b15⟩
  replace HB := hide ((unhide HB).trans (b15.mono (unhide HB).size))
  replace Ia := hide (((unhide Ia).below b15).more b15.size)
  replace Ib := hide (((unhide Ib).below b15).more b15.size)
  replace Ig := hide (((unhide Ig).below b15).more b15.size)
  clear b15
  go_wp2_with fail
  go_ret
  exact ⟨rfl, unhide HB⟩

set_option maxHeartbeats 2000000 in
theorem Gives_tt_fL (A A' A'' : Option Addr) (n c n' c' n'' c'' : Nat) (xs ys : List Int) (gs : List G) (w : World) (h : Ints w w.heap.size A n c xs) (h' : Ints w w.heap.size A' n' c' ys) (h'' : Gs w w.heap.size A'' n'' c'' gs) (hs : Hid (areSh xs ys = true)) (hok : Hid (decide (runG xs (gs.take 60) = some ys) = false)) (hx : Hid (isFal xs = true)) (hy : Hid (isFal ys = true)) (his : Hid (unevS xs ys = true)) (hL : 60 < n'') :
    Calls Try.prog 4 #[.slice A n c, .slice A' n' c', .slice A'' n'' c''] w fun e w' => e = .returned (.bool true) ∧ Below w.heap.size w w' := by
  have HB := hide (Below.refl w.heap.size w)
  have Ia := hide h; have Ib := hide h'; have Ig := hide h''; clear h h' h''
  have ta := hide (take_of_sh (areSh_left hs.out).1); have tb := hide (take_of_sh (areSh_left hs.out).2.1)
  have hLb : decide ((60 : Int) < (n'' : Int)) = true := by simp; omega
  have hd := hide (show domB xs ys = true from by rw [← unevS_fal hx.out hy.out]; exact his.out)
  go_enter Try.func4, Try.ntmps4
  go_wp2_with fail
  refine (list_ints _ _ _ _ _ _ (unhide Ia)).mono ?_
  rintro e w1 ⟨A1, n1, c1, rfl, i1, b1⟩
  replace HB := hide ((unhide HB).trans (b1.mono (unhide HB).size))
  replace Ia := hide (((unhide Ia).below b1).more b1.size)
  replace Ib := hide (((unhide Ib).below b1).more b1.size)
  replace Ig := hide (((unhide Ig).below b1).more b1.size)
  clear b1
  rw [ta.out] at i1
  have I1 := hide i1
  clear i1
  go_wp2_with fail
  refine (list_ints _ _ _ _ _ _ (unhide Ib)).mono ?_
  rintro e w2 ⟨A2, n2, c2, rfl, i2, b2⟩
  replace HB := hide ((unhide HB).trans (b2.mono (unhide HB).size))
  replace Ia := hide (((unhide Ia).below b2).more b2.size)
  replace Ib := hide (((unhide Ib).below b2).more b2.size)
  replace Ig := hide (((unhide Ig).below b2).more b2.size)
  replace I1 := hide (((unhide I1).below b2).more b2.size)
  clear b2
  rw [tb.out] at i2
  have I2 := hide i2
  clear i2
  go_wp2_with fail
  refine (Gives_ok _ _ _ _ _ _ _ _ _ (unhide I1) (unhide I2) hs hx hy hd).mono ?_
  rintro e w3 ⟨A3, n3, c3, gz, rfl, i3, hr, hl, b3⟩
  replace HB := hide ((unhide HB).trans (b3.mono (unhide HB).size))
  replace Ia := hide (((unhide Ia).below b3).more b3.size)
  replace Ib := hide (((unhide Ib).below b3).more b3.size)
  replace Ig := hide (((unhide Ig).below b3).more b3.size)
  replace I1 := hide (((unhide I1).below b3).more b3.size)
  replace I2 := hide (((unhide I2).below b3).more b3.size)
  clear b3
  have hz60 : n3 ≤ 60 := by have e1 := i3.len; have e2 := hl.out; omega
  have Iz := hide i3
  clear i3
  clear I1
  clear I2
  go_wp2_with fail
  refine (list_ints _ _ _ _ _ _ (unhide Ia)).mono ?_
  rintro e w4 ⟨A4, n4, c4, rfl, i4, b4⟩
  replace HB := hide ((unhide HB).trans (b4.mono (unhide HB).size))
  replace Ia := hide (((unhide Ia).below b4).more b4.size)
  replace Ib := hide (((unhide Ib).below b4).more b4.size)
  replace Ig := hide (((unhide Ig).below b4).more b4.size)
  replace Iz := hide (((unhide Iz).below b4).more b4.size)
  clear b4
  rw [ta.out] at i4
  have I1 := hide i4
  clear i4
  go_wp2_with fail
  refine (list_ints _ _ _ _ _ _ (unhide Ib)).mono ?_
  rintro e w5 ⟨A5, n5, c5, rfl, i5, b5⟩
  replace HB := hide ((unhide HB).trans (b5.mono (unhide HB).size))
  replace Ia := hide (((unhide Ia).below b5).more b5.size)
  replace Ib := hide (((unhide Ib).below b5).more b5.size)
  replace Ig := hide (((unhide Ig).below b5).more b5.size)
  replace Iz := hide (((unhide Iz).below b5).more b5.size)
  replace I1 := hide (((unhide I1).below b5).more b5.size)
  clear b5
  rw [tb.out] at i5
  have I2 := hide i5
  clear i5
  go_wp2_with fail
  refine (Of_any _ _ _ _ _ (unhide Ig)).mono ?_
  rintro e w6 ⟨A6, n6, c6, rfl, i6, b6⟩
  replace HB := hide ((unhide HB).trans (b6.mono (unhide HB).size))
  replace Ia := hide (((unhide Ia).below b6).more b6.size)
  replace Ib := hide (((unhide Ib).below b6).more b6.size)
  replace Ig := hide (((unhide Ig).below b6).more b6.size)
  replace Iz := hide (((unhide Iz).below b6).more b6.size)
  replace I1 := hide (((unhide I1).below b6).more b6.size)
  replace I2 := hide (((unhide I2).below b6).more b6.size)
  clear b6
  have Og := hide i6
  clear i6
  go_wp2_with fail
  refine (CheckGives_ok _ _ _ _ _ _ _ _ _ _ _ _ _ (unhide I1) (unhide I2) (unhide Og) hs false hok).mono ?_
  rintro e w7 ⟨rfl, b7⟩
  replace HB := hide ((unhide HB).trans (b7.mono (unhide HB).size))
  replace Ia := hide (((unhide Ia).below b7).more b7.size)
  replace Ib := hide (((unhide Ib).below b7).more b7.size)
  replace Ig := hide (((unhide Ig).below b7).more b7.size)
  replace Iz := hide (((unhide Iz).below b7).more b7.size)
  replace I1 := hide (((unhide I1).below b7).more b7.size)
  replace I2 := hide (((unhide I2).below b7).more b7.size)
  replace Og := hide (((unhide Og).below b7).more b7.size)
  clear b7
  clear I1
  clear I2
  clear Og
  go_wp2_with fail
  refine (Two_is _ _ _ _ _ _ _ _ _ _ _ (unhide Ia) (unhide Ib) true hs).mono ?_
  rintro e w8 ⟨rfl, rfl⟩
  go_wp2_with fail
  refine (Falling_b _ _ _ _ _ _ (unhide Ia) true hx).mono ?_
  rintro e w9 ⟨rfl, b9⟩
  replace HB := hide ((unhide HB).trans (b9.mono (unhide HB).size))
  replace Ia := hide (((unhide Ia).below b9).more b9.size)
  replace Ib := hide (((unhide Ib).below b9).more b9.size)
  replace Ig := hide (((unhide Ig).below b9).more b9.size)
  replace Iz := hide (((unhide Iz).below b9).more b9.size)
  clear b9
  go_wp2_with fail
  refine (Falling_b _ _ _ _ _ _ (unhide Ib) true hy).mono ?_
  rintro e w10 ⟨rfl, b10⟩
  replace HB := hide ((unhide HB).trans (b10.mono (unhide HB).size))
  replace Ia := hide (((unhide Ia).below b10).more b10.size)
  replace Ib := hide (((unhide Ib).below b10).more b10.size)
  replace Ig := hide (((unhide Ig).below b10).more b10.size)
  replace Iz := hide (((unhide Iz).below b10).more b10.size)
  clear b10
  go_wp2_with fail
  refine (RUneven_is _ _ _ _ _ _ _ _ _ (unhide Ia) (unhide Ib) hs true his).mono ?_
  rintro e w11 ⟨rfl, b11⟩
  replace HB := hide ((unhide HB).trans (b11.mono (unhide HB).size))
  replace Ia := hide (((unhide Ia).below b11).more b11.size)
  replace Ib := hide (((unhide Ib).below b11).more b11.size)
  replace Ig := hide (((unhide Ig).below b11).more b11.size)
  replace Iz := hide (((unhide Iz).below b11).more b11.size)
  clear b11
  go_wp2_with fail
  refine (own_any _ _ _ _ _ (unhide Iz) hz60).mono ?_
  rintro e w12 ⟨A12, n12, c12, rfl, i12, b12⟩
  replace HB := hide ((unhide HB).trans (b12.mono (unhide HB).size))
  replace Ia := hide (((unhide Ia).below b12).more b12.size)
  replace Ib := hide (((unhide Ib).below b12).more b12.size)
  replace Ig := hide (((unhide Ig).below b12).more b12.size)
  replace Iz := hide (((unhide Iz).below b12).more b12.size)
  clear b12
  have Iw := hide i12
  clear i12
  go_wp2_with fail
  refine (Turns_is _ _ _ _ _ _ _ _ _ _ _ _ _ (unhide Ia) (unhide Ib) (unhide Iw) hs true (hide (decide_eq_true hr.out))).mono ?_
  rintro e w13 ⟨rfl, b13⟩
  replace HB := hide ((unhide HB).trans (b13.mono (unhide HB).size))
  replace Ia := hide (((unhide Ia).below b13).more b13.size)
  replace Ib := hide (((unhide Ib).below b13).more b13.size)
  replace Ig := hide (((unhide Ig).below b13).more b13.size)
  replace Iz := hide (((unhide Iz).below b13).more b13.size)
  replace Iw := hide (((unhide Iw).below b13).more b13.size)
  clear b13
  clear Iw
  clear Iz
  go_wp2_with fail
  refine (awake_any _).mono ?_
  rintro e w14 ⟨rfl, b14⟩
  replace HB := hide ((unhide HB).trans (b14.mono (unhide HB).size))
  replace Ia := hide (((unhide Ia).below b14).more b14.size)
  replace Ib := hide (((unhide Ib).below b14).more b14.size)
  replace Ig := hide (((unhide Ig).below b14).more b14.size)
  clear b14
  go_wp2_with fail
  go_ret
  exact ⟨rfl, unhide HB⟩

set_option maxHeartbeats 2000000 in
theorem Gives_tt_fS (A A' A'' : Option Addr) (n c n' c' n'' c'' : Nat) (xs ys : List Int) (gs : List G) (w : World) (h : Ints w w.heap.size A n c xs) (h' : Ints w w.heap.size A' n' c' ys) (h'' : Gs w w.heap.size A'' n'' c'' gs) (hs : Hid (areSh xs ys = true)) (hok : Hid (decide (runG xs (gs.take 60) = some ys) = false)) (hx : Hid (isFal xs = true)) (hy : Hid (isFal ys = true)) (his : Hid (unevS xs ys = true)) (hL : n'' ≤ 60) :
    Calls Try.prog 4 #[.slice A n c, .slice A' n' c', .slice A'' n'' c''] w fun e w' => e = .returned (.bool true) ∧ Below w.heap.size w w' := by
  have HB := hide (Below.refl w.heap.size w)
  have Ia := hide h; have Ib := hide h'; have Ig := hide h''; clear h h' h''
  have ta := hide (take_of_sh (areSh_left hs.out).1); have tb := hide (take_of_sh (areSh_left hs.out).2.1)
  have hLb : decide ((60 : Int) < (n'' : Int)) = false := by simp; omega
  have hok2 := hide (show decide (runG xs gs = some ys) = false from by have e := (unhide Ig).len; have h0 := hok.out; rw [List.take_of_length_le (by omega)] at h0; exact h0)
  have hd := hide (show domB xs ys = true from by rw [← unevS_fal hx.out hy.out]; exact his.out)
  go_enter Try.func4, Try.ntmps4
  go_wp2_with fail
  refine (list_ints _ _ _ _ _ _ (unhide Ia)).mono ?_
  rintro e w1 ⟨A1, n1, c1, rfl, i1, b1⟩
  replace HB := hide ((unhide HB).trans (b1.mono (unhide HB).size))
  replace Ia := hide (((unhide Ia).below b1).more b1.size)
  replace Ib := hide (((unhide Ib).below b1).more b1.size)
  replace Ig := hide (((unhide Ig).below b1).more b1.size)
  clear b1
  rw [ta.out] at i1
  have I1 := hide i1
  clear i1
  go_wp2_with fail
  refine (list_ints _ _ _ _ _ _ (unhide Ib)).mono ?_
  rintro e w2 ⟨A2, n2, c2, rfl, i2, b2⟩
  replace HB := hide ((unhide HB).trans (b2.mono (unhide HB).size))
  replace Ia := hide (((unhide Ia).below b2).more b2.size)
  replace Ib := hide (((unhide Ib).below b2).more b2.size)
  replace Ig := hide (((unhide Ig).below b2).more b2.size)
  replace I1 := hide (((unhide I1).below b2).more b2.size)
  clear b2
  rw [tb.out] at i2
  have I2 := hide i2
  clear i2
  go_wp2_with fail
  refine (Gives_ok _ _ _ _ _ _ _ _ _ (unhide I1) (unhide I2) hs hx hy hd).mono ?_
  rintro e w3 ⟨A3, n3, c3, gz, rfl, i3, hr, hl, b3⟩
  replace HB := hide ((unhide HB).trans (b3.mono (unhide HB).size))
  replace Ia := hide (((unhide Ia).below b3).more b3.size)
  replace Ib := hide (((unhide Ib).below b3).more b3.size)
  replace Ig := hide (((unhide Ig).below b3).more b3.size)
  replace I1 := hide (((unhide I1).below b3).more b3.size)
  replace I2 := hide (((unhide I2).below b3).more b3.size)
  clear b3
  have hz60 : n3 ≤ 60 := by have e1 := i3.len; have e2 := hl.out; omega
  have Iz := hide i3
  clear i3
  clear I1
  clear I2
  go_wp2_with fail
  refine (list_ints _ _ _ _ _ _ (unhide Ia)).mono ?_
  rintro e w4 ⟨A4, n4, c4, rfl, i4, b4⟩
  replace HB := hide ((unhide HB).trans (b4.mono (unhide HB).size))
  replace Ia := hide (((unhide Ia).below b4).more b4.size)
  replace Ib := hide (((unhide Ib).below b4).more b4.size)
  replace Ig := hide (((unhide Ig).below b4).more b4.size)
  replace Iz := hide (((unhide Iz).below b4).more b4.size)
  clear b4
  rw [ta.out] at i4
  have I1 := hide i4
  clear i4
  go_wp2_with fail
  refine (list_ints _ _ _ _ _ _ (unhide Ib)).mono ?_
  rintro e w5 ⟨A5, n5, c5, rfl, i5, b5⟩
  replace HB := hide ((unhide HB).trans (b5.mono (unhide HB).size))
  replace Ia := hide (((unhide Ia).below b5).more b5.size)
  replace Ib := hide (((unhide Ib).below b5).more b5.size)
  replace Ig := hide (((unhide Ig).below b5).more b5.size)
  replace Iz := hide (((unhide Iz).below b5).more b5.size)
  replace I1 := hide (((unhide I1).below b5).more b5.size)
  clear b5
  rw [tb.out] at i5
  have I2 := hide i5
  clear i5
  go_wp2_with fail
  refine (Of_any _ _ _ _ _ (unhide Ig)).mono ?_
  rintro e w6 ⟨A6, n6, c6, rfl, i6, b6⟩
  replace HB := hide ((unhide HB).trans (b6.mono (unhide HB).size))
  replace Ia := hide (((unhide Ia).below b6).more b6.size)
  replace Ib := hide (((unhide Ib).below b6).more b6.size)
  replace Ig := hide (((unhide Ig).below b6).more b6.size)
  replace Iz := hide (((unhide Iz).below b6).more b6.size)
  replace I1 := hide (((unhide I1).below b6).more b6.size)
  replace I2 := hide (((unhide I2).below b6).more b6.size)
  clear b6
  have Og := hide i6
  clear i6
  go_wp2_with fail
  refine (CheckGives_ok _ _ _ _ _ _ _ _ _ _ _ _ _ (unhide I1) (unhide I2) (unhide Og) hs false hok).mono ?_
  rintro e w7 ⟨rfl, b7⟩
  replace HB := hide ((unhide HB).trans (b7.mono (unhide HB).size))
  replace Ia := hide (((unhide Ia).below b7).more b7.size)
  replace Ib := hide (((unhide Ib).below b7).more b7.size)
  replace Ig := hide (((unhide Ig).below b7).more b7.size)
  replace Iz := hide (((unhide Iz).below b7).more b7.size)
  replace I1 := hide (((unhide I1).below b7).more b7.size)
  replace I2 := hide (((unhide I2).below b7).more b7.size)
  replace Og := hide (((unhide Og).below b7).more b7.size)
  clear b7
  clear I1
  clear I2
  clear Og
  go_wp2_with fail
  refine (Two_is _ _ _ _ _ _ _ _ _ _ _ (unhide Ia) (unhide Ib) true hs).mono ?_
  rintro e w8 ⟨rfl, rfl⟩
  go_wp2_with fail
  refine (Falling_b _ _ _ _ _ _ (unhide Ia) true hx).mono ?_
  rintro e w9 ⟨rfl, b9⟩
  replace HB := hide ((unhide HB).trans (b9.mono (unhide HB).size))
  replace Ia := hide (((unhide Ia).below b9).more b9.size)
  replace Ib := hide (((unhide Ib).below b9).more b9.size)
  replace Ig := hide (((unhide Ig).below b9).more b9.size)
  replace Iz := hide (((unhide Iz).below b9).more b9.size)
  clear b9
  go_wp2_with fail
  refine (Falling_b _ _ _ _ _ _ (unhide Ib) true hy).mono ?_
  rintro e w10 ⟨rfl, b10⟩
  replace HB := hide ((unhide HB).trans (b10.mono (unhide HB).size))
  replace Ia := hide (((unhide Ia).below b10).more b10.size)
  replace Ib := hide (((unhide Ib).below b10).more b10.size)
  replace Ig := hide (((unhide Ig).below b10).more b10.size)
  replace Iz := hide (((unhide Iz).below b10).more b10.size)
  clear b10
  go_wp2_with fail
  refine (RUneven_is _ _ _ _ _ _ _ _ _ (unhide Ia) (unhide Ib) hs true his).mono ?_
  rintro e w11 ⟨rfl, b11⟩
  replace HB := hide ((unhide HB).trans (b11.mono (unhide HB).size))
  replace Ia := hide (((unhide Ia).below b11).more b11.size)
  replace Ib := hide (((unhide Ib).below b11).more b11.size)
  replace Ig := hide (((unhide Ig).below b11).more b11.size)
  replace Iz := hide (((unhide Iz).below b11).more b11.size)
  clear b11
  go_wp2_with fail
  refine (own_any _ _ _ _ _ (unhide Iz) hz60).mono ?_
  rintro e w12 ⟨A12, n12, c12, rfl, i12, b12⟩
  replace HB := hide ((unhide HB).trans (b12.mono (unhide HB).size))
  replace Ia := hide (((unhide Ia).below b12).more b12.size)
  replace Ib := hide (((unhide Ib).below b12).more b12.size)
  replace Ig := hide (((unhide Ig).below b12).more b12.size)
  replace Iz := hide (((unhide Iz).below b12).more b12.size)
  clear b12
  have Iw := hide i12
  clear i12
  go_wp2_with fail
  refine (Turns_is _ _ _ _ _ _ _ _ _ _ _ _ _ (unhide Ia) (unhide Ib) (unhide Iw) hs true (hide (decide_eq_true hr.out))).mono ?_
  rintro e w13 ⟨rfl, b13⟩
  replace HB := hide ((unhide HB).trans (b13.mono (unhide HB).size))
  replace Ia := hide (((unhide Ia).below b13).more b13.size)
  replace Ib := hide (((unhide Ib).below b13).more b13.size)
  replace Ig := hide (((unhide Ig).below b13).more b13.size)
  replace Iz := hide (((unhide Iz).below b13).more b13.size)
  replace Iw := hide (((unhide Iw).below b13).more b13.size)
  clear b13
  clear Iw
  clear Iz
  go_wp2_with fail
  refine (Turns_is _ _ _ _ _ _ _ _ _ _ _ _ _ (unhide Ia) (unhide Ib) (unhide Ig) hs false hok2).mono ?_
  rintro e w14 ⟨rfl, b14⟩
  replace HB := hide ((unhide HB).trans (b14.mono (unhide HB).size))
  replace Ia := hide (((unhide Ia).below b14).more b14.size)
  replace Ib := hide (((unhide Ib).below b14).more b14.size)
  replace Ig := hide (((unhide Ig).below b14).more b14.size)
  clear b14
  go_wp2_with fail
  refine (awake_any _).mono ?_
  rintro e w15 ⟨rfl, b15⟩
  replace HB := hide ((unhide HB).trans (b15.mono (unhide HB).size))
  replace Ia := hide (((unhide Ia).below b15).more b15.size)
  replace Ib := hide (((unhide Ib).below b15).more b15.size)
  replace Ig := hide (((unhide Ig).below b15).more b15.size)
  clear b15
  go_wp2_with fail
  go_ret
  exact ⟨rfl, unhide HB⟩

theorem Gives_all (A A' A'' : Option Addr) (n c n' c' n'' c'' : Nat) (xs ys : List Int) (gs : List G) (w : World) (h : Ints w w.heap.size A n c xs) (h' : Ints w w.heap.size A' n' c' ys) (h'' : Gs w w.heap.size A'' n'' c'' gs) :
    Calls Try.prog 4 #[.slice A n c, .slice A' n' c', .slice A'' n'' c''] w fun e w' => e = .returned (.bool true) ∧ Below w.heap.size w w' := by
  rcases hs : areSh xs ys
  · exact Gives_A _ _ _ _ _ _ _ _ _ _ _ _ _ h h' h'' (hide hs)
  rcases hx : isFal xs
  · skip
    rcases hok : decide (runG xs (gs.take 60) = some ys)
    · rcases Nat.lt_or_ge 60 n'' with hL | hL
      · exact Gives_ff_fL _ _ _ _ _ _ _ _ _ _ _ _ _ h h' h'' (hide hs) (hide hok) (hide hx) hL
      · exact Gives_ff_fS _ _ _ _ _ _ _ _ _ _ _ _ _ h h' h'' (hide hs) (hide hok) (hide hx) hL
    · rcases Nat.lt_or_ge 60 n'' with hL | hL
      · exact Gives_ff_tL _ _ _ _ _ _ _ _ _ _ _ _ _ h h' h'' (hide hs) (hide hok) (hide hx) hL
      · exact Gives_ff_tS _ _ _ _ _ _ _ _ _ _ _ _ _ h h' h'' (hide hs) (hide hok) (hide hx) hL
  rcases hy : isFal ys
  · skip
    rcases hok : decide (runG xs (gs.take 60) = some ys)
    · rcases Nat.lt_or_ge 60 n'' with hL | hL
      · exact Gives_tf_fL _ _ _ _ _ _ _ _ _ _ _ _ _ h h' h'' (hide hs) (hide hok) (hide hx) (hide hy) hL
      · exact Gives_tf_fS _ _ _ _ _ _ _ _ _ _ _ _ _ h h' h'' (hide hs) (hide hok) (hide hx) (hide hy) hL
    · rcases Nat.lt_or_ge 60 n'' with hL | hL
      · exact Gives_tf_tL _ _ _ _ _ _ _ _ _ _ _ _ _ h h' h'' (hide hs) (hide hok) (hide hx) (hide hy) hL
      · exact Gives_tf_tS _ _ _ _ _ _ _ _ _ _ _ _ _ h h' h'' (hide hs) (hide hok) (hide hx) (hide hy) hL
  rcases his : unevS xs ys
  · skip
    rcases hok : decide (runG xs (gs.take 60) = some ys)
    · rcases Nat.lt_or_ge 60 n'' with hL | hL
      · exact Gives_tn_fL _ _ _ _ _ _ _ _ _ _ _ _ _ h h' h'' (hide hs) (hide hok) (hide hx) (hide hy) (hide his) hL
      · exact Gives_tn_fS _ _ _ _ _ _ _ _ _ _ _ _ _ h h' h'' (hide hs) (hide hok) (hide hx) (hide hy) (hide his) hL
    · rcases Nat.lt_or_ge 60 n'' with hL | hL
      · exact Gives_tn_tL _ _ _ _ _ _ _ _ _ _ _ _ _ h h' h'' (hide hs) (hide hok) (hide hx) (hide hy) (hide his) hL
      · exact Gives_tn_tS _ _ _ _ _ _ _ _ _ _ _ _ _ h h' h'' (hide hs) (hide hok) (hide hx) (hide hy) (hide his) hL
  rcases hok : decide (runG xs (gs.take 60) = some ys)
  · rcases Nat.lt_or_ge 60 n'' with hL | hL
    · exact Gives_tt_fL _ _ _ _ _ _ _ _ _ _ _ _ _ h h' h'' (hide hs) (hide hok) (hide hx) (hide hy) (hide his) hL
    · exact Gives_tt_fS _ _ _ _ _ _ _ _ _ _ _ _ _ h h' h'' (hide hs) (hide hok) (hide hx) (hide hy) (hide his) hL
  · rcases Nat.lt_or_ge 60 n'' with hL | hL
    · exact Gives_tt_tL _ _ _ _ _ _ _ _ _ _ _ _ _ h h' h'' (hide hs) (hide hok) (hide hx) (hide hy) (hide his) hL
    · exact Gives_tt_tS _ _ _ _ _ _ _ _ _ _ _ _ _ h h' h'' (hide hs) (hide hok) (hide hx) (hide hy) (hide his) hL
end Go.Proofs.Ytmpdalcdkibgpaa
