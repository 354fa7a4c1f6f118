import Derived.Test.YtmpdalcdkibgpaaQ3
namespace Go.Proofs.Ytmpdalcdkibgpaa
open Go.RowKit Go.Sort

theorem clone_ints (A : Option Addr) (n c : Nat) (xs : List Int) (w : World) (B : Nat) (h : Ints w B A n c xs) (hn : n ≤ 1000) :
    Calls Try.prog 57 #[.slice A n c] w fun e w' => ∃ A' n' c', e = .returned (.slice A' n' c') ∧ Ints w' w'.heap.size A' n' c' xs ∧ Below w.heap.size w w' :=
  (clone_any A n c xs w B h (by omega)).mono fun _ _ ⟨_, he, ho, hb⟩ => by
    obtain ⟨A', n', c', rfl, hi⟩ := ho.to
    exact ⟨A', n', c', he, hi, hb⟩
theorem Parts_b (A : Option Addr) (n c : Nat) (xs : List Int) (w : World) (B : Nat) (h : Ints w B A n c xs) (hn : n ≤ 17592186044416) (p : Int) (hp : Hid (parts xs = p)) :
    Calls Try.prog 52 #[.slice A n c] w fun e w' => e = .returned (.int .i64 p) ∧ Below w.heap.size w w' :=
  (Parts_is A n c xs w B h hn p hp).mono fun _ _ ⟨he, q, hw⟩ => ⟨he, hw ▸ Below.ofDraws q⟩

set_option maxHeartbeats 1000000 in
theorem Over_A1 (A A' : Option Addr) (n c n' c' : Nat) (xs ys : List Int) (w : World) (h : Ints w w.heap.size A n c xs) (h' : Ints w w.heap.size A' n' c' ys)
    (hn : n ≤ 17592186044416) (hn' : n' ≤ 17592186044416) (pa : Hid (parts xs = 0)) (pb : Hid (parts ys = 0)) :
    Calls Try.prog 15 #[.slice A n c, .slice A' n' c'] w fun e w' => e = .returned (.bool true) ∧ Below w.heap.size w w' := by
  have HB := hide (Below.refl w.heap.size w)
  have Ia := hide h; have Ib := hide h'; clear h h'
  have pa1 := hide (show parts (xs.take 15) = 0 from by rw [parts_take]; exact pa.out)
  have pb1 := hide (show parts (ys.take 15) = 0 from by rw [parts_take]; exact pb.out)
  go_enter Try.func15, Try.ntmps15
  go_wp2_with fail
  refine (list_ints _ _ _ _ _ _ (unhide Ia)).mono ?_
  rintro e w1 ⟨A1, n1, c1, rfl, i1, b1⟩
  replace HB := hide ((unhide HB).trans (b1.mono (unhide HB).size))
  replace Ia := hide (((unhide Ia).below b1).more b1.size)
  replace Ib := hide (((unhide Ib).below b1).more b1.size)
  clear b1
  have I1 := hide i1
  clear i1
  go_wp2_with fail
  refine (Turn_no _ _ _ _ _ _ (unhide I1) pa1).mono ?_
  rintro e w2 ⟨rfl, b2⟩
  replace HB := hide ((unhide HB).trans (b2.mono (unhide HB).size))
  replace Ia := hide (((unhide Ia).below b2).more b2.size)
  replace Ib := hide (((unhide Ib).below b2).more b2.size)
  replace I1 := hide (((unhide I1).below b2).more b2.size)
  clear b2
  clear I1
  go_wp2_with fail
  refine (list_ints _ _ _ _ _ _ (unhide Ib)).mono ?_
  rintro e w3 ⟨A3, n3, c3, rfl, i3, b3⟩
  replace HB := hide ((unhide HB).trans (b3.mono (unhide HB).size))
  replace Ia := hide (((unhide Ia).below b3).more b3.size)
  replace Ib := hide (((unhide Ib).below b3).more b3.size)
  clear b3
  have I2 := hide i3
  clear i3
  go_wp2_with fail
  refine (Turn_no _ _ _ _ _ _ (unhide I2) pb1).mono ?_
  rintro e w4 ⟨rfl, b4⟩
  replace HB := hide ((unhide HB).trans (b4.mono (unhide HB).size))
  replace Ia := hide (((unhide Ia).below b4).more b4.size)
  replace Ib := hide (((unhide Ib).below b4).more b4.size)
  replace I2 := hide (((unhide I2).below b4).more b4.size)
  clear b4
  clear I2
  go_wp2_with fail
  refine (awake_any _).mono ?_
  rintro e w5 ⟨rfl, b5⟩
  replace HB := hide ((unhide HB).trans (b5.mono (unhide HB).size))
  replace Ia := hide (((unhide Ia).below b5).more b5.size)
  replace Ib := hide (((unhide Ib).below b5).more b5.size)
  clear b5
  go_wp2_with fail
  go_ret
  exact ⟨rfl, unhide HB⟩

set_option maxHeartbeats 1000000 in
theorem Over_A2 (A A' : Option Addr) (n c n' c' : Nat) (xs ys : List Int) (w : World) (h : Ints w w.heap.size A n c xs) (h' : Ints w w.heap.size A' n' c' ys)
    (hn : n ≤ 17592186044416) (hn' : n' ≤ 17592186044416) (pa : Hid (parts xs = 0)) (m : Nat) (hb : Hid (IsP ys m)) :
    Calls Try.prog 15 #[.slice A n c, .slice A' n' c'] w fun e w' => e = .returned (.bool true) ∧ Below w.heap.size w w' := by
  have HB := hide (Below.refl w.heap.size w)
  have Ia := hide h; have Ib := hide h'; clear h h'
  have pa1 := hide (show parts (xs.take 15) = 0 from by rw [parts_take]; exact pa.out)
  have tb := hide hb.out.take
  go_enter Try.func15, Try.ntmps15
  go_wp2_with fail
  refine (list_ints _ _ _ _ _ _ (unhide Ia)).mono ?_
  rintro e w1 ⟨A1, n1, c1, rfl, i1, b1⟩
  replace HB := hide ((unhide HB).trans (b1.mono (unhide HB).size))
  replace Ia := hide (((unhide Ia).below b1).more b1.size)
  replace Ib := hide (((unhide Ib).below b1).more b1.size)
  clear b1
  have I1 := hide i1
  clear i1
  go_wp2_with fail
  refine (Turn_no _ _ _ _ _ _ (unhide I1) pa1).mono ?_
  rintro e w2 ⟨rfl, b2⟩
  replace HB := hide ((unhide HB).trans (b2.mono (unhide HB).size))
  replace Ia := hide (((unhide Ia).below b2).more b2.size)
  replace Ib := hide (((unhide Ib).below b2).more b2.size)
  replace I1 := hide (((unhide I1).below b2).more b2.size)
  clear b2
  clear I1
  go_wp2_with fail
  refine (list_ints _ _ _ _ _ _ (unhide Ib)).mono ?_
  rintro e w3 ⟨A3, n3, c3, rfl, i3, b3⟩
  replace HB := hide ((unhide HB).trans (b3.mono (unhide HB).size))
  replace Ia := hide (((unhide Ia).below b3).more b3.size)
  replace Ib := hide (((unhide Ib).below b3).more b3.size)
  clear b3
  rw [tb.out] at i3
  have I2 := hide i3
  clear i3
  go_wp2_with fail
  refine (Turn_ok _ _ _ _ _ (unhide I2) _ hb).mono ?_
  rintro e w4 ⟨A4, n4, c4, rfl, i4, b4⟩
  replace HB := hide ((unhide HB).trans (b4.mono (unhide HB).size))
  replace Ia := hide (((unhide Ia).below b4).more b4.size)
  replace Ib := hide (((unhide Ib).below b4).more b4.size)
  replace I2 := hide (((unhide I2).below b4).more b4.size)
  clear b4
  have Iy := hide i4
  clear i4
  clear I2
  go_wp2_with fail
  refine (awake_any _).mono ?_
  rintro e w5 ⟨rfl, b5⟩
  replace HB := hide ((unhide HB).trans (b5.mono (unhide HB).size))
  replace Ia := hide (((unhide Ia).below b5).more b5.size)
  replace Ib := hide (((unhide Ib).below b5).more b5.size)
  replace Iy := hide (((unhide Iy).below b5).more b5.size)
  clear b5
  go_wp2_with fail
  go_ret
  exact ⟨rfl, unhide HB⟩

set_option maxHeartbeats 1000000 in
theorem Over_A3 (A A' : Option Addr) (n c n' c' : Nat) (xs ys : List Int) (w : World) (h : Ints w w.heap.size A n c xs) (h' : Ints w w.heap.size A' n' c' ys)
    (hn : n ≤ 17592186044416) (hn' : n' ≤ 17592186044416) (m : Nat) (ha : Hid (IsP xs m)) (pb : Hid (parts ys = 0)) :
    Calls Try.prog 15 #[.slice A n c, .slice A' n' c'] w fun e w' => e = .returned (.bool true) ∧ Below w.heap.size w w' := by
  have HB := hide (Below.refl w.heap.size w)
  have Ia := hide h; have Ib := hide h'; clear h h'
  have ta := hide ha.out.take
  have pb1 := hide (show parts (ys.take 15) = 0 from by rw [parts_take]; exact pb.out)
  go_enter Try.func15, Try.ntmps15
  go_wp2_with fail
  refine (list_ints _ _ _ _ _ _ (unhide Ia)).mono ?_
  rintro e w1 ⟨A1, n1, c1, rfl, i1, b1⟩
  replace HB := hide ((unhide HB).trans (b1.mono (unhide HB).size))
  replace Ia := hide (((unhide Ia).below b1).more b1.size)
  replace Ib := hide (((unhide Ib).below b1).more b1.size)
  clear b1
  rw [ta.out] at i1
  have I1 := hide i1
  clear i1
  go_wp2_with fail
  refine (Turn_ok _ _ _ _ _ (unhide I1) _ ha).mono ?_
  rintro e w2 ⟨A2, n2, c2, rfl, i2, b2⟩
  replace HB := hide ((unhide HB).trans (b2.mono (unhide HB).size))
  replace Ia := hide (((unhide Ia).below b2).more b2.size)
  replace Ib := hide (((unhide Ib).below b2).more b2.size)
  replace I1 := hide (((unhide I1).below b2).more b2.size)
  clear b2
  have Ix := hide i2
  clear i2
  clear I1
  go_wp2_with fail
  refine (list_ints _ _ _ _ _ _ (unhide Ib)).mono ?_
  rintro e w3 ⟨A3, n3, c3, rfl, i3, b3⟩
  replace HB := hide ((unhide HB).trans (b3.mono (unhide HB).size))
  replace Ia := hide (((unhide Ia).below b3).more b3.size)
  replace Ib := hide (((unhide Ib).below b3).more b3.size)
  replace Ix := hide (((unhide Ix).below b3).more b3.size)
  clear b3
  have I2 := hide i3
  clear i3
  go_wp2_with fail
  refine (Turn_no _ _ _ _ _ _ (unhide I2) pb1).mono ?_
  rintro e w4 ⟨rfl, b4⟩
  replace HB := hide ((unhide HB).trans (b4.mono (unhide HB).size))
  replace Ia := hide (((unhide Ia).below b4).more b4.size)
  replace Ib := hide (((unhide Ib).below b4).more b4.size)
  replace Ix := hide (((unhide Ix).below b4).more b4.size)
  replace I2 := hide (((unhide I2).below b4).more b4.size)
  clear b4
  clear I2
  go_wp2_with fail
  refine (awake_any _).mono ?_
  rintro e w5 ⟨rfl, b5⟩
  replace HB := hide ((unhide HB).trans (b5.mono (unhide HB).size))
  replace Ia := hide (((unhide Ia).below b5).more b5.size)
  replace Ib := hide (((unhide Ib).below b5).more b5.size)
  replace Ix := hide (((unhide Ix).below b5).more b5.size)
  clear b5
  go_wp2_with fail
  go_ret
  exact ⟨rfl, unhide HB⟩

set_option maxHeartbeats 1000000 in
theorem Over_A4 (A A' : Option Addr) (n c n' c' : Nat) (xs ys : List Int) (w : World) (h : Ints w w.heap.size A n c xs) (h' : Ints w w.heap.size A' n' c' ys)
    (hn : n ≤ 17592186044416) (hn' : n' ≤ 17592186044416) (m m' : Nat) (ha : Hid (IsP xs m)) (hb : Hid (IsP ys m')) (hmm : ((m : Int) != (m' : Int)) = true) (hab : Hid (oneSum xs ys = false)) :
    Calls Try.prog 15 #[.slice A n c, .slice A' n' c'] w fun e w' => e = .returned (.bool true) ∧ Below w.heap.size w w' := by
  have HB := hide (Below.refl w.heap.size w)
  have Ia := hide h; have Ib := hide h'; clear h h'
  have ta := hide ha.out.take; have tb := hide hb.out.take
  have pa := hide ha.out.parts; have pb := hide hb.out.parts
  go_enter Try.func15, Try.ntmps15
  go_wp2_with fail
  refine (list_ints _ _ _ _ _ _ (unhide Ia)).mono ?_
  rintro e w1 ⟨A1, n1, c1, rfl, i1, b1⟩
  replace HB := hide ((unhide HB).trans (b1.mono (unhide HB).size))
  replace Ia := hide (((unhide Ia).below b1).more b1.size)
  replace Ib := hide (((unhide Ib).below b1).more b1.size)
  clear b1
  rw [ta.out] at i1
  have I1 := hide i1
  clear i1
  go_wp2_with fail
  refine (Turn_ok _ _ _ _ _ (unhide I1) _ ha).mono ?_
  rintro e w2 ⟨A2, n2, c2, rfl, i2, b2⟩
  replace HB := hide ((unhide HB).trans (b2.mono (unhide HB).size))
  replace Ia := hide (((unhide Ia).below b2).more b2.size)
  replace Ib := hide (((unhide Ib).below b2).more b2.size)
  replace I1 := hide (((unhide I1).below b2).more b2.size)
  clear b2
  have Ix := hide i2
  clear i2
  clear I1
  go_wp2_with fail
  refine (list_ints _ _ _ _ _ _ (unhide Ib)).mono ?_
  rintro e w3 ⟨A3, n3, c3, rfl, i3, b3⟩
  replace HB := hide ((unhide HB).trans (b3.mono (unhide HB).size))
  replace Ia := hide (((unhide Ia).below b3).more b3.size)
  replace Ib := hide (((unhide Ib).below b3).more b3.size)
  replace Ix := hide (((unhide Ix).below b3).more b3.size)
  clear b3
  rw [tb.out] at i3
  have I2 := hide i3
  clear i3
  go_wp2_with fail
  refine (Turn_ok _ _ _ _ _ (unhide I2) _ hb).mono ?_
  rintro e w4 ⟨A4, n4, c4, rfl, i4, b4⟩
  replace HB := hide ((unhide HB).trans (b4.mono (unhide HB).size))
  replace Ia := hide (((unhide Ia).below b4).more b4.size)
  replace Ib := hide (((unhide Ib).below b4).more b4.size)
  replace Ix := hide (((unhide Ix).below b4).more b4.size)
  replace I2 := hide (((unhide I2).below b4).more b4.size)
  clear b4
  have Iy := hide i4
  clear i4
  clear I2
  go_wp2_with fail
  refine (lparts_is _ _ _ _ _ _ _ _ _ _ _ (unhide Ia) (unhide Ib) hn hn' false hab).mono ?_
  rintro e w5 ⟨rfl, b5⟩
  replace HB := hide ((unhide HB).trans (b5.mono (unhide HB).size))
  replace Ia := hide (((unhide Ia).below b5).more b5.size)
  replace Ib := hide (((unhide Ib).below b5).more b5.size)
  replace Ix := hide (((unhide Ix).below b5).more b5.size)
  replace Iy := hide (((unhide Iy).below b5).more b5.size)
  clear b5
  go_wp2_with fail
  refine (Parts_b _ _ _ _ _ _ (unhide Ia) hn _ pa).mono ?_
  rintro e w6 ⟨rfl, b6⟩
  replace HB := hide ((unhide HB).trans (b6.mono (unhide HB).size))
  replace Ia := hide (((unhide Ia).below b6).more b6.size)
  replace Ib := hide (((unhide Ib).below b6).more b6.size)
  replace Ix := hide (((unhide Ix).below b6).more b6.size)
  replace Iy := hide (((unhide Iy).below b6).more b6.size)
  clear b6
  go_wp2_with fail
  refine (Parts_b _ _ _ _ _ _ (unhide Ib) hn' _ pb).mono ?_
  rintro e w7 ⟨rfl, b7⟩
  replace HB := hide ((unhide HB).trans (b7.mono (unhide HB).size))
  replace Ia := hide (((unhide Ia).below b7).more b7.size)
  replace Ib := hide (((unhide Ib).below b7).more b7.size)
  replace Ix := hide (((unhide Ix).below b7).more b7.size)
  replace Iy := hide (((unhide Iy).below b7).more b7.size)
  clear b7
  go_wp2_with fail
  refine (awake_any _).mono ?_
  rintro e w8 ⟨rfl, b8⟩
  replace HB := hide ((unhide HB).trans (b8.mono (unhide HB).size))
  replace Ia := hide (((unhide Ia).below b8).more b8.size)
  replace Ib := hide (((unhide Ib).below b8).more b8.size)
  replace Ix := hide (((unhide Ix).below b8).more b8.size)
  replace Iy := hide (((unhide Iy).below b8).more b8.size)
  clear b8
  go_wp2_with fail
  go_ret
  exact ⟨rfl, unhide HB⟩

set_option maxHeartbeats 4000000 in
theorem Over_B (A A' : Option Addr) (n c n' c' : Nat) (xs ys : List Int) (w : World) (h : Ints w w.heap.size A n c xs) (h' : Ints w w.heap.size A' n' c' ys)
    (hn : n ≤ 17592186044416) (hn' : n' ≤ 17592186044416) (m : Nat) (ha : Hid (IsP xs m)) (hb : Hid (IsP ys m)) (u : Bool) (u1 : Hid (unevR xs ys = u)) :
    Calls Try.prog 15 #[.slice A n c, .slice A' n' c'] w fun e w' => e = .returned (.bool true) ∧ Below w.heap.size w w' := by
  have HB := hide (Below.refl w.heap.size w)
  have Ia := hide h; have Ib := hide h'; clear h h'
  have ta := hide ha.out.take; have tb := hide hb.out.take
  have hab := hide (isP_oneSum ha.out hb.out)
  have hx := hide (turn_isP ha.out); have hy := hide (turn_isP hb.out); have hm := hide (meet_isP ha.out hb.out)
  have tt := hide (turn_turn ha.out)
  have hxa := hide (isP_oneSum hx.out ha.out); have hya := hide (isP_oneSum hy.out ha.out)
  have u2 := hide (show unevR (turnF ys) (turnF xs) = u from by rw [← u1.out, Bool.eq_iff_iff, unevR_dom hy.out hx.out, unevR_dom ha.out hb.out, dom_turn ha.out hb.out])
  have tj := hide (show joinF (turnF xs) (turnF ys) = turnF (meetF xs ys) from by rw [joinF, turn_turn ha.out, turn_turn hb.out])
  go_enter Try.func15, Try.ntmps15
  go_wp2_with fail
  refine (list_ints _ _ _ _ _ _ (unhide Ia)).mono ?_
  rintro e w1 ⟨A1, n1, c1, rfl, i1, b1⟩
  replace HB := hide ((unhide HB).trans (b1.mono (unhide HB).size))
  replace Ia := hide (((unhide Ia).below b1).more b1.size)
  replace Ib := hide (((unhide Ib).below b1).more b1.size)
  clear b1
  rw [ta.out] at i1
  have I1 := hide i1
  clear i1
  go_wp2_with fail
  refine (Turn_ok _ _ _ _ _ (unhide I1) _ ha).mono ?_
  rintro e w2 ⟨A2, n2, c2, rfl, i2, b2⟩
  replace HB := hide ((unhide HB).trans (b2.mono (unhide HB).size))
  replace Ia := hide (((unhide Ia).below b2).more b2.size)
  replace Ib := hide (((unhide Ib).below b2).more b2.size)
  replace I1 := hide (((unhide I1).below b2).more b2.size)
  clear b2
  have Ix := hide i2
  clear i2
  clear I1
  go_wp2_with fail
  refine (list_ints _ _ _ _ _ _ (unhide Ib)).mono ?_
  rintro e w3 ⟨A3, n3, c3, rfl, i3, b3⟩
  replace HB := hide ((unhide HB).trans (b3.mono (unhide HB).size))
  replace Ia := hide (((unhide Ia).below b3).more b3.size)
  replace Ib := hide (((unhide Ib).below b3).more b3.size)
  replace Ix := hide (((unhide Ix).below b3).more b3.size)
  clear b3
  rw [tb.out] at i3
  have I2 := hide i3
  clear i3
  go_wp2_with fail
  refine (Turn_ok _ _ _ _ _ (unhide I2) _ hb).mono ?_
  rintro e w4 ⟨A4, n4, c4, rfl, i4, b4⟩
  replace HB := hide ((unhide HB).trans (b4.mono (unhide HB).size))
  replace Ia := hide (((unhide Ia).below b4).more b4.size)
  replace Ib := hide (((unhide Ib).below b4).more b4.size)
  replace Ix := hide (((unhide Ix).below b4).more b4.size)
  replace I2 := hide (((unhide I2).below b4).more b4.size)
  clear b4
  have Iy := hide i4
  clear i4
  clear I2
  go_wp2_with fail
  refine (lparts_is _ _ _ _ _ _ _ _ _ _ _ (unhide Ia) (unhide Ib) hn hn' true hab).mono ?_
  rintro e w5 ⟨rfl, b5⟩
  replace HB := hide ((unhide HB).trans (b5.mono (unhide HB).size))
  replace Ia := hide (((unhide Ia).below b5).more b5.size)
  replace Ib := hide (((unhide Ib).below b5).more b5.size)
  replace Ix := hide (((unhide Ix).below b5).more b5.size)
  replace Iy := hide (((unhide Iy).below b5).more b5.size)
  clear b5
  go_wp2_with fail
  refine (clone_ints _ _ _ _ _ _ (unhide Ix) (by have := (unhide Ix).len; have := hx.out.len12; omega)).mono ?_
  rintro e w6 ⟨A6, n6, c6, rfl, i6, b6⟩
  replace HB := hide ((unhide HB).trans (b6.mono (unhide HB).size))
  replace Ia := hide (((unhide Ia).below b6).more b6.size)
  replace Ib := hide (((unhide Ib).below b6).more b6.size)
  replace Ix := hide (((unhide Ix).below b6).more b6.size)
  replace Iy := hide (((unhide Iy).below b6).more b6.size)
  clear b6
  have I3 := hide i6
  clear i6
  go_wp2_with fail
  refine (Turn_ok _ _ _ _ _ (unhide I3) _ hx).mono ?_
  rintro e w7 ⟨A7, n7, c7, rfl, i7, b7⟩
  replace HB := hide ((unhide HB).trans (b7.mono (unhide HB).size))
  replace Ia := hide (((unhide Ia).below b7).more b7.size)
  replace Ib := hide (((unhide Ib).below b7).more b7.size)
  replace Ix := hide (((unhide Ix).below b7).more b7.size)
  replace Iy := hide (((unhide Iy).below b7).more b7.size)
  replace I3 := hide (((unhide I3).below b7).more b7.size)
  clear b7
  rw [tt.out] at i7
  have I4 := hide i7
  clear i7
  clear I3
  go_wp2_with fail
  refine (equal_any _ _ _ _ _ _ _ _ _ _ _ (unhide I4) (unhide Ia) true (hide (decide_eq_true rfl))).mono ?_
  rintro e w8 ⟨rfl, b8⟩
  replace HB := hide ((unhide HB).trans (b8.mono (unhide HB).size))
  replace Ia := hide (((unhide Ia).below b8).more b8.size)
  replace Ib := hide (((unhide Ib).below b8).more b8.size)
  replace Ix := hide (((unhide Ix).below b8).more b8.size)
  replace Iy := hide (((unhide Iy).below b8).more b8.size)
  replace I4 := hide (((unhide I4).below b8).more b8.size)
  clear b8
  clear I4
  go_wp2_with fail
  refine (lparts_is _ _ _ _ _ _ _ _ _ _ _ (unhide Ix) (unhide Ia) (by have := (unhide Ix).len; have := hx.out.len12; omega) hn true hxa).mono ?_
  rintro e w9 ⟨rfl, b9⟩
  replace HB := hide ((unhide HB).trans (b9.mono (unhide HB).size))
  replace Ia := hide (((unhide Ia).below b9).more b9.size)
  replace Ib := hide (((unhide Ib).below b9).more b9.size)
  replace Ix := hide (((unhide Ix).below b9).more b9.size)
  replace Iy := hide (((unhide Iy).below b9).more b9.size)
  clear b9
  go_wp2_with fail
  refine (lparts_is _ _ _ _ _ _ _ _ _ _ _ (unhide Iy) (unhide Ia) (by have := (unhide Iy).len; have := hy.out.len12; omega) hn true hya).mono ?_
  rintro e w10 ⟨rfl, b10⟩
  replace HB := hide ((unhide HB).trans (b10.mono (unhide HB).size))
  replace Ia := hide (((unhide Ia).below b10).more b10.size)
  replace Ib := hide (((unhide Ib).below b10).more b10.size)
  replace Ix := hide (((unhide Ix).below b10).more b10.size)
  replace Iy := hide (((unhide Iy).below b10).more b10.size)
  clear b10
  go_wp2_with fail
  refine (unevP _ _ _ _ _ _ _ _ _ (unhide Ia) (unhide Ib) m ha hb u u1).mono ?_
  rintro e w11 ⟨rfl, b11⟩
  replace HB := hide ((unhide HB).trans (b11.mono (unhide HB).size))
  replace Ia := hide (((unhide Ia).below b11).more b11.size)
  replace Ib := hide (((unhide Ib).below b11).more b11.size)
  replace Ix := hide (((unhide Ix).below b11).more b11.size)
  replace Iy := hide (((unhide Iy).below b11).more b11.size)
  clear b11
  go_wp2_with fail
  refine (unevP _ _ _ _ _ _ _ _ _ (unhide Iy) (unhide Ix) m hy hx u u2).mono ?_
  rintro e w12 ⟨rfl, b12⟩
  replace HB := hide ((unhide HB).trans (b12.mono (unhide HB).size))
  replace Ia := hide (((unhide Ia).below b12).more b12.size)
  replace Ib := hide (((unhide Ib).below b12).more b12.size)
  replace Ix := hide (((unhide Ix).below b12).more b12.size)
  replace Iy := hide (((unhide Iy).below b12).more b12.size)
  clear b12
  cases u
  all_goals
    go_wp2_with fail
    refine (list_ints _ _ _ _ _ _ (unhide Ia)).mono ?_
    rintro e w13 ⟨A13, n13, c13, rfl, i13, b13⟩
    replace HB := hide ((unhide HB).trans (b13.mono (unhide HB).size))
    replace Ia := hide (((unhide Ia).below b13).more b13.size)
    replace Ib := hide (((unhide Ib).below b13).more b13.size)
    replace Ix := hide (((unhide Ix).below b13).more b13.size)
    replace Iy := hide (((unhide Iy).below b13).more b13.size)
    clear b13
    rw [ta.out] at i13
    have I1 := hide i13
    clear i13
    go_wp2_with fail
    refine (list_ints _ _ _ _ _ _ (unhide Ib)).mono ?_
    rintro e w14 ⟨A14, n14, c14, rfl, i14, b14⟩
    replace HB := hide ((unhide HB).trans (b14.mono (unhide HB).size))
    replace Ia := hide (((unhide Ia).below b14).more b14.size)
    replace Ib := hide (((unhide Ib).below b14).more b14.size)
    replace Ix := hide (((unhide Ix).below b14).more b14.size)
    replace Iy := hide (((unhide Iy).below b14).more b14.size)
    replace I1 := hide (((unhide I1).below b14).more b14.size)
    clear b14
    rw [tb.out] at i14
    have I2 := hide i14
    clear i14
    go_wp2_with fail
    refine (Meet_ok _ _ _ _ _ _ _ _ _ (unhide I1) (unhide I2) m ha hb).mono ?_
    rintro e w15 ⟨A15, n15, c15, rfl, i15, b15⟩
    replace HB := hide ((unhide HB).trans (b15.mono (unhide HB).size))
    replace Ia := hide (((unhide Ia).below b15).more b15.size)
    replace Ib := hide (((unhide Ib).below b15).more b15.size)
    replace Ix := hide (((unhide Ix).below b15).more b15.size)
    replace Iy := hide (((unhide Iy).below b15).more b15.size)
    replace I1 := hide (((unhide I1).below b15).more b15.size)
    replace I2 := hide (((unhide I2).below b15).more b15.size)
    clear b15
    have Im := hide i15
    clear i15
    clear I1
    clear I2
    go_wp2_with fail
    refine (Turn_ok _ _ _ _ _ (unhide Im) _ hm).mono ?_
    rintro e w16 ⟨A16, n16, c16, rfl, i16, b16⟩
    replace HB := hide ((unhide HB).trans (b16.mono (unhide HB).size))
    replace Ia := hide (((unhide Ia).below b16).more b16.size)
    replace Ib := hide (((unhide Ib).below b16).more b16.size)
    replace Ix := hide (((unhide Ix).below b16).more b16.size)
    replace Iy := hide (((unhide Iy).below b16).more b16.size)
    replace Im := hide (((unhide Im).below b16).more b16.size)
    clear b16
    have It := hide i16
    clear i16
    clear Im
    go_wp2_with fail
    refine (Join_ok _ _ _ _ _ _ _ _ _ (unhide Ix) (unhide Iy) m hx hy).mono ?_
    rintro e w17 ⟨A17, n17, c17, rfl, i17, b17⟩
    replace HB := hide ((unhide HB).trans (b17.mono (unhide HB).size))
    replace Ia := hide (((unhide Ia).below b17).more b17.size)
    replace Ib := hide (((unhide Ib).below b17).more b17.size)
    replace Ix := hide (((unhide Ix).below b17).more b17.size)
    replace Iy := hide (((unhide Iy).below b17).more b17.size)
    replace It := hide (((unhide It).below b17).more b17.size)
    clear b17
    rw [tj.out] at i17
    have Ij := hide i17
    clear i17
    go_wp2_with fail
    refine (equal_any _ _ _ _ _ _ _ _ _ _ _ (unhide It) (unhide Ij) true (hide (decide_eq_true rfl))).mono ?_
    rintro e w18 ⟨rfl, b18⟩
    replace HB := hide ((unhide HB).trans (b18.mono (unhide HB).size))
    replace Ia := hide (((unhide Ia).below b18).more b18.size)
    replace Ib := hide (((unhide Ib).below b18).more b18.size)
    replace Ix := hide (((unhide Ix).below b18).more b18.size)
    replace Iy := hide (((unhide Iy).below b18).more b18.size)
    replace It := hide (((unhide It).below b18).more b18.size)
    replace Ij := hide (((unhide Ij).below b18).more b18.size)
    clear b18
    go_wp2_with fail
    refine (awake_any _).mono ?_
    rintro e w19 ⟨rfl, b19⟩
    replace HB := hide ((unhide HB).trans (b19.mono (unhide HB).size))
    replace Ia := hide (((unhide Ia).below b19).more b19.size)
    replace Ib := hide (((unhide Ib).below b19).more b19.size)
    replace Ix := hide (((unhide Ix).below b19).more b19.size)
    replace Iy := hide (((unhide Iy).below b19).more b19.size)
    replace It := hide (((unhide It).below b19).more b19.size)
    replace Ij := hide (((unhide Ij).below b19).more b19.size)
    clear b19
    go_wp2_with fail
    go_ret
    exact ⟨rfl, unhide HB⟩

theorem Over_any (A A' : Option Addr) (n c n' c' : Nat) (xs ys : List Int) (w : World) (h : Ints w w.heap.size A n c xs) (h' : Ints w w.heap.size A' n' c' ys)
    (hn : n ≤ 17592186044416) (hn' : n' ≤ 17592186044416) :
    Calls Try.prog 15 #[.slice A n c, .slice A' n' c'] w fun e w' => e = .returned (.bool true) ∧ Below w.heap.size w w' := by
  by_cases pa : parts xs = 0
  · by_cases pb : parts ys = 0
    · exact Over_A1 _ _ _ _ _ _ _ _ _ h h' hn hn' (hide pa) (hide pb)
    · obtain ⟨m, hb⟩ := isP_of pb
      exact Over_A2 _ _ _ _ _ _ _ _ _ h h' hn hn' (hide pa) m (hide hb)
  · obtain ⟨m, ha⟩ := isP_of pa
    by_cases pb : parts ys = 0
    · exact Over_A3 _ _ _ _ _ _ _ _ _ h h' hn hn' m (hide ha) (hide pb)
    · obtain ⟨m', hb⟩ := isP_of pb
      by_cases hmm : m = m'
      · subst hmm
        exact Over_B _ _ _ _ _ _ _ _ _ h h' hn hn' m (hide ha) (hide hb) _ (hide rfl)
      · refine Over_A4 _ _ _ _ _ _ _ _ _ h h' hn hn' m m' (hide ha) (hide hb) (by simp; omega) (hide ?_)
        rw [oneSum, ha.parts, hb.parts]
        simp
        omega
end Go.Proofs.Ytmpdalcdkibgpaa
