import Derived.Test.YtmpdalcdkibgpaaR7
namespace Go.Proofs.Ytmpdalcdkibgpaa
open Go.RowKit Go.Sort

set_option maxHeartbeats 1000000 in
theorem Turns_A (A : Option Addr) (n c : Nat) (xs : List Int) (w : World) (h : Ints w w.heap.size A n c xs) (hn : n ≤ 17592186044416) (pa : Hid (parts xs = 0)) :
    Calls Try.prog 9 #[.slice A n c] w fun e w' => e = .returned (.bool true) ∧ Below w.heap.size w w' := by
  have HB := hide (Below.refl w.heap.size w)
  have hl := hide h.len
  have Ia := hide h; clear h
  have pa1 := hide (show parts (xs.take 15) = 0 from by rw [parts_take]; exact pa.out)
  go_enter Try.func9, Try.ntmps9
  go_wp2_with fail
  refine (list_ints _ _ _ _ _ _ (unhide Ia)).mono ?_
  rintro e w1 ⟨A1, n1, c1, rfl, i1, b1⟩
  replace HB := hide ((unhide HB).trans (b1.mono (unhide HB).size))
  replace Ia := hide (((unhide Ia).below b1).more b1.size)
  clear b1
  have I1 := hide i1
  clear i1
  go_wp2_with fail
  refine (Turn_no _ _ _ _ _ _ (unhide I1) pa1).mono ?_
  rintro e w2 ⟨rfl, b2⟩
  replace HB := hide ((unhide HB).trans (b2.mono (unhide HB).size))
  replace Ia := hide (((unhide Ia).below b2).more b2.size)
  replace I1 := hide (((unhide I1).below b2).more b2.size)
  clear b2
  clear I1
  go_wp2_with fail
  refine (list_ints _ _ _ _ _ _ (unhide Ia)).mono ?_
  rintro e w3 ⟨A3, n3, c3, rfl, i3, b3⟩
  replace HB := hide ((unhide HB).trans (b3.mono (unhide HB).size))
  replace Ia := hide (((unhide Ia).below b3).more b3.size)
  clear b3
  have I1 := hide i3
  clear i3
  go_wp2_with fail
  refine (Below_no _ _ _ _ _ _ (unhide I1) pa1).mono ?_
  rintro e w4 ⟨rfl, b4⟩
  replace HB := hide ((unhide HB).trans (b4.mono (unhide HB).size))
  replace Ia := hide (((unhide Ia).below b4).more b4.size)
  replace I1 := hide (((unhide I1).below b4).more b4.size)
  clear b4
  clear I1
  go_wp2_with fail
  refine (Parts_b _ _ _ _ _ _ (unhide Ia) hn _ pa).mono ?_
  rintro e w5 ⟨rfl, b5⟩
  replace HB := hide ((unhide HB).trans (b5.mono (unhide HB).size))
  replace Ia := hide (((unhide Ia).below b5).more b5.size)
  clear b5
  go_wp2_with fail
  refine (awake_any _).mono ?_
  rintro e w6 ⟨rfl, b6⟩
  replace HB := hide ((unhide HB).trans (b6.mono (unhide HB).size))
  replace Ia := hide (((unhide Ia).below b6).more b6.size)
  clear b6
  go_wp2_with fail
  go_ret
  exact ⟨rfl, unhide HB⟩

set_option maxHeartbeats 2000000 in
theorem Turns_B (A : Option Addr) (n c : Nat) (xs : List Int) (w : World) (h : Ints w w.heap.size A n c xs) (hn : n ≤ 17592186044416) (m : Nat) (ha : Hid (IsP xs m)) :
    Calls Try.prog 9 #[.slice A n c] w fun e w' => e = .returned (.bool true) ∧ Below w.heap.size w w' := by
  have HB := hide (Below.refl w.heap.size w)
  have hl := hide h.len
  have Ia := hide h; clear h
  have ta := hide ha.out.take; have pa := hide ha.out.parts; have hok := hide ha.out.ok
  have hmne : ((m : Int) == 0) = false := by have := ha.out.pos; simp; omega
  have hn1 : 1 ≤ n := by have := ha.out.len; have := hl.out; omega
  have hbel := hide (below_rB ha.out)
  go_enter Try.func9, Try.ntmps9
  go_wp2_with fail
  refine (list_ints _ _ _ _ _ _ (unhide Ia)).mono ?_
  rintro e w1 ⟨A1, n1, c1, rfl, i1, b1⟩
  replace HB := hide ((unhide HB).trans (b1.mono (unhide HB).size))
  replace Ia := hide (((unhide Ia).below b1).more b1.size)
  clear b1
  rw [ta.out] at i1
  have I1 := hide i1
  clear i1
  go_wp2_with fail
  refine (Turn_ok _ _ _ _ _ (unhide I1) m ha).mono ?_
  rintro e w2 ⟨A2, n2, c2, rfl, i2, b2⟩
  replace HB := hide ((unhide HB).trans (b2.mono (unhide HB).size))
  replace Ia := hide (((unhide Ia).below b2).more b2.size)
  replace I1 := hide (((unhide I1).below b2).more b2.size)
  clear b2
  have Ix := hide i2
  clear i2
  clear I1
  go_wp2_with fail
  refine (list_ints _ _ _ _ _ _ (unhide Ia)).mono ?_
  rintro e w3 ⟨A3, n3, c3, rfl, i3, b3⟩
  replace HB := hide ((unhide HB).trans (b3.mono (unhide HB).size))
  replace Ia := hide (((unhide Ia).below b3).more b3.size)
  replace Ix := hide (((unhide Ix).below b3).more b3.size)
  clear b3
  rw [ta.out] at i3
  have I1 := hide i3
  clear i3
  go_wp2_with fail
  refine (Below_ok _ _ _ _ _ (unhide I1) m ha).mono ?_
  rintro e w4 ⟨A4, n4, c4, rfl, i4, b4⟩
  replace HB := hide ((unhide HB).trans (b4.mono (unhide HB).size))
  replace Ia := hide (((unhide Ia).below b4).more b4.size)
  replace Ix := hide (((unhide Ix).below b4).more b4.size)
  replace I1 := hide (((unhide I1).below b4).more b4.size)
  clear b4
  have Iy := hide i4
  clear i4
  clear I1
  go_wp2_with fail
  refine (Parts_b _ _ _ _ _ _ (unhide Ia) hn _ pa).mono ?_
  rintro e w5 ⟨rfl, b5⟩
  replace HB := hide ((unhide HB).trans (b5.mono (unhide HB).size))
  replace Ia := hide (((unhide Ia).below b5).more b5.size)
  replace Ix := hide (((unhide Ix).below b5).more b5.size)
  replace Iy := hide (((unhide Iy).below b5).more b5.size)
  clear b5
  go_wp2_with fail
  refine (RTurn_any _ _ _ _ _ (unhide Ia) hok hn1).mono ?_
  rintro e w6 ⟨A6, n6, c6, rfl, i6, b6⟩
  replace HB := hide ((unhide HB).trans (b6.mono (unhide HB).size))
  replace Ia := hide (((unhide Ia).below b6).more b6.size)
  replace Ix := hide (((unhide Ix).below b6).more b6.size)
  replace Iy := hide (((unhide Iy).below b6).more b6.size)
  clear b6
  have It := hide i6
  clear i6
  go_wp2_with fail
  refine (equal_any _ _ _ _ _ _ _ _ _ _ _ (unhide Ix) (unhide It) true (hide (decide_eq_true rfl))).mono ?_
  rintro e w7 ⟨rfl, b7⟩
  replace HB := hide ((unhide HB).trans (b7.mono (unhide HB).size))
  replace Ia := hide (((unhide Ia).below b7).more b7.size)
  replace Ix := hide (((unhide Ix).below b7).more b7.size)
  replace Iy := hide (((unhide Iy).below b7).more b7.size)
  replace It := hide (((unhide It).below b7).more b7.size)
  clear b7
  clear It
  go_wp2_with fail
  refine (RBelow_any _ _ _ _ _ (unhide Ia) m ha).mono ?_
  rintro e w8 ⟨A8, n8, c8, rfl, i8, b8⟩
  replace HB := hide ((unhide HB).trans (b8.mono (unhide HB).size))
  replace Ia := hide (((unhide Ia).below b8).more b8.size)
  replace Ix := hide (((unhide Ix).below b8).more b8.size)
  replace Iy := hide (((unhide Iy).below b8).more b8.size)
  clear b8
  have Ib := hide i8
  clear i8
  go_wp2_with fail
  refine (equalFunc_any _ _ _ _ _ _ _ _ _ (unhide Iy) (unhide Ib) hbel).mono ?_
  rintro e w9 ⟨rfl, b9⟩
  replace HB := hide ((unhide HB).trans (b9.mono (unhide HB).size))
  replace Ia := hide (((unhide Ia).below b9).more b9.size)
  replace Ix := hide (((unhide Ix).below b9).more b9.size)
  replace Iy := hide (((unhide Iy).below b9).more b9.size)
  replace Ib := hide (((unhide Ib).below b9).more b9.size)
  clear b9
  clear Ib
  go_wp2_with fail
  refine (awake_any _).mono ?_
  rintro e w10 ⟨rfl, b10⟩
  replace HB := hide ((unhide HB).trans (b10.mono (unhide HB).size))
  replace Ia := hide (((unhide Ia).below b10).more b10.size)
  replace Ix := hide (((unhide Ix).below b10).more b10.size)
  replace Iy := hide (((unhide Iy).below b10).more b10.size)
  clear b10
  go_wp2_with fail
  go_ret
  exact ⟨rfl, unhide HB⟩

theorem Turns_any (A : Option Addr) (n c : Nat) (xs : List Int) (w : World) (h : Ints w w.heap.size A n c xs) (hn : n ≤ 17592186044416) :
    Calls Try.prog 9 #[.slice A n c] w fun e w' => e = .returned (.bool true) ∧ Below w.heap.size w w' := by
  by_cases pa : parts xs = 0
  · exact Turns_A _ _ _ _ _ h hn (hide pa)
  · obtain ⟨m, ha⟩ := isP_of pa
    exact Turns_B _ _ _ _ _ h hn m (hide ha)
end Go.Proofs.Ytmpdalcdkibgpaa
