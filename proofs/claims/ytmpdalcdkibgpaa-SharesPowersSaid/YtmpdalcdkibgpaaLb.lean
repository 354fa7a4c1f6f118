import Derived.Test.YtmpdalcdkibgpaaL9
import Derived.Test.YtmpdalcdkibgpaaN9
namespace Go.Proofs.Ytmpdalcdkibgpaa
open Go.RowKit Go.Sort

set_option maxHeartbeats 2000000 in
theorem Powers_no (A A' : Option Addr) (n c n' c' : Nat) (xs ys : List Int) (w : World) (h : Ints w w.heap.size A n c xs) (h' : Ints w w.heap.size A' n' c' ys) (hx : Hid (fewB xs ys = false)) :
    Calls Try.prog 7 #[.slice A n c, .slice A' n' c'] w fun e w' => e = .returned (.bool true) ∧ Below w.heap.size w w' := by
  have HB := hide (Below.refl w.heap.size w)
  have Ia := hide h; have Ib := hide h'; clear h h'
  have hx1 := hide (show fewB (xs.take 15) (ys.take 15) = false from by rw [fewB_take]; exact hx.out)
  go_enter Try.func7, Try.ntmps7
  go_wp2_with fail
  refine (list_ints _ _ _ _ _ _ (unhide Ia)).mono ?_
  rintro e w1 ⟨A1, n1, c1, rfl, i1, b1⟩
  replace HB := hide ((unhide HB).trans (b1.mono (unhide HB).size))
  replace Ia := hide (((unhide Ia).below b1).more b1.size)
  replace Ib := hide (((unhide Ib).below b1).more b1.size)
  clear b1
  have I1 := hide i1
  clear i1
  go_wp2_with fail
  refine (list_ints _ _ _ _ _ _ (unhide Ib)).mono ?_
  rintro e w2 ⟨A2, n2, c2, rfl, i2, b2⟩
  replace HB := hide ((unhide HB).trans (b2.mono (unhide HB).size))
  replace Ia := hide (((unhide Ia).below b2).more b2.size)
  replace Ib := hide (((unhide Ib).below b2).more b2.size)
  replace I1 := hide (((unhide I1).below b2).more b2.size)
  clear b2
  have I2 := hide i2
  clear i2
  go_wp2_with fail
  refine (Power_err _ _ _ _ _ _ _ _ _ (unhide I1) (unhide I2) hx1).mono ?_
  rintro e w3 ⟨rfl, b3⟩
  replace HB := hide ((unhide HB).trans (b3.mono (unhide HB).size))
  replace Ia := hide (((unhide Ia).below b3).more b3.size)
  replace Ib := hide (((unhide Ib).below b3).more b3.size)
  replace I1 := hide (((unhide I1).below b3).more b3.size)
  replace I2 := hide (((unhide I2).below b3).more b3.size)
  clear b3
  clear I1
  clear I2
  go_wp2_with fail
  refine (Few_is _ _ _ _ _ _ _ _ _ _ _ (unhide Ia) (unhide Ib) false hx).mono ?_
  rintro e w4 ⟨rfl, b4⟩
  replace HB := hide ((unhide HB).trans (b4.mono (unhide HB).size))
  replace Ia := hide (((unhide Ia).below b4).more b4.size)
  replace Ib := hide (((unhide Ib).below b4).more b4.size)
  clear b4
  go_wp2_with fail
  refine (awake_any _).mono ?_
  rintro e w5 ⟨rfl, b5⟩
  replace HB := hide ((unhide HB).trans (b5.mono (unhide HB).size))
  replace Ia := hide (((unhide Ia).below b5).more b5.size)
  replace Ib := hide (((unhide Ib).below b5).more b5.size)
  clear b5
  go_wp2_with fail
  go_ret
  exact ⟨rfl, unhide HB⟩

set_option maxHeartbeats 2000000 in
theorem Powers_yes (A A' : Option Addr) (n c n' c' : Nat) (xs ys : List Int) (w : World) (h : Ints w w.heap.size A n c xs) (h' : Ints w w.heap.size A' n' c' ys) (hx : Hid (fewB xs ys = true)) :
    Calls Try.prog 7 #[.slice A n c, .slice A' n' c'] w fun e w' => e = .returned (.bool true) ∧ Below w.heap.size w w' := by
  have HB := hide (Below.refl w.heap.size w)
  have Ia := hide h; have Ib := hide h'; clear h h'
  have hx1 := hide (show fewB (xs.take 15) (ys.take 15) = true from by rw [fewB_take]; exact hx.out)
  have ta := hide (few_take hx.out).1; have tb := hide (few_take hx.out).2
  obtain ⟨z, hz⟩ : ∃ z, powSum xs ys = z := ⟨_, rfl⟩
  have Hz := hide hz; clear hz
  have Hz1 := hide (show powSum (xs.take 15) (ys.take 15) = z from by rw [ta.out, tb.out]; exact Hz.out)
  go_enter Try.func7, Try.ntmps7
  go_wp2_with fail
  refine (list_ints _ _ _ _ _ _ (unhide Ia)).mono ?_
  rintro e w1 ⟨A1, n1, c1, rfl, i1, b1⟩
  replace HB := hide ((unhide HB).trans (b1.mono (unhide HB).size))
  replace Ia := hide (((unhide Ia).below b1).more b1.size)
  replace Ib := hide (((unhide Ib).below b1).more b1.size)
  clear b1
  have I1 := hide i1
  clear i1
  go_wp2_with fail
  refine (list_ints _ _ _ _ _ _ (unhide Ib)).mono ?_
  rintro e w2 ⟨A2, n2, c2, rfl, i2, b2⟩
  replace HB := hide ((unhide HB).trans (b2.mono (unhide HB).size))
  replace Ia := hide (((unhide Ia).below b2).more b2.size)
  replace Ib := hide (((unhide Ib).below b2).more b2.size)
  replace I1 := hide (((unhide I1).below b2).more b2.size)
  clear b2
  have I2 := hide i2
  clear i2
  go_wp2_with fail
  refine (Power_ok _ _ _ _ _ _ _ _ _ (unhide I1) (unhide I2) hx1 z Hz1).mono ?_
  rintro e w3 ⟨rfl, b3⟩
  replace HB := hide ((unhide HB).trans (b3.mono (unhide HB).size))
  replace Ia := hide (((unhide Ia).below b3).more b3.size)
  replace Ib := hide (((unhide Ib).below b3).more b3.size)
  replace I1 := hide (((unhide I1).below b3).more b3.size)
  replace I2 := hide (((unhide I2).below b3).more b3.size)
  clear b3
  clear I1
  clear I2
  go_wp2_with fail
  refine (Few_is _ _ _ _ _ _ _ _ _ _ _ (unhide Ia) (unhide Ib) true hx).mono ?_
  rintro e w4 ⟨rfl, b4⟩
  replace HB := hide ((unhide HB).trans (b4.mono (unhide HB).size))
  replace Ia := hide (((unhide Ia).below b4).more b4.size)
  replace Ib := hide (((unhide Ib).below b4).more b4.size)
  clear b4
  go_wp2_with fail
  refine (RPower_is _ _ _ _ _ _ _ _ _ (unhide Ia) (unhide Ib) hx z Hz).mono ?_
  rintro e w5 ⟨rfl, b5⟩
  replace HB := hide ((unhide HB).trans (b5.mono (unhide HB).size))
  replace Ia := hide (((unhide Ia).below b5).more b5.size)
  replace Ib := hide (((unhide Ib).below b5).more b5.size)
  clear b5
  go_wp2_with fail
  refine (awake_any _).mono ?_
  rintro e w6 ⟨rfl, b6⟩
  replace HB := hide ((unhide HB).trans (b6.mono (unhide HB).size))
  replace Ia := hide (((unhide Ia).below b6).more b6.size)
  replace Ib := hide (((unhide Ib).below b6).more b6.size)
  clear b6
  go_wp2_with fail
  go_ret
  exact ⟨rfl, unhide HB⟩

theorem Powers_any (A A' : Option Addr) (n c n' c' : Nat) (xs ys : List Int) (w : World) (h : Ints w w.heap.size A n c xs) (h' : Ints w w.heap.size A' n' c' ys) :
    Calls Try.prog 7 #[.slice A n c, .slice A' n' c'] w fun e w' => e = .returned (.bool true) ∧ Below w.heap.size w w' := by
  rcases hx : fewB xs ys
  · exact Powers_no _ _ _ _ _ _ _ _ _ h h' (hide hx)
  · exact Powers_yes _ _ _ _ _ _ _ _ _ h h' (hide hx)
end Go.Proofs.Ytmpdalcdkibgpaa
