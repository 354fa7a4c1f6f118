/-
  The law SquaresLines.
-/
import Derived.Test.YtjhicbiacnkpaaaDoorW5
namespace Go.Proofs.YtjhicbiacnkpaaaDoor
open Go.RowKit

theorem Ints.on {w w' : World} {n c : Nat} {A : Option Addr} {xs : List Int} (h : Ints w w.heap.size A n c xs) (hb : Below w.heap.size w w') : Ints w' w'.heap.size A n c xs := (h.below hb).more hb.size

set_option maxRecDepth 100000 in
set_option maxHeartbeats 1000000 in
theorem LLines_yy (m : Nat) (l : Nat) (A : Option Addr) (n c : Nat) (xs : List Int) (w : World) (i0 : Ints w w.heap.size A n c xs) (ht : Tab w) (h1 : 1 ≤ m) (h2 : m ≤ 5) (HS : Hid (setB m l = true)) (HC : Hid (clB m xs = true)) (HC8 : Hid (clB m (xs.take 8) = true)) (HL : Hid (l < 2 ^ m)) (TK : Hid (xs.take 8 = xs)) :
    Calls Tryd.prog 3 #[.int .i64 m, .int .i64 l, .slice A n c] w fun e w' => e = .returned (.bool true) ∧ Below w.heap.size w w' := by
  replace i0 := hide i0
  have HB := hide (Below.refl w.heap.size w)
  have HT := hide ht
  clear ht
  go_enter Tryd.func3, Tryd.ntmps3
  go_wp2_with fail
  refine (Blocks_ok m h1 h2 l HL _ (unhide HT)).mono ?_
  rintro e w1 ⟨A1, n1, c1, rfl, i1, b1⟩
  replace i0 := hide ((unhide i0).on b1)
  replace i1 := hide i1
  replace HB := hide ((unhide HB).trans (b1.mono (unhide HB).size))
  replace HT := hide ((unhide HT).on b1)
  clear b1
  go_wp2_with fail
  refine (list_ints _ _ _ _ _ _ (unhide i0) (Nat.le_refl _)).mono ?_
  rintro e w2 ⟨A2, n2, c2, rfl, i2, b2⟩
  replace i0 := hide ((unhide i0).on b2)
  replace i1 := hide ((unhide i1).on b2)
  replace i2 := hide i2
  replace HB := hide ((unhide HB).trans (b2.mono (unhide HB).size))
  replace HT := hide ((unhide HT).on b2)
  clear b2
  go_wp2_with fail
  refine (Lines_ok m h1 h2 _ _ _ _ _ (unhide i2) (unhide HT) HC8).mono ?_
  rintro e w3 ⟨A3, n3, c3, rfl, i3, b3⟩
  replace i0 := hide ((unhide i0).on b3)
  replace i1 := hide ((unhide i1).on b3)
  replace i2 := hide ((unhide i2).on b3)
  replace i3 := hide i3
  replace HB := hide ((unhide HB).trans (b3.mono (unhide HB).size))
  replace HT := hide ((unhide HT).on b3)
  clear b3
  go_wp2_with fail
  refine (RSet_is _ _ _ _ HS).mono ?_
  rintro e w4 ⟨rfl, rfl⟩
  go_wp2_with fail
  refine (RBlocks_ints m h1 h2 l HL _).mono ?_
  rintro e w4 ⟨A4, n4, c4, rfl, o4, i4, b4⟩
  replace i0 := hide ((unhide i0).on b4)
  replace i1 := hide ((unhide i1).on b4)
  replace i2 := hide ((unhide i2).on b4)
  replace i3 := hide ((unhide i3).on b4)
  replace o4 := hide o4
  replace i4 := hide i4
  replace HB := hide ((unhide HB).trans (b4.mono (unhide HB).size))
  replace HT := hide ((unhide HT).on b4)
  clear b4
  go_wp2_with fail
  refine (equal_b _ _ _ _ _ _ _ _ _ _ _ (unhide i1) (unhide i4) true (hide (by simp))).mono ?_
  rintro e w5 ⟨rfl, b5⟩
  replace i0 := hide ((unhide i0).on b5)
  replace i1 := hide ((unhide i1).on b5)
  replace i2 := hide ((unhide i2).on b5)
  replace i3 := hide ((unhide i3).on b5)
  replace i4 := hide ((unhide i4).on b5)
  replace HB := hide ((unhide HB).trans (b5.mono (unhide HB).size))
  replace HT := hide ((unhide HT).on b5)
  clear b5
  go_wp2_with fail
  refine (RClue_any _ _ _ _ _ _ (unhide i0)).mono ?_
  rintro e w6 ⟨rfl, b6⟩
  replace i0 := hide ((unhide i0).on b6)
  replace i1 := hide ((unhide i1).on b6)
  replace i2 := hide ((unhide i2).on b6)
  replace i3 := hide ((unhide i3).on b6)
  replace i4 := hide ((unhide i4).on b6)
  replace HB := hide ((unhide HB).trans (b6.mono (unhide HB).size))
  replace HT := hide ((unhide HT).on b6)
  clear b6
  rw [HC.out]
  go_wp2_with fail
  refine (RLines_ints m h1 h2 _ _ _ _ _ (unhide i0)).mono ?_
  rintro e w7 ⟨A5, n5, c5, rfl, hn5, i5, b7⟩
  replace i0 := hide ((unhide i0).on b7)
  replace i1 := hide ((unhide i1).on b7)
  replace i2 := hide ((unhide i2).on b7)
  replace i3 := hide ((unhide i3).on b7)
  replace i4 := hide ((unhide i4).on b7)
  replace i5 := hide i5
  replace HB := hide ((unhide HB).trans (b7.mono (unhide HB).size))
  replace HT := hide ((unhide HT).on b7)
  clear b7
  go_wp2_with fail
  refine (equal_b _ _ _ _ _ _ _ _ _ _ _ (unhide i3) (unhide i5) true (hide (by rw [TK.out]; simp))).mono ?_
  rintro e w8 ⟨rfl, b8⟩
  replace i0 := hide ((unhide i0).on b8)
  replace i1 := hide ((unhide i1).on b8)
  replace i2 := hide ((unhide i2).on b8)
  replace i3 := hide ((unhide i3).on b8)
  replace i4 := hide ((unhide i4).on b8)
  replace i5 := hide ((unhide i5).on b8)
  replace HB := hide ((unhide HB).trans (b8.mono (unhide HB).size))
  replace HT := hide ((unhide HT).on b8)
  clear b8
  go_wp2_with fail
  refine (awake_any _ (unhide HT)).mono ?_
  rintro e w9 ⟨rfl, b9⟩
  replace i0 := hide ((unhide i0).on b9)
  replace i1 := hide ((unhide i1).on b9)
  replace i2 := hide ((unhide i2).on b9)
  replace i3 := hide ((unhide i3).on b9)
  replace i4 := hide ((unhide i4).on b9)
  replace i5 := hide ((unhide i5).on b9)
  replace HB := hide ((unhide HB).trans (b9.mono (unhide HB).size))
  replace HT := hide ((unhide HT).on b9)
  clear b9
  go_wp2_with fail
  go_ret
  exact ⟨rfl, unhide HB⟩

set_option maxRecDepth 100000 in
set_option maxHeartbeats 1000000 in
theorem LLines_yn (m : Nat) (l : Nat) (A : Option Addr) (n c : Nat) (xs : List Int) (w : World) (i0 : Ints w w.heap.size A n c xs) (ht : Tab w) (h1 : 1 ≤ m) (h2 : m ≤ 5) (hx : -9223372036854775808 ≤ (m : Int) ∧ (m : Int) ≤ 9223372036854775807) (HS : Hid (setB m l = true)) (HC : Hid (clB m xs = false)) (HC8 : Hid (clB m (xs.take 8) = false)) (HL : Hid (l < 2 ^ m)) :
    Calls Tryd.prog 3 #[.int .i64 m, .int .i64 l, .slice A n c] w fun e w' => e = .returned (.bool true) ∧ Below w.heap.size w w' := by
  replace i0 := hide i0
  have HB := hide (Below.refl w.heap.size w)
  have HT := hide ht
  clear ht
  go_enter Tryd.func3, Tryd.ntmps3
  go_wp2_with fail
  refine (Blocks_ok m h1 h2 l HL _ (unhide HT)).mono ?_
  rintro e w1 ⟨A1, n1, c1, rfl, i1, b1⟩
  replace i0 := hide ((unhide i0).on b1)
  replace i1 := hide i1
  replace HB := hide ((unhide HB).trans (b1.mono (unhide HB).size))
  replace HT := hide ((unhide HT).on b1)
  clear b1
  go_wp2_with fail
  refine (list_ints _ _ _ _ _ _ (unhide i0) (Nat.le_refl _)).mono ?_
  rintro e w2 ⟨A2, n2, c2, rfl, i2, b2⟩
  replace i0 := hide ((unhide i0).on b2)
  replace i1 := hide ((unhide i1).on b2)
  replace i2 := hide i2
  replace HB := hide ((unhide HB).trans (b2.mono (unhide HB).size))
  replace HT := hide ((unhide HT).on b2)
  clear b2
  go_wp2_with fail
  refine (Lines_no _ hx _ _ _ _ _ (unhide i2) HC8).mono ?_
  rintro e w3 ⟨rfl, rfl⟩
  go_wp2_with fail
  refine (RSet_is _ _ _ _ HS).mono ?_
  rintro e w3 ⟨rfl, rfl⟩
  go_wp2_with fail
  refine (RBlocks_ints m h1 h2 l HL _).mono ?_
  rintro e w3 ⟨A4, n4, c4, rfl, o4, i4, b3⟩
  replace i0 := hide ((unhide i0).on b3)
  replace i1 := hide ((unhide i1).on b3)
  replace i2 := hide ((unhide i2).on b3)
  replace o4 := hide o4
  replace i4 := hide i4
  replace HB := hide ((unhide HB).trans (b3.mono (unhide HB).size))
  replace HT := hide ((unhide HT).on b3)
  clear b3
  go_wp2_with fail
  refine (equal_b _ _ _ _ _ _ _ _ _ _ _ (unhide i1) (unhide i4) true (hide (by simp))).mono ?_
  rintro e w4 ⟨rfl, b4⟩
  replace i0 := hide ((unhide i0).on b4)
  replace i1 := hide ((unhide i1).on b4)
  replace i2 := hide ((unhide i2).on b4)
  replace i4 := hide ((unhide i4).on b4)
  replace HB := hide ((unhide HB).trans (b4.mono (unhide HB).size))
  replace HT := hide ((unhide HT).on b4)
  clear b4
  go_wp2_with fail
  refine (RClue_any _ _ _ _ _ _ (unhide i0)).mono ?_
  rintro e w5 ⟨rfl, b5⟩
  replace i0 := hide ((unhide i0).on b5)
  replace i1 := hide ((unhide i1).on b5)
  replace i2 := hide ((unhide i2).on b5)
  replace i4 := hide ((unhide i4).on b5)
  replace HB := hide ((unhide HB).trans (b5.mono (unhide HB).size))
  replace HT := hide ((unhide HT).on b5)
  clear b5
  rw [HC.out]
  go_wp2_with fail
  refine (awake_any _ (unhide HT)).mono ?_
  rintro e w6 ⟨rfl, b6⟩
  replace i0 := hide ((unhide i0).on b6)
  replace i1 := hide ((unhide i1).on b6)
  replace i2 := hide ((unhide i2).on b6)
  replace i4 := hide ((unhide i4).on b6)
  replace HB := hide ((unhide HB).trans (b6.mono (unhide HB).size))
  replace HT := hide ((unhide HT).on b6)
  clear b6
  go_wp2_with fail
  go_ret
  exact ⟨rfl, unhide HB⟩

set_option maxRecDepth 100000 in
set_option maxHeartbeats 1000000 in
theorem LLines_ny (m : Nat) (l : Int) (A : Option Addr) (n c : Nat) (xs : List Int) (w : World) (i0 : Ints w w.heap.size A n c xs) (ht : Tab w) (h1 : 1 ≤ m) (h2 : m ≤ 5) (HS : Hid (setB m l = false)) (HC : Hid (clB m xs = true)) (HC8 : Hid (clB m (xs.take 8) = true)) (TK : Hid (xs.take 8 = xs)) :
    Calls Tryd.prog 3 #[.int .i64 m, .int .i64 l, .slice A n c] w fun e w' => e = .returned (.bool true) ∧ Below w.heap.size w w' := by
  replace i0 := hide i0
  have HB := hide (Below.refl w.heap.size w)
  have HT := hide ht
  clear ht
  go_enter Tryd.func3, Tryd.ntmps3
  go_wp2_with fail
  refine (Blocks_no _ l HS _).mono ?_
  rintro e w1 ⟨rfl, b1⟩
  replace i0 := hide ((unhide i0).on b1)
  replace HB := hide ((unhide HB).trans (b1.mono (unhide HB).size))
  replace HT := hide ((unhide HT).on b1)
  clear b1
  go_wp2_with fail
  refine (list_ints _ _ _ _ _ _ (unhide i0) (Nat.le_refl _)).mono ?_
  rintro e w2 ⟨A2, n2, c2, rfl, i2, b2⟩
  replace i0 := hide ((unhide i0).on b2)
  replace i2 := hide i2
  replace HB := hide ((unhide HB).trans (b2.mono (unhide HB).size))
  replace HT := hide ((unhide HT).on b2)
  clear b2
  go_wp2_with fail
  refine (Lines_ok m h1 h2 _ _ _ _ _ (unhide i2) (unhide HT) HC8).mono ?_
  rintro e w3 ⟨A3, n3, c3, rfl, i3, b3⟩
  replace i0 := hide ((unhide i0).on b3)
  replace i2 := hide ((unhide i2).on b3)
  replace i3 := hide i3
  replace HB := hide ((unhide HB).trans (b3.mono (unhide HB).size))
  replace HT := hide ((unhide HT).on b3)
  clear b3
  go_wp2_with fail
  refine (RSet_is _ _ _ _ HS).mono ?_
  rintro e w4 ⟨rfl, rfl⟩
  go_wp2_with fail
  refine (RClue_any _ _ _ _ _ _ (unhide i0)).mono ?_
  rintro e w4 ⟨rfl, b4⟩
  replace i0 := hide ((unhide i0).on b4)
  replace i2 := hide ((unhide i2).on b4)
  replace i3 := hide ((unhide i3).on b4)
  replace HB := hide ((unhide HB).trans (b4.mono (unhide HB).size))
  replace HT := hide ((unhide HT).on b4)
  clear b4
  rw [HC.out]
  go_wp2_with fail
  refine (RLines_ints m h1 h2 _ _ _ _ _ (unhide i0)).mono ?_
  rintro e w5 ⟨A5, n5, c5, rfl, hn5, i5, b5⟩
  replace i0 := hide ((unhide i0).on b5)
  replace i2 := hide ((unhide i2).on b5)
  replace i3 := hide ((unhide i3).on b5)
  replace i5 := hide i5
  replace HB := hide ((unhide HB).trans (b5.mono (unhide HB).size))
  replace HT := hide ((unhide HT).on b5)
  clear b5
  go_wp2_with fail
  refine (equal_b _ _ _ _ _ _ _ _ _ _ _ (unhide i3) (unhide i5) true (hide (by rw [TK.out]; simp))).mono ?_
  rintro e w6 ⟨rfl, b6⟩
  replace i0 := hide ((unhide i0).on b6)
  replace i2 := hide ((unhide i2).on b6)
  replace i3 := hide ((unhide i3).on b6)
  replace i5 := hide ((unhide i5).on b6)
  replace HB := hide ((unhide HB).trans (b6.mono (unhide HB).size))
  replace HT := hide ((unhide HT).on b6)
  clear b6
  go_wp2_with fail
  refine (awake_any _ (unhide HT)).mono ?_
  rintro e w7 ⟨rfl, b7⟩
  replace i0 := hide ((unhide i0).on b7)
  replace i2 := hide ((unhide i2).on b7)
  replace i3 := hide ((unhide i3).on b7)
  replace i5 := hide ((unhide i5).on b7)
  replace HB := hide ((unhide HB).trans (b7.mono (unhide HB).size))
  replace HT := hide ((unhide HT).on b7)
  clear b7
  go_wp2_with fail
  go_ret
  exact ⟨rfl, unhide HB⟩

set_option maxRecDepth 100000 in
set_option maxHeartbeats 1000000 in
theorem LLines_nn (x : Int) (l : Int) (A : Option Addr) (n c : Nat) (xs : List Int) (w : World) (i0 : Ints w w.heap.size A n c xs) (ht : Tab w) (hx : -9223372036854775808 ≤ (x : Int) ∧ (x : Int) ≤ 9223372036854775807) (HS : Hid (setB x l = false)) (HC : Hid (clB x xs = false)) (HC8 : Hid (clB x (xs.take 8) = false)) :
    Calls Tryd.prog 3 #[.int .i64 x, .int .i64 l, .slice A n c] w fun e w' => e = .returned (.bool true) ∧ Below w.heap.size w w' := by
  replace i0 := hide i0
  have HB := hide (Below.refl w.heap.size w)
  have HT := hide ht
  clear ht
  go_enter Tryd.func3, Tryd.ntmps3
  go_wp2_with fail
  refine (Blocks_no _ l HS _).mono ?_
  rintro e w1 ⟨rfl, b1⟩
  replace i0 := hide ((unhide i0).on b1)
  replace HB := hide ((unhide HB).trans (b1.mono (unhide HB).size))
  replace HT := hide ((unhide HT).on b1)
  clear b1
  go_wp2_with fail
  refine (list_ints _ _ _ _ _ _ (unhide i0) (Nat.le_refl _)).mono ?_
  rintro e w2 ⟨A2, n2, c2, rfl, i2, b2⟩
  replace i0 := hide ((unhide i0).on b2)
  replace i2 := hide i2
  replace HB := hide ((unhide HB).trans (b2.mono (unhide HB).size))
  replace HT := hide ((unhide HT).on b2)
  clear b2
  go_wp2_with fail
  refine (Lines_no _ hx _ _ _ _ _ (unhide i2) HC8).mono ?_
  rintro e w3 ⟨rfl, rfl⟩
  go_wp2_with fail
  refine (RSet_is _ _ _ _ HS).mono ?_
  rintro e w3 ⟨rfl, rfl⟩
  go_wp2_with fail
  refine (RClue_any _ _ _ _ _ _ (unhide i0)).mono ?_
  rintro e w3 ⟨rfl, b3⟩
  replace i0 := hide ((unhide i0).on b3)
  replace i2 := hide ((unhide i2).on b3)
  replace HB := hide ((unhide HB).trans (b3.mono (unhide HB).size))
  replace HT := hide ((unhide HT).on b3)
  clear b3
  rw [HC.out]
  go_wp2_with fail
  refine (awake_any _ (unhide HT)).mono ?_
  rintro e w4 ⟨rfl, b4⟩
  replace i0 := hide ((unhide i0).on b4)
  replace i2 := hide ((unhide i2).on b4)
  replace HB := hide ((unhide HB).trans (b4.mono (unhide HB).size))
  replace HT := hide ((unhide HT).on b4)
  clear b4
  go_wp2_with fail
  go_ret
  exact ⟨rfl, unhide HB⟩

theorem LLines_any (x l : Int) (hx : -9223372036854775808 ≤ x ∧ x ≤ 9223372036854775807) {A : Option Addr} {n c : Nat} {xs : List Int} {w : World} (i0 : Ints w w.heap.size A n c xs) (ht : Tab w) :
    Calls Tryd.prog 3 #[.int .i64 x, .int .i64 l, .slice A n c] w fun e w' => e = .returned (.bool true) ∧ Below w.heap.size w w' := by
  have h8 := clB_take x xs
  cases hs : setB x l with
  | true =>
    have hz : sz x = true := by unfold setB at hs; rw [Bool.and_eq_true] at hs; exact hs.1
    obtain ⟨m, rfl, h1, h2⟩ := sz_nat hz
    obtain ⟨k, rfl, hk⟩ := (setB_iff h1 h2 l).1 hs
    cases hc : clB m xs with
    | true => exact LLines_yy m k A n c xs w i0 ht h1 h2 (hide hs) (hide hc) (hide (h8.trans hc)) (hide hk) (hide (take_cl hc))
    | false => exact LLines_yn m k A n c xs w i0 ht h1 h2 hx (hide hs) (hide hc) (hide (h8.trans hc)) (hide hk)
  | false =>
    cases hc : clB x xs with
    | true =>
      have hz : sz x = true := by unfold clB at hc; rw [Bool.and_eq_true] at hc; exact hc.1
      obtain ⟨m, rfl, h1, h2⟩ := sz_nat hz
      exact LLines_ny m l A n c xs w i0 ht h1 h2 (hide hs) (hide hc) (hide (h8.trans hc)) (hide (take_cl hc))
    | false => exact LLines_nn x l A n c xs w i0 ht hx (hide hs) (hide hc) (hide (h8.trans hc))
end Go.Proofs.YtjhicbiacnkpaaaDoor
