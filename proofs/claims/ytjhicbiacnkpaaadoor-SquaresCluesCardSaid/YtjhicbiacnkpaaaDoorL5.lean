/-
  The law SquaresClues.
-/
import Derived.Test.YtjhicbiacnkpaaaDoorWd
namespace Go.Proofs.YtjhicbiacnkpaaaDoor
open Go.RowKit

set_option maxRecDepth 100000 in
set_option maxHeartbeats 1000000 in
theorem LClues_no (x : Int) (A : Option Addr) (n c : Nat) (xs : List Int) (w : World) (i0 : Ints w w.heap.size A n c xs) (ht : Tab w) (HP : Hid (picB x xs = false)) (HP8 : Hid (picB x (xs.take 8) = false)) :
    Calls Tryd.prog 5 #[.int .i64 x, .slice A n c] w fun e w' => e = .returned (.bool true) ∧ Below w.heap.size w w' := by
  replace i0 := hide i0
  have HB := hide (Below.refl w.heap.size w)
  have HT := hide ht
  clear ht
  go_enter Tryd.func5, Tryd.ntmps5
  go_wp2_with fail
  refine (list_ints _ _ _ _ _ _ (unhide i0) (Nat.le_refl _)).mono ?_
  rintro e w1 ⟨A2, n2, c2, rfl, i2, b1⟩
  replace i0 := hide ((unhide i0).on b1)
  replace i2 := hide i2
  replace HB := hide ((unhide HB).trans (b1.mono (unhide HB).size))
  replace HT := hide ((unhide HT).on b1)
  clear b1
  go_wp2_with fail
  refine (Clues_no x _ _ _ _ _ (unhide i2) HP8).mono ?_
  rintro e w2 ⟨rfl, b2⟩
  replace i0 := hide ((unhide i0).on b2)
  replace i2 := hide ((unhide i2).on b2)
  replace HB := hide ((unhide HB).trans (b2.mono (unhide HB).size))
  replace HT := hide ((unhide HT).on b2)
  clear b2
  have b3 := (Below.refl w2.heap.size w2).alloc (Nat.le_refl _) (.cells #[.slice none 0 0, .slice none 0 0] 40)
  replace i0 := hide ((unhide i0).on b3)
  replace i2 := hide ((unhide i2).on b3)
  replace HB := hide ((unhide HB).trans (b3.mono (unhide HB).size))
  replace HT := hide ((unhide HT).on b3)
  clear b3
  go_wp2_with fail
  refine (RPicture_any _ _ _ _ _ _ _ (unhide i0) _ HP).mono ?_
  rintro e w4 ⟨rfl, rfl⟩
  go_wp2_with fail
  refine (awake_any _ (unhide HT)).mono ?_
  rintro e w4 ⟨rfl, b4⟩
  replace i0 := hide ((unhide i0).on b4)
  replace i2 := hide ((unhide i2).on b4)
  replace HB := hide ((unhide HB).trans (b4.mono (unhide HB).size))
  replace HT := hide ((unhide HT).on b4)
  clear b4
  go_wp2_with fail
  go_ret
  exact ⟨rfl, unhide HB⟩

set_option maxRecDepth 100000 in
set_option maxHeartbeats 1000000 in
theorem LClues_yes (m : Nat) (h1 : 1 ≤ m) (h2 : m ≤ 5) (A : Option Addr) (n c : Nat) (xs : List Int) (w : World) (i0 : Ints w w.heap.size A n c xs) (ht : Tab w) (hn : 1 ≤ n ∧ n ≤ 5) (HP : Hid (picB m xs = true)) (HA : Hid (ars m xs = true)) (TK : Hid (xs.take 8 = xs)) :
    Calls Tryd.prog 5 #[.int .i64 m, .slice A n c] w fun e w' => e = .returned (.bool true) ∧ Below w.heap.size w w' := by
  have HL := hide i0.len
  replace i0 := hide i0
  have HB := hide (Below.refl w.heap.size w)
  have HT := hide ht
  clear ht
  go_enter Tryd.func5, Tryd.ntmps5
  go_wp2_with fail
  refine (list_ints _ _ _ _ _ _ (unhide i0) (Nat.le_refl _)).mono ?_
  rintro e w1 ⟨A2, n2, c2, rfl, i2, b1⟩
  replace i0 := hide ((unhide i0).on b1)
  replace i2 := hide i2
  replace HB := hide ((unhide HB).trans (b1.mono (unhide HB).size))
  replace HT := hide ((unhide HT).on b1)
  clear b1
  rw [TK.out] at i2
  have hn2 := hide (show 1 ≤ n2 ∧ n2 ≤ 5 from by have := i2.out.len; rw [HL.out] at this; omega)
  go_wp2_with fail
  refine (Clues_ok m h1 h2 _ _ _ _ _ (unhide i2) (unhide HT) hn2.out HA).mono ?_
  rintro e w2 ⟨A3, n3, c3, A4, n4, c4, rfl, r3, r4, b2⟩
  replace i0 := hide ((unhide i0).on b2)
  replace i2 := hide ((unhide i2).on b2)
  replace r3 := hide r3
  replace r4 := hide r4
  replace HB := hide ((unhide HB).trans (b2.mono (unhide HB).size))
  replace HT := hide ((unhide HT).on b2)
  clear b2
  have b3 := (Below.refl w2.heap.size w2).alloc (Nat.le_refl _) (.cells #[.slice A3 n3 c3, .slice A4 n4 c4] 40)
  replace i0 := hide ((unhide i0).on b3)
  replace i2 := hide ((unhide i2).on b3)
  replace r3 := hide ((unhide r3).on b3)
  replace r4 := hide ((unhide r4).on b3)
  replace HB := hide ((unhide HB).trans (b3.mono (unhide HB).size))
  replace HT := hide ((unhide HT).on b3)
  clear b3
  go_wp2_with fail
  refine (RPicture_any _ _ _ _ _ _ _ (unhide i0) _ HP).mono ?_
  rintro e w4 ⟨rfl, rfl⟩
  go_wp2_with fail
  refine (own_any _ _ _ _ _ _ _).mono ?_
  rintro e w4 ⟨rfl, b4⟩
  replace i0 := hide ((unhide i0).on b4)
  replace i2 := hide ((unhide i2).on b4)
  replace r3 := hide ((unhide r3).on b4)
  replace r4 := hide ((unhide r4).on b4)
  replace HB := hide ((unhide HB).trans (b4.mono (unhide HB).size))
  replace HT := hide ((unhide HT).on b4)
  clear b4
  go_wp2_with fail
  refine (RClues_ok m h1 h2 _ _ _ _ _ (unhide i0) hn HA).mono ?_
  rintro e w5 ⟨A5, n5, c5, A6, n6, c6, rfl, r5, r6, b5⟩
  replace i0 := hide ((unhide i0).on b5)
  replace i2 := hide ((unhide i2).on b5)
  replace r3 := hide ((unhide r3).on b5)
  replace r4 := hide ((unhide r4).on b5)
  replace r5 := hide r5
  replace r6 := hide r6
  replace HB := hide ((unhide HB).trans (b5.mono (unhide HB).size))
  replace HT := hide ((unhide HT).on b5)
  clear b5
  obtain rfl : n3 = n5 := by rw [← r3.out.len, ← r5.out.len]
  obtain rfl : n4 = n6 := by rw [← r4.out.len, ← r6.out.len]
  go_wp2_with fail
  refine (Same_yes _ _ _ _ _ _ _ _ _ _ _ _ _ (unhide r3) (unhide r4) (unhide r5) (unhide r6)).mono ?_
  rintro e w6 ⟨rfl, b6⟩
  replace i0 := hide ((unhide i0).on b6)
  replace i2 := hide ((unhide i2).on b6)
  replace r3 := hide ((unhide r3).on b6)
  replace r4 := hide ((unhide r4).on b6)
  replace r5 := hide ((unhide r5).on b6)
  replace r6 := hide ((unhide r6).on b6)
  replace HB := hide ((unhide HB).trans (b6.mono (unhide HB).size))
  replace HT := hide ((unhide HT).on b6)
  clear b6
  go_wp2_with fail
  refine (awake_any _ (unhide HT)).mono ?_
  rintro e w7 ⟨rfl, b7⟩
  replace i0 := hide ((unhide i0).on b7)
  replace i2 := hide ((unhide i2).on b7)
  replace r3 := hide ((unhide r3).on b7)
  replace r4 := hide ((unhide r4).on b7)
  replace r5 := hide ((unhide r5).on b7)
  replace r6 := hide ((unhide r6).on b7)
  replace HB := hide ((unhide HB).trans (b7.mono (unhide HB).size))
  replace HT := hide ((unhide HT).on b7)
  clear b7
  go_wp2_with fail
  go_ret
  exact ⟨rfl, unhide HB⟩

theorem LClues_any (x : Int) {A : Option Addr} {n c : Nat} {xs : List Int} {w : World} (i0 : Ints w w.heap.size A n c xs) (ht : Tab w) :
    Calls Tryd.prog 5 #[.int .i64 x, .slice A n c] w fun e w' => e = .returned (.bool true) ∧ Below w.heap.size w w' := by
  have h8 := picB_take x xs
  cases hp : picB x xs with
  | false => exact LClues_no x A n c xs w i0 ht (hide hp) (hide (h8.trans hp))
  | true =>
    have hp' := hp
    unfold picB at hp
    rw [Bool.and_eq_true] at hp
    have hz : sz x = true := by have := hp.2; unfold ars at this; rw [Bool.and_eq_true] at this; exact this.1
    obtain ⟨m, rfl, h1, h2⟩ := sz_nat hz
    have hn := sz_iff.1 hp.1
    rw [i0.len] at hn
    exact LClues_yes m h1 h2 A n c xs w i0 ht (by omega) (hide hp') (hide hp.2) (hide (pic_take hp'))
end Go.Proofs.YtjhicbiacnkpaaaDoor
