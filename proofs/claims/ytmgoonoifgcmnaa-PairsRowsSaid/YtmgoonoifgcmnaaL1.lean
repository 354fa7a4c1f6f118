/-
  The law PairsRows.
-/
import Derived.Test.YtmgoonoifgcmnaaW5
import Derived.Test.YtmgoonoifgcmnaaX4
namespace Go.Proofs.Ytmgoonoifgcmnaa
open Go.RowKit

set_option maxRecDepth 100000 in
set_option maxHeartbeats 1000000 in
theorem LRows_sh (s : Int) (A : Option Addr) (n c : Nat) (xs : List Int) (w : World) (i0 : Ints w w.heap.size A n c xs) (HS : Hid (shB s = false)) (HF : Hid (rowB s (xs.take 20) = false)) :
    Calls Try.prog 3 #[.int .i64 s, .slice A n c] w fun e w' => e = .returned (.bool true) ∧ Below w.heap.size w w' := by
  have hm := i0.most; have hcap := i0.cap
  replace i0 := hide i0
  have HB := hide (Below.refl w.heap.size w)
  go_enter Try.func3, Try.ntmps3
  go_wp2_with fail
  refine (list_ints _ _ _ _ _ _ (unhide i0) (Nat.le_refl _)).mono ?_
  rintro e w1 ⟨A2, n2, c2, rfl, i2, b1⟩
  replace i0 := hide ((unhide i0).on b1)
  replace i2 := hide i2
  replace HB := hide ((unhide HB).trans (b1.mono (unhide HB).size))
  clear b1
  have hm2 := (unhide i2).most; have hcap2 := (unhide i2).cap
  go_wp2_with fail
  refine (IsRow_no _ _ _ _ _ hm2 hcap2 (.inl HS.out)).mono ?_
  rintro e wq ⟨rfl, rfl⟩
  go_wp2_with fail
  refine (list_ints _ _ _ _ _ _ (unhide i0) (Nat.le_refl _)).mono ?_
  rintro e w2 ⟨A3, n3, c3, rfl, i3, b2⟩
  replace i0 := hide ((unhide i0).on b2)
  replace i2 := hide ((unhide i2).on b2)
  replace i3 := hide i3
  replace HB := hide ((unhide HB).trans (b2.mono (unhide HB).size))
  clear b2
  have hn3 : n3 ≤ 1000 := by rw [← (unhide i3).len, List.length_take]; omega
  go_wp2_with fail
  refine (Places_no _ _ _ _ _ _ _ (unhide i3) hn3 HF).mono ?_
  rintro e wq ⟨rfl, rfl⟩
  go_wp2_with fail
  refine (RShift_any _ _ false HS).mono ?_
  rintro e wq ⟨rfl, rfl⟩
  go_wp2_with fail
  refine (awake_any _).mono ?_
  rintro e w3 ⟨rfl, b3⟩
  replace i0 := hide ((unhide i0).on b3)
  replace i2 := hide ((unhide i2).on b3)
  replace i3 := hide ((unhide i3).on b3)
  replace HB := hide ((unhide HB).trans (b3.mono (unhide HB).size))
  clear b3
  go_wp2_with fail
  go_ret
  exact ⟨rfl, unhide HB⟩

set_option maxRecDepth 100000 in
set_option maxHeartbeats 1000000 in
theorem LRows_far (s : Int) (A : Option Addr) (n c : Nat) (xs : List Int) (w : World) (i0 : Ints w w.heap.size A n c xs) (HS : Hid (shB s = true)) (hn : 16 < n) (HF : Hid (rowB s (xs.take 20) = false)) :
    Calls Try.prog 3 #[.int .i64 s, .slice A n c] w fun e w' => e = .returned (.bool true) ∧ Below w.heap.size w w' := by
  have hm := i0.most; have hcap := i0.cap
  have hl := hide i0.len
  have d16 : decide ((16 : Int) < (n : Int)) = true := by simp; omega
  replace i0 := hide i0
  have HB := hide (Below.refl w.heap.size w)
  go_enter Try.func3, Try.ntmps3
  go_wp2_with fail
  refine (list_ints _ _ _ _ _ _ (unhide i0) (Nat.le_refl _)).mono ?_
  rintro e w1 ⟨A2, n2, c2, rfl, i2, b1⟩
  replace i0 := hide ((unhide i0).on b1)
  replace i2 := hide i2
  replace HB := hide ((unhide HB).trans (b1.mono (unhide HB).size))
  clear b1
  have hm2 := (unhide i2).most; have hcap2 := (unhide i2).cap
  have hn2 : 16 < n2 := by rw [← (unhide i2).len, List.length_take, hl.out]; omega
  go_wp2_with fail
  refine (IsRow_no _ _ _ _ _ hm2 hcap2 (.inr hn2)).mono ?_
  rintro e wq ⟨rfl, rfl⟩
  go_wp2_with fail
  refine (list_ints _ _ _ _ _ _ (unhide i0) (Nat.le_refl _)).mono ?_
  rintro e w2 ⟨A3, n3, c3, rfl, i3, b2⟩
  replace i0 := hide ((unhide i0).on b2)
  replace i2 := hide ((unhide i2).on b2)
  replace i3 := hide i3
  replace HB := hide ((unhide HB).trans (b2.mono (unhide HB).size))
  clear b2
  have hn3 : n3 ≤ 1000 := by rw [← (unhide i3).len, List.length_take]; omega
  go_wp2_with fail
  refine (Places_no _ _ _ _ _ _ _ (unhide i3) hn3 HF).mono ?_
  rintro e wq ⟨rfl, rfl⟩
  go_wp2_with fail
  refine (RShift_any _ _ true HS).mono ?_
  rintro e wq ⟨rfl, rfl⟩
  go_wp2_with fail
  refine (awake_any _).mono ?_
  rintro e w3 ⟨rfl, b3⟩
  replace i0 := hide ((unhide i0).on b3)
  replace i2 := hide ((unhide i2).on b3)
  replace i3 := hide ((unhide i3).on b3)
  replace HB := hide ((unhide HB).trans (b3.mono (unhide HB).size))
  clear b3
  go_wp2_with fail
  go_ret
  exact ⟨rfl, unhide HB⟩

set_option maxRecDepth 100000 in
set_option maxHeartbeats 1000000 in
theorem LRows_none (s : Int) (A : Option Addr) (n c : Nat) (xs : List Int) (w : World) (i0 : Ints w w.heap.size A n c xs) (HS : Hid (shB s = true)) (hn : n ≤ 16) (TK : Hid (xs.take 20 = xs)) (HF : Hid (rowB s xs = false)) :
    Calls Try.prog 3 #[.int .i64 s, .slice A n c] w fun e w' => e = .returned (.bool true) ∧ Below w.heap.size w w' := by
  have hm := i0.most; have hcap := i0.cap
  have hl := hide i0.len
  have d16 : decide ((16 : Int) < (n : Int)) = false := by simp; omega
  obtain ⟨m, rfl, h1, h2⟩ := sh_nat HS.out
  replace i0 := hide i0
  have HB := hide (Below.refl w.heap.size w)
  go_enter Try.func3, Try.ntmps3
  go_wp2_with fail
  refine (list_ints _ _ _ _ _ _ (unhide i0) (Nat.le_refl _)).mono ?_
  rintro e w1 ⟨A2, n2, c2, rfl, i2, b1⟩
  replace i0 := hide ((unhide i0).on b1)
  replace i2 := hide i2
  replace HB := hide ((unhide HB).trans (b1.mono (unhide HB).size))
  clear b1
  rw [TK.out] at i2
  have hn2 : n2 ≤ 16 := by rw [← (unhide i2).len, hl.out]; omega
  go_wp2_with fail
  refine (IsRow_ok _ _ _ _ _ _ _ (unhide i2) hn2 HS false HF).mono ?_
  rintro e wq ⟨rfl, rfl⟩
  go_wp2_with fail
  refine (list_ints _ _ _ _ _ _ (unhide i0) (Nat.le_refl _)).mono ?_
  rintro e w2 ⟨A3, n3, c3, rfl, i3, b2⟩
  replace i0 := hide ((unhide i0).on b2)
  replace i2 := hide ((unhide i2).on b2)
  replace i3 := hide i3
  replace HB := hide ((unhide HB).trans (b2.mono (unhide HB).size))
  clear b2
  rw [TK.out] at i3
  have hn3 : n3 ≤ 1000 := by rw [← (unhide i3).len, hl.out]; omega
  go_wp2_with fail
  refine (Places_no _ _ _ _ _ _ _ (unhide i3) hn3 HF).mono ?_
  rintro e wq ⟨rfl, rfl⟩
  go_wp2_with fail
  refine (RShift_any _ _ true HS).mono ?_
  rintro e wq ⟨rfl, rfl⟩
  go_wp2_with fail
  refine (RIsRow_s m ⟨h1, h2⟩ _ _ _ _ _ (unhide i0)).mono ?_
  rintro e w3 ⟨rfl, b3⟩
  replace i0 := hide ((unhide i0).on b3)
  replace i2 := hide ((unhide i2).on b3)
  replace i3 := hide ((unhide i3).on b3)
  replace HB := hide ((unhide HB).trans (b3.mono (unhide HB).size))
  clear b3
  rw [show rowR (m : Int) xs = false from (row_same HS.out xs).trans HF.out]
  go_wp2_with fail
  refine (awake_any _).mono ?_
  rintro e w4 ⟨rfl, b4⟩
  replace i0 := hide ((unhide i0).on b4)
  replace i2 := hide ((unhide i2).on b4)
  replace i3 := hide ((unhide i3).on b4)
  replace HB := hide ((unhide HB).trans (b4.mono (unhide HB).size))
  clear b4
  go_wp2_with fail
  go_ret
  exact ⟨rfl, unhide HB⟩

set_option maxRecDepth 100000 in
set_option maxHeartbeats 1000000 in
theorem LRows_row (s : Int) (A : Option Addr) (n c : Nat) (xs : List Int) (w : World) (i0 : Ints w w.heap.size A n c xs) (HS : Hid (shB s = true)) (hn : n ≤ 16) (TK : Hid (xs.take 20 = xs)) (HF : Hid (rowB s xs = true)) :
    Calls Try.prog 3 #[.int .i64 s, .slice A n c] w fun e w' => e = .returned (.bool true) ∧ Below w.heap.size w w' := by
  have hm := i0.most; have hcap := i0.cap
  have hl := hide i0.len
  have d16 : decide ((16 : Int) < (n : Int)) = false := by simp; omega
  obtain ⟨m, rfl, h1, h2⟩ := sh_nat HS.out
  replace i0 := hide i0
  have HB := hide (Below.refl w.heap.size w)
  go_enter Try.func3, Try.ntmps3
  go_wp2_with fail
  refine (list_ints _ _ _ _ _ _ (unhide i0) (Nat.le_refl _)).mono ?_
  rintro e w1 ⟨A2, n2, c2, rfl, i2, b1⟩
  replace i0 := hide ((unhide i0).on b1)
  replace i2 := hide i2
  replace HB := hide ((unhide HB).trans (b1.mono (unhide HB).size))
  clear b1
  rw [TK.out] at i2
  have hn2 : n2 ≤ 16 := by rw [← (unhide i2).len, hl.out]; omega
  go_wp2_with fail
  refine (IsRow_ok _ _ _ _ _ _ _ (unhide i2) hn2 HS true HF).mono ?_
  rintro e wq ⟨rfl, rfl⟩
  go_wp2_with fail
  refine (list_ints _ _ _ _ _ _ (unhide i0) (Nat.le_refl _)).mono ?_
  rintro e w2 ⟨A3, n3, c3, rfl, i3, b2⟩
  replace i0 := hide ((unhide i0).on b2)
  replace i2 := hide ((unhide i2).on b2)
  replace i3 := hide i3
  replace HB := hide ((unhide HB).trans (b2.mono (unhide HB).size))
  clear b2
  rw [TK.out] at i3
  have hn3 : n3 ≤ 1000 := by rw [← (unhide i3).len, hl.out]; omega
  go_wp2_with fail
  refine (Places_ok _ _ _ _ _ _ (unhide i3) hn3 HF).mono ?_
  rintro e w3 ⟨A4, n4, c4, rfl, i4, b3⟩
  replace i0 := hide ((unhide i0).on b3)
  replace i2 := hide ((unhide i2).on b3)
  replace i3 := hide ((unhide i3).on b3)
  replace i4 := hide i4
  replace HB := hide ((unhide HB).trans (b3.mono (unhide HB).size))
  clear b3
  go_wp2_with fail
  refine (RShift_any _ _ true HS).mono ?_
  rintro e wq ⟨rfl, rfl⟩
  go_wp2_with fail
  refine (RIsRow_s m ⟨h1, h2⟩ _ _ _ _ _ (unhide i0)).mono ?_
  rintro e w4 ⟨rfl, b4⟩
  replace i0 := hide ((unhide i0).on b4)
  replace i2 := hide ((unhide i2).on b4)
  replace i3 := hide ((unhide i3).on b4)
  replace i4 := hide ((unhide i4).on b4)
  replace HB := hide ((unhide HB).trans (b4.mono (unhide HB).size))
  clear b4
  rw [show rowR (m : Int) xs = true from (row_same HS.out xs).trans HF.out]
  go_wp2_with fail
  refine (RPlaces_any _ _ _ _ _ _ (unhide i0) HF).mono ?_
  rintro e w5 ⟨A5, n5, c5, rfl, i5, b5⟩
  replace i0 := hide ((unhide i0).on b5)
  replace i2 := hide ((unhide i2).on b5)
  replace i3 := hide ((unhide i3).on b5)
  replace i4 := hide ((unhide i4).on b5)
  replace i5 := hide i5
  replace HB := hide ((unhide HB).trans (b5.mono (unhide HB).size))
  clear b5
  go_wp2_with fail
  refine (equal_is _ _ _ _ _ _ _ _ _ _ _ (unhide i4) (unhide i5) (hide rfl)).mono ?_
  rintro e w6 ⟨rfl, qq6, hq6⟩
  have b6 : Below w5.heap.size w5 w6 := by rw [hq6]; exact Below.drewN' (Below.refl _ _) qq6
  clear hq6
  replace i0 := hide ((unhide i0).on b6)
  replace i2 := hide ((unhide i2).on b6)
  replace i3 := hide ((unhide i3).on b6)
  replace i4 := hide ((unhide i4).on b6)
  replace i5 := hide ((unhide i5).on b6)
  replace HB := hide ((unhide HB).trans (b6.mono (unhide HB).size))
  clear b6
  go_wp2_with fail
  refine (awake_any _).mono ?_
  rintro e w7 ⟨rfl, b7⟩
  replace i0 := hide ((unhide i0).on b7)
  replace i2 := hide ((unhide i2).on b7)
  replace i3 := hide ((unhide i3).on b7)
  replace i4 := hide ((unhide i4).on b7)
  replace i5 := hide ((unhide i5).on b7)
  replace HB := hide ((unhide HB).trans (b7.mono (unhide HB).size))
  clear b7
  go_wp2_with fail
  go_ret
  exact ⟨rfl, unhide HB⟩

theorem LRows_any (s : Int) {A : Option Addr} {n c : Nat} {xs : List Int} {w : World} (i0 : Ints w w.heap.size A n c xs) :
    Calls Try.prog 3 #[.int .i64 s, .slice A n c] w fun e w' => e = .returned (.bool true) ∧ Below w.heap.size w w' := by
  cases hs : shB s with
  | false => exact LRows_sh s A n c xs w i0 (hide hs) (hide (by unfold rowB; rw [hs]; rfl))
  | true =>
    have hl := i0.len
    rcases Nat.lt_or_ge 16 n with h | h
    · exact LRows_far s A n c xs w i0 (hide hs) h (hide (row_far (by rw [List.length_take]; omega)))
    · have tk : xs.take 20 = xs := List.take_of_length_le (by omega)
      cases hr : rowB s xs with
      | false => exact LRows_none s A n c xs w i0 (hide hs) h (hide tk) (hide hr)
      | true => exact LRows_row s A n c xs w i0 (hide hs) h (hide tk) (hide hr)
end Go.Proofs.Ytmgoonoifgcmnaa
