/-
  The law PairsSplits, of no row.
-/
import Derived.Test.YtmgoonoifgcmnaaS6
import Derived.Test.YtmgoonoifgcmnaaA3
namespace Go.Proofs.Ytmgoonoifgcmnaa
open Go.RowKit

theorem row_take {s : Int} (xs : List Int) : rowB s (xs.take 20) = rowB s xs := by
  rcases Nat.lt_or_ge 20 xs.length with h | h
  · rw [row_far (by rw [List.length_take]; omega), row_far (by omega)]
  · rw [List.take_of_length_le h]
theorem pinB_far {xs : List Int} (h : 6 < xs.length) : pinB xs = false := by
  unfold pinB pcB
  rw [show decide (xs.length ≤ 6) = false by simp; omega]
  simp
theorem pin_takeB (xs : List Int) : pinB (xs.take 20) = pinB xs := by
  rcases Nat.lt_or_ge 20 xs.length with h | h
  · rw [pinB_far (by rw [List.length_take]; omega), pinB_far (by omega)]
  · rw [List.take_of_length_le h]
set_option maxRecDepth 100000 in
set_option maxHeartbeats 2000000 in
theorem LSplits_0_sh_0 (s : Int) (A : Option Addr) (n c : Nat) (xs : List Int) (A' : Option Addr) (m c' : Nat) (ys : List Int) (w : World) (i0 : Ints w w.heap.size A n c xs) (j0 : Ints w w.heap.size A' m c' ys) (R1 : Hid (rowB 1 xs = false)) (HS : Hid (shB s = false)) (R2 : Hid (rowB s xs = false)) (PB : Hid (pinB ys = false)) (hpn : m = 0) :
    Calls Try.prog 9 #[.int .i64 s, .slice A n c, .slice A' m c'] w fun e w' => e = .returned (.bool true) ∧ Below w.heap.size w w' := by
  have hl := hide i0.len
  have hm := i0.most; have hcap := i0.cap
  have hlp := hide j0.len
  have hmp := j0.most; have hcapp := j0.cap
  subst hpn
  replace i0 := hide i0
  replace j0 := hide j0
  have HB := hide (Below.refl w.heap.size w)
  go_enter Try.func9, Try.ntmps9
  go_wp2_with fail
  refine (list_ints _ _ _ _ _ _ (unhide i0) (Nat.le_refl _)).mono ?_
  rintro e w1 ⟨A2, n2, c2, rfl, i2, b1⟩
  replace i0 := hide ((unhide i0).on b1)
  replace j0 := hide ((unhide j0).on b1)
  replace i2 := hide i2
  replace HB := hide ((unhide HB).trans (b1.mono (unhide HB).size))
  clear b1
  have hn2 : n2 ≤ 1000 := by rw [← (unhide i2).len, List.length_take]; omega
  go_wp2_with fail
  refine (Split_no _ _ _ _ _ _ (unhide i2) hn2 (hide ((row_take xs).trans R1.out))).mono ?_
  rintro e wq ⟨rfl, rfl⟩
  go_wp2_with fail
  refine (list_ints _ _ _ _ _ _ (unhide i0) (Nat.le_refl _)).mono ?_
  rintro e w2 ⟨A4, n4, c4, rfl, i4, b2⟩
  replace i0 := hide ((unhide i0).on b2)
  replace j0 := hide ((unhide j0).on b2)
  replace i2 := hide ((unhide i2).on b2)
  replace i4 := hide i4
  replace HB := hide ((unhide HB).trans (b2.mono (unhide HB).size))
  clear b2
  have hn4 : n4 ≤ 1000 := by rw [← (unhide i4).len, List.length_take]; omega
  go_wp2_with fail
  refine (Turn_no _ _ _ _ _ _ _ (unhide i4) hn4 (hide ((row_take xs).trans R2.out))).mono ?_
  rintro e wq ⟨rfl, rfl⟩
  go_wp2_with fail
  refine (list_ints _ _ _ _ _ _ (unhide j0) (Nat.le_refl _)).mono ?_
  rintro e w3 ⟨A6, n6, c6, rfl, i6, b3⟩
  replace i0 := hide ((unhide i0).on b3)
  replace j0 := hide ((unhide j0).on b3)
  replace i2 := hide ((unhide i2).on b3)
  replace i4 := hide ((unhide i4).on b3)
  replace i6 := hide i6
  replace HB := hide ((unhide HB).trans (b3.mono (unhide HB).size))
  clear b3
  go_wp2_with fail
  refine (Quarter_no _ _ _ _ _ (unhide i6) (hide ((pin_takeB ys).trans PB.out))).mono ?_
  rintro e w4 ⟨rfl, b4⟩
  replace i0 := hide ((unhide i0).on b4)
  replace j0 := hide ((unhide j0).on b4)
  replace i2 := hide ((unhide i2).on b4)
  replace i4 := hide ((unhide i4).on b4)
  replace i6 := hide ((unhide i6).on b4)
  replace HB := hide ((unhide HB).trans (b4.mono (unhide HB).size))
  clear b4
  go_wp2_with fail
  refine (RIsRow_s 1 (by omega) _ _ _ _ _ (unhide i0)).mono ?_
  rintro e w5 ⟨rfl, b5⟩
  replace i0 := hide ((unhide i0).on b5)
  replace j0 := hide ((unhide j0).on b5)
  replace i2 := hide ((unhide i2).on b5)
  replace i4 := hide ((unhide i4).on b5)
  replace i6 := hide ((unhide i6).on b5)
  replace HB := hide ((unhide HB).trans (b5.mono (unhide HB).size))
  clear b5
  rw [show rowR ((1 : Nat) : Int) xs = false from (row_same (by rfl) xs).trans R1.out]
  go_wp2_with fail
  refine (RShift_any _ _ false HS).mono ?_
  rintro e wq ⟨rfl, rfl⟩
  go_wp2_with fail
  refine (awake_any _).mono ?_
  rintro e w6 ⟨rfl, b6⟩
  replace i0 := hide ((unhide i0).on b6)
  replace j0 := hide ((unhide j0).on b6)
  replace i2 := hide ((unhide i2).on b6)
  replace i4 := hide ((unhide i4).on b6)
  replace i6 := hide ((unhide i6).on b6)
  replace HB := hide ((unhide HB).trans (b6.mono (unhide HB).size))
  clear b6
  go_wp2_with fail
  go_ret
  exact ⟨rfl, unhide HB⟩

set_option maxRecDepth 100000 in
set_option maxHeartbeats 2000000 in
theorem LSplits_0_sh_far (s : Int) (A : Option Addr) (n c : Nat) (xs : List Int) (A' : Option Addr) (m c' : Nat) (ys : List Int) (w : World) (i0 : Ints w w.heap.size A n c xs) (j0 : Ints w w.heap.size A' m c' ys) (R1 : Hid (rowB 1 xs = false)) (HS : Hid (shB s = false)) (R2 : Hid (rowB s xs = false)) (PB : Hid (pinB ys = false)) (hpn : 6 < m) :
    Calls Try.prog 9 #[.int .i64 s, .slice A n c, .slice A' m c'] w fun e w' => e = .returned (.bool true) ∧ Below w.heap.size w w' := by
  have hl := hide i0.len
  have hm := i0.most; have hcap := i0.cap
  have hlp := hide j0.len
  have hmp := j0.most; have hcapp := j0.cap
  have dp1 : decide ((m : Int) < 1) = false := by simp; omega
  have dp2 : decide ((6 : Int) < (m : Int)) = true := by simp; omega
  replace i0 := hide i0
  replace j0 := hide j0
  have HB := hide (Below.refl w.heap.size w)
  go_enter Try.func9, Try.ntmps9
  go_wp2_with fail
  refine (list_ints _ _ _ _ _ _ (unhide i0) (Nat.le_refl _)).mono ?_
  rintro e w1 ⟨A2, n2, c2, rfl, i2, b1⟩
  replace i0 := hide ((unhide i0).on b1)
  replace j0 := hide ((unhide j0).on b1)
  replace i2 := hide i2
  replace HB := hide ((unhide HB).trans (b1.mono (unhide HB).size))
  clear b1
  have hn2 : n2 ≤ 1000 := by rw [← (unhide i2).len, List.length_take]; omega
  go_wp2_with fail
  refine (Split_no _ _ _ _ _ _ (unhide i2) hn2 (hide ((row_take xs).trans R1.out))).mono ?_
  rintro e wq ⟨rfl, rfl⟩
  go_wp2_with fail
  refine (list_ints _ _ _ _ _ _ (unhide i0) (Nat.le_refl _)).mono ?_
  rintro e w2 ⟨A4, n4, c4, rfl, i4, b2⟩
  replace i0 := hide ((unhide i0).on b2)
  replace j0 := hide ((unhide j0).on b2)
  replace i2 := hide ((unhide i2).on b2)
  replace i4 := hide i4
  replace HB := hide ((unhide HB).trans (b2.mono (unhide HB).size))
  clear b2
  have hn4 : n4 ≤ 1000 := by rw [← (unhide i4).len, List.length_take]; omega
  go_wp2_with fail
  refine (Turn_no _ _ _ _ _ _ _ (unhide i4) hn4 (hide ((row_take xs).trans R2.out))).mono ?_
  rintro e wq ⟨rfl, rfl⟩
  go_wp2_with fail
  refine (list_ints _ _ _ _ _ _ (unhide j0) (Nat.le_refl _)).mono ?_
  rintro e w3 ⟨A6, n6, c6, rfl, i6, b3⟩
  replace i0 := hide ((unhide i0).on b3)
  replace j0 := hide ((unhide j0).on b3)
  replace i2 := hide ((unhide i2).on b3)
  replace i4 := hide ((unhide i4).on b3)
  replace i6 := hide i6
  replace HB := hide ((unhide HB).trans (b3.mono (unhide HB).size))
  clear b3
  go_wp2_with fail
  refine (Quarter_no _ _ _ _ _ (unhide i6) (hide ((pin_takeB ys).trans PB.out))).mono ?_
  rintro e w4 ⟨rfl, b4⟩
  replace i0 := hide ((unhide i0).on b4)
  replace j0 := hide ((unhide j0).on b4)
  replace i2 := hide ((unhide i2).on b4)
  replace i4 := hide ((unhide i4).on b4)
  replace i6 := hide ((unhide i6).on b4)
  replace HB := hide ((unhide HB).trans (b4.mono (unhide HB).size))
  clear b4
  go_wp2_with fail
  refine (RIsRow_s 1 (by omega) _ _ _ _ _ (unhide i0)).mono ?_
  rintro e w5 ⟨rfl, b5⟩
  replace i0 := hide ((unhide i0).on b5)
  replace j0 := hide ((unhide j0).on b5)
  replace i2 := hide ((unhide i2).on b5)
  replace i4 := hide ((unhide i4).on b5)
  replace i6 := hide ((unhide i6).on b5)
  replace HB := hide ((unhide HB).trans (b5.mono (unhide HB).size))
  clear b5
  rw [show rowR ((1 : Nat) : Int) xs = false from (row_same (by rfl) xs).trans R1.out]
  go_wp2_with fail
  refine (RShift_any _ _ false HS).mono ?_
  rintro e wq ⟨rfl, rfl⟩
  go_wp2_with fail
  refine (awake_any _).mono ?_
  rintro e w6 ⟨rfl, b6⟩
  replace i0 := hide ((unhide i0).on b6)
  replace j0 := hide ((unhide j0).on b6)
  replace i2 := hide ((unhide i2).on b6)
  replace i4 := hide ((unhide i4).on b6)
  replace i6 := hide ((unhide i6).on b6)
  replace HB := hide ((unhide HB).trans (b6.mono (unhide HB).size))
  clear b6
  go_wp2_with fail
  go_ret
  exact ⟨rfl, unhide HB⟩

set_option maxRecDepth 100000 in
set_option maxHeartbeats 2000000 in
theorem LSplits_0_sh_no (s : Int) (A : Option Addr) (n c : Nat) (xs : List Int) (A' : Option Addr) (m c' : Nat) (ys : List Int) (w : World) (i0 : Ints w w.heap.size A n c xs) (j0 : Ints w w.heap.size A' m c' ys) (R1 : Hid (rowB 1 xs = false)) (HS : Hid (shB s = false)) (R2 : Hid (rowB s xs = false)) (PB : Hid (pinB ys = false)) (hpn : 1 ≤ m ∧ m ≤ 6) :
    Calls Try.prog 9 #[.int .i64 s, .slice A n c, .slice A' m c'] w fun e w' => e = .returned (.bool true) ∧ Below w.heap.size w w' := by
  have hl := hide i0.len
  have hm := i0.most; have hcap := i0.cap
  have hlp := hide j0.len
  have hmp := j0.most; have hcapp := j0.cap
  have dp1 : decide ((m : Int) < 1) = false := by simp; omega
  have dp2 : decide ((6 : Int) < (m : Int)) = false := by simp; omega
  replace i0 := hide i0
  replace j0 := hide j0
  have HB := hide (Below.refl w.heap.size w)
  go_enter Try.func9, Try.ntmps9
  go_wp2_with fail
  refine (list_ints _ _ _ _ _ _ (unhide i0) (Nat.le_refl _)).mono ?_
  rintro e w1 ⟨A2, n2, c2, rfl, i2, b1⟩
  replace i0 := hide ((unhide i0).on b1)
  replace j0 := hide ((unhide j0).on b1)
  replace i2 := hide i2
  replace HB := hide ((unhide HB).trans (b1.mono (unhide HB).size))
  clear b1
  have hn2 : n2 ≤ 1000 := by rw [← (unhide i2).len, List.length_take]; omega
  go_wp2_with fail
  refine (Split_no _ _ _ _ _ _ (unhide i2) hn2 (hide ((row_take xs).trans R1.out))).mono ?_
  rintro e wq ⟨rfl, rfl⟩
  go_wp2_with fail
  refine (list_ints _ _ _ _ _ _ (unhide i0) (Nat.le_refl _)).mono ?_
  rintro e w2 ⟨A4, n4, c4, rfl, i4, b2⟩
  replace i0 := hide ((unhide i0).on b2)
  replace j0 := hide ((unhide j0).on b2)
  replace i2 := hide ((unhide i2).on b2)
  replace i4 := hide i4
  replace HB := hide ((unhide HB).trans (b2.mono (unhide HB).size))
  clear b2
  have hn4 : n4 ≤ 1000 := by rw [← (unhide i4).len, List.length_take]; omega
  go_wp2_with fail
  refine (Turn_no _ _ _ _ _ _ _ (unhide i4) hn4 (hide ((row_take xs).trans R2.out))).mono ?_
  rintro e wq ⟨rfl, rfl⟩
  go_wp2_with fail
  refine (list_ints _ _ _ _ _ _ (unhide j0) (Nat.le_refl _)).mono ?_
  rintro e w3 ⟨A6, n6, c6, rfl, i6, b3⟩
  replace i0 := hide ((unhide i0).on b3)
  replace j0 := hide ((unhide j0).on b3)
  replace i2 := hide ((unhide i2).on b3)
  replace i4 := hide ((unhide i4).on b3)
  replace i6 := hide i6
  replace HB := hide ((unhide HB).trans (b3.mono (unhide HB).size))
  clear b3
  go_wp2_with fail
  refine (Quarter_no _ _ _ _ _ (unhide i6) (hide ((pin_takeB ys).trans PB.out))).mono ?_
  rintro e w4 ⟨rfl, b4⟩
  replace i0 := hide ((unhide i0).on b4)
  replace j0 := hide ((unhide j0).on b4)
  replace i2 := hide ((unhide i2).on b4)
  replace i4 := hide ((unhide i4).on b4)
  replace i6 := hide ((unhide i6).on b4)
  replace HB := hide ((unhide HB).trans (b4.mono (unhide HB).size))
  clear b4
  go_wp2_with fail
  refine (RIsRow_s 1 (by omega) _ _ _ _ _ (unhide i0)).mono ?_
  rintro e w5 ⟨rfl, b5⟩
  replace i0 := hide ((unhide i0).on b5)
  replace j0 := hide ((unhide j0).on b5)
  replace i2 := hide ((unhide i2).on b5)
  replace i4 := hide ((unhide i4).on b5)
  replace i6 := hide ((unhide i6).on b5)
  replace HB := hide ((unhide HB).trans (b5.mono (unhide HB).size))
  clear b5
  rw [show rowR ((1 : Nat) : Int) xs = false from (row_same (by rfl) xs).trans R1.out]
  go_wp2_with fail
  refine (RShift_any _ _ false HS).mono ?_
  rintro e wq ⟨rfl, rfl⟩
  go_wp2_with fail
  refine (RIsPins_any _ _ _ _ _ (unhide j0) hpn false PB).mono ?_
  rintro e w6 ⟨rfl, b6⟩
  replace i0 := hide ((unhide i0).on b6)
  replace j0 := hide ((unhide j0).on b6)
  replace i2 := hide ((unhide i2).on b6)
  replace i4 := hide ((unhide i4).on b6)
  replace i6 := hide ((unhide i6).on b6)
  replace HB := hide ((unhide HB).trans (b6.mono (unhide HB).size))
  clear b6
  go_wp2_with fail
  refine (awake_any _).mono ?_
  rintro e w7 ⟨rfl, b7⟩
  replace i0 := hide ((unhide i0).on b7)
  replace j0 := hide ((unhide j0).on b7)
  replace i2 := hide ((unhide i2).on b7)
  replace i4 := hide ((unhide i4).on b7)
  replace i6 := hide ((unhide i6).on b7)
  replace HB := hide ((unhide HB).trans (b7.mono (unhide HB).size))
  clear b7
  go_wp2_with fail
  go_ret
  exact ⟨rfl, unhide HB⟩

set_option maxRecDepth 100000 in
set_option maxHeartbeats 2000000 in
theorem LSplits_0_sh_yes (s : Int) (A : Option Addr) (n c : Nat) (xs : List Int) (A' : Option Addr) (m c' : Nat) (ys : List Int) (w : World) (i0 : Ints w w.heap.size A n c xs) (j0 : Ints w w.heap.size A' m c' ys) (R1 : Hid (rowB 1 xs = false)) (HS : Hid (shB s = false)) (R2 : Hid (rowB s xs = false)) (PB : Hid (pinB ys = true)) (hpn : 1 ≤ m ∧ m ≤ 6) :
    Calls Try.prog 9 #[.int .i64 s, .slice A n c, .slice A' m c'] w fun e w' => e = .returned (.bool true) ∧ Below w.heap.size w w' := by
  have hl := hide i0.len
  have hm := i0.most; have hcap := i0.cap
  have hlp := hide j0.len
  have hmp := j0.most; have hcapp := j0.cap
  have dp1 : decide ((m : Int) < 1) = false := by simp; omega
  have dp2 : decide ((6 : Int) < (m : Int)) = false := by simp; omega
  replace i0 := hide i0
  replace j0 := hide j0
  have HB := hide (Below.refl w.heap.size w)
  go_enter Try.func9, Try.ntmps9
  go_wp2_with fail
  refine (list_ints _ _ _ _ _ _ (unhide i0) (Nat.le_refl _)).mono ?_
  rintro e w1 ⟨A2, n2, c2, rfl, i2, b1⟩
  replace i0 := hide ((unhide i0).on b1)
  replace j0 := hide ((unhide j0).on b1)
  replace i2 := hide i2
  replace HB := hide ((unhide HB).trans (b1.mono (unhide HB).size))
  clear b1
  have hn2 : n2 ≤ 1000 := by rw [← (unhide i2).len, List.length_take]; omega
  go_wp2_with fail
  refine (Split_no _ _ _ _ _ _ (unhide i2) hn2 (hide ((row_take xs).trans R1.out))).mono ?_
  rintro e wq ⟨rfl, rfl⟩
  go_wp2_with fail
  refine (list_ints _ _ _ _ _ _ (unhide i0) (Nat.le_refl _)).mono ?_
  rintro e w2 ⟨A4, n4, c4, rfl, i4, b2⟩
  replace i0 := hide ((unhide i0).on b2)
  replace j0 := hide ((unhide j0).on b2)
  replace i2 := hide ((unhide i2).on b2)
  replace i4 := hide i4
  replace HB := hide ((unhide HB).trans (b2.mono (unhide HB).size))
  clear b2
  have hn4 : n4 ≤ 1000 := by rw [← (unhide i4).len, List.length_take]; omega
  go_wp2_with fail
  refine (Turn_no _ _ _ _ _ _ _ (unhide i4) hn4 (hide ((row_take xs).trans R2.out))).mono ?_
  rintro e wq ⟨rfl, rfl⟩
  go_wp2_with fail
  refine (list_ints _ _ _ _ _ _ (unhide j0) (Nat.le_refl _)).mono ?_
  rintro e w3 ⟨A6, n6, c6, rfl, i6, b3⟩
  replace i0 := hide ((unhide i0).on b3)
  replace j0 := hide ((unhide j0).on b3)
  replace i2 := hide ((unhide i2).on b3)
  replace i4 := hide ((unhide i4).on b3)
  replace i6 := hide i6
  replace HB := hide ((unhide HB).trans (b3.mono (unhide HB).size))
  clear b3
  rw [show ys.take 20 = ys from List.take_of_length_le (by rw [hlp.out]; omega)] at i6
  go_wp2_with fail
  refine (Quarter_ok _ _ _ _ _ (unhide i6) PB).mono ?_
  rintro e w4 ⟨A7, n7, c7, rfl, i7, b4⟩
  replace i0 := hide ((unhide i0).on b4)
  replace j0 := hide ((unhide j0).on b4)
  replace i2 := hide ((unhide i2).on b4)
  replace i4 := hide ((unhide i4).on b4)
  replace i6 := hide ((unhide i6).on b4)
  replace i7 := hide i7
  replace HB := hide ((unhide HB).trans (b4.mono (unhide HB).size))
  clear b4
  go_wp2_with fail
  refine (RIsRow_s 1 (by omega) _ _ _ _ _ (unhide i0)).mono ?_
  rintro e w5 ⟨rfl, b5⟩
  replace i0 := hide ((unhide i0).on b5)
  replace j0 := hide ((unhide j0).on b5)
  replace i2 := hide ((unhide i2).on b5)
  replace i4 := hide ((unhide i4).on b5)
  replace i6 := hide ((unhide i6).on b5)
  replace i7 := hide ((unhide i7).on b5)
  replace HB := hide ((unhide HB).trans (b5.mono (unhide HB).size))
  clear b5
  rw [show rowR ((1 : Nat) : Int) xs = false from (row_same (by rfl) xs).trans R1.out]
  go_wp2_with fail
  refine (RShift_any _ _ false HS).mono ?_
  rintro e wq ⟨rfl, rfl⟩
  go_wp2_with fail
  refine (RIsPins_any _ _ _ _ _ (unhide j0) hpn true PB).mono ?_
  rintro e w6 ⟨rfl, b6⟩
  replace i0 := hide ((unhide i0).on b6)
  replace j0 := hide ((unhide j0).on b6)
  replace i2 := hide ((unhide i2).on b6)
  replace i4 := hide ((unhide i4).on b6)
  replace i6 := hide ((unhide i6).on b6)
  replace i7 := hide ((unhide i7).on b6)
  replace HB := hide ((unhide HB).trans (b6.mono (unhide HB).size))
  clear b6
  go_wp2_with fail
  refine (RQuarter_any _ _ _ _ _ (unhide j0) PB).mono ?_
  rintro e w7 ⟨Aa, na, ca, rfl, ia, b7⟩
  replace i0 := hide ((unhide i0).on b7)
  replace j0 := hide ((unhide j0).on b7)
  replace i2 := hide ((unhide i2).on b7)
  replace i4 := hide ((unhide i4).on b7)
  replace i6 := hide ((unhide i6).on b7)
  replace i7 := hide ((unhide i7).on b7)
  replace ia := hide ia
  replace HB := hide ((unhide HB).trans (b7.mono (unhide HB).size))
  clear b7
  go_wp2_with fail
  refine (equal_is _ _ _ _ _ _ _ _ _ _ _ (unhide i7) (unhide ia) (hide rfl)).mono ?_
  rintro e w8 ⟨rfl, qq8, hq8⟩
  have b8 : Below w7.heap.size w7 w8 := by rw [hq8]; exact Below.drewN' (Below.refl _ _) qq8
  clear hq8
  replace i0 := hide ((unhide i0).on b8)
  replace j0 := hide ((unhide j0).on b8)
  replace i2 := hide ((unhide i2).on b8)
  replace i4 := hide ((unhide i4).on b8)
  replace i6 := hide ((unhide i6).on b8)
  replace i7 := hide ((unhide i7).on b8)
  replace ia := hide ((unhide ia).on b8)
  replace HB := hide ((unhide HB).trans (b8.mono (unhide HB).size))
  clear b8
  go_wp2_with fail
  refine (awake_any _).mono ?_
  rintro e w9 ⟨rfl, b9⟩
  replace i0 := hide ((unhide i0).on b9)
  replace j0 := hide ((unhide j0).on b9)
  replace i2 := hide ((unhide i2).on b9)
  replace i4 := hide ((unhide i4).on b9)
  replace i6 := hide ((unhide i6).on b9)
  replace i7 := hide ((unhide i7).on b9)
  replace ia := hide ((unhide ia).on b9)
  replace HB := hide ((unhide HB).trans (b9.mono (unhide HB).size))
  clear b9
  go_wp2_with fail
  go_ret
  exact ⟨rfl, unhide HB⟩

set_option maxRecDepth 100000 in
set_option maxHeartbeats 2000000 in
theorem LSplits_0_no_0 (s : Int) (A : Option Addr) (n c : Nat) (xs : List Int) (A' : Option Addr) (m c' : Nat) (ys : List Int) (w : World) (i0 : Ints w w.heap.size A n c xs) (j0 : Ints w w.heap.size A' m c' ys) (R1 : Hid (rowB 1 xs = false)) (HS : Hid (shB s = true)) (R2 : Hid (rowB s xs = false)) (PB : Hid (pinB ys = false)) (hpn : m = 0) :
    Calls Try.prog 9 #[.int .i64 s, .slice A n c, .slice A' m c'] w fun e w' => e = .returned (.bool true) ∧ Below w.heap.size w w' := by
  have hl := hide i0.len
  have hm := i0.most; have hcap := i0.cap
  have hlp := hide j0.len
  have hmp := j0.most; have hcapp := j0.cap
  subst hpn
  obtain ⟨sn, rfl, h1, h2⟩ := sh_nat HS.out
  replace i0 := hide i0
  replace j0 := hide j0
  have HB := hide (Below.refl w.heap.size w)
  go_enter Try.func9, Try.ntmps9
  go_wp2_with fail
  refine (list_ints _ _ _ _ _ _ (unhide i0) (Nat.le_refl _)).mono ?_
  rintro e w1 ⟨A2, n2, c2, rfl, i2, b1⟩
  replace i0 := hide ((unhide i0).on b1)
  replace j0 := hide ((unhide j0).on b1)
  replace i2 := hide i2
  replace HB := hide ((unhide HB).trans (b1.mono (unhide HB).size))
  clear b1
  have hn2 : n2 ≤ 1000 := by rw [← (unhide i2).len, List.length_take]; omega
  go_wp2_with fail
  refine (Split_no _ _ _ _ _ _ (unhide i2) hn2 (hide ((row_take xs).trans R1.out))).mono ?_
  rintro e wq ⟨rfl, rfl⟩
  go_wp2_with fail
  refine (list_ints _ _ _ _ _ _ (unhide i0) (Nat.le_refl _)).mono ?_
  rintro e w2 ⟨A4, n4, c4, rfl, i4, b2⟩
  replace i0 := hide ((unhide i0).on b2)
  replace j0 := hide ((unhide j0).on b2)
  replace i2 := hide ((unhide i2).on b2)
  replace i4 := hide i4
  replace HB := hide ((unhide HB).trans (b2.mono (unhide HB).size))
  clear b2
  have hn4 : n4 ≤ 1000 := by rw [← (unhide i4).len, List.length_take]; omega
  go_wp2_with fail
  refine (Turn_no _ _ _ _ _ _ _ (unhide i4) hn4 (hide ((row_take xs).trans R2.out))).mono ?_
  rintro e wq ⟨rfl, rfl⟩
  go_wp2_with fail
  refine (list_ints _ _ _ _ _ _ (unhide j0) (Nat.le_refl _)).mono ?_
  rintro e w3 ⟨A6, n6, c6, rfl, i6, b3⟩
  replace i0 := hide ((unhide i0).on b3)
  replace j0 := hide ((unhide j0).on b3)
  replace i2 := hide ((unhide i2).on b3)
  replace i4 := hide ((unhide i4).on b3)
  replace i6 := hide i6
  replace HB := hide ((unhide HB).trans (b3.mono (unhide HB).size))
  clear b3
  go_wp2_with fail
  refine (Quarter_no _ _ _ _ _ (unhide i6) (hide ((pin_takeB ys).trans PB.out))).mono ?_
  rintro e w4 ⟨rfl, b4⟩
  replace i0 := hide ((unhide i0).on b4)
  replace j0 := hide ((unhide j0).on b4)
  replace i2 := hide ((unhide i2).on b4)
  replace i4 := hide ((unhide i4).on b4)
  replace i6 := hide ((unhide i6).on b4)
  replace HB := hide ((unhide HB).trans (b4.mono (unhide HB).size))
  clear b4
  go_wp2_with fail
  refine (RIsRow_s 1 (by omega) _ _ _ _ _ (unhide i0)).mono ?_
  rintro e w5 ⟨rfl, b5⟩
  replace i0 := hide ((unhide i0).on b5)
  replace j0 := hide ((unhide j0).on b5)
  replace i2 := hide ((unhide i2).on b5)
  replace i4 := hide ((unhide i4).on b5)
  replace i6 := hide ((unhide i6).on b5)
  replace HB := hide ((unhide HB).trans (b5.mono (unhide HB).size))
  clear b5
  rw [show rowR ((1 : Nat) : Int) xs = false from (row_same (by rfl) xs).trans R1.out]
  go_wp2_with fail
  refine (RShift_any _ _ true HS).mono ?_
  rintro e wq ⟨rfl, rfl⟩
  go_wp2_with fail
  refine (RIsRow_s sn ⟨h1, h2⟩ _ _ _ _ _ (unhide i0)).mono ?_
  rintro e w6 ⟨rfl, b6⟩
  replace i0 := hide ((unhide i0).on b6)
  replace j0 := hide ((unhide j0).on b6)
  replace i2 := hide ((unhide i2).on b6)
  replace i4 := hide ((unhide i4).on b6)
  replace i6 := hide ((unhide i6).on b6)
  replace HB := hide ((unhide HB).trans (b6.mono (unhide HB).size))
  clear b6
  rw [show rowR (sn : Int) xs = false from (row_same HS.out xs).trans R2.out]
  go_wp2_with fail
  refine (awake_any _).mono ?_
  rintro e w7 ⟨rfl, b7⟩
  replace i0 := hide ((unhide i0).on b7)
  replace j0 := hide ((unhide j0).on b7)
  replace i2 := hide ((unhide i2).on b7)
  replace i4 := hide ((unhide i4).on b7)
  replace i6 := hide ((unhide i6).on b7)
  replace HB := hide ((unhide HB).trans (b7.mono (unhide HB).size))
  clear b7
  go_wp2_with fail
  go_ret
  exact ⟨rfl, unhide HB⟩

set_option maxRecDepth 100000 in
set_option maxHeartbeats 2000000 in
theorem LSplits_0_no_far (s : Int) (A : Option Addr) (n c : Nat) (xs : List Int) (A' : Option Addr) (m c' : Nat) (ys : List Int) (w : World) (i0 : Ints w w.heap.size A n c xs) (j0 : Ints w w.heap.size A' m c' ys) (R1 : Hid (rowB 1 xs = false)) (HS : Hid (shB s = true)) (R2 : Hid (rowB s xs = false)) (PB : Hid (pinB ys = false)) (hpn : 6 < m) :
    Calls Try.prog 9 #[.int .i64 s, .slice A n c, .slice A' m c'] w fun e w' => e = .returned (.bool true) ∧ Below w.heap.size w w' := by
  have hl := hide i0.len
  have hm := i0.most; have hcap := i0.cap
  have hlp := hide j0.len
  have hmp := j0.most; have hcapp := j0.cap
  have dp1 : decide ((m : Int) < 1) = false := by simp; omega
  have dp2 : decide ((6 : Int) < (m : Int)) = true := by simp; omega
  obtain ⟨sn, rfl, h1, h2⟩ := sh_nat HS.out
  replace i0 := hide i0
  replace j0 := hide j0
  have HB := hide (Below.refl w.heap.size w)
  go_enter Try.func9, Try.ntmps9
  go_wp2_with fail
  refine (list_ints _ _ _ _ _ _ (unhide i0) (Nat.le_refl _)).mono ?_
  rintro e w1 ⟨A2, n2, c2, rfl, i2, b1⟩
  replace i0 := hide ((unhide i0).on b1)
  replace j0 := hide ((unhide j0).on b1)
  replace i2 := hide i2
  replace HB := hide ((unhide HB).trans (b1.mono (unhide HB).size))
  clear b1
  have hn2 : n2 ≤ 1000 := by rw [← (unhide i2).len, List.length_take]; omega
  go_wp2_with fail
  refine (Split_no _ _ _ _ _ _ (unhide i2) hn2 (hide ((row_take xs).trans R1.out))).mono ?_
  rintro e wq ⟨rfl, rfl⟩
  go_wp2_with fail
  refine (list_ints _ _ _ _ _ _ (unhide i0) (Nat.le_refl _)).mono ?_
  rintro e w2 ⟨A4, n4, c4, rfl, i4, b2⟩
  replace i0 := hide ((unhide i0).on b2)
  replace j0 := hide ((unhide j0).on b2)
  replace i2 := hide ((unhide i2).on b2)
  replace i4 := hide i4
  replace HB := hide ((unhide HB).trans (b2.mono (unhide HB).size))
  clear b2
  have hn4 : n4 ≤ 1000 := by rw [← (unhide i4).len, List.length_take]; omega
  go_wp2_with fail
  refine (Turn_no _ _ _ _ _ _ _ (unhide i4) hn4 (hide ((row_take xs).trans R2.out))).mono ?_
  rintro e wq ⟨rfl, rfl⟩
  go_wp2_with fail
  refine (list_ints _ _ _ _ _ _ (unhide j0) (Nat.le_refl _)).mono ?_
  rintro e w3 ⟨A6, n6, c6, rfl, i6, b3⟩
  replace i0 := hide ((unhide i0).on b3)
  replace j0 := hide ((unhide j0).on b3)
  replace i2 := hide ((unhide i2).on b3)
  replace i4 := hide ((unhide i4).on b3)
  replace i6 := hide i6
  replace HB := hide ((unhide HB).trans (b3.mono (unhide HB).size))
  clear b3
  go_wp2_with fail
  refine (Quarter_no _ _ _ _ _ (unhide i6) (hide ((pin_takeB ys).trans PB.out))).mono ?_
  rintro e w4 ⟨rfl, b4⟩
  replace i0 := hide ((unhide i0).on b4)
  replace j0 := hide ((unhide j0).on b4)
  replace i2 := hide ((unhide i2).on b4)
  replace i4 := hide ((unhide i4).on b4)
  replace i6 := hide ((unhide i6).on b4)
  replace HB := hide ((unhide HB).trans (b4.mono (unhide HB).size))
  clear b4
  go_wp2_with fail
  refine (RIsRow_s 1 (by omega) _ _ _ _ _ (unhide i0)).mono ?_
  rintro e w5 ⟨rfl, b5⟩
  replace i0 := hide ((unhide i0).on b5)
  replace j0 := hide ((unhide j0).on b5)
  replace i2 := hide ((unhide i2).on b5)
  replace i4 := hide ((unhide i4).on b5)
  replace i6 := hide ((unhide i6).on b5)
  replace HB := hide ((unhide HB).trans (b5.mono (unhide HB).size))
  clear b5
  rw [show rowR ((1 : Nat) : Int) xs = false from (row_same (by rfl) xs).trans R1.out]
  go_wp2_with fail
  refine (RShift_any _ _ true HS).mono ?_
  rintro e wq ⟨rfl, rfl⟩
  go_wp2_with fail
  refine (RIsRow_s sn ⟨h1, h2⟩ _ _ _ _ _ (unhide i0)).mono ?_
  rintro e w6 ⟨rfl, b6⟩
  replace i0 := hide ((unhide i0).on b6)
  replace j0 := hide ((unhide j0).on b6)
  replace i2 := hide ((unhide i2).on b6)
  replace i4 := hide ((unhide i4).on b6)
  replace i6 := hide ((unhide i6).on b6)
  replace HB := hide ((unhide HB).trans (b6.mono (unhide HB).size))
  clear b6
  rw [show rowR (sn : Int) xs = false from (row_same HS.out xs).trans R2.out]
  go_wp2_with fail
  refine (awake_any _).mono ?_
  rintro e w7 ⟨rfl, b7⟩
  replace i0 := hide ((unhide i0).on b7)
  replace j0 := hide ((unhide j0).on b7)
  replace i2 := hide ((unhide i2).on b7)
  replace i4 := hide ((unhide i4).on b7)
  replace i6 := hide ((unhide i6).on b7)
  replace HB := hide ((unhide HB).trans (b7.mono (unhide HB).size))
  clear b7
  go_wp2_with fail
  go_ret
  exact ⟨rfl, unhide HB⟩

set_option maxRecDepth 100000 in
set_option maxHeartbeats 2000000 in
theorem LSplits_0_no_no (s : Int) (A : Option Addr) (n c : Nat) (xs : List Int) (A' : Option Addr) (m c' : Nat) (ys : List Int) (w : World) (i0 : Ints w w.heap.size A n c xs) (j0 : Ints w w.heap.size A' m c' ys) (R1 : Hid (rowB 1 xs = false)) (HS : Hid (shB s = true)) (R2 : Hid (rowB s xs = false)) (PB : Hid (pinB ys = false)) (hpn : 1 ≤ m ∧ m ≤ 6) :
    Calls Try.prog 9 #[.int .i64 s, .slice A n c, .slice A' m c'] w fun e w' => e = .returned (.bool true) ∧ Below w.heap.size w w' := by
  have hl := hide i0.len
  have hm := i0.most; have hcap := i0.cap
  have hlp := hide j0.len
  have hmp := j0.most; have hcapp := j0.cap
  have dp1 : decide ((m : Int) < 1) = false := by simp; omega
  have dp2 : decide ((6 : Int) < (m : Int)) = false := by simp; omega
  obtain ⟨sn, rfl, h1, h2⟩ := sh_nat HS.out
  replace i0 := hide i0
  replace j0 := hide j0
  have HB := hide (Below.refl w.heap.size w)
  go_enter Try.func9, Try.ntmps9
  go_wp2_with fail
  refine (list_ints _ _ _ _ _ _ (unhide i0) (Nat.le_refl _)).mono ?_
  rintro e w1 ⟨A2, n2, c2, rfl, i2, b1⟩
  replace i0 := hide ((unhide i0).on b1)
  replace j0 := hide ((unhide j0).on b1)
  replace i2 := hide i2
  replace HB := hide ((unhide HB).trans (b1.mono (unhide HB).size))
  clear b1
  have hn2 : n2 ≤ 1000 := by rw [← (unhide i2).len, List.length_take]; omega
  go_wp2_with fail
  refine (Split_no _ _ _ _ _ _ (unhide i2) hn2 (hide ((row_take xs).trans R1.out))).mono ?_
  rintro e wq ⟨rfl, rfl⟩
  go_wp2_with fail
  refine (list_ints _ _ _ _ _ _ (unhide i0) (Nat.le_refl _)).mono ?_
  rintro e w2 ⟨A4, n4, c4, rfl, i4, b2⟩
  replace i0 := hide ((unhide i0).on b2)
  replace j0 := hide ((unhide j0).on b2)
  replace i2 := hide ((unhide i2).on b2)
  replace i4 := hide i4
  replace HB := hide ((unhide HB).trans (b2.mono (unhide HB).size))
  clear b2
  have hn4 : n4 ≤ 1000 := by rw [← (unhide i4).len, List.length_take]; omega
  go_wp2_with fail
  refine (Turn_no _ _ _ _ _ _ _ (unhide i4) hn4 (hide ((row_take xs).trans R2.out))).mono ?_
  rintro e wq ⟨rfl, rfl⟩
  go_wp2_with fail
  refine (list_ints _ _ _ _ _ _ (unhide j0) (Nat.le_refl _)).mono ?_
  rintro e w3 ⟨A6, n6, c6, rfl, i6, b3⟩
  replace i0 := hide ((unhide i0).on b3)
  replace j0 := hide ((unhide j0).on b3)
  replace i2 := hide ((unhide i2).on b3)
  replace i4 := hide ((unhide i4).on b3)
  replace i6 := hide i6
  replace HB := hide ((unhide HB).trans (b3.mono (unhide HB).size))
  clear b3
  go_wp2_with fail
  refine (Quarter_no _ _ _ _ _ (unhide i6) (hide ((pin_takeB ys).trans PB.out))).mono ?_
  rintro e w4 ⟨rfl, b4⟩
  replace i0 := hide ((unhide i0).on b4)
  replace j0 := hide ((unhide j0).on b4)
  replace i2 := hide ((unhide i2).on b4)
  replace i4 := hide ((unhide i4).on b4)
  replace i6 := hide ((unhide i6).on b4)
  replace HB := hide ((unhide HB).trans (b4.mono (unhide HB).size))
  clear b4
  go_wp2_with fail
  refine (RIsRow_s 1 (by omega) _ _ _ _ _ (unhide i0)).mono ?_
  rintro e w5 ⟨rfl, b5⟩
  replace i0 := hide ((unhide i0).on b5)
  replace j0 := hide ((unhide j0).on b5)
  replace i2 := hide ((unhide i2).on b5)
  replace i4 := hide ((unhide i4).on b5)
  replace i6 := hide ((unhide i6).on b5)
  replace HB := hide ((unhide HB).trans (b5.mono (unhide HB).size))
  clear b5
  rw [show rowR ((1 : Nat) : Int) xs = false from (row_same (by rfl) xs).trans R1.out]
  go_wp2_with fail
  refine (RShift_any _ _ true HS).mono ?_
  rintro e wq ⟨rfl, rfl⟩
  go_wp2_with fail
  refine (RIsRow_s sn ⟨h1, h2⟩ _ _ _ _ _ (unhide i0)).mono ?_
  rintro e w6 ⟨rfl, b6⟩
  replace i0 := hide ((unhide i0).on b6)
  replace j0 := hide ((unhide j0).on b6)
  replace i2 := hide ((unhide i2).on b6)
  replace i4 := hide ((unhide i4).on b6)
  replace i6 := hide ((unhide i6).on b6)
  replace HB := hide ((unhide HB).trans (b6.mono (unhide HB).size))
  clear b6
  rw [show rowR (sn : Int) xs = false from (row_same HS.out xs).trans R2.out]
  go_wp2_with fail
  refine (RIsPins_any _ _ _ _ _ (unhide j0) hpn false PB).mono ?_
  rintro e w7 ⟨rfl, b7⟩
  replace i0 := hide ((unhide i0).on b7)
  replace j0 := hide ((unhide j0).on b7)
  replace i2 := hide ((unhide i2).on b7)
  replace i4 := hide ((unhide i4).on b7)
  replace i6 := hide ((unhide i6).on b7)
  replace HB := hide ((unhide HB).trans (b7.mono (unhide HB).size))
  clear b7
  go_wp2_with fail
  refine (awake_any _).mono ?_
  rintro e w8 ⟨rfl, b8⟩
  replace i0 := hide ((unhide i0).on b8)
  replace j0 := hide ((unhide j0).on b8)
  replace i2 := hide ((unhide i2).on b8)
  replace i4 := hide ((unhide i4).on b8)
  replace i6 := hide ((unhide i6).on b8)
  replace HB := hide ((unhide HB).trans (b8.mono (unhide HB).size))
  clear b8
  go_wp2_with fail
  go_ret
  exact ⟨rfl, unhide HB⟩

set_option maxRecDepth 100000 in
set_option maxHeartbeats 2000000 in
theorem LSplits_0_no_yes (s : Int) (A : Option Addr) (n c : Nat) (xs : List Int) (A' : Option Addr) (m c' : Nat) (ys : List Int) (w : World) (i0 : Ints w w.heap.size A n c xs) (j0 : Ints w w.heap.size A' m c' ys) (R1 : Hid (rowB 1 xs = false)) (HS : Hid (shB s = true)) (R2 : Hid (rowB s xs = false)) (PB : Hid (pinB ys = true)) (hpn : 1 ≤ m ∧ m ≤ 6) :
    Calls Try.prog 9 #[.int .i64 s, .slice A n c, .slice A' m c'] w fun e w' => e = .returned (.bool true) ∧ Below w.heap.size w w' := by
  have hl := hide i0.len
  have hm := i0.most; have hcap := i0.cap
  have hlp := hide j0.len
  have hmp := j0.most; have hcapp := j0.cap
  have dp1 : decide ((m : Int) < 1) = false := by simp; omega
  have dp2 : decide ((6 : Int) < (m : Int)) = false := by simp; omega
  obtain ⟨sn, rfl, h1, h2⟩ := sh_nat HS.out
  replace i0 := hide i0
  replace j0 := hide j0
  have HB := hide (Below.refl w.heap.size w)
  go_enter Try.func9, Try.ntmps9
  go_wp2_with fail
  refine (list_ints _ _ _ _ _ _ (unhide i0) (Nat.le_refl _)).mono ?_
  rintro e w1 ⟨A2, n2, c2, rfl, i2, b1⟩
  replace i0 := hide ((unhide i0).on b1)
  replace j0 := hide ((unhide j0).on b1)
  replace i2 := hide i2
  replace HB := hide ((unhide HB).trans (b1.mono (unhide HB).size))
  clear b1
  have hn2 : n2 ≤ 1000 := by rw [← (unhide i2).len, List.length_take]; omega
  go_wp2_with fail
  refine (Split_no _ _ _ _ _ _ (unhide i2) hn2 (hide ((row_take xs).trans R1.out))).mono ?_
  rintro e wq ⟨rfl, rfl⟩
  go_wp2_with fail
  refine (list_ints _ _ _ _ _ _ (unhide i0) (Nat.le_refl _)).mono ?_
  rintro e w2 ⟨A4, n4, c4, rfl, i4, b2⟩
  replace i0 := hide ((unhide i0).on b2)
  replace j0 := hide ((unhide j0).on b2)
  replace i2 := hide ((unhide i2).on b2)
  replace i4 := hide i4
  replace HB := hide ((unhide HB).trans (b2.mono (unhide HB).size))
  clear b2
  have hn4 : n4 ≤ 1000 := by rw [← (unhide i4).len, List.length_take]; omega
  go_wp2_with fail
  refine (Turn_no _ _ _ _ _ _ _ (unhide i4) hn4 (hide ((row_take xs).trans R2.out))).mono ?_
  rintro e wq ⟨rfl, rfl⟩
  go_wp2_with fail
  refine (list_ints _ _ _ _ _ _ (unhide j0) (Nat.le_refl _)).mono ?_
  rintro e w3 ⟨A6, n6, c6, rfl, i6, b3⟩
  replace i0 := hide ((unhide i0).on b3)
  replace j0 := hide ((unhide j0).on b3)
  replace i2 := hide ((unhide i2).on b3)
  replace i4 := hide ((unhide i4).on b3)
  replace i6 := hide i6
  replace HB := hide ((unhide HB).trans (b3.mono (unhide HB).size))
  clear b3
  rw [show ys.take 20 = ys from List.take_of_length_le (by rw [hlp.out]; omega)] at i6
  go_wp2_with fail
  refine (Quarter_ok _ _ _ _ _ (unhide i6) PB).mono ?_
  rintro e w4 ⟨A7, n7, c7, rfl, i7, b4⟩
  replace i0 := hide ((unhide i0).on b4)
  replace j0 := hide ((unhide j0).on b4)
  replace i2 := hide ((unhide i2).on b4)
  replace i4 := hide ((unhide i4).on b4)
  replace i6 := hide ((unhide i6).on b4)
  replace i7 := hide i7
  replace HB := hide ((unhide HB).trans (b4.mono (unhide HB).size))
  clear b4
  go_wp2_with fail
  refine (RIsRow_s 1 (by omega) _ _ _ _ _ (unhide i0)).mono ?_
  rintro e w5 ⟨rfl, b5⟩
  replace i0 := hide ((unhide i0).on b5)
  replace j0 := hide ((unhide j0).on b5)
  replace i2 := hide ((unhide i2).on b5)
  replace i4 := hide ((unhide i4).on b5)
  replace i6 := hide ((unhide i6).on b5)
  replace i7 := hide ((unhide i7).on b5)
  replace HB := hide ((unhide HB).trans (b5.mono (unhide HB).size))
  clear b5
  rw [show rowR ((1 : Nat) : Int) xs = false from (row_same (by rfl) xs).trans R1.out]
  go_wp2_with fail
  refine (RShift_any _ _ true HS).mono ?_
  rintro e wq ⟨rfl, rfl⟩
  go_wp2_with fail
  refine (RIsRow_s sn ⟨h1, h2⟩ _ _ _ _ _ (unhide i0)).mono ?_
  rintro e w6 ⟨rfl, b6⟩
  replace i0 := hide ((unhide i0).on b6)
  replace j0 := hide ((unhide j0).on b6)
  replace i2 := hide ((unhide i2).on b6)
  replace i4 := hide ((unhide i4).on b6)
  replace i6 := hide ((unhide i6).on b6)
  replace i7 := hide ((unhide i7).on b6)
  replace HB := hide ((unhide HB).trans (b6.mono (unhide HB).size))
  clear b6
  rw [show rowR (sn : Int) xs = false from (row_same HS.out xs).trans R2.out]
  go_wp2_with fail
  refine (RIsPins_any _ _ _ _ _ (unhide j0) hpn true PB).mono ?_
  rintro e w7 ⟨rfl, b7⟩
  replace i0 := hide ((unhide i0).on b7)
  replace j0 := hide ((unhide j0).on b7)
  replace i2 := hide ((unhide i2).on b7)
  replace i4 := hide ((unhide i4).on b7)
  replace i6 := hide ((unhide i6).on b7)
  replace i7 := hide ((unhide i7).on b7)
  replace HB := hide ((unhide HB).trans (b7.mono (unhide HB).size))
  clear b7
  go_wp2_with fail
  refine (RQuarter_any _ _ _ _ _ (unhide j0) PB).mono ?_
  rintro e w8 ⟨Aa, na, ca, rfl, ia, b8⟩
  replace i0 := hide ((unhide i0).on b8)
  replace j0 := hide ((unhide j0).on b8)
  replace i2 := hide ((unhide i2).on b8)
  replace i4 := hide ((unhide i4).on b8)
  replace i6 := hide ((unhide i6).on b8)
  replace i7 := hide ((unhide i7).on b8)
  replace ia := hide ia
  replace HB := hide ((unhide HB).trans (b8.mono (unhide HB).size))
  clear b8
  go_wp2_with fail
  refine (equal_is _ _ _ _ _ _ _ _ _ _ _ (unhide i7) (unhide ia) (hide rfl)).mono ?_
  rintro e w9 ⟨rfl, qq9, hq9⟩
  have b9 : Below w8.heap.size w8 w9 := by rw [hq9]; exact Below.drewN' (Below.refl _ _) qq9
  clear hq9
  replace i0 := hide ((unhide i0).on b9)
  replace j0 := hide ((unhide j0).on b9)
  replace i2 := hide ((unhide i2).on b9)
  replace i4 := hide ((unhide i4).on b9)
  replace i6 := hide ((unhide i6).on b9)
  replace i7 := hide ((unhide i7).on b9)
  replace ia := hide ((unhide ia).on b9)
  replace HB := hide ((unhide HB).trans (b9.mono (unhide HB).size))
  clear b9
  go_wp2_with fail
  refine (awake_any _).mono ?_
  rintro e w10 ⟨rfl, b10⟩
  replace i0 := hide ((unhide i0).on b10)
  replace j0 := hide ((unhide j0).on b10)
  replace i2 := hide ((unhide i2).on b10)
  replace i4 := hide ((unhide i4).on b10)
  replace i6 := hide ((unhide i6).on b10)
  replace i7 := hide ((unhide i7).on b10)
  replace ia := hide ((unhide ia).on b10)
  replace HB := hide ((unhide HB).trans (b10.mono (unhide HB).size))
  clear b10
  go_wp2_with fail
  go_ret
  exact ⟨rfl, unhide HB⟩

set_option maxRecDepth 100000 in
set_option maxHeartbeats 2000000 in
theorem LSplits_0_yes_0 (s : Int) (A : Option Addr) (n c : Nat) (xs : List Int) (A' : Option Addr) (m c' : Nat) (ys : List Int) (w : World) (i0 : Ints w w.heap.size A n c xs) (j0 : Ints w w.heap.size A' m c' ys) (R1 : Hid (rowB 1 xs = false)) (HS : Hid (shB s = true)) (R2 : Hid (rowB s xs = true)) (PB : Hid (pinB ys = false)) (hpn : m = 0) :
    Calls Try.prog 9 #[.int .i64 s, .slice A n c, .slice A' m c'] w fun e w' => e = .returned (.bool true) ∧ Below w.heap.size w w' := by
  have hl := hide i0.len
  have hm := i0.most; have hcap := i0.cap
  have hlp := hide j0.len
  have hmp := j0.most; have hcapp := j0.cap
  subst hpn
  obtain ⟨sn, rfl, h1, h2⟩ := sh_nat HS.out
  replace i0 := hide i0
  replace j0 := hide j0
  have HB := hide (Below.refl w.heap.size w)
  go_enter Try.func9, Try.ntmps9
  go_wp2_with fail
  refine (list_ints _ _ _ _ _ _ (unhide i0) (Nat.le_refl _)).mono ?_
  rintro e w1 ⟨A2, n2, c2, rfl, i2, b1⟩
  replace i0 := hide ((unhide i0).on b1)
  replace j0 := hide ((unhide j0).on b1)
  replace i2 := hide i2
  replace HB := hide ((unhide HB).trans (b1.mono (unhide HB).size))
  clear b1
  have hn2 : n2 ≤ 1000 := by rw [← (unhide i2).len, List.length_take]; omega
  go_wp2_with fail
  refine (Split_no _ _ _ _ _ _ (unhide i2) hn2 (hide ((row_take xs).trans R1.out))).mono ?_
  rintro e wq ⟨rfl, rfl⟩
  go_wp2_with fail
  refine (list_ints _ _ _ _ _ _ (unhide i0) (Nat.le_refl _)).mono ?_
  rintro e w2 ⟨A4, n4, c4, rfl, i4, b2⟩
  replace i0 := hide ((unhide i0).on b2)
  replace j0 := hide ((unhide j0).on b2)
  replace i2 := hide ((unhide i2).on b2)
  replace i4 := hide i4
  replace HB := hide ((unhide HB).trans (b2.mono (unhide HB).size))
  clear b2
  rw [show xs.take 20 = xs from List.take_of_length_le (by have := row_len R2.out; omega)] at i4
  have e4 := (unhide i4).len
  rw [hl.out] at e4
  subst e4
  go_wp2_with fail
  refine (Turn_ok _ _ _ _ _ _ (unhide i4) R2).mono ?_
  rintro e w3 ⟨A5, c5, rfl, i5, b3⟩
  replace i0 := hide ((unhide i0).on b3)
  replace j0 := hide ((unhide j0).on b3)
  replace i2 := hide ((unhide i2).on b3)
  replace i4 := hide ((unhide i4).on b3)
  replace i5 := hide i5
  replace HB := hide ((unhide HB).trans (b3.mono (unhide HB).size))
  clear b3
  go_wp2_with fail
  refine (list_ints _ _ _ _ _ _ (unhide j0) (Nat.le_refl _)).mono ?_
  rintro e w4 ⟨A6, n6, c6, rfl, i6, b4⟩
  replace i0 := hide ((unhide i0).on b4)
  replace j0 := hide ((unhide j0).on b4)
  replace i2 := hide ((unhide i2).on b4)
  replace i4 := hide ((unhide i4).on b4)
  replace i5 := hide ((unhide i5).on b4)
  replace i6 := hide i6
  replace HB := hide ((unhide HB).trans (b4.mono (unhide HB).size))
  clear b4
  go_wp2_with fail
  refine (Quarter_no _ _ _ _ _ (unhide i6) (hide ((pin_takeB ys).trans PB.out))).mono ?_
  rintro e w5 ⟨rfl, b5⟩
  replace i0 := hide ((unhide i0).on b5)
  replace j0 := hide ((unhide j0).on b5)
  replace i2 := hide ((unhide i2).on b5)
  replace i4 := hide ((unhide i4).on b5)
  replace i5 := hide ((unhide i5).on b5)
  replace i6 := hide ((unhide i6).on b5)
  replace HB := hide ((unhide HB).trans (b5.mono (unhide HB).size))
  clear b5
  go_wp2_with fail
  refine (RIsRow_s 1 (by omega) _ _ _ _ _ (unhide i0)).mono ?_
  rintro e w6 ⟨rfl, b6⟩
  replace i0 := hide ((unhide i0).on b6)
  replace j0 := hide ((unhide j0).on b6)
  replace i2 := hide ((unhide i2).on b6)
  replace i4 := hide ((unhide i4).on b6)
  replace i5 := hide ((unhide i5).on b6)
  replace i6 := hide ((unhide i6).on b6)
  replace HB := hide ((unhide HB).trans (b6.mono (unhide HB).size))
  clear b6
  rw [show rowR ((1 : Nat) : Int) xs = false from (row_same (by rfl) xs).trans R1.out]
  go_wp2_with fail
  refine (RShift_any _ _ true HS).mono ?_
  rintro e wq ⟨rfl, rfl⟩
  go_wp2_with fail
  refine (RIsRow_s sn ⟨h1, h2⟩ _ _ _ _ _ (unhide i0)).mono ?_
  rintro e w7 ⟨rfl, b7⟩
  replace i0 := hide ((unhide i0).on b7)
  replace j0 := hide ((unhide j0).on b7)
  replace i2 := hide ((unhide i2).on b7)
  replace i4 := hide ((unhide i4).on b7)
  replace i5 := hide ((unhide i5).on b7)
  replace i6 := hide ((unhide i6).on b7)
  replace HB := hide ((unhide HB).trans (b7.mono (unhide HB).size))
  clear b7
  rw [show rowR (sn : Int) xs = true from (row_same HS.out xs).trans R2.out]
  have hn16 : n ≤ 1000 := by have := row_len R2.out; rw [hl.out] at this; omega
  go_wp2_with fail
  refine (RTurn_any _ _ _ _ _ (unhide i0) hn16).mono ?_
  rintro e w8 ⟨A9, c9, rfl, i9, b8⟩
  replace i0 := hide ((unhide i0).on b8)
  replace j0 := hide ((unhide j0).on b8)
  replace i2 := hide ((unhide i2).on b8)
  replace i4 := hide ((unhide i4).on b8)
  replace i5 := hide ((unhide i5).on b8)
  replace i6 := hide ((unhide i6).on b8)
  replace i9 := hide i9
  replace HB := hide ((unhide HB).trans (b8.mono (unhide HB).size))
  clear b8
  go_wp2_with fail
  refine (equal_is _ _ _ _ _ _ _ _ _ _ _ (unhide i5) (unhide i9) (hide rfl)).mono ?_
  rintro e w9 ⟨rfl, qq9, hq9⟩
  have b9 : Below w8.heap.size w8 w9 := by rw [hq9]; exact Below.drewN' (Below.refl _ _) qq9
  clear hq9
  replace i0 := hide ((unhide i0).on b9)
  replace j0 := hide ((unhide j0).on b9)
  replace i2 := hide ((unhide i2).on b9)
  replace i4 := hide ((unhide i4).on b9)
  replace i5 := hide ((unhide i5).on b9)
  replace i6 := hide ((unhide i6).on b9)
  replace i9 := hide ((unhide i9).on b9)
  replace HB := hide ((unhide HB).trans (b9.mono (unhide HB).size))
  clear b9
  go_wp2_with fail
  refine (awake_any _).mono ?_
  rintro e w10 ⟨rfl, b10⟩
  replace i0 := hide ((unhide i0).on b10)
  replace j0 := hide ((unhide j0).on b10)
  replace i2 := hide ((unhide i2).on b10)
  replace i4 := hide ((unhide i4).on b10)
  replace i5 := hide ((unhide i5).on b10)
  replace i6 := hide ((unhide i6).on b10)
  replace i9 := hide ((unhide i9).on b10)
  replace HB := hide ((unhide HB).trans (b10.mono (unhide HB).size))
  clear b10
  go_wp2_with fail
  go_ret
  exact ⟨rfl, unhide HB⟩

set_option maxRecDepth 100000 in
set_option maxHeartbeats 2000000 in
theorem LSplits_0_yes_far (s : Int) (A : Option Addr) (n c : Nat) (xs : List Int) (A' : Option Addr) (m c' : Nat) (ys : List Int) (w : World) (i0 : Ints w w.heap.size A n c xs) (j0 : Ints w w.heap.size A' m c' ys) (R1 : Hid (rowB 1 xs = false)) (HS : Hid (shB s = true)) (R2 : Hid (rowB s xs = true)) (PB : Hid (pinB ys = false)) (hpn : 6 < m) :
    Calls Try.prog 9 #[.int .i64 s, .slice A n c, .slice A' m c'] w fun e w' => e = .returned (.bool true) ∧ Below w.heap.size w w' := by
  have hl := hide i0.len
  have hm := i0.most; have hcap := i0.cap
  have hlp := hide j0.len
  have hmp := j0.most; have hcapp := j0.cap
  have dp1 : decide ((m : Int) < 1) = false := by simp; omega
  have dp2 : decide ((6 : Int) < (m : Int)) = true := by simp; omega
  obtain ⟨sn, rfl, h1, h2⟩ := sh_nat HS.out
  replace i0 := hide i0
  replace j0 := hide j0
  have HB := hide (Below.refl w.heap.size w)
  go_enter Try.func9, Try.ntmps9
  go_wp2_with fail
  refine (list_ints _ _ _ _ _ _ (unhide i0) (Nat.le_refl _)).mono ?_
  rintro e w1 ⟨A2, n2, c2, rfl, i2, b1⟩
  replace i0 := hide ((unhide i0).on b1)
  replace j0 := hide ((unhide j0).on b1)
  replace i2 := hide i2
  replace HB := hide ((unhide HB).trans (b1.mono (unhide HB).size))
  clear b1
  have hn2 : n2 ≤ 1000 := by rw [← (unhide i2).len, List.length_take]; omega
  go_wp2_with fail
  refine (Split_no _ _ _ _ _ _ (unhide i2) hn2 (hide ((row_take xs).trans R1.out))).mono ?_
  rintro e wq ⟨rfl, rfl⟩
  go_wp2_with fail
  refine (list_ints _ _ _ _ _ _ (unhide i0) (Nat.le_refl _)).mono ?_
  rintro e w2 ⟨A4, n4, c4, rfl, i4, b2⟩
  replace i0 := hide ((unhide i0).on b2)
  replace j0 := hide ((unhide j0).on b2)
  replace i2 := hide ((unhide i2).on b2)
  replace i4 := hide i4
  replace HB := hide ((unhide HB).trans (b2.mono (unhide HB).size))
  clear b2
  rw [show xs.take 20 = xs from List.take_of_length_le (by have := row_len R2.out; omega)] at i4
  have e4 := (unhide i4).len
  rw [hl.out] at e4
  subst e4
  go_wp2_with fail
  refine (Turn_ok _ _ _ _ _ _ (unhide i4) R2).mono ?_
  rintro e w3 ⟨A5, c5, rfl, i5, b3⟩
  replace i0 := hide ((unhide i0).on b3)
  replace j0 := hide ((unhide j0).on b3)
  replace i2 := hide ((unhide i2).on b3)
  replace i4 := hide ((unhide i4).on b3)
  replace i5 := hide i5
  replace HB := hide ((unhide HB).trans (b3.mono (unhide HB).size))
  clear b3
  go_wp2_with fail
  refine (list_ints _ _ _ _ _ _ (unhide j0) (Nat.le_refl _)).mono ?_
  rintro e w4 ⟨A6, n6, c6, rfl, i6, b4⟩
  replace i0 := hide ((unhide i0).on b4)
  replace j0 := hide ((unhide j0).on b4)
  replace i2 := hide ((unhide i2).on b4)
  replace i4 := hide ((unhide i4).on b4)
  replace i5 := hide ((unhide i5).on b4)
  replace i6 := hide i6
  replace HB := hide ((unhide HB).trans (b4.mono (unhide HB).size))
  clear b4
  go_wp2_with fail
  refine (Quarter_no _ _ _ _ _ (unhide i6) (hide ((pin_takeB ys).trans PB.out))).mono ?_
  rintro e w5 ⟨rfl, b5⟩
  replace i0 := hide ((unhide i0).on b5)
  replace j0 := hide ((unhide j0).on b5)
  replace i2 := hide ((unhide i2).on b5)
  replace i4 := hide ((unhide i4).on b5)
  replace i5 := hide ((unhide i5).on b5)
  replace i6 := hide ((unhide i6).on b5)
  replace HB := hide ((unhide HB).trans (b5.mono (unhide HB).size))
  clear b5
  go_wp2_with fail
  refine (RIsRow_s 1 (by omega) _ _ _ _ _ (unhide i0)).mono ?_
  rintro e w6 ⟨rfl, b6⟩
  replace i0 := hide ((unhide i0).on b6)
  replace j0 := hide ((unhide j0).on b6)
  replace i2 := hide ((unhide i2).on b6)
  replace i4 := hide ((unhide i4).on b6)
  replace i5 := hide ((unhide i5).on b6)
  replace i6 := hide ((unhide i6).on b6)
  replace HB := hide ((unhide HB).trans (b6.mono (unhide HB).size))
  clear b6
  rw [show rowR ((1 : Nat) : Int) xs = false from (row_same (by rfl) xs).trans R1.out]
  go_wp2_with fail
  refine (RShift_any _ _ true HS).mono ?_
  rintro e wq ⟨rfl, rfl⟩
  go_wp2_with fail
  refine (RIsRow_s sn ⟨h1, h2⟩ _ _ _ _ _ (unhide i0)).mono ?_
  rintro e w7 ⟨rfl, b7⟩
  replace i0 := hide ((unhide i0).on b7)
  replace j0 := hide ((unhide j0).on b7)
  replace i2 := hide ((unhide i2).on b7)
  replace i4 := hide ((unhide i4).on b7)
  replace i5 := hide ((unhide i5).on b7)
  replace i6 := hide ((unhide i6).on b7)
  replace HB := hide ((unhide HB).trans (b7.mono (unhide HB).size))
  clear b7
  rw [show rowR (sn : Int) xs = true from (row_same HS.out xs).trans R2.out]
  have hn16 : n ≤ 1000 := by have := row_len R2.out; rw [hl.out] at this; omega
  go_wp2_with fail
  refine (RTurn_any _ _ _ _ _ (unhide i0) hn16).mono ?_
  rintro e w8 ⟨A9, c9, rfl, i9, b8⟩
  replace i0 := hide ((unhide i0).on b8)
  replace j0 := hide ((unhide j0).on b8)
  replace i2 := hide ((unhide i2).on b8)
  replace i4 := hide ((unhide i4).on b8)
  replace i5 := hide ((unhide i5).on b8)
  replace i6 := hide ((unhide i6).on b8)
  replace i9 := hide i9
  replace HB := hide ((unhide HB).trans (b8.mono (unhide HB).size))
  clear b8
  go_wp2_with fail
  refine (equal_is _ _ _ _ _ _ _ _ _ _ _ (unhide i5) (unhide i9) (hide rfl)).mono ?_
  rintro e w9 ⟨rfl, qq9, hq9⟩
  have b9 : Below w8.heap.size w8 w9 := by rw [hq9]; exact Below.drewN' (Below.refl _ _) qq9
  clear hq9
  replace i0 := hide ((unhide i0).on b9)
  replace j0 := hide ((unhide j0).on b9)
  replace i2 := hide ((unhide i2).on b9)
  replace i4 := hide ((unhide i4).on b9)
  replace i5 := hide ((unhide i5).on b9)
  replace i6 := hide ((unhide i6).on b9)
  replace i9 := hide ((unhide i9).on b9)
  replace HB := hide ((unhide HB).trans (b9.mono (unhide HB).size))
  clear b9
  go_wp2_with fail
  refine (awake_any _).mono ?_
  rintro e w10 ⟨rfl, b10⟩
  replace i0 := hide ((unhide i0).on b10)
  replace j0 := hide ((unhide j0).on b10)
  replace i2 := hide ((unhide i2).on b10)
  replace i4 := hide ((unhide i4).on b10)
  replace i5 := hide ((unhide i5).on b10)
  replace i6 := hide ((unhide i6).on b10)
  replace i9 := hide ((unhide i9).on b10)
  replace HB := hide ((unhide HB).trans (b10.mono (unhide HB).size))
  clear b10
  go_wp2_with fail
  go_ret
  exact ⟨rfl, unhide HB⟩

set_option maxRecDepth 100000 in
set_option maxHeartbeats 2000000 in
theorem LSplits_0_yes_no (s : Int) (A : Option Addr) (n c : Nat) (xs : List Int) (A' : Option Addr) (m c' : Nat) (ys : List Int) (w : World) (i0 : Ints w w.heap.size A n c xs) (j0 : Ints w w.heap.size A' m c' ys) (R1 : Hid (rowB 1 xs = false)) (HS : Hid (shB s = true)) (R2 : Hid (rowB s xs = true)) (PB : Hid (pinB ys = false)) (hpn : 1 ≤ m ∧ m ≤ 6) :
    Calls Try.prog 9 #[.int .i64 s, .slice A n c, .slice A' m c'] w fun e w' => e = .returned (.bool true) ∧ Below w.heap.size w w' := by
  have hl := hide i0.len
  have hm := i0.most; have hcap := i0.cap
  have hlp := hide j0.len
  have hmp := j0.most; have hcapp := j0.cap
  have dp1 : decide ((m : Int) < 1) = false := by simp; omega
  have dp2 : decide ((6 : Int) < (m : Int)) = false := by simp; omega
  obtain ⟨sn, rfl, h1, h2⟩ := sh_nat HS.out
  replace i0 := hide i0
  replace j0 := hide j0
  have HB := hide (Below.refl w.heap.size w)
  go_enter Try.func9, Try.ntmps9
  go_wp2_with fail
  refine (list_ints _ _ _ _ _ _ (unhide i0) (Nat.le_refl _)).mono ?_
  rintro e w1 ⟨A2, n2, c2, rfl, i2, b1⟩
  replace i0 := hide ((unhide i0).on b1)
  replace j0 := hide ((unhide j0).on b1)
  replace i2 := hide i2
  replace HB := hide ((unhide HB).trans (b1.mono (unhide HB).size))
  clear b1
  have hn2 : n2 ≤ 1000 := by rw [← (unhide i2).len, List.length_take]; omega
  go_wp2_with fail
  refine (Split_no _ _ _ _ _ _ (unhide i2) hn2 (hide ((row_take xs).trans R1.out))).mono ?_
  rintro e wq ⟨rfl, rfl⟩
  go_wp2_with fail
  refine (list_ints _ _ _ _ _ _ (unhide i0) (Nat.le_refl _)).mono ?_
  rintro e w2 ⟨A4, n4, c4, rfl, i4, b2⟩
  replace i0 := hide ((unhide i0).on b2)
  replace j0 := hide ((unhide j0).on b2)
  replace i2 := hide ((unhide i2).on b2)
  replace i4 := hide i4
  replace HB := hide ((unhide HB).trans (b2.mono (unhide HB).size))
  clear b2
  rw [show xs.take 20 = xs from List.take_of_length_le (by have := row_len R2.out; omega)] at i4
  have e4 := (unhide i4).len
  rw [hl.out] at e4
  subst e4
  go_wp2_with fail
  refine (Turn_ok _ _ _ _ _ _ (unhide i4) R2).mono ?_
  rintro e w3 ⟨A5, c5, rfl, i5, b3⟩
  replace i0 := hide ((unhide i0).on b3)
  replace j0 := hide ((unhide j0).on b3)
  replace i2 := hide ((unhide i2).on b3)
  replace i4 := hide ((unhide i4).on b3)
  replace i5 := hide i5
  replace HB := hide ((unhide HB).trans (b3.mono (unhide HB).size))
  clear b3
  go_wp2_with fail
  refine (list_ints _ _ _ _ _ _ (unhide j0) (Nat.le_refl _)).mono ?_
  rintro e w4 ⟨A6, n6, c6, rfl, i6, b4⟩
  replace i0 := hide ((unhide i0).on b4)
  replace j0 := hide ((unhide j0).on b4)
  replace i2 := hide ((unhide i2).on b4)
  replace i4 := hide ((unhide i4).on b4)
  replace i5 := hide ((unhide i5).on b4)
  replace i6 := hide i6
  replace HB := hide ((unhide HB).trans (b4.mono (unhide HB).size))
  clear b4
  go_wp2_with fail
  refine (Quarter_no _ _ _ _ _ (unhide i6) (hide ((pin_takeB ys).trans PB.out))).mono ?_
  rintro e w5 ⟨rfl, b5⟩
  replace i0 := hide ((unhide i0).on b5)
  replace j0 := hide ((unhide j0).on b5)
  replace i2 := hide ((unhide i2).on b5)
  replace i4 := hide ((unhide i4).on b5)
  replace i5 := hide ((unhide i5).on b5)
  replace i6 := hide ((unhide i6).on b5)
  replace HB := hide ((unhide HB).trans (b5.mono (unhide HB).size))
  clear b5
  go_wp2_with fail
  refine (RIsRow_s 1 (by omega) _ _ _ _ _ (unhide i0)).mono ?_
  rintro e w6 ⟨rfl, b6⟩
  replace i0 := hide ((unhide i0).on b6)
  replace j0 := hide ((unhide j0).on b6)
  replace i2 := hide ((unhide i2).on b6)
  replace i4 := hide ((unhide i4).on b6)
  replace i5 := hide ((unhide i5).on b6)
  replace i6 := hide ((unhide i6).on b6)
  replace HB := hide ((unhide HB).trans (b6.mono (unhide HB).size))
  clear b6
  rw [show rowR ((1 : Nat) : Int) xs = false from (row_same (by rfl) xs).trans R1.out]
  go_wp2_with fail
  refine (RShift_any _ _ true HS).mono ?_
  rintro e wq ⟨rfl, rfl⟩
  go_wp2_with fail
  refine (RIsRow_s sn ⟨h1, h2⟩ _ _ _ _ _ (unhide i0)).mono ?_
  rintro e w7 ⟨rfl, b7⟩
  replace i0 := hide ((unhide i0).on b7)
  replace j0 := hide ((unhide j0).on b7)
  replace i2 := hide ((unhide i2).on b7)
  replace i4 := hide ((unhide i4).on b7)
  replace i5 := hide ((unhide i5).on b7)
  replace i6 := hide ((unhide i6).on b7)
  replace HB := hide ((unhide HB).trans (b7.mono (unhide HB).size))
  clear b7
  rw [show rowR (sn : Int) xs = true from (row_same HS.out xs).trans R2.out]
  have hn16 : n ≤ 1000 := by have := row_len R2.out; rw [hl.out] at this; omega
  go_wp2_with fail
  refine (RTurn_any _ _ _ _ _ (unhide i0) hn16).mono ?_
  rintro e w8 ⟨A9, c9, rfl, i9, b8⟩
  replace i0 := hide ((unhide i0).on b8)
  replace j0 := hide ((unhide j0).on b8)
  replace i2 := hide ((unhide i2).on b8)
  replace i4 := hide ((unhide i4).on b8)
  replace i5 := hide ((unhide i5).on b8)
  replace i6 := hide ((unhide i6).on b8)
  replace i9 := hide i9
  replace HB := hide ((unhide HB).trans (b8.mono (unhide HB).size))
  clear b8
  go_wp2_with fail
  refine (equal_is _ _ _ _ _ _ _ _ _ _ _ (unhide i5) (unhide i9) (hide rfl)).mono ?_
  rintro e w9 ⟨rfl, qq9, hq9⟩
  have b9 : Below w8.heap.size w8 w9 := by rw [hq9]; exact Below.drewN' (Below.refl _ _) qq9
  clear hq9
  replace i0 := hide ((unhide i0).on b9)
  replace j0 := hide ((unhide j0).on b9)
  replace i2 := hide ((unhide i2).on b9)
  replace i4 := hide ((unhide i4).on b9)
  replace i5 := hide ((unhide i5).on b9)
  replace i6 := hide ((unhide i6).on b9)
  replace i9 := hide ((unhide i9).on b9)
  replace HB := hide ((unhide HB).trans (b9.mono (unhide HB).size))
  clear b9
  go_wp2_with fail
  refine (RIsPins_any _ _ _ _ _ (unhide j0) hpn false PB).mono ?_
  rintro e w10 ⟨rfl, b10⟩
  replace i0 := hide ((unhide i0).on b10)
  replace j0 := hide ((unhide j0).on b10)
  replace i2 := hide ((unhide i2).on b10)
  replace i4 := hide ((unhide i4).on b10)
  replace i5 := hide ((unhide i5).on b10)
  replace i6 := hide ((unhide i6).on b10)
  replace i9 := hide ((unhide i9).on b10)
  replace HB := hide ((unhide HB).trans (b10.mono (unhide HB).size))
  clear b10
  go_wp2_with fail
  refine (awake_any _).mono ?_
  rintro e w11 ⟨rfl, b11⟩
  replace i0 := hide ((unhide i0).on b11)
  replace j0 := hide ((unhide j0).on b11)
  replace i2 := hide ((unhide i2).on b11)
  replace i4 := hide ((unhide i4).on b11)
  replace i5 := hide ((unhide i5).on b11)
  replace i6 := hide ((unhide i6).on b11)
  replace i9 := hide ((unhide i9).on b11)
  replace HB := hide ((unhide HB).trans (b11.mono (unhide HB).size))
  clear b11
  go_wp2_with fail
  go_ret
  exact ⟨rfl, unhide HB⟩

set_option maxRecDepth 100000 in
set_option maxHeartbeats 2000000 in
theorem LSplits_0_yes_yes (s : Int) (A : Option Addr) (n c : Nat) (xs : List Int) (A' : Option Addr) (m c' : Nat) (ys : List Int) (w : World) (i0 : Ints w w.heap.size A n c xs) (j0 : Ints w w.heap.size A' m c' ys) (R1 : Hid (rowB 1 xs = false)) (HS : Hid (shB s = true)) (R2 : Hid (rowB s xs = true)) (PB : Hid (pinB ys = true)) (hpn : 1 ≤ m ∧ m ≤ 6) :
    Calls Try.prog 9 #[.int .i64 s, .slice A n c, .slice A' m c'] w fun e w' => e = .returned (.bool true) ∧ Below w.heap.size w w' := by
  have hl := hide i0.len
  have hm := i0.most; have hcap := i0.cap
  have hlp := hide j0.len
  have hmp := j0.most; have hcapp := j0.cap
  have dp1 : decide ((m : Int) < 1) = false := by simp; omega
  have dp2 : decide ((6 : Int) < (m : Int)) = false := by simp; omega
  obtain ⟨sn, rfl, h1, h2⟩ := sh_nat HS.out
  replace i0 := hide i0
  replace j0 := hide j0
  have HB := hide (Below.refl w.heap.size w)
  go_enter Try.func9, Try.ntmps9
  go_wp2_with fail
  refine (list_ints _ _ _ _ _ _ (unhide i0) (Nat.le_refl _)).mono ?_
  rintro e w1 ⟨A2, n2, c2, rfl, i2, b1⟩
  replace i0 := hide ((unhide i0).on b1)
  replace j0 := hide ((unhide j0).on b1)
  replace i2 := hide i2
  replace HB := hide ((unhide HB).trans (b1.mono (unhide HB).size))
  clear b1
  have hn2 : n2 ≤ 1000 := by rw [← (unhide i2).len, List.length_take]; omega
  go_wp2_with fail
  refine (Split_no _ _ _ _ _ _ (unhide i2) hn2 (hide ((row_take xs).trans R1.out))).mono ?_
  rintro e wq ⟨rfl, rfl⟩
  go_wp2_with fail
  refine (list_ints _ _ _ _ _ _ (unhide i0) (Nat.le_refl _)).mono ?_
  rintro e w2 ⟨A4, n4, c4, rfl, i4, b2⟩
  replace i0 := hide ((unhide i0).on b2)
  replace j0 := hide ((unhide j0).on b2)
  replace i2 := hide ((unhide i2).on b2)
  replace i4 := hide i4
  replace HB := hide ((unhide HB).trans (b2.mono (unhide HB).size))
  clear b2
  rw [show xs.take 20 = xs from List.take_of_length_le (by have := row_len R2.out; omega)] at i4
  have e4 := (unhide i4).len
  rw [hl.out] at e4
  subst e4
  go_wp2_with fail
  refine (Turn_ok _ _ _ _ _ _ (unhide i4) R2).mono ?_
  rintro e w3 ⟨A5, c5, rfl, i5, b3⟩
  replace i0 := hide ((unhide i0).on b3)
  replace j0 := hide ((unhide j0).on b3)
  replace i2 := hide ((unhide i2).on b3)
  replace i4 := hide ((unhide i4).on b3)
  replace i5 := hide i5
  replace HB := hide ((unhide HB).trans (b3.mono (unhide HB).size))
  clear b3
  go_wp2_with fail
  refine (list_ints _ _ _ _ _ _ (unhide j0) (Nat.le_refl _)).mono ?_
  rintro e w4 ⟨A6, n6, c6, rfl, i6, b4⟩
  replace i0 := hide ((unhide i0).on b4)
  replace j0 := hide ((unhide j0).on b4)
  replace i2 := hide ((unhide i2).on b4)
  replace i4 := hide ((unhide i4).on b4)
  replace i5 := hide ((unhide i5).on b4)
  replace i6 := hide i6
  replace HB := hide ((unhide HB).trans (b4.mono (unhide HB).size))
  clear b4
  rw [show ys.take 20 = ys from List.take_of_length_le (by rw [hlp.out]; omega)] at i6
  go_wp2_with fail
  refine (Quarter_ok _ _ _ _ _ (unhide i6) PB).mono ?_
  rintro e w5 ⟨A7, n7, c7, rfl, i7, b5⟩
  replace i0 := hide ((unhide i0).on b5)
  replace j0 := hide ((unhide j0).on b5)
  replace i2 := hide ((unhide i2).on b5)
  replace i4 := hide ((unhide i4).on b5)
  replace i5 := hide ((unhide i5).on b5)
  replace i6 := hide ((unhide i6).on b5)
  replace i7 := hide i7
  replace HB := hide ((unhide HB).trans (b5.mono (unhide HB).size))
  clear b5
  go_wp2_with fail
  refine (RIsRow_s 1 (by omega) _ _ _ _ _ (unhide i0)).mono ?_
  rintro e w6 ⟨rfl, b6⟩
  replace i0 := hide ((unhide i0).on b6)
  replace j0 := hide ((unhide j0).on b6)
  replace i2 := hide ((unhide i2).on b6)
  replace i4 := hide ((unhide i4).on b6)
  replace i5 := hide ((unhide i5).on b6)
  replace i6 := hide ((unhide i6).on b6)
  replace i7 := hide ((unhide i7).on b6)
  replace HB := hide ((unhide HB).trans (b6.mono (unhide HB).size))
  clear b6
  rw [show rowR ((1 : Nat) : Int) xs = false from (row_same (by rfl) xs).trans R1.out]
  go_wp2_with fail
  refine (RShift_any _ _ true HS).mono ?_
  rintro e wq ⟨rfl, rfl⟩
  go_wp2_with fail
  refine (RIsRow_s sn ⟨h1, h2⟩ _ _ _ _ _ (unhide i0)).mono ?_
  rintro e w7 ⟨rfl, b7⟩
  replace i0 := hide ((unhide i0).on b7)
  replace j0 := hide ((unhide j0).on b7)
  replace i2 := hide ((unhide i2).on b7)
  replace i4 := hide ((unhide i4).on b7)
  replace i5 := hide ((unhide i5).on b7)
  replace i6 := hide ((unhide i6).on b7)
  replace i7 := hide ((unhide i7).on b7)
  replace HB := hide ((unhide HB).trans (b7.mono (unhide HB).size))
  clear b7
  rw [show rowR (sn : Int) xs = true from (row_same HS.out xs).trans R2.out]
  have hn16 : n ≤ 1000 := by have := row_len R2.out; rw [hl.out] at this; omega
  go_wp2_with fail
  refine (RTurn_any _ _ _ _ _ (unhide i0) hn16).mono ?_
  rintro e w8 ⟨A9, c9, rfl, i9, b8⟩
  replace i0 := hide ((unhide i0).on b8)
  replace j0 := hide ((unhide j0).on b8)
  replace i2 := hide ((unhide i2).on b8)
  replace i4 := hide ((unhide i4).on b8)
  replace i5 := hide ((unhide i5).on b8)
  replace i6 := hide ((unhide i6).on b8)
  replace i7 := hide ((unhide i7).on b8)
  replace i9 := hide i9
  replace HB := hide ((unhide HB).trans (b8.mono (unhide HB).size))
  clear b8
  go_wp2_with fail
  refine (equal_is _ _ _ _ _ _ _ _ _ _ _ (unhide i5) (unhide i9) (hide rfl)).mono ?_
  rintro e w9 ⟨rfl, qq9, hq9⟩
  have b9 : Below w8.heap.size w8 w9 := by rw [hq9]; exact Below.drewN' (Below.refl _ _) qq9
  clear hq9
  replace i0 := hide ((unhide i0).on b9)
  replace j0 := hide ((unhide j0).on b9)
  replace i2 := hide ((unhide i2).on b9)
  replace i4 := hide ((unhide i4).on b9)
  replace i5 := hide ((unhide i5).on b9)
  replace i6 := hide ((unhide i6).on b9)
  replace i7 := hide ((unhide i7).on b9)
  replace i9 := hide ((unhide i9).on b9)
  replace HB := hide ((unhide HB).trans (b9.mono (unhide HB).size))
  clear b9
  go_wp2_with fail
  refine (RIsPins_any _ _ _ _ _ (unhide j0) hpn true PB).mono ?_
  rintro e w10 ⟨rfl, b10⟩
  replace i0 := hide ((unhide i0).on b10)
  replace j0 := hide ((unhide j0).on b10)
  replace i2 := hide ((unhide i2).on b10)
  replace i4 := hide ((unhide i4).on b10)
  replace i5 := hide ((unhide i5).on b10)
  replace i6 := hide ((unhide i6).on b10)
  replace i7 := hide ((unhide i7).on b10)
  replace i9 := hide ((unhide i9).on b10)
  replace HB := hide ((unhide HB).trans (b10.mono (unhide HB).size))
  clear b10
  go_wp2_with fail
  refine (RQuarter_any _ _ _ _ _ (unhide j0) PB).mono ?_
  rintro e w11 ⟨Aa, na, ca, rfl, ia, b11⟩
  replace i0 := hide ((unhide i0).on b11)
  replace j0 := hide ((unhide j0).on b11)
  replace i2 := hide ((unhide i2).on b11)
  replace i4 := hide ((unhide i4).on b11)
  replace i5 := hide ((unhide i5).on b11)
  replace i6 := hide ((unhide i6).on b11)
  replace i7 := hide ((unhide i7).on b11)
  replace i9 := hide ((unhide i9).on b11)
  replace ia := hide ia
  replace HB := hide ((unhide HB).trans (b11.mono (unhide HB).size))
  clear b11
  go_wp2_with fail
  refine (equal_is _ _ _ _ _ _ _ _ _ _ _ (unhide i7) (unhide ia) (hide rfl)).mono ?_
  rintro e w12 ⟨rfl, qq12, hq12⟩
  have b12 : Below w11.heap.size w11 w12 := by rw [hq12]; exact Below.drewN' (Below.refl _ _) qq12
  clear hq12
  replace i0 := hide ((unhide i0).on b12)
  replace j0 := hide ((unhide j0).on b12)
  replace i2 := hide ((unhide i2).on b12)
  replace i4 := hide ((unhide i4).on b12)
  replace i5 := hide ((unhide i5).on b12)
  replace i6 := hide ((unhide i6).on b12)
  replace i7 := hide ((unhide i7).on b12)
  replace i9 := hide ((unhide i9).on b12)
  replace ia := hide ((unhide ia).on b12)
  replace HB := hide ((unhide HB).trans (b12.mono (unhide HB).size))
  clear b12
  go_wp2_with fail
  refine (awake_any _).mono ?_
  rintro e w13 ⟨rfl, b13⟩
  replace i0 := hide ((unhide i0).on b13)
  replace j0 := hide ((unhide j0).on b13)
  replace i2 := hide ((unhide i2).on b13)
  replace i4 := hide ((unhide i4).on b13)
  replace i5 := hide ((unhide i5).on b13)
  replace i6 := hide ((unhide i6).on b13)
  replace i7 := hide ((unhide i7).on b13)
  replace i9 := hide ((unhide i9).on b13)
  replace ia := hide ((unhide ia).on b13)
  replace HB := hide ((unhide HB).trans (b13.mono (unhide HB).size))
  clear b13
  go_wp2_with fail
  go_ret
  exact ⟨rfl, unhide HB⟩
end Go.Proofs.Ytmgoonoifgcmnaa
