/-
  The law PairsSplits, of a row.
-/
import Derived.Test.YtmgoonoifgcmnaaL4a
namespace Go.Proofs.Ytmgoonoifgcmnaa
open Go.RowKit

set_option maxRecDepth 100000 in
set_option maxHeartbeats 2000000 in
theorem LSplits_1_sh_0 (s : Int) (A : Option Addr) (n c : Nat) (xs : List Int) (A' : Option Addr) (m c' : Nat) (ys : List Int) (w : World) (i0 : Ints w w.heap.size A n c xs) (j0 : Ints w w.heap.size A' m c' ys) (R1 : Hid (rowB 1 xs = true)) (HS : Hid (shB s = false)) (R2 : Hid (rowB s xs = false)) (PB : Hid (pinB ys = false)) (hpn : m = 0) :
    Calls Try.prog 9 #[.int .i64 s, .slice A n c, .slice A' m c'] w fun e w' => e = .returned (.bool true) ∧ Below w.heap.size w w' := by
  have hl := hide i0.len
  have hm := i0.most; have hcap := i0.cap
  have hlp := hide j0.len
  have hmp := j0.most; have hcapp := j0.cap
  subst hpn
  replace i0 := hide i0
  replace j0 := hide j0
  have HB := hide (Below.refl w.heap.size w)
  go_enter Try.func9, Try.ntmps9
  go_wp2_with fail
  refine (list_ints _ _ _ _ _ _ (unhide i0) (Nat.le_refl _)).mono ?_
  rintro e w1 ⟨A2, n2, c2, rfl, i2, b1⟩
  replace i0 := hide ((unhide i0).on b1)
  replace j0 := hide ((unhide j0).on b1)
  replace i2 := hide i2
  replace HB := hide ((unhide HB).trans (b1.mono (unhide HB).size))
  clear b1
  rw [show xs.take 20 = xs from List.take_of_length_le (by have := row_len R1.out; omega)] at i2
  obtain ⟨mm, hmm⟩ : ∃ mm, xs.length / 2 = mm := ⟨_, rfl⟩
  have HMM := hide hmm
  clear hmm
  go_wp2_with fail
  refine (Split_ok _ _ _ _ _ (unhide i2) R1 mm HMM).mono ?_
  rintro e w2 ⟨A3, c3, rfl, a3, b2⟩
  replace i0 := hide ((unhide i0).on b2)
  replace j0 := hide ((unhide j0).on b2)
  replace i2 := hide ((unhide i2).on b2)
  replace a3 := hide a3
  replace HB := hide ((unhide HB).trans (b2.mono (unhide HB).size))
  clear b2
  go_wp2_with fail
  refine (list_ints _ _ _ _ _ _ (unhide i0) (Nat.le_refl _)).mono ?_
  rintro e w3 ⟨A4, n4, c4, rfl, i4, b3⟩
  replace i0 := hide ((unhide i0).on b3)
  replace j0 := hide ((unhide j0).on b3)
  replace i2 := hide ((unhide i2).on b3)
  replace a3 := hide ((unhide a3).on b3)
  replace i4 := hide i4
  replace HB := hide ((unhide HB).trans (b3.mono (unhide HB).size))
  clear b3
  have hn4 : n4 ≤ 1000 := by rw [← (unhide i4).len, List.length_take]; omega
  go_wp2_with fail
  refine (Turn_no _ _ _ _ _ _ _ (unhide i4) hn4 (hide ((row_take xs).trans R2.out))).mono ?_
  rintro e wq ⟨rfl, rfl⟩
  go_wp2_with fail
  refine (list_ints _ _ _ _ _ _ (unhide j0) (Nat.le_refl _)).mono ?_
  rintro e w4 ⟨A6, n6, c6, rfl, i6, b4⟩
  replace i0 := hide ((unhide i0).on b4)
  replace j0 := hide ((unhide j0).on b4)
  replace i2 := hide ((unhide i2).on b4)
  replace a3 := hide ((unhide a3).on b4)
  replace i4 := hide ((unhide i4).on b4)
  replace i6 := hide i6
  replace HB := hide ((unhide HB).trans (b4.mono (unhide HB).size))
  clear b4
  go_wp2_with fail
  refine (Quarter_no _ _ _ _ _ (unhide i6) (hide ((pin_takeB ys).trans PB.out))).mono ?_
  rintro e w5 ⟨rfl, b5⟩
  replace i0 := hide ((unhide i0).on b5)
  replace j0 := hide ((unhide j0).on b5)
  replace i2 := hide ((unhide i2).on b5)
  replace a3 := hide ((unhide a3).on b5)
  replace i4 := hide ((unhide i4).on b5)
  replace i6 := hide ((unhide i6).on b5)
  replace HB := hide ((unhide HB).trans (b5.mono (unhide HB).size))
  clear b5
  go_wp2_with fail
  refine (RIsRow_s 1 (by omega) _ _ _ _ _ (unhide i0)).mono ?_
  rintro e w6 ⟨rfl, b6⟩
  replace i0 := hide ((unhide i0).on b6)
  replace j0 := hide ((unhide j0).on b6)
  replace i2 := hide ((unhide i2).on b6)
  replace a3 := hide ((unhide a3).on b6)
  replace i4 := hide ((unhide i4).on b6)
  replace i6 := hide ((unhide i6).on b6)
  replace HB := hide ((unhide HB).trans (b6.mono (unhide HB).size))
  clear b6
  rw [show rowR ((1 : Nat) : Int) xs = true from (row_same (by rfl) xs).trans R1.out]
  go_wp2_with fail
  refine (RSplit_any _ _ _ _ _ (unhide i0) R1 mm HMM).mono ?_
  rintro e w7 ⟨A8, c8, rfl, a8, b7⟩
  replace i0 := hide ((unhide i0).on b7)
  replace j0 := hide ((unhide j0).on b7)
  replace i2 := hide ((unhide i2).on b7)
  replace a3 := hide ((unhide a3).on b7)
  replace i4 := hide ((unhide i4).on b7)
  replace i6 := hide ((unhide i6).on b7)
  replace a8 := hide a8
  replace HB := hide ((unhide HB).trans (b7.mono (unhide HB).size))
  clear b7
  go_wp2_with fail
  refine (equal2_is _ _ _ _ _ _ _ _ _ _ _ (unhide a3) (unhide a8) (hide rfl)).mono ?_
  rintro e w8 ⟨rfl, qq8, hq8⟩
  have b8 : Below w7.heap.size w7 w8 := by rw [hq8]; exact Below.drewN' (Below.refl _ _) qq8
  clear hq8
  replace i0 := hide ((unhide i0).on b8)
  replace j0 := hide ((unhide j0).on b8)
  replace i2 := hide ((unhide i2).on b8)
  replace a3 := hide ((unhide a3).on b8)
  replace i4 := hide ((unhide i4).on b8)
  replace i6 := hide ((unhide i6).on b8)
  replace a8 := hide ((unhide a8).on b8)
  replace HB := hide ((unhide HB).trans (b8.mono (unhide HB).size))
  clear b8
  go_wp2_with fail
  refine (RShift_any _ _ false HS).mono ?_
  rintro e wq ⟨rfl, rfl⟩
  go_wp2_with fail
  refine (awake_any _).mono ?_
  rintro e w9 ⟨rfl, b9⟩
  replace i0 := hide ((unhide i0).on b9)
  replace j0 := hide ((unhide j0).on b9)
  replace i2 := hide ((unhide i2).on b9)
  replace a3 := hide ((unhide a3).on b9)
  replace i4 := hide ((unhide i4).on b9)
  replace i6 := hide ((unhide i6).on b9)
  replace a8 := hide ((unhide a8).on b9)
  replace HB := hide ((unhide HB).trans (b9.mono (unhide HB).size))
  clear b9
  go_wp2_with fail
  go_ret
  exact ⟨rfl, unhide HB⟩

set_option maxRecDepth 100000 in
set_option maxHeartbeats 2000000 in
theorem LSplits_1_sh_far (s : Int) (A : Option Addr) (n c : Nat) (xs : List Int) (A' : Option Addr) (m c' : Nat) (ys : List Int) (w : World) (i0 : Ints w w.heap.size A n c xs) (j0 : Ints w w.heap.size A' m c' ys) (R1 : Hid (rowB 1 xs = true)) (HS : Hid (shB s = false)) (R2 : Hid (rowB s xs = false)) (PB : Hid (pinB ys = false)) (hpn : 6 < m) :
    Calls Try.prog 9 #[.int .i64 s, .slice A n c, .slice A' m c'] w fun e w' => e = .returned (.bool true) ∧ Below w.heap.size w w' := by
  have hl := hide i0.len
  have hm := i0.most; have hcap := i0.cap
  have hlp := hide j0.len
  have hmp := j0.most; have hcapp := j0.cap
  have dp1 : decide ((m : Int) < 1) = false := by simp; omega
  have dp2 : decide ((6 : Int) < (m : Int)) = true := by simp; omega
  replace i0 := hide i0
  replace j0 := hide j0
  have HB := hide (Below.refl w.heap.size w)
  go_enter Try.func9, Try.ntmps9
  go_wp2_with fail
  refine (list_ints _ _ _ _ _ _ (unhide i0) (Nat.le_refl _)).mono ?_
  rintro e w1 ⟨A2, n2, c2, rfl, i2, b1⟩
  replace i0 := hide ((unhide i0).on b1)
  replace j0 := hide ((unhide j0).on b1)
  replace i2 := hide i2
  replace HB := hide ((unhide HB).trans (b1.mono (unhide HB).size))
  clear b1
  rw [show xs.take 20 = xs from List.take_of_length_le (by have := row_len R1.out; omega)] at i2
  obtain ⟨mm, hmm⟩ : ∃ mm, xs.length / 2 = mm := ⟨_, rfl⟩
  have HMM := hide hmm
  clear hmm
  go_wp2_with fail
  refine (Split_ok _ _ _ _ _ (unhide i2) R1 mm HMM).mono ?_
  rintro e w2 ⟨A3, c3, rfl, a3, b2⟩
  replace i0 := hide ((unhide i0).on b2)
  replace j0 := hide ((unhide j0).on b2)
  replace i2 := hide ((unhide i2).on b2)
  replace a3 := hide a3
  replace HB := hide ((unhide HB).trans (b2.mono (unhide HB).size))
  clear b2
  go_wp2_with fail
  refine (list_ints _ _ _ _ _ _ (unhide i0) (Nat.le_refl _)).mono ?_
  rintro e w3 ⟨A4, n4, c4, rfl, i4, b3⟩
  replace i0 := hide ((unhide i0).on b3)
  replace j0 := hide ((unhide j0).on b3)
  replace i2 := hide ((unhide i2).on b3)
  replace a3 := hide ((unhide a3).on b3)
  replace i4 := hide i4
  replace HB := hide ((unhide HB).trans (b3.mono (unhide HB).size))
  clear b3
  have hn4 : n4 ≤ 1000 := by rw [← (unhide i4).len, List.length_take]; omega
  go_wp2_with fail
  refine (Turn_no _ _ _ _ _ _ _ (unhide i4) hn4 (hide ((row_take xs).trans R2.out))).mono ?_
  rintro e wq ⟨rfl, rfl⟩
  go_wp2_with fail
  refine (list_ints _ _ _ _ _ _ (unhide j0) (Nat.le_refl _)).mono ?_
  rintro e w4 ⟨A6, n6, c6, rfl, i6, b4⟩
  replace i0 := hide ((unhide i0).on b4)
  replace j0 := hide ((unhide j0).on b4)
  replace i2 := hide ((unhide i2).on b4)
  replace a3 := hide ((unhide a3).on b4)
  replace i4 := hide ((unhide i4).on b4)
  replace i6 := hide i6
  replace HB := hide ((unhide HB).trans (b4.mono (unhide HB).size))
  clear b4
  go_wp2_with fail
  refine (Quarter_no _ _ _ _ _ (unhide i6) (hide ((pin_takeB ys).trans PB.out))).mono ?_
  rintro e w5 ⟨rfl, b5⟩
  replace i0 := hide ((unhide i0).on b5)
  replace j0 := hide ((unhide j0).on b5)
  replace i2 := hide ((unhide i2).on b5)
  replace a3 := hide ((unhide a3).on b5)
  replace i4 := hide ((unhide i4).on b5)
  replace i6 := hide ((unhide i6).on b5)
  replace HB := hide ((unhide HB).trans (b5.mono (unhide HB).size))
  clear b5
  go_wp2_with fail
  refine (RIsRow_s 1 (by omega) _ _ _ _ _ (unhide i0)).mono ?_
  rintro e w6 ⟨rfl, b6⟩
  replace i0 := hide ((unhide i0).on b6)
  replace j0 := hide ((unhide j0).on b6)
  replace i2 := hide ((unhide i2).on b6)
  replace a3 := hide ((unhide a3).on b6)
  replace i4 := hide ((unhide i4).on b6)
  replace i6 := hide ((unhide i6).on b6)
  replace HB := hide ((unhide HB).trans (b6.mono (unhide HB).size))
  clear b6
  rw [show rowR ((1 : Nat) : Int) xs = true from (row_same (by rfl) xs).trans R1.out]
  go_wp2_with fail
  refine (RSplit_any _ _ _ _ _ (unhide i0) R1 mm HMM).mono ?_
  rintro e w7 ⟨A8, c8, rfl, a8, b7⟩
  replace i0 := hide ((unhide i0).on b7)
  replace j0 := hide ((unhide j0).on b7)
  replace i2 := hide ((unhide i2).on b7)
  replace a3 := hide ((unhide a3).on b7)
  replace i4 := hide ((unhide i4).on b7)
  replace i6 := hide ((unhide i6).on b7)
  replace a8 := hide a8
  replace HB := hide ((unhide HB).trans (b7.mono (unhide HB).size))
  clear b7
  go_wp2_with fail
  refine (equal2_is _ _ _ _ _ _ _ _ _ _ _ (unhide a3) (unhide a8) (hide rfl)).mono ?_
  rintro e w8 ⟨rfl, qq8, hq8⟩
  have b8 : Below w7.heap.size w7 w8 := by rw [hq8]; exact Below.drewN' (Below.refl _ _) qq8
  clear hq8
  replace i0 := hide ((unhide i0).on b8)
  replace j0 := hide ((unhide j0).on b8)
  replace i2 := hide ((unhide i2).on b8)
  replace a3 := hide ((unhide a3).on b8)
  replace i4 := hide ((unhide i4).on b8)
  replace i6 := hide ((unhide i6).on b8)
  replace a8 := hide ((unhide a8).on b8)
  replace HB := hide ((unhide HB).trans (b8.mono (unhide HB).size))
  clear b8
  go_wp2_with fail
  refine (RShift_any _ _ false HS).mono ?_
  rintro e wq ⟨rfl, rfl⟩
  go_wp2_with fail
  refine (awake_any _).mono ?_
  rintro e w9 ⟨rfl, b9⟩
  replace i0 := hide ((unhide i0).on b9)
  replace j0 := hide ((unhide j0).on b9)
  replace i2 := hide ((unhide i2).on b9)
  replace a3 := hide ((unhide a3).on b9)
  replace i4 := hide ((unhide i4).on b9)
  replace i6 := hide ((unhide i6).on b9)
  replace a8 := hide ((unhide a8).on b9)
  replace HB := hide ((unhide HB).trans (b9.mono (unhide HB).size))
  clear b9
  go_wp2_with fail
  go_ret
  exact ⟨rfl, unhide HB⟩

set_option maxRecDepth 100000 in
set_option maxHeartbeats 2000000 in
theorem LSplits_1_sh_no (s : Int) (A : Option Addr) (n c : Nat) (xs : List Int) (A' : Option Addr) (m c' : Nat) (ys : List Int) (w : World) (i0 : Ints w w.heap.size A n c xs) (j0 : Ints w w.heap.size A' m c' ys) (R1 : Hid (rowB 1 xs = true)) (HS : Hid (shB s = false)) (R2 : Hid (rowB s xs = false)) (PB : Hid (pinB ys = false)) (hpn : 1 ≤ m ∧ m ≤ 6) :
    Calls Try.prog 9 #[.int .i64 s, .slice A n c, .slice A' m c'] w fun e w' => e = .returned (.bool true) ∧ Below w.heap.size w w' := by
  have hl := hide i0.len
  have hm := i0.most; have hcap := i0.cap
  have hlp := hide j0.len
  have hmp := j0.most; have hcapp := j0.cap
  have dp1 : decide ((m : Int) < 1) = false := by simp; omega
  have dp2 : decide ((6 : Int) < (m : Int)) = false := by simp; omega
  replace i0 := hide i0
  replace j0 := hide j0
  have HB := hide (Below.refl w.heap.size w)
  go_enter Try.func9, Try.ntmps9
  go_wp2_with fail
  refine (list_ints _ _ _ _ _ _ (unhide i0) (Nat.le_refl _)).mono ?_
  rintro e w1 ⟨A2, n2, c2, rfl, i2, b1⟩
  replace i0 := hide ((unhide i0).on b1)
  replace j0 := hide ((unhide j0).on b1)
  replace i2 := hide i2
  replace HB := hide ((unhide HB).trans (b1.mono (unhide HB).size))
  clear b1
  rw [show xs.take 20 = xs from List.take_of_length_le (by have := row_len R1.out; omega)] at i2
  obtain ⟨mm, hmm⟩ : ∃ mm, xs.length / 2 = mm := ⟨_, rfl⟩
  have HMM := hide hmm
  clear hmm
  go_wp2_with fail
  refine (Split_ok _ _ _ _ _ (unhide i2) R1 mm HMM).mono ?_
  rintro e w2 ⟨A3, c3, rfl, a3, b2⟩
  replace i0 := hide ((unhide i0).on b2)
  replace j0 := hide ((unhide j0).on b2)
  replace i2 := hide ((unhide i2).on b2)
  replace a3 := hide a3
  replace HB := hide ((unhide HB).trans (b2.mono (unhide HB).size))
  clear b2
  go_wp2_with fail
  refine (list_ints _ _ _ _ _ _ (unhide i0) (Nat.le_refl _)).mono ?_
  rintro e w3 ⟨A4, n4, c4, rfl, i4, b3⟩
  replace i0 := hide ((unhide i0).on b3)
  replace j0 := hide ((unhide j0).on b3)
  replace i2 := hide ((unhide i2).on b3)
  replace a3 := hide ((unhide a3).on b3)
  replace i4 := hide i4
  replace HB := hide ((unhide HB).trans (b3.mono (unhide HB).size))
  clear b3
  have hn4 : n4 ≤ 1000 := by rw [← (unhide i4).len, List.length_take]; omega
  go_wp2_with fail
  refine (Turn_no _ _ _ _ _ _ _ (unhide i4) hn4 (hide ((row_take xs).trans R2.out))).mono ?_
  rintro e wq ⟨rfl, rfl⟩
  go_wp2_with fail
  refine (list_ints _ _ _ _ _ _ (unhide j0) (Nat.le_refl _)).mono ?_
  rintro e w4 ⟨A6, n6, c6, rfl, i6, b4⟩
  replace i0 := hide ((unhide i0).on b4)
  replace j0 := hide ((unhide j0).on b4)
  replace i2 := hide ((unhide i2).on b4)
  replace a3 := hide ((unhide a3).on b4)
  replace i4 := hide ((unhide i4).on b4)
  replace i6 := hide i6
  replace HB := hide ((unhide HB).trans (b4.mono (unhide HB).size))
  clear b4
  go_wp2_with fail
  refine (Quarter_no _ _ _ _ _ (unhide i6) (hide ((pin_takeB ys).trans PB.out))).mono ?_
  rintro e w5 ⟨rfl, b5⟩
  replace i0 := hide ((unhide i0).on b5)
  replace j0 := hide ((unhide j0).on b5)
  replace i2 := hide ((unhide i2).on b5)
  replace a3 := hide ((unhide a3).on b5)
  replace i4 := hide ((unhide i4).on b5)
  replace i6 := hide ((unhide i6).on b5)
  replace HB := hide ((unhide HB).trans (b5.mono (unhide HB).size))
  clear b5
  go_wp2_with fail
  refine (RIsRow_s 1 (by omega) _ _ _ _ _ (unhide i0)).mono ?_
  rintro e w6 ⟨rfl, b6⟩
  replace i0 := hide ((unhide i0).on b6)
  replace j0 := hide ((unhide j0).on b6)
  replace i2 := hide ((unhide i2).on b6)
  replace a3 := hide ((unhide a3).on b6)
  replace i4 := hide ((unhide i4).on b6)
  replace i6 := hide ((unhide i6).on b6)
  replace HB := hide ((unhide HB).trans (b6.mono (unhide HB).size))
  clear b6
  rw [show rowR ((1 : Nat) : Int) xs = true from (row_same (by rfl) xs).trans R1.out]
  go_wp2_with fail
  refine (RSplit_any _ _ _ _ _ (unhide i0) R1 mm HMM).mono ?_
  rintro e w7 ⟨A8, c8, rfl, a8, b7⟩
  replace i0 := hide ((unhide i0).on b7)
  replace j0 := hide ((unhide j0).on b7)
  replace i2 := hide ((unhide i2).on b7)
  replace a3 := hide ((unhide a3).on b7)
  replace i4 := hide ((unhide i4).on b7)
  replace i6 := hide ((unhide i6).on b7)
  replace a8 := hide a8
  replace HB := hide ((unhide HB).trans (b7.mono (unhide HB).size))
  clear b7
  go_wp2_with fail
  refine (equal2_is _ _ _ _ _ _ _ _ _ _ _ (unhide a3) (unhide a8) (hide rfl)).mono ?_
  rintro e w8 ⟨rfl, qq8, hq8⟩
  have b8 : Below w7.heap.size w7 w8 := by rw [hq8]; exact Below.drewN' (Below.refl _ _) qq8
  clear hq8
  replace i0 := hide ((unhide i0).on b8)
  replace j0 := hide ((unhide j0).on b8)
  replace i2 := hide ((unhide i2).on b8)
  replace a3 := hide ((unhide a3).on b8)
  replace i4 := hide ((unhide i4).on b8)
  replace i6 := hide ((unhide i6).on b8)
  replace a8 := hide ((unhide a8).on b8)
  replace HB := hide ((unhide HB).trans (b8.mono (unhide HB).size))
  clear b8
  go_wp2_with fail
  refine (RShift_any _ _ false HS).mono ?_
  rintro e wq ⟨rfl, rfl⟩
  go_wp2_with fail
  refine (RIsPins_any _ _ _ _ _ (unhide j0) hpn false PB).mono ?_
  rintro e w9 ⟨rfl, b9⟩
  replace i0 := hide ((unhide i0).on b9)
  replace j0 := hide ((unhide j0).on b9)
  replace i2 := hide ((unhide i2).on b9)
  replace a3 := hide ((unhide a3).on b9)
  replace i4 := hide ((unhide i4).on b9)
  replace i6 := hide ((unhide i6).on b9)
  replace a8 := hide ((unhide a8).on b9)
  replace HB := hide ((unhide HB).trans (b9.mono (unhide HB).size))
  clear b9
  go_wp2_with fail
  refine (awake_any _).mono ?_
  rintro e w10 ⟨rfl, b10⟩
  replace i0 := hide ((unhide i0).on b10)
  replace j0 := hide ((unhide j0).on b10)
  replace i2 := hide ((unhide i2).on b10)
  replace a3 := hide ((unhide a3).on b10)
  replace i4 := hide ((unhide i4).on b10)
  replace i6 := hide ((unhide i6).on b10)
  replace a8 := hide ((unhide a8).on b10)
  replace HB := hide ((unhide HB).trans (b10.mono (unhide HB).size))
  clear b10
  go_wp2_with fail
  go_ret
  exact ⟨rfl, unhide HB⟩

set_option maxRecDepth 100000 in
set_option maxHeartbeats 2000000 in
theorem LSplits_1_sh_yes (s : Int) (A : Option Addr) (n c : Nat) (xs : List Int) (A' : Option Addr) (m c' : Nat) (ys : List Int) (w : World) (i0 : Ints w w.heap.size A n c xs) (j0 : Ints w w.heap.size A' m c' ys) (R1 : Hid (rowB 1 xs = true)) (HS : Hid (shB s = false)) (R2 : Hid (rowB s xs = false)) (PB : Hid (pinB ys = true)) (hpn : 1 ≤ m ∧ m ≤ 6) :
    Calls Try.prog 9 #[.int .i64 s, .slice A n c, .slice A' m c'] w fun e w' => e = .returned (.bool true) ∧ Below w.heap.size w w' := by
  have hl := hide i0.len
  have hm := i0.most; have hcap := i0.cap
  have hlp := hide j0.len
  have hmp := j0.most; have hcapp := j0.cap
  have dp1 : decide ((m : Int) < 1) = false := by simp; omega
  have dp2 : decide ((6 : Int) < (m : Int)) = false := by simp; omega
  replace i0 := hide i0
  replace j0 := hide j0
  have HB := hide (Below.refl w.heap.size w)
  go_enter Try.func9, Try.ntmps9
  go_wp2_with fail
  refine (list_ints _ _ _ _ _ _ (unhide i0) (Nat.le_refl _)).mono ?_
  rintro e w1 ⟨A2, n2, c2, rfl, i2, b1⟩
  replace i0 := hide ((unhide i0).on b1)
  replace j0 := hide ((unhide j0).on b1)
  replace i2 := hide i2
  replace HB := hide ((unhide HB).trans (b1.mono (unhide HB).size))
  clear b1
  rw [show xs.take 20 = xs from List.take_of_length_le (by have := row_len R1.out; omega)] at i2
  obtain ⟨mm, hmm⟩ : ∃ mm, xs.length / 2 = mm := ⟨_, rfl⟩
  have HMM := hide hmm
  clear hmm
  go_wp2_with fail
  refine (Split_ok _ _ _ _ _ (unhide i2) R1 mm HMM).mono ?_
  rintro e w2 ⟨A3, c3, rfl, a3, b2⟩
  replace i0 := hide ((unhide i0).on b2)
  replace j0 := hide ((unhide j0).on b2)
  replace i2 := hide ((unhide i2).on b2)
  replace a3 := hide a3
  replace HB := hide ((unhide HB).trans (b2.mono (unhide HB).size))
  clear b2
  go_wp2_with fail
  refine (list_ints _ _ _ _ _ _ (unhide i0) (Nat.le_refl _)).mono ?_
  rintro e w3 ⟨A4, n4, c4, rfl, i4, b3⟩
  replace i0 := hide ((unhide i0).on b3)
  replace j0 := hide ((unhide j0).on b3)
  replace i2 := hide ((unhide i2).on b3)
  replace a3 := hide ((unhide a3).on b3)
  replace i4 := hide i4
  replace HB := hide ((unhide HB).trans (b3.mono (unhide HB).size))
  clear b3
  have hn4 : n4 ≤ 1000 := by rw [← (unhide i4).len, List.length_take]; omega
  go_wp2_with fail
  refine (Turn_no _ _ _ _ _ _ _ (unhide i4) hn4 (hide ((row_take xs).trans R2.out))).mono ?_
  rintro e wq ⟨rfl, rfl⟩
  go_wp2_with fail
  refine (list_ints _ _ _ _ _ _ (unhide j0) (Nat.le_refl _)).mono ?_
  rintro e w4 ⟨A6, n6, c6, rfl, i6, b4⟩
  replace i0 := hide ((unhide i0).on b4)
  replace j0 := hide ((unhide j0).on b4)
  replace i2 := hide ((unhide i2).on b4)
  replace a3 := hide ((unhide a3).on b4)
  replace i4 := hide ((unhide i4).on b4)
  replace i6 := hide i6
  replace HB := hide ((unhide HB).trans (b4.mono (unhide HB).size))
  clear b4
  rw [show ys.take 20 = ys from List.take_of_length_le (by rw [hlp.out]; omega)] at i6
  go_wp2_with fail
  refine (Quarter_ok _ _ _ _ _ (unhide i6) PB).mono ?_
  rintro e w5 ⟨A7, n7, c7, rfl, i7, b5⟩
  replace i0 := hide ((unhide i0).on b5)
  replace j0 := hide ((unhide j0).on b5)
  replace i2 := hide ((unhide i2).on b5)
  replace a3 := hide ((unhide a3).on b5)
  replace i4 := hide ((unhide i4).on b5)
  replace i6 := hide ((unhide i6).on b5)
  replace i7 := hide i7
  replace HB := hide ((unhide HB).trans (b5.mono (unhide HB).size))
  clear b5
  go_wp2_with fail
  refine (RIsRow_s 1 (by omega) _ _ _ _ _ (unhide i0)).mono ?_
  rintro e w6 ⟨rfl, b6⟩
  replace i0 := hide ((unhide i0).on b6)
  replace j0 := hide ((unhide j0).on b6)
  replace i2 := hide ((unhide i2).on b6)
  replace a3 := hide ((unhide a3).on b6)
  replace i4 := hide ((unhide i4).on b6)
  replace i6 := hide ((unhide i6).on b6)
  replace i7 := hide ((unhide i7).on b6)
  replace HB := hide ((unhide HB).trans (b6.mono (unhide HB).size))
  clear b6
  rw [show rowR ((1 : Nat) : Int) xs = true from (row_same (by rfl) xs).trans R1.out]
  go_wp2_with fail
  refine (RSplit_any _ _ _ _ _ (unhide i0) R1 mm HMM).mono ?_
  rintro e w7 ⟨A8, c8, rfl, a8, b7⟩
  replace i0 := hide ((unhide i0).on b7)
  replace j0 := hide ((unhide j0).on b7)
  replace i2 := hide ((unhide i2).on b7)
  replace a3 := hide ((unhide a3).on b7)
  replace i4 := hide ((unhide i4).on b7)
  replace i6 := hide ((unhide i6).on b7)
  replace i7 := hide ((unhide i7).on b7)
  replace a8 := hide a8
  replace HB := hide ((unhide HB).trans (b7.mono (unhide HB).size))
  clear b7
  go_wp2_with fail
  refine (equal2_is _ _ _ _ _ _ _ _ _ _ _ (unhide a3) (unhide a8) (hide rfl)).mono ?_
  rintro e w8 ⟨rfl, qq8, hq8⟩
  have b8 : Below w7.heap.size w7 w8 := by rw [hq8]; exact Below.drewN' (Below.refl _ _) qq8
  clear hq8
  replace i0 := hide ((unhide i0).on b8)
  replace j0 := hide ((unhide j0).on b8)
  replace i2 := hide ((unhide i2).on b8)
  replace a3 := hide ((unhide a3).on b8)
  replace i4 := hide ((unhide i4).on b8)
  replace i6 := hide ((unhide i6).on b8)
  replace i7 := hide ((unhide i7).on b8)
  replace a8 := hide ((unhide a8).on b8)
  replace HB := hide ((unhide HB).trans (b8.mono (unhide HB).size))
  clear b8
  go_wp2_with fail
  refine (RShift_any _ _ false HS).mono ?_
  rintro e wq ⟨rfl, rfl⟩
  go_wp2_with fail
  refine (RIsPins_any _ _ _ _ _ (unhide j0) hpn true PB).mono ?_
  rintro e w9 ⟨rfl, b9⟩
  replace i0 := hide ((unhide i0).on b9)
  replace j0 := hide ((unhide j0).on b9)
  replace i2 := hide ((unhide i2).on b9)
  replace a3 := hide ((unhide a3).on b9)
  replace i4 := hide ((unhide i4).on b9)
  replace i6 := hide ((unhide i6).on b9)
  replace i7 := hide ((unhide i7).on b9)
  replace a8 := hide ((unhide a8).on b9)
  replace HB := hide ((unhide HB).trans (b9.mono (unhide HB).size))
  clear b9
  go_wp2_with fail
  refine (RQuarter_any _ _ _ _ _ (unhide j0) PB).mono ?_
  rintro e w10 ⟨Aa, na, ca, rfl, ia, b10⟩
  replace i0 := hide ((unhide i0).on b10)
  replace j0 := hide ((unhide j0).on b10)
  replace i2 := hide ((unhide i2).on b10)
  replace a3 := hide ((unhide a3).on b10)
  replace i4 := hide ((unhide i4).on b10)
  replace i6 := hide ((unhide i6).on b10)
  replace i7 := hide ((unhide i7).on b10)
  replace a8 := hide ((unhide a8).on b10)
  replace ia := hide ia
  replace HB := hide ((unhide HB).trans (b10.mono (unhide HB).size))
  clear b10
  go_wp2_with fail
  refine (equal_is _ _ _ _ _ _ _ _ _ _ _ (unhide i7) (unhide ia) (hide rfl)).mono ?_
  rintro e w11 ⟨rfl, qq11, hq11⟩
  have b11 : Below w10.heap.size w10 w11 := by rw [hq11]; exact Below.drewN' (Below.refl _ _) qq11
  clear hq11
  replace i0 := hide ((unhide i0).on b11)
  replace j0 := hide ((unhide j0).on b11)
  replace i2 := hide ((unhide i2).on b11)
  replace a3 := hide ((unhide a3).on b11)
  replace i4 := hide ((unhide i4).on b11)
  replace i6 := hide ((unhide i6).on b11)
  replace i7 := hide ((unhide i7).on b11)
  replace a8 := hide ((unhide a8).on b11)
  replace ia := hide ((unhide ia).on b11)
  replace HB := hide ((unhide HB).trans (b11.mono (unhide HB).size))
  clear b11
  go_wp2_with fail
  refine (awake_any _).mono ?_
  rintro e w12 ⟨rfl, b12⟩
  replace i0 := hide ((unhide i0).on b12)
  replace j0 := hide ((unhide j0).on b12)
  replace i2 := hide ((unhide i2).on b12)
  replace a3 := hide ((unhide a3).on b12)
  replace i4 := hide ((unhide i4).on b12)
  replace i6 := hide ((unhide i6).on b12)
  replace i7 := hide ((unhide i7).on b12)
  replace a8 := hide ((unhide a8).on b12)
  replace ia := hide ((unhide ia).on b12)
  replace HB := hide ((unhide HB).trans (b12.mono (unhide HB).size))
  clear b12
  go_wp2_with fail
  go_ret
  exact ⟨rfl, unhide HB⟩

set_option maxRecDepth 100000 in
set_option maxHeartbeats 2000000 in
theorem LSplits_1_no_0 (s : Int) (A : Option Addr) (n c : Nat) (xs : List Int) (A' : Option Addr) (m c' : Nat) (ys : List Int) (w : World) (i0 : Ints w w.heap.size A n c xs) (j0 : Ints w w.heap.size A' m c' ys) (R1 : Hid (rowB 1 xs = true)) (HS : Hid (shB s = true)) (R2 : Hid (rowB s xs = false)) (PB : Hid (pinB ys = false)) (hpn : m = 0) :
    Calls Try.prog 9 #[.int .i64 s, .slice A n c, .slice A' m c'] w fun e w' => e = .returned (.bool true) ∧ Below w.heap.size w w' := by
  have hl := hide i0.len
  have hm := i0.most; have hcap := i0.cap
  have hlp := hide j0.len
  have hmp := j0.most; have hcapp := j0.cap
  subst hpn
  obtain ⟨sn, rfl, h1, h2⟩ := sh_nat HS.out
  replace i0 := hide i0
  replace j0 := hide j0
  have HB := hide (Below.refl w.heap.size w)
  go_enter Try.func9, Try.ntmps9
  go_wp2_with fail
  refine (list_ints _ _ _ _ _ _ (unhide i0) (Nat.le_refl _)).mono ?_
  rintro e w1 ⟨A2, n2, c2, rfl, i2, b1⟩
  replace i0 := hide ((unhide i0).on b1)
  replace j0 := hide ((unhide j0).on b1)
  replace i2 := hide i2
  replace HB := hide ((unhide HB).trans (b1.mono (unhide HB).size))
  clear b1
  rw [show xs.take 20 = xs from List.take_of_length_le (by have := row_len R1.out; omega)] at i2
  obtain ⟨mm, hmm⟩ : ∃ mm, xs.length / 2 = mm := ⟨_, rfl⟩
  have HMM := hide hmm
  clear hmm
  go_wp2_with fail
  refine (Split_ok _ _ _ _ _ (unhide i2) R1 mm HMM).mono ?_
  rintro e w2 ⟨A3, c3, rfl, a3, b2⟩
  replace i0 := hide ((unhide i0).on b2)
  replace j0 := hide ((unhide j0).on b2)
  replace i2 := hide ((unhide i2).on b2)
  replace a3 := hide a3
  replace HB := hide ((unhide HB).trans (b2.mono (unhide HB).size))
  clear b2
  go_wp2_with fail
  refine (list_ints _ _ _ _ _ _ (unhide i0) (Nat.le_refl _)).mono ?_
  rintro e w3 ⟨A4, n4, c4, rfl, i4, b3⟩
  replace i0 := hide ((unhide i0).on b3)
  replace j0 := hide ((unhide j0).on b3)
  replace i2 := hide ((unhide i2).on b3)
  replace a3 := hide ((unhide a3).on b3)
  replace i4 := hide i4
  replace HB := hide ((unhide HB).trans (b3.mono (unhide HB).size))
  clear b3
  have hn4 : n4 ≤ 1000 := by rw [← (unhide i4).len, List.length_take]; omega
  go_wp2_with fail
  refine (Turn_no _ _ _ _ _ _ _ (unhide i4) hn4 (hide ((row_take xs).trans R2.out))).mono ?_
  rintro e wq ⟨rfl, rfl⟩
  go_wp2_with fail
  refine (list_ints _ _ _ _ _ _ (unhide j0) (Nat.le_refl _)).mono ?_
  rintro e w4 ⟨A6, n6, c6, rfl, i6, b4⟩
  replace i0 := hide ((unhide i0).on b4)
  replace j0 := hide ((unhide j0).on b4)
  replace i2 := hide ((unhide i2).on b4)
  replace a3 := hide ((unhide a3).on b4)
  replace i4 := hide ((unhide i4).on b4)
  replace i6 := hide i6
  replace HB := hide ((unhide HB).trans (b4.mono (unhide HB).size))
  clear b4
  go_wp2_with fail
  refine (Quarter_no _ _ _ _ _ (unhide i6) (hide ((pin_takeB ys).trans PB.out))).mono ?_
  rintro e w5 ⟨rfl, b5⟩
  replace i0 := hide ((unhide i0).on b5)
  replace j0 := hide ((unhide j0).on b5)
  replace i2 := hide ((unhide i2).on b5)
  replace a3 := hide ((unhide a3).on b5)
  replace i4 := hide ((unhide i4).on b5)
  replace i6 := hide ((unhide i6).on b5)
  replace HB := hide ((unhide HB).trans (b5.mono (unhide HB).size))
  clear b5
  go_wp2_with fail
  refine (RIsRow_s 1 (by omega) _ _ _ _ _ (unhide i0)).mono ?_
  rintro e w6 ⟨rfl, b6⟩
  replace i0 := hide ((unhide i0).on b6)
  replace j0 := hide ((unhide j0).on b6)
  replace i2 := hide ((unhide i2).on b6)
  replace a3 := hide ((unhide a3).on b6)
  replace i4 := hide ((unhide i4).on b6)
  replace i6 := hide ((unhide i6).on b6)
  replace HB := hide ((unhide HB).trans (b6.mono (unhide HB).size))
  clear b6
  rw [show rowR ((1 : Nat) : Int) xs = true from (row_same (by rfl) xs).trans R1.out]
  go_wp2_with fail
  refine (RSplit_any _ _ _ _ _ (unhide i0) R1 mm HMM).mono ?_
  rintro e w7 ⟨A8, c8, rfl, a8, b7⟩
  replace i0 := hide ((unhide i0).on b7)
  replace j0 := hide ((unhide j0).on b7)
  replace i2 := hide ((unhide i2).on b7)
  replace a3 := hide ((unhide a3).on b7)
  replace i4 := hide ((unhide i4).on b7)
  replace i6 := hide ((unhide i6).on b7)
  replace a8 := hide a8
  replace HB := hide ((unhide HB).trans (b7.mono (unhide HB).size))
  clear b7
  go_wp2_with fail
  refine (equal2_is _ _ _ _ _ _ _ _ _ _ _ (unhide a3) (unhide a8) (hide rfl)).mono ?_
  rintro e w8 ⟨rfl, qq8, hq8⟩
  have b8 : Below w7.heap.size w7 w8 := by rw [hq8]; exact Below.drewN' (Below.refl _ _) qq8
  clear hq8
  replace i0 := hide ((unhide i0).on b8)
  replace j0 := hide ((unhide j0).on b8)
  replace i2 := hide ((unhide i2).on b8)
  replace a3 := hide ((unhide a3).on b8)
  replace i4 := hide ((unhide i4).on b8)
  replace i6 := hide ((unhide i6).on b8)
  replace a8 := hide ((unhide a8).on b8)
  replace HB := hide ((unhide HB).trans (b8.mono (unhide HB).size))
  clear b8
  go_wp2_with fail
  refine (RShift_any _ _ true HS).mono ?_
  rintro e wq ⟨rfl, rfl⟩
  go_wp2_with fail
  refine (RIsRow_s sn ⟨h1, h2⟩ _ _ _ _ _ (unhide i0)).mono ?_
  rintro e w9 ⟨rfl, b9⟩
  replace i0 := hide ((unhide i0).on b9)
  replace j0 := hide ((unhide j0).on b9)
  replace i2 := hide ((unhide i2).on b9)
  replace a3 := hide ((unhide a3).on b9)
  replace i4 := hide ((unhide i4).on b9)
  replace i6 := hide ((unhide i6).on b9)
  replace a8 := hide ((unhide a8).on b9)
  replace HB := hide ((unhide HB).trans (b9.mono (unhide HB).size))
  clear b9
  rw [show rowR (sn : Int) xs = false from (row_same HS.out xs).trans R2.out]
  go_wp2_with fail
  refine (awake_any _).mono ?_
  rintro e w10 ⟨rfl, b10⟩
  replace i0 := hide ((unhide i0).on b10)
  replace j0 := hide ((unhide j0).on b10)
  replace i2 := hide ((unhide i2).on b10)
  replace a3 := hide ((unhide a3).on b10)
  replace i4 := hide ((unhide i4).on b10)
  replace i6 := hide ((unhide i6).on b10)
  replace a8 := hide ((unhide a8).on b10)
  replace HB := hide ((unhide HB).trans (b10.mono (unhide HB).size))
  clear b10
  go_wp2_with fail
  go_ret
  exact ⟨rfl, unhide HB⟩

set_option maxRecDepth 100000 in
set_option maxHeartbeats 2000000 in
theorem LSplits_1_no_far (s : Int) (A : Option Addr) (n c : Nat) (xs : List Int) (A' : Option Addr) (m c' : Nat) (ys : List Int) (w : World) (i0 : Ints w w.heap.size A n c xs) (j0 : Ints w w.heap.size A' m c' ys) (R1 : Hid (rowB 1 xs = true)) (HS : Hid (shB s = true)) (R2 : Hid (rowB s xs = false)) (PB : Hid (pinB ys = false)) (hpn : 6 < m) :
    Calls Try.prog 9 #[.int .i64 s, .slice A n c, .slice A' m c'] w fun e w' => e = .returned (.bool true) ∧ Below w.heap.size w w' := by
  have hl := hide i0.len
  have hm := i0.most; have hcap := i0.cap
  have hlp := hide j0.len
  have hmp := j0.most; have hcapp := j0.cap
  have dp1 : decide ((m : Int) < 1) = false := by simp; omega
  have dp2 : decide ((6 : Int) < (m : Int)) = true := by simp; omega
  obtain ⟨sn, rfl, h1, h2⟩ := sh_nat HS.out
  replace i0 := hide i0
  replace j0 := hide j0
  have HB := hide (Below.refl w.heap.size w)
  go_enter Try.func9, Try.ntmps9
  go_wp2_with fail
  refine (list_ints _ _ _ _ _ _ (unhide i0) (Nat.le_refl _)).mono ?_
  rintro e w1 ⟨A2, n2, c2, rfl, i2, b1⟩
  replace i0 := hide ((unhide i0).on b1)
  replace j0 := hide ((unhide j0).on b1)
  replace i2 := hide i2
  replace HB := hide ((unhide HB).trans (b1.mono (unhide HB).size))
  clear b1
  rw [show xs.take 20 = xs from List.take_of_length_le (by have := row_len R1.out; omega)] at i2
  obtain ⟨mm, hmm⟩ : ∃ mm, xs.length / 2 = mm := ⟨_, rfl⟩
  have HMM := hide hmm
  clear hmm
  go_wp2_with fail
  refine (Split_ok _ _ _ _ _ (unhide i2) R1 mm HMM).mono ?_
  rintro e w2 ⟨A3, c3, rfl, a3, b2⟩
  replace i0 := hide ((unhide i0).on b2)
  replace j0 := hide ((unhide j0).on b2)
  replace i2 := hide ((unhide i2).on b2)
  replace a3 := hide a3
  replace HB := hide ((unhide HB).trans (b2.mono (unhide HB).size))
  clear b2
  go_wp2_with fail
  refine (list_ints _ _ _ _ _ _ (unhide i0) (Nat.le_refl _)).mono ?_
  rintro e w3 ⟨A4, n4, c4, rfl, i4, b3⟩
  replace i0 := hide ((unhide i0).on b3)
  replace j0 := hide ((unhide j0).on b3)
  replace i2 := hide ((unhide i2).on b3)
  replace a3 := hide ((unhide a3).on b3)
  replace i4 := hide i4
  replace HB := hide ((unhide HB).trans (b3.mono (unhide HB).size))
  clear b3
  have hn4 : n4 ≤ 1000 := by rw [← (unhide i4).len, List.length_take]; omega
  go_wp2_with fail
  refine (Turn_no _ _ _ _ _ _ _ (unhide i4) hn4 (hide ((row_take xs).trans R2.out))).mono ?_
  rintro e wq ⟨rfl, rfl⟩
  go_wp2_with fail
  refine (list_ints _ _ _ _ _ _ (unhide j0) (Nat.le_refl _)).mono ?_
  rintro e w4 ⟨A6, n6, c6, rfl, i6, b4⟩
  replace i0 := hide ((unhide i0).on b4)
  replace j0 := hide ((unhide j0).on b4)
  replace i2 := hide ((unhide i2).on b4)
  replace a3 := hide ((unhide a3).on b4)
  replace i4 := hide ((unhide i4).on b4)
  replace i6 := hide i6
  replace HB := hide ((unhide HB).trans (b4.mono (unhide HB).size))
  clear b4
  go_wp2_with fail
  refine (Quarter_no _ _ _ _ _ (unhide i6) (hide ((pin_takeB ys).trans PB.out))).mono ?_
  rintro e w5 ⟨rfl, b5⟩
  replace i0 := hide ((unhide i0).on b5)
  replace j0 := hide ((unhide j0).on b5)
  replace i2 := hide ((unhide i2).on b5)
  replace a3 := hide ((unhide a3).on b5)
  replace i4 := hide ((unhide i4).on b5)
  replace i6 := hide ((unhide i6).on b5)
  replace HB := hide ((unhide HB).trans (b5.mono (unhide HB).size))
  clear b5
  go_wp2_with fail
  refine (RIsRow_s 1 (by omega) _ _ _ _ _ (unhide i0)).mono ?_
  rintro e w6 ⟨rfl, b6⟩
  replace i0 := hide ((unhide i0).on b6)
  replace j0 := hide ((unhide j0).on b6)
  replace i2 := hide ((unhide i2).on b6)
  replace a3 := hide ((unhide a3).on b6)
  replace i4 := hide ((unhide i4).on b6)
  replace i6 := hide ((unhide i6).on b6)
  replace HB := hide ((unhide HB).trans (b6.mono (unhide HB).size))
  clear b6
  rw [show rowR ((1 : Nat) : Int) xs = true from (row_same (by rfl) xs).trans R1.out]
  go_wp2_with fail
  refine (RSplit_any _ _ _ _ _ (unhide i0) R1 mm HMM).mono ?_
  rintro e w7 ⟨A8, c8, rfl, a8, b7⟩
  replace i0 := hide ((unhide i0).on b7)
  replace j0 := hide ((unhide j0).on b7)
  replace i2 := hide ((unhide i2).on b7)
  replace a3 := hide ((unhide a3).on b7)
  replace i4 := hide ((unhide i4).on b7)
  replace i6 := hide ((unhide i6).on b7)
  replace a8 := hide a8
  replace HB := hide ((unhide HB).trans (b7.mono (unhide HB).size))
  clear b7
  go_wp2_with fail
  refine (equal2_is _ _ _ _ _ _ _ _ _ _ _ (unhide a3) (unhide a8) (hide rfl)).mono ?_
  rintro e w8 ⟨rfl, qq8, hq8⟩
  have b8 : Below w7.heap.size w7 w8 := by rw [hq8]; exact Below.drewN' (Below.refl _ _) qq8
  clear hq8
  replace i0 := hide ((unhide i0).on b8)
  replace j0 := hide ((unhide j0).on b8)
  replace i2 := hide ((unhide i2).on b8)
  replace a3 := hide ((unhide a3).on b8)
  replace i4 := hide ((unhide i4).on b8)
  replace i6 := hide ((unhide i6).on b8)
  replace a8 := hide ((unhide a8).on b8)
  replace HB := hide ((unhide HB).trans (b8.mono (unhide HB).size))
  clear b8
  go_wp2_with fail
  refine (RShift_any _ _ true HS).mono ?_
  rintro e wq ⟨rfl, rfl⟩
  go_wp2_with fail
  refine (RIsRow_s sn ⟨h1, h2⟩ _ _ _ _ _ (unhide i0)).mono ?_
  rintro e w9 ⟨rfl, b9⟩
  replace i0 := hide ((unhide i0).on b9)
  replace j0 := hide ((unhide j0).on b9)
  replace i2 := hide ((unhide i2).on b9)
  replace a3 := hide ((unhide a3).on b9)
  replace i4 := hide ((unhide i4).on b9)
  replace i6 := hide ((unhide i6).on b9)
  replace a8 := hide ((unhide a8).on b9)
  replace HB := hide ((unhide HB).trans (b9.mono (unhide HB).size))
  clear b9
  rw [show rowR (sn : Int) xs = false from (row_same HS.out xs).trans R2.out]
  go_wp2_with fail
  refine (awake_any _).mono ?_
  rintro e w10 ⟨rfl, b10⟩
  replace i0 := hide ((unhide i0).on b10)
  replace j0 := hide ((unhide j0).on b10)
  replace i2 := hide ((unhide i2).on b10)
  replace a3 := hide ((unhide a3).on b10)
  replace i4 := hide ((unhide i4).on b10)
  replace i6 := hide ((unhide i6).on b10)
  replace a8 := hide ((unhide a8).on b10)
  replace HB := hide ((unhide HB).trans (b10.mono (unhide HB).size))
  clear b10
  go_wp2_with fail
  go_ret
  exact ⟨rfl, unhide HB⟩

set_option maxRecDepth 100000 in
set_option maxHeartbeats 2000000 in
theorem LSplits_1_no_no (s : Int) (A : Option Addr) (n c : Nat) (xs : List Int) (A' : Option Addr) (m c' : Nat) (ys : List Int) (w : World) (i0 : Ints w w.heap.size A n c xs) (j0 : Ints w w.heap.size A' m c' ys) (R1 : Hid (rowB 1 xs = true)) (HS : Hid (shB s = true)) (R2 : Hid (rowB s xs = false)) (PB : Hid (pinB ys = false)) (hpn : 1 ≤ m ∧ m ≤ 6) :
    Calls Try.prog 9 #[.int .i64 s, .slice A n c, .slice A' m c'] w fun e w' => e = .returned (.bool true) ∧ Below w.heap.size w w' := by
  have hl := hide i0.len
  have hm := i0.most; have hcap := i0.cap
  have hlp := hide j0.len
  have hmp := j0.most; have hcapp := j0.cap
  have dp1 : decide ((m : Int) < 1) = false := by simp; omega
  have dp2 : decide ((6 : Int) < (m : Int)) = false := by simp; omega
  obtain ⟨sn, rfl, h1, h2⟩ := sh_nat HS.out
  replace i0 := hide i0
  replace j0 := hide j0
  have HB := hide (Below.refl w.heap.size w)
  go_enter Try.func9, Try.ntmps9
  go_wp2_with fail
  refine (list_ints _ _ _ _ _ _ (unhide i0) (Nat.le_refl _)).mono ?_
  rintro e w1 ⟨A2, n2, c2, rfl, i2, b1⟩
  replace i0 := hide ((unhide i0).on b1)
  replace j0 := hide ((unhide j0).on b1)
  replace i2 := hide i2
  replace HB := hide ((unhide HB).trans (b1.mono (unhide HB).size))
  clear b1
  rw [show xs.take 20 = xs from List.take_of_length_le (by have := row_len R1.out; omega)] at i2
  obtain ⟨mm, hmm⟩ : ∃ mm, xs.length / 2 = mm := ⟨_, rfl⟩
  have HMM := hide hmm
  clear hmm
  go_wp2_with fail
  refine (Split_ok _ _ _ _ _ (unhide i2) R1 mm HMM).mono ?_
  rintro e w2 ⟨A3, c3, rfl, a3, b2⟩
  replace i0 := hide ((unhide i0).on b2)
  replace j0 := hide ((unhide j0).on b2)
  replace i2 := hide ((unhide i2).on b2)
  replace a3 := hide a3
  replace HB := hide ((unhide HB).trans (b2.mono (unhide HB).size))
  clear b2
  go_wp2_with fail
  refine (list_ints _ _ _ _ _ _ (unhide i0) (Nat.le_refl _)).mono ?_
  rintro e w3 ⟨A4, n4, c4, rfl, i4, b3⟩
  replace i0 := hide ((unhide i0).on b3)
  replace j0 := hide ((unhide j0).on b3)
  replace i2 := hide ((unhide i2).on b3)
  replace a3 := hide ((unhide a3).on b3)
  replace i4 := hide i4
  replace HB := hide ((unhide HB).trans (b3.mono (unhide HB).size))
  clear b3
  have hn4 : n4 ≤ 1000 := by rw [← (unhide i4).len, List.length_take]; omega
  go_wp2_with fail
  refine (Turn_no _ _ _ _ _ _ _ (unhide i4) hn4 (hide ((row_take xs).trans R2.out))).mono ?_
  rintro e wq ⟨rfl, rfl⟩
  go_wp2_with fail
  refine (list_ints _ _ _ _ _ _ (unhide j0) (Nat.le_refl _)).mono ?_
  rintro e w4 ⟨A6, n6, c6, rfl, i6, b4⟩
  replace i0 := hide ((unhide i0).on b4)
  replace j0 := hide ((unhide j0).on b4)
  replace i2 := hide ((unhide i2).on b4)
  replace a3 := hide ((unhide a3).on b4)
  replace i4 := hide ((unhide i4).on b4)
  replace i6 := hide i6
  replace HB := hide ((unhide HB).trans (b4.mono (unhide HB).size))
  clear b4
  go_wp2_with fail
  refine (Quarter_no _ _ _ _ _ (unhide i6) (hide ((pin_takeB ys).trans PB.out))).mono ?_
  rintro e w5 ⟨rfl, b5⟩
  replace i0 := hide ((unhide i0).on b5)
  replace j0 := hide ((unhide j0).on b5)
  replace i2 := hide ((unhide i2).on b5)
  replace a3 := hide ((unhide a3).on b5)
  replace i4 := hide ((unhide i4).on b5)
  replace i6 := hide ((unhide i6).on b5)
  replace HB := hide ((unhide HB).trans (b5.mono (unhide HB).size))
  clear b5
  go_wp2_with fail
  refine (RIsRow_s 1 (by omega) _ _ _ _ _ (unhide i0)).mono ?_
  rintro e w6 ⟨rfl, b6⟩
  replace i0 := hide ((unhide i0).on b6)
  replace j0 := hide ((unhide j0).on b6)
  replace i2 := hide ((unhide i2).on b6)
  replace a3 := hide ((unhide a3).on b6)
  replace i4 := hide ((unhide i4).on b6)
  replace i6 := hide ((unhide i6).on b6)
  replace HB := hide ((unhide HB).trans (b6.mono (unhide HB).size))
  clear b6
  rw [show rowR ((1 : Nat) : Int) xs = true from (row_same (by rfl) xs).trans R1.out]
  go_wp2_with fail
  refine (RSplit_any _ _ _ _ _ (unhide i0) R1 mm HMM).mono ?_
  rintro e w7 ⟨A8, c8, rfl, a8, b7⟩
  replace i0 := hide ((unhide i0).on b7)
  replace j0 := hide ((unhide j0).on b7)
  replace i2 := hide ((unhide i2).on b7)
  replace a3 := hide ((unhide a3).on b7)
  replace i4 := hide ((unhide i4).on b7)
  replace i6 := hide ((unhide i6).on b7)
  replace a8 := hide a8
  replace HB := hide ((unhide HB).trans (b7.mono (unhide HB).size))
  clear b7
  go_wp2_with fail
  refine (equal2_is _ _ _ _ _ _ _ _ _ _ _ (unhide a3) (unhide a8) (hide rfl)).mono ?_
  rintro e w8 ⟨rfl, qq8, hq8⟩
  have b8 : Below w7.heap.size w7 w8 := by rw [hq8]; exact Below.drewN' (Below.refl _ _) qq8
  clear hq8
  replace i0 := hide ((unhide i0).on b8)
  replace j0 := hide ((unhide j0).on b8)
  replace i2 := hide ((unhide i2).on b8)
  replace a3 := hide ((unhide a3).on b8)
  replace i4 := hide ((unhide i4).on b8)
  replace i6 := hide ((unhide i6).on b8)
  replace a8 := hide ((unhide a8).on b8)
  replace HB := hide ((unhide HB).trans (b8.mono (unhide HB).size))
  clear b8
  go_wp2_with fail
  refine (RShift_any _ _ true HS).mono ?_
  rintro e wq ⟨rfl, rfl⟩
  go_wp2_with fail
  refine (RIsRow_s sn ⟨h1, h2⟩ _ _ _ _ _ (unhide i0)).mono ?_
  rintro e w9 ⟨rfl, b9⟩
  replace i0 := hide ((unhide i0).on b9)
  replace j0 := hide ((unhide j0).on b9)
  replace i2 := hide ((unhide i2).on b9)
  replace a3 := hide ((unhide a3).on b9)
  replace i4 := hide ((unhide i4).on b9)
  replace i6 := hide ((unhide i6).on b9)
  replace a8 := hide ((unhide a8).on b9)
  replace HB := hide ((unhide HB).trans (b9.mono (unhide HB).size))
  clear b9
  rw [show rowR (sn : Int) xs = false from (row_same HS.out xs).trans R2.out]
  go_wp2_with fail
  refine (RIsPins_any _ _ _ _ _ (unhide j0) hpn false PB).mono ?_
  rintro e w10 ⟨rfl, b10⟩
  replace i0 := hide ((unhide i0).on b10)
  replace j0 := hide ((unhide j0).on b10)
  replace i2 := hide ((unhide i2).on b10)
  replace a3 := hide ((unhide a3).on b10)
  replace i4 := hide ((unhide i4).on b10)
  replace i6 := hide ((unhide i6).on b10)
  replace a8 := hide ((unhide a8).on b10)
  replace HB := hide ((unhide HB).trans (b10.mono (unhide HB).size))
  clear b10
  go_wp2_with fail
  refine (awake_any _).mono ?_
  rintro e w11 ⟨rfl, b11⟩
  replace i0 := hide ((unhide i0).on b11)
  replace j0 := hide ((unhide j0).on b11)
  replace i2 := hide ((unhide i2).on b11)
  replace a3 := hide ((unhide a3).on b11)
  replace i4 := hide ((unhide i4).on b11)
  replace i6 := hide ((unhide i6).on b11)
  replace a8 := hide ((unhide a8).on b11)
  replace HB := hide ((unhide HB).trans (b11.mono (unhide HB).size))
  clear b11
  go_wp2_with fail
  go_ret
  exact ⟨rfl, unhide HB⟩

set_option maxRecDepth 100000 in
set_option maxHeartbeats 2000000 in
theorem LSplits_1_no_yes (s : Int) (A : Option Addr) (n c : Nat) (xs : List Int) (A' : Option Addr) (m c' : Nat) (ys : List Int) (w : World) (i0 : Ints w w.heap.size A n c xs) (j0 : Ints w w.heap.size A' m c' ys) (R1 : Hid (rowB 1 xs = true)) (HS : Hid (shB s = true)) (R2 : Hid (rowB s xs = false)) (PB : Hid (pinB ys = true)) (hpn : 1 ≤ m ∧ m ≤ 6) :
    Calls Try.prog 9 #[.int .i64 s, .slice A n c, .slice A' m c'] w fun e w' => e = .returned (.bool true) ∧ Below w.heap.size w w' := by
  have hl := hide i0.len
  have hm := i0.most; have hcap := i0.cap
  have hlp := hide j0.len
  have hmp := j0.most; have hcapp := j0.cap
  have dp1 : decide ((m : Int) < 1) = false := by simp; omega
  have dp2 : decide ((6 : Int) < (m : Int)) = false := by simp; omega
  obtain ⟨sn, rfl, h1, h2⟩ := sh_nat HS.out
  replace i0 := hide i0
  replace j0 := hide j0
  have HB := hide (Below.refl w.heap.size w)
  go_enter Try.func9, Try.ntmps9
  go_wp2_with fail
  refine (list_ints _ _ _ _ _ _ (unhide i0) (Nat.le_refl _)).mono ?_
  rintro e w1 ⟨A2, n2, c2, rfl, i2, b1⟩
  replace i0 := hide ((unhide i0).on b1)
  replace j0 := hide ((unhide j0).on b1)
  replace i2 := hide i2
  replace HB := hide ((unhide HB).trans (b1.mono (unhide HB).size))
  clear b1
  rw [show xs.take 20 = xs from List.take_of_length_le (by have := row_len R1.out; omega)] at i2
  obtain ⟨mm, hmm⟩ : ∃ mm, xs.length / 2 = mm := ⟨_, rfl⟩
  have HMM := hide hmm
  clear hmm
  go_wp2_with fail
  refine (Split_ok _ _ _ _ _ (unhide i2) R1 mm HMM).mono ?_
  rintro e w2 ⟨A3, c3, rfl, a3, b2⟩
  replace i0 := hide ((unhide i0).on b2)
  replace j0 := hide ((unhide j0).on b2)
  replace i2 := hide ((unhide i2).on b2)
  replace a3 := hide a3
  replace HB := hide ((unhide HB).trans (b2.mono (unhide HB).size))
  clear b2
  go_wp2_with fail
  refine (list_ints _ _ _ _ _ _ (unhide i0) (Nat.le_refl _)).mono ?_
  rintro e w3 ⟨A4, n4, c4, rfl, i4, b3⟩
  replace i0 := hide ((unhide i0).on b3)
  replace j0 := hide ((unhide j0).on b3)
  replace i2 := hide ((unhide i2).on b3)
  replace a3 := hide ((unhide a3).on b3)
  replace i4 := hide i4
  replace HB := hide ((unhide HB).trans (b3.mono (unhide HB).size))
  clear b3
  have hn4 : n4 ≤ 1000 := by rw [← (unhide i4).len, List.length_take]; omega
  go_wp2_with fail
  refine (Turn_no _ _ _ _ _ _ _ (unhide i4) hn4 (hide ((row_take xs).trans R2.out))).mono ?_
  rintro e wq ⟨rfl, rfl⟩
  go_wp2_with fail
  refine (list_ints _ _ _ _ _ _ (unhide j0) (Nat.le_refl _)).mono ?_
  rintro e w4 ⟨A6, n6, c6, rfl, i6, b4⟩
  replace i0 := hide ((unhide i0).on b4)
  replace j0 := hide ((unhide j0).on b4)
  replace i2 := hide ((unhide i2).on b4)
  replace a3 := hide ((unhide a3).on b4)
  replace i4 := hide ((unhide i4).on b4)
  replace i6 := hide i6
  replace HB := hide ((unhide HB).trans (b4.mono (unhide HB).size))
  clear b4
  rw [show ys.take 20 = ys from List.take_of_length_le (by rw [hlp.out]; omega)] at i6
  go_wp2_with fail
  refine (Quarter_ok _ _ _ _ _ (unhide i6) PB).mono ?_
  rintro e w5 ⟨A7, n7, c7, rfl, i7, b5⟩
  replace i0 := hide ((unhide i0).on b5)
  replace j0 := hide ((unhide j0).on b5)
  replace i2 := hide ((unhide i2).on b5)
  replace a3 := hide ((unhide a3).on b5)
  replace i4 := hide ((unhide i4).on b5)
  replace i6 := hide ((unhide i6).on b5)
  replace i7 := hide i7
  replace HB := hide ((unhide HB).trans (b5.mono (unhide HB).size))
  clear b5
  go_wp2_with fail
  refine (RIsRow_s 1 (by omega) _ _ _ _ _ (unhide i0)).mono ?_
  rintro e w6 ⟨rfl, b6⟩
  replace i0 := hide ((unhide i0).on b6)
  replace j0 := hide ((unhide j0).on b6)
  replace i2 := hide ((unhide i2).on b6)
  replace a3 := hide ((unhide a3).on b6)
  replace i4 := hide ((unhide i4).on b6)
  replace i6 := hide ((unhide i6).on b6)
  replace i7 := hide ((unhide i7).on b6)
  replace HB := hide ((unhide HB).trans (b6.mono (unhide HB).size))
  clear b6
  rw [show rowR ((1 : Nat) : Int) xs = true from (row_same (by rfl) xs).trans R1.out]
  go_wp2_with fail
  refine (RSplit_any _ _ _ _ _ (unhide i0) R1 mm HMM).mono ?_
  rintro e w7 ⟨A8, c8, rfl, a8, b7⟩
  replace i0 := hide ((unhide i0).on b7)
  replace j0 := hide ((unhide j0).on b7)
  replace i2 := hide ((unhide i2).on b7)
  replace a3 := hide ((unhide a3).on b7)
  replace i4 := hide ((unhide i4).on b7)
  replace i6 := hide ((unhide i6).on b7)
  replace i7 := hide ((unhide i7).on b7)
  replace a8 := hide a8
  replace HB := hide ((unhide HB).trans (b7.mono (unhide HB).size))
  clear b7
  go_wp2_with fail
  refine (equal2_is _ _ _ _ _ _ _ _ _ _ _ (unhide a3) (unhide a8) (hide rfl)).mono ?_
  rintro e w8 ⟨rfl, qq8, hq8⟩
  have b8 : Below w7.heap.size w7 w8 := by rw [hq8]; exact Below.drewN' (Below.refl _ _) qq8
  clear hq8
  replace i0 := hide ((unhide i0).on b8)
  replace j0 := hide ((unhide j0).on b8)
  replace i2 := hide ((unhide i2).on b8)
  replace a3 := hide ((unhide a3).on b8)
  replace i4 := hide ((unhide i4).on b8)
  replace i6 := hide ((unhide i6).on b8)
  replace i7 := hide ((unhide i7).on b8)
  replace a8 := hide ((unhide a8).on b8)
  replace HB := hide ((unhide HB).trans (b8.mono (unhide HB).size))
  clear b8
  go_wp2_with fail
  refine (RShift_any _ _ true HS).mono ?_
  rintro e wq ⟨rfl, rfl⟩
  go_wp2_with fail
  refine (RIsRow_s sn ⟨h1, h2⟩ _ _ _ _ _ (unhide i0)).mono ?_
  rintro e w9 ⟨rfl, b9⟩
  replace i0 := hide ((unhide i0).on b9)
  replace j0 := hide ((unhide j0).on b9)
  replace i2 := hide ((unhide i2).on b9)
  replace a3 := hide ((unhide a3).on b9)
  replace i4 := hide ((unhide i4).on b9)
  replace i6 := hide ((unhide i6).on b9)
  replace i7 := hide ((unhide i7).on b9)
  replace a8 := hide ((unhide a8).on b9)
  replace HB := hide ((unhide HB).trans (b9.mono (unhide HB).size))
  clear b9
  rw [show rowR (sn : Int) xs = false from (row_same HS.out xs).trans R2.out]
  go_wp2_with fail
  refine (RIsPins_any _ _ _ _ _ (unhide j0) hpn true PB).mono ?_
  rintro e w10 ⟨rfl, b10⟩
  replace i0 := hide ((unhide i0).on b10)
  replace j0 := hide ((unhide j0).on b10)
  replace i2 := hide ((unhide i2).on b10)
  replace a3 := hide ((unhide a3).on b10)
  replace i4 := hide ((unhide i4).on b10)
  replace i6 := hide ((unhide i6).on b10)
  replace i7 := hide ((unhide i7).on b10)
  replace a8 := hide ((unhide a8).on b10)
  replace HB := hide ((unhide HB).trans (b10.mono (unhide HB).size))
  clear b10
  go_wp2_with fail
  refine (RQuarter_any _ _ _ _ _ (unhide j0) PB).mono ?_
  rintro e w11 ⟨Aa, na, ca, rfl, ia, b11⟩
  replace i0 := hide ((unhide i0).on b11)
  replace j0 := hide ((unhide j0).on b11)
  replace i2 := hide ((unhide i2).on b11)
  replace a3 := hide ((unhide a3).on b11)
  replace i4 := hide ((unhide i4).on b11)
  replace i6 := hide ((unhide i6).on b11)
  replace i7 := hide ((unhide i7).on b11)
  replace a8 := hide ((unhide a8).on b11)
  replace ia := hide ia
  replace HB := hide ((unhide HB).trans (b11.mono (unhide HB).size))
  clear b11
  go_wp2_with fail
  refine (equal_is _ _ _ _ _ _ _ _ _ _ _ (unhide i7) (unhide ia) (hide rfl)).mono ?_
  rintro e w12 ⟨rfl, qq12, hq12⟩
  have b12 : Below w11.heap.size w11 w12 := by rw [hq12]; exact Below.drewN' (Below.refl _ _) qq12
  clear hq12
  replace i0 := hide ((unhide i0).on b12)
  replace j0 := hide ((unhide j0).on b12)
  replace i2 := hide ((unhide i2).on b12)
  replace a3 := hide ((unhide a3).on b12)
  replace i4 := hide ((unhide i4).on b12)
  replace i6 := hide ((unhide i6).on b12)
  replace i7 := hide ((unhide i7).on b12)
  replace a8 := hide ((unhide a8).on b12)
  replace ia := hide ((unhide ia).on b12)
  replace HB := hide ((unhide HB).trans (b12.mono (unhide HB).size))
  clear b12
  go_wp2_with fail
  refine (awake_any _).mono ?_
  rintro e w13 ⟨rfl, b13⟩
  replace i0 := hide ((unhide i0).on b13)
  replace j0 := hide ((unhide j0).on b13)
  replace i2 := hide ((unhide i2).on b13)
  replace a3 := hide ((unhide a3).on b13)
  replace i4 := hide ((unhide i4).on b13)
  replace i6 := hide ((unhide i6).on b13)
  replace i7 := hide ((unhide i7).on b13)
  replace a8 := hide ((unhide a8).on b13)
  replace ia := hide ((unhide ia).on b13)
  replace HB := hide ((unhide HB).trans (b13.mono (unhide HB).size))
  clear b13
  go_wp2_with fail
  go_ret
  exact ⟨rfl, unhide HB⟩

set_option maxRecDepth 100000 in
set_option maxHeartbeats 2000000 in
theorem LSplits_1_yes_0 (s : Int) (A : Option Addr) (n c : Nat) (xs : List Int) (A' : Option Addr) (m c' : Nat) (ys : List Int) (w : World) (i0 : Ints w w.heap.size A n c xs) (j0 : Ints w w.heap.size A' m c' ys) (R1 : Hid (rowB 1 xs = true)) (HS : Hid (shB s = true)) (R2 : Hid (rowB s xs = true)) (PB : Hid (pinB ys = false)) (hpn : m = 0) :
    Calls Try.prog 9 #[.int .i64 s, .slice A n c, .slice A' m c'] w fun e w' => e = .returned (.bool true) ∧ Below w.heap.size w w' := by
  have hl := hide i0.len
  have hm := i0.most; have hcap := i0.cap
  have hlp := hide j0.len
  have hmp := j0.most; have hcapp := j0.cap
  subst hpn
  obtain ⟨sn, rfl, h1, h2⟩ := sh_nat HS.out
  replace i0 := hide i0
  replace j0 := hide j0
  have HB := hide (Below.refl w.heap.size w)
  go_enter Try.func9, Try.ntmps9
  go_wp2_with fail
  refine (list_ints _ _ _ _ _ _ (unhide i0) (Nat.le_refl _)).mono ?_
  rintro e w1 ⟨A2, n2, c2, rfl, i2, b1⟩
  replace i0 := hide ((unhide i0).on b1)
  replace j0 := hide ((unhide j0).on b1)
  replace i2 := hide i2
  replace HB := hide ((unhide HB).trans (b1.mono (unhide HB).size))
  clear b1
  rw [show xs.take 20 = xs from List.take_of_length_le (by have := row_len R1.out; omega)] at i2
  obtain ⟨mm, hmm⟩ : ∃ mm, xs.length / 2 = mm := ⟨_, rfl⟩
  have HMM := hide hmm
  clear hmm
  go_wp2_with fail
  refine (Split_ok _ _ _ _ _ (unhide i2) R1 mm HMM).mono ?_
  rintro e w2 ⟨A3, c3, rfl, a3, b2⟩
  replace i0 := hide ((unhide i0).on b2)
  replace j0 := hide ((unhide j0).on b2)
  replace i2 := hide ((unhide i2).on b2)
  replace a3 := hide a3
  replace HB := hide ((unhide HB).trans (b2.mono (unhide HB).size))
  clear b2
  go_wp2_with fail
  refine (list_ints _ _ _ _ _ _ (unhide i0) (Nat.le_refl _)).mono ?_
  rintro e w3 ⟨A4, n4, c4, rfl, i4, b3⟩
  replace i0 := hide ((unhide i0).on b3)
  replace j0 := hide ((unhide j0).on b3)
  replace i2 := hide ((unhide i2).on b3)
  replace a3 := hide ((unhide a3).on b3)
  replace i4 := hide i4
  replace HB := hide ((unhide HB).trans (b3.mono (unhide HB).size))
  clear b3
  rw [show xs.take 20 = xs from List.take_of_length_le (by have := row_len R2.out; omega)] at i4
  have e4 := (unhide i4).len
  rw [hl.out] at e4
  subst e4
  go_wp2_with fail
  refine (Turn_ok _ _ _ _ _ _ (unhide i4) R2).mono ?_
  rintro e w4 ⟨A5, c5, rfl, i5, b4⟩
  replace i0 := hide ((unhide i0).on b4)
  replace j0 := hide ((unhide j0).on b4)
  replace i2 := hide ((unhide i2).on b4)
  replace a3 := hide ((unhide a3).on b4)
  replace i4 := hide ((unhide i4).on b4)
  replace i5 := hide i5
  replace HB := hide ((unhide HB).trans (b4.mono (unhide HB).size))
  clear b4
  go_wp2_with fail
  refine (list_ints _ _ _ _ _ _ (unhide j0) (Nat.le_refl _)).mono ?_
  rintro e w5 ⟨A6, n6, c6, rfl, i6, b5⟩
  replace i0 := hide ((unhide i0).on b5)
  replace j0 := hide ((unhide j0).on b5)
  replace i2 := hide ((unhide i2).on b5)
  replace a3 := hide ((unhide a3).on b5)
  replace i4 := hide ((unhide i4).on b5)
  replace i5 := hide ((unhide i5).on b5)
  replace i6 := hide i6
  replace HB := hide ((unhide HB).trans (b5.mono (unhide HB).size))
  clear b5
  go_wp2_with fail
  refine (Quarter_no _ _ _ _ _ (unhide i6) (hide ((pin_takeB ys).trans PB.out))).mono ?_
  rintro e w6 ⟨rfl, b6⟩
  replace i0 := hide ((unhide i0).on b6)
  replace j0 := hide ((unhide j0).on b6)
  replace i2 := hide ((unhide i2).on b6)
  replace a3 := hide ((unhide a3).on b6)
  replace i4 := hide ((unhide i4).on b6)
  replace i5 := hide ((unhide i5).on b6)
  replace i6 := hide ((unhide i6).on b6)
  replace HB := hide ((unhide HB).trans (b6.mono (unhide HB).size))
  clear b6
  go_wp2_with fail
  refine (RIsRow_s 1 (by omega) _ _ _ _ _ (unhide i0)).mono ?_
  rintro e w7 ⟨rfl, b7⟩
  replace i0 := hide ((unhide i0).on b7)
  replace j0 := hide ((unhide j0).on b7)
  replace i2 := hide ((unhide i2).on b7)
  replace a3 := hide ((unhide a3).on b7)
  replace i4 := hide ((unhide i4).on b7)
  replace i5 := hide ((unhide i5).on b7)
  replace i6 := hide ((unhide i6).on b7)
  replace HB := hide ((unhide HB).trans (b7.mono (unhide HB).size))
  clear b7
  rw [show rowR ((1 : Nat) : Int) xs = true from (row_same (by rfl) xs).trans R1.out]
  go_wp2_with fail
  refine (RSplit_any _ _ _ _ _ (unhide i0) R1 mm HMM).mono ?_
  rintro e w8 ⟨A8, c8, rfl, a8, b8⟩
  replace i0 := hide ((unhide i0).on b8)
  replace j0 := hide ((unhide j0).on b8)
  replace i2 := hide ((unhide i2).on b8)
  replace a3 := hide ((unhide a3).on b8)
  replace i4 := hide ((unhide i4).on b8)
  replace i5 := hide ((unhide i5).on b8)
  replace i6 := hide ((unhide i6).on b8)
  replace a8 := hide a8
  replace HB := hide ((unhide HB).trans (b8.mono (unhide HB).size))
  clear b8
  go_wp2_with fail
  refine (equal2_is _ _ _ _ _ _ _ _ _ _ _ (unhide a3) (unhide a8) (hide rfl)).mono ?_
  rintro e w9 ⟨rfl, qq9, hq9⟩
  have b9 : Below w8.heap.size w8 w9 := by rw [hq9]; exact Below.drewN' (Below.refl _ _) qq9
  clear hq9
  replace i0 := hide ((unhide i0).on b9)
  replace j0 := hide ((unhide j0).on b9)
  replace i2 := hide ((unhide i2).on b9)
  replace a3 := hide ((unhide a3).on b9)
  replace i4 := hide ((unhide i4).on b9)
  replace i5 := hide ((unhide i5).on b9)
  replace i6 := hide ((unhide i6).on b9)
  replace a8 := hide ((unhide a8).on b9)
  replace HB := hide ((unhide HB).trans (b9.mono (unhide HB).size))
  clear b9
  go_wp2_with fail
  refine (RShift_any _ _ true HS).mono ?_
  rintro e wq ⟨rfl, rfl⟩
  go_wp2_with fail
  refine (RIsRow_s sn ⟨h1, h2⟩ _ _ _ _ _ (unhide i0)).mono ?_
  rintro e w10 ⟨rfl, b10⟩
  replace i0 := hide ((unhide i0).on b10)
  replace j0 := hide ((unhide j0).on b10)
  replace i2 := hide ((unhide i2).on b10)
  replace a3 := hide ((unhide a3).on b10)
  replace i4 := hide ((unhide i4).on b10)
  replace i5 := hide ((unhide i5).on b10)
  replace i6 := hide ((unhide i6).on b10)
  replace a8 := hide ((unhide a8).on b10)
  replace HB := hide ((unhide HB).trans (b10.mono (unhide HB).size))
  clear b10
  rw [show rowR (sn : Int) xs = true from (row_same HS.out xs).trans R2.out]
  have hn16 : n ≤ 1000 := by have := row_len R2.out; rw [hl.out] at this; omega
  go_wp2_with fail
  refine (RTurn_any _ _ _ _ _ (unhide i0) hn16).mono ?_
  rintro e w11 ⟨A9, c9, rfl, i9, b11⟩
  replace i0 := hide ((unhide i0).on b11)
  replace j0 := hide ((unhide j0).on b11)
  replace i2 := hide ((unhide i2).on b11)
  replace a3 := hide ((unhide a3).on b11)
  replace i4 := hide ((unhide i4).on b11)
  replace i5 := hide ((unhide i5).on b11)
  replace i6 := hide ((unhide i6).on b11)
  replace a8 := hide ((unhide a8).on b11)
  replace i9 := hide i9
  replace HB := hide ((unhide HB).trans (b11.mono (unhide HB).size))
  clear b11
  go_wp2_with fail
  refine (equal_is _ _ _ _ _ _ _ _ _ _ _ (unhide i5) (unhide i9) (hide rfl)).mono ?_
  rintro e w12 ⟨rfl, qq12, hq12⟩
  have b12 : Below w11.heap.size w11 w12 := by rw [hq12]; exact Below.drewN' (Below.refl _ _) qq12
  clear hq12
  replace i0 := hide ((unhide i0).on b12)
  replace j0 := hide ((unhide j0).on b12)
  replace i2 := hide ((unhide i2).on b12)
  replace a3 := hide ((unhide a3).on b12)
  replace i4 := hide ((unhide i4).on b12)
  replace i5 := hide ((unhide i5).on b12)
  replace i6 := hide ((unhide i6).on b12)
  replace a8 := hide ((unhide a8).on b12)
  replace i9 := hide ((unhide i9).on b12)
  replace HB := hide ((unhide HB).trans (b12.mono (unhide HB).size))
  clear b12
  go_wp2_with fail
  refine (awake_any _).mono ?_
  rintro e w13 ⟨rfl, b13⟩
  replace i0 := hide ((unhide i0).on b13)
  replace j0 := hide ((unhide j0).on b13)
  replace i2 := hide ((unhide i2).on b13)
  replace a3 := hide ((unhide a3).on b13)
  replace i4 := hide ((unhide i4).on b13)
  replace i5 := hide ((unhide i5).on b13)
  replace i6 := hide ((unhide i6).on b13)
  replace a8 := hide ((unhide a8).on b13)
  replace i9 := hide ((unhide i9).on b13)
  replace HB := hide ((unhide HB).trans (b13.mono (unhide HB).size))
  clear b13
  go_wp2_with fail
  go_ret
  exact ⟨rfl, unhide HB⟩

set_option maxRecDepth 100000 in
set_option maxHeartbeats 2000000 in
theorem LSplits_1_yes_far (s : Int) (A : Option Addr) (n c : Nat) (xs : List Int) (A' : Option Addr) (m c' : Nat) (ys : List Int) (w : World) (i0 : Ints w w.heap.size A n c xs) (j0 : Ints w w.heap.size A' m c' ys) (R1 : Hid (rowB 1 xs = true)) (HS : Hid (shB s = true)) (R2 : Hid (rowB s xs = true)) (PB : Hid (pinB ys = false)) (hpn : 6 < m) :
    Calls Try.prog 9 #[.int .i64 s, .slice A n c, .slice A' m c'] w fun e w' => e = .returned (.bool true) ∧ Below w.heap.size w w' := by
  have hl := hide i0.len
  have hm := i0.most; have hcap := i0.cap
  have hlp := hide j0.len
  have hmp := j0.most; have hcapp := j0.cap
  have dp1 : decide ((m : Int) < 1) = false := by simp; omega
  have dp2 : decide ((6 : Int) < (m : Int)) = true := by simp; omega
  obtain ⟨sn, rfl, h1, h2⟩ := sh_nat HS.out
  replace i0 := hide i0
  replace j0 := hide j0
  have HB := hide (Below.refl w.heap.size w)
  go_enter Try.func9, Try.ntmps9
  go_wp2_with fail
  refine (list_ints _ _ _ _ _ _ (unhide i0) (Nat.le_refl _)).mono ?_
  rintro e w1 ⟨A2, n2, c2, rfl, i2, b1⟩
  replace i0 := hide ((unhide i0).on b1)
  replace j0 := hide ((unhide j0).on b1)
  replace i2 := hide i2
  replace HB := hide ((unhide HB).trans (b1.mono (unhide HB).size))
  clear b1
  rw [show xs.take 20 = xs from List.take_of_length_le (by have := row_len R1.out; omega)] at i2
  obtain ⟨mm, hmm⟩ : ∃ mm, xs.length / 2 = mm := ⟨_, rfl⟩
  have HMM := hide hmm
  clear hmm
  go_wp2_with fail
  refine (Split_ok _ _ _ _ _ (unhide i2) R1 mm HMM).mono ?_
  rintro e w2 ⟨A3, c3, rfl, a3, b2⟩
  replace i0 := hide ((unhide i0).on b2)
  replace j0 := hide ((unhide j0).on b2)
  replace i2 := hide ((unhide i2).on b2)
  replace a3 := hide a3
  replace HB := hide ((unhide HB).trans (b2.mono (unhide HB).size))
  clear b2
  go_wp2_with fail
  refine (list_ints _ _ _ _ _ _ (unhide i0) (Nat.le_refl _)).mono ?_
  rintro e w3 ⟨A4, n4, c4, rfl, i4, b3⟩
  replace i0 := hide ((unhide i0).on b3)
  replace j0 := hide ((unhide j0).on b3)
  replace i2 := hide ((unhide i2).on b3)
  replace a3 := hide ((unhide a3).on b3)
  replace i4 := hide i4
  replace HB := hide ((unhide HB).trans (b3.mono (unhide HB).size))
  clear b3
  rw [show xs.take 20 = xs from List.take_of_length_le (by have := row_len R2.out; omega)] at i4
  have e4 := (unhide i4).len
  rw [hl.out] at e4
  subst e4
  go_wp2_with fail
  refine (Turn_ok _ _ _ _ _ _ (unhide i4) R2).mono ?_
  rintro e w4 ⟨A5, c5, rfl, i5, b4⟩
  replace i0 := hide ((unhide i0).on b4)
  replace j0 := hide ((unhide j0).on b4)
  replace i2 := hide ((unhide i2).on b4)
  replace a3 := hide ((unhide a3).on b4)
  replace i4 := hide ((unhide i4).on b4)
  replace i5 := hide i5
  replace HB := hide ((unhide HB).trans (b4.mono (unhide HB).size))
  clear b4
  go_wp2_with fail
  refine (list_ints _ _ _ _ _ _ (unhide j0) (Nat.le_refl _)).mono ?_
  rintro e w5 ⟨A6, n6, c6, rfl, i6, b5⟩
  replace i0 := hide ((unhide i0).on b5)
  replace j0 := hide ((unhide j0).on b5)
  replace i2 := hide ((unhide i2).on b5)
  replace a3 := hide ((unhide a3).on b5)
  replace i4 := hide ((unhide i4).on b5)
  replace i5 := hide ((unhide i5).on b5)
  replace i6 := hide i6
  replace HB := hide ((unhide HB).trans (b5.mono (unhide HB).size))
  clear b5
  go_wp2_with fail
  refine (Quarter_no _ _ _ _ _ (unhide i6) (hide ((pin_takeB ys).trans PB.out))).mono ?_
  rintro e w6 ⟨rfl, b6⟩
  replace i0 := hide ((unhide i0).on b6)
  replace j0 := hide ((unhide j0).on b6)
  replace i2 := hide ((unhide i2).on b6)
  replace a3 := hide ((unhide a3).on b6)
  replace i4 := hide ((unhide i4).on b6)
  replace i5 := hide ((unhide i5).on b6)
  replace i6 := hide ((unhide i6).on b6)
  replace HB := hide ((unhide HB).trans (b6.mono (unhide HB).size))
  clear b6
  go_wp2_with fail
  refine (RIsRow_s 1 (by omega) _ _ _ _ _ (unhide i0)).mono ?_
  rintro e w7 ⟨rfl, b7⟩
  replace i0 := hide ((unhide i0).on b7)
  replace j0 := hide ((unhide j0).on b7)
  replace i2 := hide ((unhide i2).on b7)
  replace a3 := hide ((unhide a3).on b7)
  replace i4 := hide ((unhide i4).on b7)
  replace i5 := hide ((unhide i5).on b7)
  replace i6 := hide ((unhide i6).on b7)
  replace HB := hide ((unhide HB).trans (b7.mono (unhide HB).size))
  clear b7
  rw [show rowR ((1 : Nat) : Int) xs = true from (row_same (by rfl) xs).trans R1.out]
  go_wp2_with fail
  refine (RSplit_any _ _ _ _ _ (unhide i0) R1 mm HMM).mono ?_
  rintro e w8 ⟨A8, c8, rfl, a8, b8⟩
  replace i0 := hide ((unhide i0).on b8)
  replace j0 := hide ((unhide j0).on b8)
  replace i2 := hide ((unhide i2).on b8)
  replace a3 := hide ((unhide a3).on b8)
  replace i4 := hide ((unhide i4).on b8)
  replace i5 := hide ((unhide i5).on b8)
  replace i6 := hide ((unhide i6).on b8)
  replace a8 := hide a8
  replace HB := hide ((unhide HB).trans (b8.mono (unhide HB).size))
  clear b8
  go_wp2_with fail
  refine (equal2_is _ _ _ _ _ _ _ _ _ _ _ (unhide a3) (unhide a8) (hide rfl)).mono ?_
  rintro e w9 ⟨rfl, qq9, hq9⟩
  have b9 : Below w8.heap.size w8 w9 := by rw [hq9]; exact Below.drewN' (Below.refl _ _) qq9
  clear hq9
  replace i0 := hide ((unhide i0).on b9)
  replace j0 := hide ((unhide j0).on b9)
  replace i2 := hide ((unhide i2).on b9)
  replace a3 := hide ((unhide a3).on b9)
  replace i4 := hide ((unhide i4).on b9)
  replace i5 := hide ((unhide i5).on b9)
  replace i6 := hide ((unhide i6).on b9)
  replace a8 := hide ((unhide a8).on b9)
  replace HB := hide ((unhide HB).trans (b9.mono (unhide HB).size))
  clear b9
  go_wp2_with fail
  refine (RShift_any _ _ true HS).mono ?_
  rintro e wq ⟨rfl, rfl⟩
  go_wp2_with fail
  refine (RIsRow_s sn ⟨h1, h2⟩ _ _ _ _ _ (unhide i0)).mono ?_
  rintro e w10 ⟨rfl, b10⟩
  replace i0 := hide ((unhide i0).on b10)
  replace j0 := hide ((unhide j0).on b10)
  replace i2 := hide ((unhide i2).on b10)
  replace a3 := hide ((unhide a3).on b10)
  replace i4 := hide ((unhide i4).on b10)
  replace i5 := hide ((unhide i5).on b10)
  replace i6 := hide ((unhide i6).on b10)
  replace a8 := hide ((unhide a8).on b10)
  replace HB := hide ((unhide HB).trans (b10.mono (unhide HB).size))
  clear b10
  rw [show rowR (sn : Int) xs = true from (row_same HS.out xs).trans R2.out]
  have hn16 : n ≤ 1000 := by have := row_len R2.out; rw [hl.out] at this; omega
  go_wp2_with fail
  refine (RTurn_any _ _ _ _ _ (unhide i0) hn16).mono ?_
  rintro e w11 ⟨A9, c9, rfl, i9, b11⟩
  replace i0 := hide ((unhide i0).on b11)
  replace j0 := hide ((unhide j0).on b11)
  replace i2 := hide ((unhide i2).on b11)
  replace a3 := hide ((unhide a3).on b11)
  replace i4 := hide ((unhide i4).on b11)
  replace i5 := hide ((unhide i5).on b11)
  replace i6 := hide ((unhide i6).on b11)
  replace a8 := hide ((unhide a8).on b11)
  replace i9 := hide i9
  replace HB := hide ((unhide HB).trans (b11.mono (unhide HB).size))
  clear b11
  go_wp2_with fail
  refine (equal_is _ _ _ _ _ _ _ _ _ _ _ (unhide i5) (unhide i9) (hide rfl)).mono ?_
  rintro e w12 ⟨rfl, qq12, hq12⟩
  have b12 : Below w11.heap.size w11 w12 := by rw [hq12]; exact Below.drewN' (Below.refl _ _) qq12
  clear hq12
  replace i0 := hide ((unhide i0).on b12)
  replace j0 := hide ((unhide j0).on b12)
  replace i2 := hide ((unhide i2).on b12)
  replace a3 := hide ((unhide a3).on b12)
  replace i4 := hide ((unhide i4).on b12)
  replace i5 := hide ((unhide i5).on b12)
  replace i6 := hide ((unhide i6).on b12)
  replace a8 := hide ((unhide a8).on b12)
  replace i9 := hide ((unhide i9).on b12)
  replace HB := hide ((unhide HB).trans (b12.mono (unhide HB).size))
  clear b12
  go_wp2_with fail
  refine (awake_any _).mono ?_
  rintro e w13 ⟨rfl, b13⟩
  replace i0 := hide ((unhide i0).on b13)
  replace j0 := hide ((unhide j0).on b13)
  replace i2 := hide ((unhide i2).on b13)
  replace a3 := hide ((unhide a3).on b13)
  replace i4 := hide ((unhide i4).on b13)
  replace i5 := hide ((unhide i5).on b13)
  replace i6 := hide ((unhide i6).on b13)
  replace a8 := hide ((unhide a8).on b13)
  replace i9 := hide ((unhide i9).on b13)
  replace HB := hide ((unhide HB).trans (b13.mono (unhide HB).size))
  clear b13
  go_wp2_with fail
  go_ret
  exact ⟨rfl, unhide HB⟩

set_option maxRecDepth 100000 in
set_option maxHeartbeats 2000000 in
theorem LSplits_1_yes_no (s : Int) (A : Option Addr) (n c : Nat) (xs : List Int) (A' : Option Addr) (m c' : Nat) (ys : List Int) (w : World) (i0 : Ints w w.heap.size A n c xs) (j0 : Ints w w.heap.size A' m c' ys) (R1 : Hid (rowB 1 xs = true)) (HS : Hid (shB s = true)) (R2 : Hid (rowB s xs = true)) (PB : Hid (pinB ys = false)) (hpn : 1 ≤ m ∧ m ≤ 6) :
    Calls Try.prog 9 #[.int .i64 s, .slice A n c, .slice A' m c'] w fun e w' => e = .returned (.bool true) ∧ Below w.heap.size w w' := by
  have hl := hide i0.len
  have hm := i0.most; have hcap := i0.cap
  have hlp := hide j0.len
  have hmp := j0.most; have hcapp := j0.cap
  have dp1 : decide ((m : Int) < 1) = false := by simp; omega
  have dp2 : decide ((6 : Int) < (m : Int)) = false := by simp; omega
  obtain ⟨sn, rfl, h1, h2⟩ := sh_nat HS.out
  replace i0 := hide i0
  replace j0 := hide j0
  have HB := hide (Below.refl w.heap.size w)
  go_enter Try.func9, Try.ntmps9
  go_wp2_with fail
  refine (list_ints _ _ _ _ _ _ (unhide i0) (Nat.le_refl _)).mono ?_
  rintro e w1 ⟨A2, n2, c2, rfl, i2, b1⟩
  replace i0 := hide ((unhide i0).on b1)
  replace j0 := hide ((unhide j0).on b1)
  replace i2 := hide i2
  replace HB := hide ((unhide HB).trans (b1.mono (unhide HB).size))
  clear b1
  rw [show xs.take 20 = xs from List.take_of_length_le (by have := row_len R1.out; omega)] at i2
  obtain ⟨mm, hmm⟩ : ∃ mm, xs.length / 2 = mm := ⟨_, rfl⟩
  have HMM := hide hmm
  clear hmm
  go_wp2_with fail
  refine (Split_ok _ _ _ _ _ (unhide i2) R1 mm HMM).mono ?_
  rintro e w2 ⟨A3, c3, rfl, a3, b2⟩
  replace i0 := hide ((unhide i0).on b2)
  replace j0 := hide ((unhide j0).on b2)
  replace i2 := hide ((unhide i2).on b2)
  replace a3 := hide a3
  replace HB := hide ((unhide HB).trans (b2.mono (unhide HB).size))
  clear b2
  go_wp2_with fail
  refine (list_ints _ _ _ _ _ _ (unhide i0) (Nat.le_refl _)).mono ?_
  rintro e w3 ⟨A4, n4, c4, rfl, i4, b3⟩
  replace i0 := hide ((unhide i0).on b3)
  replace j0 := hide ((unhide j0).on b3)
  replace i2 := hide ((unhide i2).on b3)
  replace a3 := hide ((unhide a3).on b3)
  replace i4 := hide i4
  replace HB := hide ((unhide HB).trans (b3.mono (unhide HB).size))
  clear b3
  rw [show xs.take 20 = xs from List.take_of_length_le (by have := row_len R2.out; omega)] at i4
  have e4 := (unhide i4).len
  rw [hl.out] at e4
  subst e4
  go_wp2_with fail
  refine (Turn_ok _ _ _ _ _ _ (unhide i4) R2).mono ?_
  rintro e w4 ⟨A5, c5, rfl, i5, b4⟩
  replace i0 := hide ((unhide i0).on b4)
  replace j0 := hide ((unhide j0).on b4)
  replace i2 := hide ((unhide i2).on b4)
  replace a3 := hide ((unhide a3).on b4)
  replace i4 := hide ((unhide i4).on b4)
  replace i5 := hide i5
  replace HB := hide ((unhide HB).trans (b4.mono (unhide HB).size))
  clear b4
  go_wp2_with fail
  refine (list_ints _ _ _ _ _ _ (unhide j0) (Nat.le_refl _)).mono ?_
  rintro e w5 ⟨A6, n6, c6, rfl, i6, b5⟩
  replace i0 := hide ((unhide i0).on b5)
  replace j0 := hide ((unhide j0).on b5)
  replace i2 := hide ((unhide i2).on b5)
  replace a3 := hide ((unhide a3).on b5)
  replace i4 := hide ((unhide i4).on b5)
  replace i5 := hide ((unhide i5).on b5)
  replace i6 := hide i6
  replace HB := hide ((unhide HB).trans (b5.mono (unhide HB).size))
  clear b5
  go_wp2_with fail
  refine (Quarter_no _ _ _ _ _ (unhide i6) (hide ((pin_takeB ys).trans PB.out))).mono ?_
  rintro e w6 ⟨rfl, b6⟩
  replace i0 := hide ((unhide i0).on b6)
  replace j0 := hide ((unhide j0).on b6)
  replace i2 := hide ((unhide i2).on b6)
  replace a3 := hide ((unhide a3).on b6)
  replace i4 := hide ((unhide i4).on b6)
  replace i5 := hide ((unhide i5).on b6)
  replace i6 := hide ((unhide i6).on b6)
  replace HB := hide ((unhide HB).trans (b6.mono (unhide HB).size))
  clear b6
  go_wp2_with fail
  refine (RIsRow_s 1 (by omega) _ _ _ _ _ (unhide i0)).mono ?_
  rintro e w7 ⟨rfl, b7⟩
  replace i0 := hide ((unhide i0).on b7)
  replace j0 := hide ((unhide j0).on b7)
  replace i2 := hide ((unhide i2).on b7)
  replace a3 := hide ((unhide a3).on b7)
  replace i4 := hide ((unhide i4).on b7)
  replace i5 := hide ((unhide i5).on b7)
  replace i6 := hide ((unhide i6).on b7)
  replace HB := hide ((unhide HB).trans (b7.mono (unhide HB).size))
  clear b7
  rw [show rowR ((1 : Nat) : Int) xs = true from (row_same (by rfl) xs).trans R1.out]
  go_wp2_with fail
  refine (RSplit_any _ _ _ _ _ (unhide i0) R1 mm HMM).mono ?_
  rintro e w8 ⟨A8, c8, rfl, a8, b8⟩
  replace i0 := hide ((unhide i0).on b8)
  replace j0 := hide ((unhide j0).on b8)
  replace i2 := hide ((unhide i2).on b8)
  replace a3 := hide ((unhide a3).on b8)
  replace i4 := hide ((unhide i4).on b8)
  replace i5 := hide ((unhide i5).on b8)
  replace i6 := hide ((unhide i6).on b8)
  replace a8 := hide a8
  replace HB := hide ((unhide HB).trans (b8.mono (unhide HB).size))
  clear b8
  go_wp2_with fail
  refine (equal2_is _ _ _ _ _ _ _ _ _ _ _ (unhide a3) (unhide a8) (hide rfl)).mono ?_
  rintro e w9 ⟨rfl, qq9, hq9⟩
  have b9 : Below w8.heap.size w8 w9 := by rw [hq9]; exact Below.drewN' (Below.refl _ _) qq9
  clear hq9
  replace i0 := hide ((unhide i0).on b9)
  replace j0 := hide ((unhide j0).on b9)
  replace i2 := hide ((unhide i2).on b9)
  replace a3 := hide ((unhide a3).on b9)
  replace i4 := hide ((unhide i4).on b9)
  replace i5 := hide ((unhide i5).on b9)
  replace i6 := hide ((unhide i6).on b9)
  replace a8 := hide ((unhide a8).on b9)
  replace HB := hide ((unhide HB).trans (b9.mono (unhide HB).size))
  clear b9
  go_wp2_with fail
  refine (RShift_any _ _ true HS).mono ?_
  rintro e wq ⟨rfl, rfl⟩
  go_wp2_with fail
  refine (RIsRow_s sn ⟨h1, h2⟩ _ _ _ _ _ (unhide i0)).mono ?_
  rintro e w10 ⟨rfl, b10⟩
  replace i0 := hide ((unhide i0).on b10)
  replace j0 := hide ((unhide j0).on b10)
  replace i2 := hide ((unhide i2).on b10)
  replace a3 := hide ((unhide a3).on b10)
  replace i4 := hide ((unhide i4).on b10)
  replace i5 := hide ((unhide i5).on b10)
  replace i6 := hide ((unhide i6).on b10)
  replace a8 := hide ((unhide a8).on b10)
  replace HB := hide ((unhide HB).trans (b10.mono (unhide HB).size))
  clear b10
  rw [show rowR (sn : Int) xs = true from (row_same HS.out xs).trans R2.out]
  have hn16 : n ≤ 1000 := by have := row_len R2.out; rw [hl.out] at this; omega
  go_wp2_with fail
  refine (RTurn_any _ _ _ _ _ (unhide i0) hn16).mono ?_
  rintro e w11 ⟨A9, c9, rfl, i9, b11⟩
  replace i0 := hide ((unhide i0).on b11)
  replace j0 := hide ((unhide j0).on b11)
  replace i2 := hide ((unhide i2).on b11)
  replace a3 := hide ((unhide a3).on b11)
  replace i4 := hide ((unhide i4).on b11)
  replace i5 := hide ((unhide i5).on b11)
  replace i6 := hide ((unhide i6).on b11)
  replace a8 := hide ((unhide a8).on b11)
  replace i9 := hide i9
  replace HB := hide ((unhide HB).trans (b11.mono (unhide HB).size))
  clear b11
  go_wp2_with fail
  refine (equal_is _ _ _ _ _ _ _ _ _ _ _ (unhide i5) (unhide i9) (hide rfl)).mono ?_
  rintro e w12 ⟨rfl, qq12, hq12⟩
  have b12 : Below w11.heap.size w11 w12 := by rw [hq12]; exact Below.drewN' (Below.refl _ _) qq12
  clear hq12
  replace i0 := hide ((unhide i0).on b12)
  replace j0 := hide ((unhide j0).on b12)
  replace i2 := hide ((unhide i2).on b12)
  replace a3 := hide ((unhide a3).on b12)
  replace i4 := hide ((unhide i4).on b12)
  replace i5 := hide ((unhide i5).on b12)
  replace i6 := hide ((unhide i6).on b12)
  replace a8 := hide ((unhide a8).on b12)
  replace i9 := hide ((unhide i9).on b12)
  replace HB := hide ((unhide HB).trans (b12.mono (unhide HB).size))
  clear b12
  go_wp2_with fail
  refine (RIsPins_any _ _ _ _ _ (unhide j0) hpn false PB).mono ?_
  rintro e w13 ⟨rfl, b13⟩
  replace i0 := hide ((unhide i0).on b13)
  replace j0 := hide ((unhide j0).on b13)
  replace i2 := hide ((unhide i2).on b13)
  replace a3 := hide ((unhide a3).on b13)
  replace i4 := hide ((unhide i4).on b13)
  replace i5 := hide ((unhide i5).on b13)
  replace i6 := hide ((unhide i6).on b13)
  replace a8 := hide ((unhide a8).on b13)
  replace i9 := hide ((unhide i9).on b13)
  replace HB := hide ((unhide HB).trans (b13.mono (unhide HB).size))
  clear b13
  go_wp2_with fail
  refine (awake_any _).mono ?_
  rintro e w14 ⟨rfl, b14⟩
  replace i0 := hide ((unhide i0).on b14)
  replace j0 := hide ((unhide j0).on b14)
  replace i2 := hide ((unhide i2).on b14)
  replace a3 := hide ((unhide a3).on b14)
  replace i4 := hide ((unhide i4).on b14)
  replace i5 := hide ((unhide i5).on b14)
  replace i6 := hide ((unhide i6).on b14)
  replace a8 := hide ((unhide a8).on b14)
  replace i9 := hide ((unhide i9).on b14)
  replace HB := hide ((unhide HB).trans (b14.mono (unhide HB).size))
  clear b14
  go_wp2_with fail
  go_ret
  exact ⟨rfl, unhide HB⟩

set_option maxRecDepth 100000 in
set_option maxHeartbeats 2000000 in
theorem LSplits_1_yes_yes (s : Int) (A : Option Addr) (n c : Nat) (xs : List Int) (A' : Option Addr) (m c' : Nat) (ys : List Int) (w : World) (i0 : Ints w w.heap.size A n c xs) (j0 : Ints w w.heap.size A' m c' ys) (R1 : Hid (rowB 1 xs = true)) (HS : Hid (shB s = true)) (R2 : Hid (rowB s xs = true)) (PB : Hid (pinB ys = true)) (hpn : 1 ≤ m ∧ m ≤ 6) :
    Calls Try.prog 9 #[.int .i64 s, .slice A n c, .slice A' m c'] w fun e w' => e = .returned (.bool true) ∧ Below w.heap.size w w' := by
  have hl := hide i0.len
  have hm := i0.most; have hcap := i0.cap
  have hlp := hide j0.len
  have hmp := j0.most; have hcapp := j0.cap
  have dp1 : decide ((m : Int) < 1) = false := by simp; omega
  have dp2 : decide ((6 : Int) < (m : Int)) = false := by simp; omega
  obtain ⟨sn, rfl, h1, h2⟩ := sh_nat HS.out
  replace i0 := hide i0
  replace j0 := hide j0
  have HB := hide (Below.refl w.heap.size w)
  go_enter Try.func9, Try.ntmps9
  go_wp2_with fail
  refine (list_ints _ _ _ _ _ _ (unhide i0) (Nat.le_refl _)).mono ?_
  rintro e w1 ⟨A2, n2, c2, rfl, i2, b1⟩
  replace i0 := hide ((unhide i0).on b1)
  replace j0 := hide ((unhide j0).on b1)
  replace i2 := hide i2
  replace HB := hide ((unhide HB).trans (b1.mono (unhide HB).size))
  clear b1
  rw [show xs.take 20 = xs from List.take_of_length_le (by have := row_len R1.out; omega)] at i2
  obtain ⟨mm, hmm⟩ : ∃ mm, xs.length / 2 = mm := ⟨_, rfl⟩
  have HMM := hide hmm
  clear hmm
  go_wp2_with fail
  refine (Split_ok _ _ _ _ _ (unhide i2) R1 mm HMM).mono ?_
  rintro e w2 ⟨A3, c3, rfl, a3, b2⟩
  replace i0 := hide ((unhide i0).on b2)
  replace j0 := hide ((unhide j0).on b2)
  replace i2 := hide ((unhide i2).on b2)
  replace a3 := hide a3
  replace HB := hide ((unhide HB).trans (b2.mono (unhide HB).size))
  clear b2
  go_wp2_with fail
  refine (list_ints _ _ _ _ _ _ (unhide i0) (Nat.le_refl _)).mono ?_
  rintro e w3 ⟨A4, n4, c4, rfl, i4, b3⟩
  replace i0 := hide ((unhide i0).on b3)
  replace j0 := hide ((unhide j0).on b3)
  replace i2 := hide ((unhide i2).on b3)
  replace a3 := hide ((unhide a3).on b3)
  replace i4 := hide i4
  replace HB := hide ((unhide HB).trans (b3.mono (unhide HB).size))
  clear b3
  rw [show xs.take 20 = xs from List.take_of_length_le (by have := row_len R2.out; omega)] at i4
  have e4 := (unhide i4).len
  rw [hl.out] at e4
  subst e4
  go_wp2_with fail
  refine (Turn_ok _ _ _ _ _ _ (unhide i4) R2).mono ?_
  rintro e w4 ⟨A5, c5, rfl, i5, b4⟩
  replace i0 := hide ((unhide i0).on b4)
  replace j0 := hide ((unhide j0).on b4)
  replace i2 := hide ((unhide i2).on b4)
  replace a3 := hide ((unhide a3).on b4)
  replace i4 := hide ((unhide i4).on b4)
  replace i5 := hide i5
  replace HB := hide ((unhide HB).trans (b4.mono (unhide HB).size))
  clear b4
  go_wp2_with fail
  refine (list_ints _ _ _ _ _ _ (unhide j0) (Nat.le_refl _)).mono ?_
  rintro e w5 ⟨A6, n6, c6, rfl, i6, b5⟩
  replace i0 := hide ((unhide i0).on b5)
  replace j0 := hide ((unhide j0).on b5)
  replace i2 := hide ((unhide i2).on b5)
  replace a3 := hide ((unhide a3).on b5)
  replace i4 := hide ((unhide i4).on b5)
  replace i5 := hide ((unhide i5).on b5)
  replace i6 := hide i6
  replace HB := hide ((unhide HB).trans (b5.mono (unhide HB).size))
  clear b5
  rw [show ys.take 20 = ys from List.take_of_length_le (by rw [hlp.out]; omega)] at i6
  go_wp2_with fail
  refine (Quarter_ok _ _ _ _ _ (unhide i6) PB).mono ?_
  rintro e w6 ⟨A7, n7, c7, rfl, i7, b6⟩
  replace i0 := hide ((unhide i0).on b6)
  replace j0 := hide ((unhide j0).on b6)
  replace i2 := hide ((unhide i2).on b6)
  replace a3 := hide ((unhide a3).on b6)
  replace i4 := hide ((unhide i4).on b6)
  replace i5 := hide ((unhide i5).on b6)
  replace i6 := hide ((unhide i6).on b6)
  replace i7 := hide i7
  replace HB := hide ((unhide HB).trans (b6.mono (unhide HB).size))
  clear b6
  go_wp2_with fail
  refine (RIsRow_s 1 (by omega) _ _ _ _ _ (unhide i0)).mono ?_
  rintro e w7 ⟨rfl, b7⟩
  replace i0 := hide ((unhide i0).on b7)
  replace j0 := hide ((unhide j0).on b7)
  replace i2 := hide ((unhide i2).on b7)
  replace a3 := hide ((unhide a3).on b7)
  replace i4 := hide ((unhide i4).on b7)
  replace i5 := hide ((unhide i5).on b7)
  replace i6 := hide ((unhide i6).on b7)
  replace i7 := hide ((unhide i7).on b7)
  replace HB := hide ((unhide HB).trans (b7.mono (unhide HB).size))
  clear b7
  rw [show rowR ((1 : Nat) : Int) xs = true from (row_same (by rfl) xs).trans R1.out]
  go_wp2_with fail
  refine (RSplit_any _ _ _ _ _ (unhide i0) R1 mm HMM).mono ?_
  rintro e w8 ⟨A8, c8, rfl, a8, b8⟩
  replace i0 := hide ((unhide i0).on b8)
  replace j0 := hide ((unhide j0).on b8)
  replace i2 := hide ((unhide i2).on b8)
  replace a3 := hide ((unhide a3).on b8)
  replace i4 := hide ((unhide i4).on b8)
  replace i5 := hide ((unhide i5).on b8)
  replace i6 := hide ((unhide i6).on b8)
  replace i7 := hide ((unhide i7).on b8)
  replace a8 := hide a8
  replace HB := hide ((unhide HB).trans (b8.mono (unhide HB).size))
  clear b8
  go_wp2_with fail
  refine (equal2_is _ _ _ _ _ _ _ _ _ _ _ (unhide a3) (unhide a8) (hide rfl)).mono ?_
  rintro e w9 ⟨rfl, qq9, hq9⟩
  have b9 : Below w8.heap.size w8 w9 := by rw [hq9]; exact Below.drewN' (Below.refl _ _) qq9
  clear hq9
  replace i0 := hide ((unhide i0).on b9)
  replace j0 := hide ((unhide j0).on b9)
  replace i2 := hide ((unhide i2).on b9)
  replace a3 := hide ((unhide a3).on b9)
  replace i4 := hide ((unhide i4).on b9)
  replace i5 := hide ((unhide i5).on b9)
  replace i6 := hide ((unhide i6).on b9)
  replace i7 := hide ((unhide i7).on b9)
  replace a8 := hide ((unhide a8).on b9)
  replace HB := hide ((unhide HB).trans (b9.mono (unhide HB).size))
  clear b9
  go_wp2_with fail
  refine (RShift_any _ _ true HS).mono ?_
  rintro e wq ⟨rfl, rfl⟩
  go_wp2_with fail
  refine (RIsRow_s sn ⟨h1, h2⟩ _ _ _ _ _ (unhide i0)).mono ?_
  rintro e w10 ⟨rfl, b10⟩
  replace i0 := hide ((unhide i0).on b10)
  replace j0 := hide ((unhide j0).on b10)
  replace i2 := hide ((unhide i2).on b10)
  replace a3 := hide ((unhide a3).on b10)
  replace i4 := hide ((unhide i4).on b10)
  replace i5 := hide ((unhide i5).on b10)
  replace i6 := hide ((unhide i6).on b10)
  replace i7 := hide ((unhide i7).on b10)
  replace a8 := hide ((unhide a8).on b10)
  replace HB := hide ((unhide HB).trans (b10.mono (unhide HB).size))
  clear b10
  rw [show rowR (sn : Int) xs = true from (row_same HS.out xs).trans R2.out]
  have hn16 : n ≤ 1000 := by have := row_len R2.out; rw [hl.out] at this; omega
  go_wp2_with fail
  refine (RTurn_any _ _ _ _ _ (unhide i0) hn16).mono ?_
  rintro e w11 ⟨A9, c9, rfl, i9, b11⟩
  replace i0 := hide ((unhide i0).on b11)
  replace j0 := hide ((unhide j0).on b11)
  replace i2 := hide ((unhide i2).on b11)
  replace a3 := hide ((unhide a3).on b11)
  replace i4 := hide ((unhide i4).on b11)
  replace i5 := hide ((unhide i5).on b11)
  replace i6 := hide ((unhide i6).on b11)
  replace i7 := hide ((unhide i7).on b11)
  replace a8 := hide ((unhide a8).on b11)
  replace i9 := hide i9
  replace HB := hide ((unhide HB).trans (b11.mono (unhide HB).size))
  clear b11
  go_wp2_with fail
  refine (equal_is _ _ _ _ _ _ _ _ _ _ _ (unhide i5) (unhide i9) (hide rfl)).mono ?_
  rintro e w12 ⟨rfl, qq12, hq12⟩
  have b12 : Below w11.heap.size w11 w12 := by rw [hq12]; exact Below.drewN' (Below.refl _ _) qq12
  clear hq12
  replace i0 := hide ((unhide i0).on b12)
  replace j0 := hide ((unhide j0).on b12)
  replace i2 := hide ((unhide i2).on b12)
  replace a3 := hide ((unhide a3).on b12)
  replace i4 := hide ((unhide i4).on b12)
  replace i5 := hide ((unhide i5).on b12)
  replace i6 := hide ((unhide i6).on b12)
  replace i7 := hide ((unhide i7).on b12)
  replace a8 := hide ((unhide a8).on b12)
  replace i9 := hide ((unhide i9).on b12)
  replace HB := hide ((unhide HB).trans (b12.mono (unhide HB).size))
  clear b12
  go_wp2_with fail
  refine (RIsPins_any _ _ _ _ _ (unhide j0) hpn true PB).mono ?_
  rintro e w13 ⟨rfl, b13⟩
  replace i0 := hide ((unhide i0).on b13)
  replace j0 := hide ((unhide j0).on b13)
  replace i2 := hide ((unhide i2).on b13)
  replace a3 := hide ((unhide a3).on b13)
  replace i4 := hide ((unhide i4).on b13)
  replace i5 := hide ((unhide i5).on b13)
  replace i6 := hide ((unhide i6).on b13)
  replace i7 := hide ((unhide i7).on b13)
  replace a8 := hide ((unhide a8).on b13)
  replace i9 := hide ((unhide i9).on b13)
  replace HB := hide ((unhide HB).trans (b13.mono (unhide HB).size))
  clear b13
  go_wp2_with fail
  refine (RQuarter_any _ _ _ _ _ (unhide j0) PB).mono ?_
  rintro e w14 ⟨Aa, na, ca, rfl, ia, b14⟩
  replace i0 := hide ((unhide i0).on b14)
  replace j0 := hide ((unhide j0).on b14)
  replace i2 := hide ((unhide i2).on b14)
  replace a3 := hide ((unhide a3).on b14)
  replace i4 := hide ((unhide i4).on b14)
  replace i5 := hide ((unhide i5).on b14)
  replace i6 := hide ((unhide i6).on b14)
  replace i7 := hide ((unhide i7).on b14)
  replace a8 := hide ((unhide a8).on b14)
  replace i9 := hide ((unhide i9).on b14)
  replace ia := hide ia
  replace HB := hide ((unhide HB).trans (b14.mono (unhide HB).size))
  clear b14
  go_wp2_with fail
  refine (equal_is _ _ _ _ _ _ _ _ _ _ _ (unhide i7) (unhide ia) (hide rfl)).mono ?_
  rintro e w15 ⟨rfl, qq15, hq15⟩
  have b15 : Below w14.heap.size w14 w15 := by rw [hq15]; exact Below.drewN' (Below.refl _ _) qq15
  clear hq15
  replace i0 := hide ((unhide i0).on b15)
  replace j0 := hide ((unhide j0).on b15)
  replace i2 := hide ((unhide i2).on b15)
  replace a3 := hide ((unhide a3).on b15)
  replace i4 := hide ((unhide i4).on b15)
  replace i5 := hide ((unhide i5).on b15)
  replace i6 := hide ((unhide i6).on b15)
  replace i7 := hide ((unhide i7).on b15)
  replace a8 := hide ((unhide a8).on b15)
  replace i9 := hide ((unhide i9).on b15)
  replace ia := hide ((unhide ia).on b15)
  replace HB := hide ((unhide HB).trans (b15.mono (unhide HB).size))
  clear b15
  go_wp2_with fail
  refine (awake_any _).mono ?_
  rintro e w16 ⟨rfl, b16⟩
  replace i0 := hide ((unhide i0).on b16)
  replace j0 := hide ((unhide j0).on b16)
  replace i2 := hide ((unhide i2).on b16)
  replace a3 := hide ((unhide a3).on b16)
  replace i4 := hide ((unhide i4).on b16)
  replace i5 := hide ((unhide i5).on b16)
  replace i6 := hide ((unhide i6).on b16)
  replace i7 := hide ((unhide i7).on b16)
  replace a8 := hide ((unhide a8).on b16)
  replace i9 := hide ((unhide i9).on b16)
  replace ia := hide ((unhide ia).on b16)
  replace HB := hide ((unhide HB).trans (b16.mono (unhide HB).size))
  clear b16
  go_wp2_with fail
  go_ret
  exact ⟨rfl, unhide HB⟩

theorem LSplits_any (s : Int) {A : Option Addr} {n c : Nat} {xs : List Int} {A' : Option Addr} {m c' : Nat} {ys : List Int} {w : World} (i0 : Ints w w.heap.size A n c xs) (j0 : Ints w w.heap.size A' m c' ys) :
    Calls Try.prog 9 #[.int .i64 s, .slice A n c, .slice A' m c'] w fun e w' => e = .returned (.bool true) ∧ Below w.heap.size w w' := by
  have pf : 6 < m → pinB ys = false := fun h => pinB_far (by rw [j0.len]; exact h)
  have p0 : m = 0 → pinB ys = false := fun h => by
    unfold pinB pcB; rw [j0.len, h]; rfl
  have hsr : shB s = false → rowB s xs = false := fun h => by unfold rowB; rw [h]; rfl
  cases r1 : rowB 1 xs <;> cases hs : shB s <;> cases r2 : rowB s xs
  · rcases (show m = 0 ∨ 6 < m ∨ (1 ≤ m ∧ m ≤ 6) by omega) with h | h | h
    · exact LSplits_0_sh_0 s A n c xs A' m c' ys w i0 j0 (hide r1) (hide hs) (hide r2) (hide (p0 h)) h
    · exact LSplits_0_sh_far s A n c xs A' m c' ys w i0 j0 (hide r1) (hide hs) (hide r2) (hide (pf h)) h
    · cases pb : pinB ys with
      | false => exact LSplits_0_sh_no s A n c xs A' m c' ys w i0 j0 (hide r1) (hide hs) (hide r2) (hide pb) h
      | true => exact LSplits_0_sh_yes s A n c xs A' m c' ys w i0 j0 (hide r1) (hide hs) (hide r2) (hide pb) h
  · rw [hsr hs] at r2; cases r2
  · rcases (show m = 0 ∨ 6 < m ∨ (1 ≤ m ∧ m ≤ 6) by omega) with h | h | h
    · exact LSplits_0_no_0 s A n c xs A' m c' ys w i0 j0 (hide r1) (hide hs) (hide r2) (hide (p0 h)) h
    · exact LSplits_0_no_far s A n c xs A' m c' ys w i0 j0 (hide r1) (hide hs) (hide r2) (hide (pf h)) h
    · cases pb : pinB ys with
      | false => exact LSplits_0_no_no s A n c xs A' m c' ys w i0 j0 (hide r1) (hide hs) (hide r2) (hide pb) h
      | true => exact LSplits_0_no_yes s A n c xs A' m c' ys w i0 j0 (hide r1) (hide hs) (hide r2) (hide pb) h
  · rcases (show m = 0 ∨ 6 < m ∨ (1 ≤ m ∧ m ≤ 6) by omega) with h | h | h
    · exact LSplits_0_yes_0 s A n c xs A' m c' ys w i0 j0 (hide r1) (hide hs) (hide r2) (hide (p0 h)) h
    · exact LSplits_0_yes_far s A n c xs A' m c' ys w i0 j0 (hide r1) (hide hs) (hide r2) (hide (pf h)) h
    · cases pb : pinB ys with
      | false => exact LSplits_0_yes_no s A n c xs A' m c' ys w i0 j0 (hide r1) (hide hs) (hide r2) (hide pb) h
      | true => exact LSplits_0_yes_yes s A n c xs A' m c' ys w i0 j0 (hide r1) (hide hs) (hide r2) (hide pb) h
  · rcases (show m = 0 ∨ 6 < m ∨ (1 ≤ m ∧ m ≤ 6) by omega) with h | h | h
    · exact LSplits_1_sh_0 s A n c xs A' m c' ys w i0 j0 (hide r1) (hide hs) (hide r2) (hide (p0 h)) h
    · exact LSplits_1_sh_far s A n c xs A' m c' ys w i0 j0 (hide r1) (hide hs) (hide r2) (hide (pf h)) h
    · cases pb : pinB ys with
      | false => exact LSplits_1_sh_no s A n c xs A' m c' ys w i0 j0 (hide r1) (hide hs) (hide r2) (hide pb) h
      | true => exact LSplits_1_sh_yes s A n c xs A' m c' ys w i0 j0 (hide r1) (hide hs) (hide r2) (hide pb) h
  · rw [hsr hs] at r2; cases r2
  · rcases (show m = 0 ∨ 6 < m ∨ (1 ≤ m ∧ m ≤ 6) by omega) with h | h | h
    · exact LSplits_1_no_0 s A n c xs A' m c' ys w i0 j0 (hide r1) (hide hs) (hide r2) (hide (p0 h)) h
    · exact LSplits_1_no_far s A n c xs A' m c' ys w i0 j0 (hide r1) (hide hs) (hide r2) (hide (pf h)) h
    · cases pb : pinB ys with
      | false => exact LSplits_1_no_no s A n c xs A' m c' ys w i0 j0 (hide r1) (hide hs) (hide r2) (hide pb) h
      | true => exact LSplits_1_no_yes s A n c xs A' m c' ys w i0 j0 (hide r1) (hide hs) (hide r2) (hide pb) h
  · rcases (show m = 0 ∨ 6 < m ∨ (1 ≤ m ∧ m ≤ 6) by omega) with h | h | h
    · exact LSplits_1_yes_0 s A n c xs A' m c' ys w i0 j0 (hide r1) (hide hs) (hide r2) (hide (p0 h)) h
    · exact LSplits_1_yes_far s A n c xs A' m c' ys w i0 j0 (hide r1) (hide hs) (hide r2) (hide (pf h)) h
    · cases pb : pinB ys with
      | false => exact LSplits_1_yes_no s A n c xs A' m c' ys w i0 j0 (hide r1) (hide hs) (hide r2) (hide pb) h
      | true => exact LSplits_1_yes_yes s A n c xs A' m c' ys w i0 j0 (hide r1) (hide hs) (hide r2) (hide pb) h
end Go.Proofs.Ytmgoonoifgcmnaa
