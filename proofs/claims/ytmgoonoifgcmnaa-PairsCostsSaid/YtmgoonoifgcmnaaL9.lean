/-
  The law PairsPins.
-/
import Derived.Test.YtmgoonoifgcmnaaH2
import Derived.Test.YtmgoonoifgcmnaaL3
namespace Go.Proofs.Ytmgoonoifgcmnaa
open Go.RowKit

theorem Pins_rows (n : Nat) (hn : 1 ≤ n ∧ n ≤ 6) (w : World) : Calls Try.prog 32 #[.int .i64 n] w fun e w' => ∃ A' n' c', e = .returned (.tuple #[.slice A' n' c', .int .i64 0]) ∧ Rows_ w' w'.heap.size A' n' c' (pinsL n) ∧ Below w.heap.size w w' :=
  (Pins_ok n hn w).mono fun _ _ ⟨_, he, ho, hb⟩ => by
    obtain ⟨A, n', c, rfl, hr⟩ := ho.to
    exact ⟨A, n', c, he, hr, hb⟩
set_option maxRecDepth 100000 in
set_option maxHeartbeats 1000000 in
theorem LPins_zero_lo (z : Int) (A : Option Addr) (n c : Nat) (xs : List Int) (w : World) (i0 : Ints w w.heap.size A n c xs) (h : n = 0) (hz : z < 1) :
    Calls Try.prog 5 #[.slice A n c, .int .i64 z] w fun e w' => e = .returned (.bool true) ∧ Below w.heap.size w w' := by
  have hl := hide i0.len
  have hm := i0.most; have hcap := i0.cap
  have dz : decide (z < 1) = true := by simpa using hz
  have HPC := hide (show pcI z = false from by unfold pcI; simp <;> omega)
  subst h
  have HLT := hide (show pcB (xs.take 20).length = false from by rw [List.length_take, hl.out]; unfold pcB; simp <;> omega)
  replace i0 := hide i0
  have HB := hide (Below.refl w.heap.size w)
  go_enter Try.func5, Try.ntmps5
  go_wp2_with fail
  refine (list_ints _ _ _ _ _ _ (unhide i0) (Nat.le_refl _)).mono ?_
  rintro e w1 ⟨A2, n2, c2, rfl, i2, b1⟩
  replace i0 := hide ((unhide i0).on b1)
  replace i2 := hide i2
  replace HB := hide ((unhide HB).trans (b1.mono (unhide HB).size))
  clear b1
  have hm2 := (unhide i2).most; have hcap2 := (unhide i2).cap
  have hl2 := hide (unhide i2).len
  go_wp2_with fail
  refine (IsPins_no _ _ _ _ hm2 hcap2 (hide (by rw [← hl2.out]; exact HLT.out))).mono ?_
  rintro e wq ⟨rfl, rfl⟩
  go_wp2_with fail
  refine (Pins_no _ HPC.out _).mono ?_
  rintro e wq ⟨rfl, rfl⟩
  go_wp2_with fail
  refine (awake_any _).mono ?_
  rintro e w2 ⟨rfl, b2⟩
  replace i0 := hide ((unhide i0).on b2)
  replace i2 := hide ((unhide i2).on b2)
  replace HB := hide ((unhide HB).trans (b2.mono (unhide HB).size))
  clear b2
  go_wp2_with fail
  go_ret
  exact ⟨rfl, unhide HB⟩

set_option maxRecDepth 100000 in
set_option maxHeartbeats 1000000 in
theorem LPins_zero_hi (z : Int) (A : Option Addr) (n c : Nat) (xs : List Int) (w : World) (i0 : Ints w w.heap.size A n c xs) (h : n = 0) (hz : 6 < z) :
    Calls Try.prog 5 #[.slice A n c, .int .i64 z] w fun e w' => e = .returned (.bool true) ∧ Below w.heap.size w w' := by
  have hl := hide i0.len
  have hm := i0.most; have hcap := i0.cap
  have dz : decide (z < 1) = false := by simp; omega
  have dz2 : decide (6 < z) = true := by simpa using hz
  have HPC := hide (show pcI z = false from by unfold pcI; simp <;> omega)
  subst h
  have HLT := hide (show pcB (xs.take 20).length = false from by rw [List.length_take, hl.out]; unfold pcB; simp <;> omega)
  replace i0 := hide i0
  have HB := hide (Below.refl w.heap.size w)
  go_enter Try.func5, Try.ntmps5
  go_wp2_with fail
  refine (list_ints _ _ _ _ _ _ (unhide i0) (Nat.le_refl _)).mono ?_
  rintro e w1 ⟨A2, n2, c2, rfl, i2, b1⟩
  replace i0 := hide ((unhide i0).on b1)
  replace i2 := hide i2
  replace HB := hide ((unhide HB).trans (b1.mono (unhide HB).size))
  clear b1
  have hm2 := (unhide i2).most; have hcap2 := (unhide i2).cap
  have hl2 := hide (unhide i2).len
  go_wp2_with fail
  refine (IsPins_no _ _ _ _ hm2 hcap2 (hide (by rw [← hl2.out]; exact HLT.out))).mono ?_
  rintro e wq ⟨rfl, rfl⟩
  go_wp2_with fail
  refine (Pins_no _ HPC.out _).mono ?_
  rintro e wq ⟨rfl, rfl⟩
  go_wp2_with fail
  refine (awake_any _).mono ?_
  rintro e w2 ⟨rfl, b2⟩
  replace i0 := hide ((unhide i0).on b2)
  replace i2 := hide ((unhide i2).on b2)
  replace HB := hide ((unhide HB).trans (b2.mono (unhide HB).size))
  clear b2
  go_wp2_with fail
  go_ret
  exact ⟨rfl, unhide HB⟩

set_option maxRecDepth 100000 in
set_option maxHeartbeats 1000000 in
theorem LPins_zero_ok (z : Int) (A : Option Addr) (n c : Nat) (xs : List Int) (w : World) (i0 : Ints w w.heap.size A n c xs) (h : n = 0) (hz : 1 ≤ z ∧ z ≤ 6) :
    Calls Try.prog 5 #[.slice A n c, .int .i64 z] w fun e w' => e = .returned (.bool true) ∧ Below w.heap.size w w' := by
  have hl := hide i0.len
  have hm := i0.most; have hcap := i0.cap
  obtain ⟨M, rfl⟩ : ∃ M : Nat, z = (M : Int) := ⟨z.toNat, by omega⟩
  have hM : 1 ≤ M ∧ M ≤ 6 := by omega
  have dz : decide ((M : Int) < 1) = false := by simp; omega
  have dz2 : decide (6 < (M : Int)) = false := by simp; omega
  obtain ⟨PL, hPL⟩ : ∃ PL, pinsL M = PL := ⟨_, rfl⟩
  have HPL := hide hPL
  clear hPL
  subst h
  have HLT := hide (show pcB (xs.take 20).length = false from by rw [List.length_take, hl.out]; unfold pcB; simp <;> omega)
  replace i0 := hide i0
  have HB := hide (Below.refl w.heap.size w)
  go_enter Try.func5, Try.ntmps5
  go_wp2_with fail
  refine (list_ints _ _ _ _ _ _ (unhide i0) (Nat.le_refl _)).mono ?_
  rintro e w1 ⟨A2, n2, c2, rfl, i2, b1⟩
  replace i0 := hide ((unhide i0).on b1)
  replace i2 := hide i2
  replace HB := hide ((unhide HB).trans (b1.mono (unhide HB).size))
  clear b1
  have hm2 := (unhide i2).most; have hcap2 := (unhide i2).cap
  have hl2 := hide (unhide i2).len
  go_wp2_with fail
  refine (IsPins_no _ _ _ _ hm2 hcap2 (hide (by rw [← hl2.out]; exact HLT.out))).mono ?_
  rintro e wq ⟨rfl, rfl⟩
  go_wp2_with fail
  refine (Pins_rows M hM _).mono ?_
  rintro e w2 ⟨A4, n4, c4, rfl, r4, b2⟩
  replace i0 := hide ((unhide i0).on b2)
  replace i2 := hide ((unhide i2).on b2)
  replace r4 := hide r4
  replace HB := hide ((unhide HB).trans (b2.mono (unhide HB).size))
  clear b2
  rw [HPL.out] at r4
  go_wp2_with fail
  refine (RPins_any M hM _).mono ?_
  rintro e w3 ⟨A5, n5, c5, rfl, r5, b3⟩
  replace i0 := hide ((unhide i0).on b3)
  replace i2 := hide ((unhide i2).on b3)
  replace r4 := hide ((unhide r4).on b3)
  replace r5 := hide r5
  replace HB := hide ((unhide HB).trans (b3.mono (unhide HB).size))
  clear b3
  rw [HPL.out] at r5
  go_wp2_with fail
  refine (equalR_is _ _ _ _ _ _ _ _ _ _ _ (unhide r4) (unhide r5) (hide rfl)).mono ?_
  rintro e w4 ⟨rfl, qq4, hq4⟩
  have b4 : Below w3.heap.size w3 w4 := by rw [hq4]; exact Below.drewN' (Below.refl _ _) qq4
  clear hq4
  replace i0 := hide ((unhide i0).on b4)
  replace i2 := hide ((unhide i2).on b4)
  replace r4 := hide ((unhide r4).on b4)
  replace r5 := hide ((unhide r5).on b4)
  replace HB := hide ((unhide HB).trans (b4.mono (unhide HB).size))
  clear b4
  go_wp2_with fail
  refine (awake_any _).mono ?_
  rintro e w5 ⟨rfl, b5⟩
  replace i0 := hide ((unhide i0).on b5)
  replace i2 := hide ((unhide i2).on b5)
  replace r4 := hide ((unhide r4).on b5)
  replace r5 := hide ((unhide r5).on b5)
  replace HB := hide ((unhide HB).trans (b5.mono (unhide HB).size))
  clear b5
  go_wp2_with fail
  go_ret
  exact ⟨rfl, unhide HB⟩

set_option maxRecDepth 100000 in
set_option maxHeartbeats 1000000 in
theorem LPins_big_lo (z : Int) (A : Option Addr) (n c : Nat) (xs : List Int) (w : World) (i0 : Ints w w.heap.size A n c xs) (h : 6 < n) (hz : z < 1) :
    Calls Try.prog 5 #[.slice A n c, .int .i64 z] w fun e w' => e = .returned (.bool true) ∧ Below w.heap.size w w' := by
  have hl := hide i0.len
  have hm := i0.most; have hcap := i0.cap
  have dz : decide (z < 1) = true := by simpa using hz
  have HPC := hide (show pcI z = false from by unfold pcI; simp <;> omega)
  have d1 : decide ((n : Int) < 1) = false := by simp; omega
  have d6 : decide ((6 : Int) < (n : Int)) = true := by simp; omega
  have HLT := hide (show pcB (xs.take 20).length = false from by rw [List.length_take, hl.out]; unfold pcB; simp <;> omega)
  replace i0 := hide i0
  have HB := hide (Below.refl w.heap.size w)
  go_enter Try.func5, Try.ntmps5
  go_wp2_with fail
  refine (list_ints _ _ _ _ _ _ (unhide i0) (Nat.le_refl _)).mono ?_
  rintro e w1 ⟨A2, n2, c2, rfl, i2, b1⟩
  replace i0 := hide ((unhide i0).on b1)
  replace i2 := hide i2
  replace HB := hide ((unhide HB).trans (b1.mono (unhide HB).size))
  clear b1
  have hm2 := (unhide i2).most; have hcap2 := (unhide i2).cap
  have hl2 := hide (unhide i2).len
  go_wp2_with fail
  refine (IsPins_no _ _ _ _ hm2 hcap2 (hide (by rw [← hl2.out]; exact HLT.out))).mono ?_
  rintro e wq ⟨rfl, rfl⟩
  go_wp2_with fail
  refine (Pins_no _ HPC.out _).mono ?_
  rintro e wq ⟨rfl, rfl⟩
  go_wp2_with fail
  refine (awake_any _).mono ?_
  rintro e w2 ⟨rfl, b2⟩
  replace i0 := hide ((unhide i0).on b2)
  replace i2 := hide ((unhide i2).on b2)
  replace HB := hide ((unhide HB).trans (b2.mono (unhide HB).size))
  clear b2
  go_wp2_with fail
  go_ret
  exact ⟨rfl, unhide HB⟩

set_option maxRecDepth 100000 in
set_option maxHeartbeats 1000000 in
theorem LPins_big_hi (z : Int) (A : Option Addr) (n c : Nat) (xs : List Int) (w : World) (i0 : Ints w w.heap.size A n c xs) (h : 6 < n) (hz : 6 < z) :
    Calls Try.prog 5 #[.slice A n c, .int .i64 z] w fun e w' => e = .returned (.bool true) ∧ Below w.heap.size w w' := by
  have hl := hide i0.len
  have hm := i0.most; have hcap := i0.cap
  have dz : decide (z < 1) = false := by simp; omega
  have dz2 : decide (6 < z) = true := by simpa using hz
  have HPC := hide (show pcI z = false from by unfold pcI; simp <;> omega)
  have d1 : decide ((n : Int) < 1) = false := by simp; omega
  have d6 : decide ((6 : Int) < (n : Int)) = true := by simp; omega
  have HLT := hide (show pcB (xs.take 20).length = false from by rw [List.length_take, hl.out]; unfold pcB; simp <;> omega)
  replace i0 := hide i0
  have HB := hide (Below.refl w.heap.size w)
  go_enter Try.func5, Try.ntmps5
  go_wp2_with fail
  refine (list_ints _ _ _ _ _ _ (unhide i0) (Nat.le_refl _)).mono ?_
  rintro e w1 ⟨A2, n2, c2, rfl, i2, b1⟩
  replace i0 := hide ((unhide i0).on b1)
  replace i2 := hide i2
  replace HB := hide ((unhide HB).trans (b1.mono (unhide HB).size))
  clear b1
  have hm2 := (unhide i2).most; have hcap2 := (unhide i2).cap
  have hl2 := hide (unhide i2).len
  go_wp2_with fail
  refine (IsPins_no _ _ _ _ hm2 hcap2 (hide (by rw [← hl2.out]; exact HLT.out))).mono ?_
  rintro e wq ⟨rfl, rfl⟩
  go_wp2_with fail
  refine (Pins_no _ HPC.out _).mono ?_
  rintro e wq ⟨rfl, rfl⟩
  go_wp2_with fail
  refine (awake_any _).mono ?_
  rintro e w2 ⟨rfl, b2⟩
  replace i0 := hide ((unhide i0).on b2)
  replace i2 := hide ((unhide i2).on b2)
  replace HB := hide ((unhide HB).trans (b2.mono (unhide HB).size))
  clear b2
  go_wp2_with fail
  go_ret
  exact ⟨rfl, unhide HB⟩

set_option maxRecDepth 100000 in
set_option maxHeartbeats 1000000 in
theorem LPins_big_ok (z : Int) (A : Option Addr) (n c : Nat) (xs : List Int) (w : World) (i0 : Ints w w.heap.size A n c xs) (h : 6 < n) (hz : 1 ≤ z ∧ z ≤ 6) :
    Calls Try.prog 5 #[.slice A n c, .int .i64 z] w fun e w' => e = .returned (.bool true) ∧ Below w.heap.size w w' := by
  have hl := hide i0.len
  have hm := i0.most; have hcap := i0.cap
  obtain ⟨M, rfl⟩ : ∃ M : Nat, z = (M : Int) := ⟨z.toNat, by omega⟩
  have hM : 1 ≤ M ∧ M ≤ 6 := by omega
  have dz : decide ((M : Int) < 1) = false := by simp; omega
  have dz2 : decide (6 < (M : Int)) = false := by simp; omega
  obtain ⟨PL, hPL⟩ : ∃ PL, pinsL M = PL := ⟨_, rfl⟩
  have HPL := hide hPL
  clear hPL
  have d1 : decide ((n : Int) < 1) = false := by simp; omega
  have d6 : decide ((6 : Int) < (n : Int)) = true := by simp; omega
  have HLT := hide (show pcB (xs.take 20).length = false from by rw [List.length_take, hl.out]; unfold pcB; simp <;> omega)
  replace i0 := hide i0
  have HB := hide (Below.refl w.heap.size w)
  go_enter Try.func5, Try.ntmps5
  go_wp2_with fail
  refine (list_ints _ _ _ _ _ _ (unhide i0) (Nat.le_refl _)).mono ?_
  rintro e w1 ⟨A2, n2, c2, rfl, i2, b1⟩
  replace i0 := hide ((unhide i0).on b1)
  replace i2 := hide i2
  replace HB := hide ((unhide HB).trans (b1.mono (unhide HB).size))
  clear b1
  have hm2 := (unhide i2).most; have hcap2 := (unhide i2).cap
  have hl2 := hide (unhide i2).len
  go_wp2_with fail
  refine (IsPins_no _ _ _ _ hm2 hcap2 (hide (by rw [← hl2.out]; exact HLT.out))).mono ?_
  rintro e wq ⟨rfl, rfl⟩
  go_wp2_with fail
  refine (Pins_rows M hM _).mono ?_
  rintro e w2 ⟨A4, n4, c4, rfl, r4, b2⟩
  replace i0 := hide ((unhide i0).on b2)
  replace i2 := hide ((unhide i2).on b2)
  replace r4 := hide r4
  replace HB := hide ((unhide HB).trans (b2.mono (unhide HB).size))
  clear b2
  rw [HPL.out] at r4
  go_wp2_with fail
  refine (RPins_any M hM _).mono ?_
  rintro e w3 ⟨A5, n5, c5, rfl, r5, b3⟩
  replace i0 := hide ((unhide i0).on b3)
  replace i2 := hide ((unhide i2).on b3)
  replace r4 := hide ((unhide r4).on b3)
  replace r5 := hide r5
  replace HB := hide ((unhide HB).trans (b3.mono (unhide HB).size))
  clear b3
  rw [HPL.out] at r5
  go_wp2_with fail
  refine (equalR_is _ _ _ _ _ _ _ _ _ _ _ (unhide r4) (unhide r5) (hide rfl)).mono ?_
  rintro e w4 ⟨rfl, qq4, hq4⟩
  have b4 : Below w3.heap.size w3 w4 := by rw [hq4]; exact Below.drewN' (Below.refl _ _) qq4
  clear hq4
  replace i0 := hide ((unhide i0).on b4)
  replace i2 := hide ((unhide i2).on b4)
  replace r4 := hide ((unhide r4).on b4)
  replace r5 := hide ((unhide r5).on b4)
  replace HB := hide ((unhide HB).trans (b4.mono (unhide HB).size))
  clear b4
  go_wp2_with fail
  refine (awake_any _).mono ?_
  rintro e w5 ⟨rfl, b5⟩
  replace i0 := hide ((unhide i0).on b5)
  replace i2 := hide ((unhide i2).on b5)
  replace r4 := hide ((unhide r4).on b5)
  replace r5 := hide ((unhide r5).on b5)
  replace HB := hide ((unhide HB).trans (b5.mono (unhide HB).size))
  clear b5
  go_wp2_with fail
  go_ret
  exact ⟨rfl, unhide HB⟩

set_option maxRecDepth 100000 in
set_option maxHeartbeats 1000000 in
theorem LPins_no_lo (z : Int) (A : Option Addr) (n c : Nat) (xs : List Int) (w : World) (i0 : Ints w w.heap.size A n c xs) (h : 1 ≤ n ∧ n ≤ 6) (HF : Hid (pinB xs = false)) (hz : z < 1) :
    Calls Try.prog 5 #[.slice A n c, .int .i64 z] w fun e w' => e = .returned (.bool true) ∧ Below w.heap.size w w' := by
  have hl := hide i0.len
  have hm := i0.most; have hcap := i0.cap
  have dz : decide (z < 1) = true := by simpa using hz
  have HPC := hide (show pcI z = false from by unfold pcI; simp <;> omega)
  have d1 : decide ((n : Int) < 1) = false := by simp; omega
  have d6 : decide ((6 : Int) < (n : Int)) = false := by simp; omega
  have TK := hide (show xs.take 20 = xs from List.take_of_length_le (by rw [hl.out]; omega))
  have HPB := hide (show pcB n = true from by unfold pcB; simp <;> omega)
  replace i0 := hide i0
  have HB := hide (Below.refl w.heap.size w)
  go_enter Try.func5, Try.ntmps5
  go_wp2_with fail
  refine (list_ints _ _ _ _ _ _ (unhide i0) (Nat.le_refl _)).mono ?_
  rintro e w1 ⟨A2, n2, c2, rfl, i2, b1⟩
  replace i0 := hide ((unhide i0).on b1)
  replace i2 := hide i2
  replace HB := hide ((unhide HB).trans (b1.mono (unhide HB).size))
  clear b1
  have e2 := (unhide i2).len
  rw [TK.out] at i2 e2
  rw [hl.out] at e2
  subst e2
  go_wp2_with fail
  refine (IsPins_ok _ _ _ _ _ (unhide i2) HPB false HF).mono ?_
  rintro e w2 ⟨rfl, b2⟩
  replace i0 := hide ((unhide i0).on b2)
  replace i2 := hide ((unhide i2).on b2)
  replace HB := hide ((unhide HB).trans (b2.mono (unhide HB).size))
  clear b2
  go_wp2_with fail
  refine (Pins_no _ HPC.out _).mono ?_
  rintro e wq ⟨rfl, rfl⟩
  go_wp2_with fail
  refine (RIsPins_any _ _ _ _ _ (unhide i0) h false HF).mono ?_
  rintro e w3 ⟨rfl, b3⟩
  replace i0 := hide ((unhide i0).on b3)
  replace i2 := hide ((unhide i2).on b3)
  replace HB := hide ((unhide HB).trans (b3.mono (unhide HB).size))
  clear b3
  go_wp2_with fail
  refine (awake_any _).mono ?_
  rintro e w4 ⟨rfl, b4⟩
  replace i0 := hide ((unhide i0).on b4)
  replace i2 := hide ((unhide i2).on b4)
  replace HB := hide ((unhide HB).trans (b4.mono (unhide HB).size))
  clear b4
  go_wp2_with fail
  go_ret
  exact ⟨rfl, unhide HB⟩

set_option maxRecDepth 100000 in
set_option maxHeartbeats 1000000 in
theorem LPins_no_hi (z : Int) (A : Option Addr) (n c : Nat) (xs : List Int) (w : World) (i0 : Ints w w.heap.size A n c xs) (h : 1 ≤ n ∧ n ≤ 6) (HF : Hid (pinB xs = false)) (hz : 6 < z) :
    Calls Try.prog 5 #[.slice A n c, .int .i64 z] w fun e w' => e = .returned (.bool true) ∧ Below w.heap.size w w' := by
  have hl := hide i0.len
  have hm := i0.most; have hcap := i0.cap
  have dz : decide (z < 1) = false := by simp; omega
  have dz2 : decide (6 < z) = true := by simpa using hz
  have HPC := hide (show pcI z = false from by unfold pcI; simp <;> omega)
  have d1 : decide ((n : Int) < 1) = false := by simp; omega
  have d6 : decide ((6 : Int) < (n : Int)) = false := by simp; omega
  have TK := hide (show xs.take 20 = xs from List.take_of_length_le (by rw [hl.out]; omega))
  have HPB := hide (show pcB n = true from by unfold pcB; simp <;> omega)
  replace i0 := hide i0
  have HB := hide (Below.refl w.heap.size w)
  go_enter Try.func5, Try.ntmps5
  go_wp2_with fail
  refine (list_ints _ _ _ _ _ _ (unhide i0) (Nat.le_refl _)).mono ?_
  rintro e w1 ⟨A2, n2, c2, rfl, i2, b1⟩
  replace i0 := hide ((unhide i0).on b1)
  replace i2 := hide i2
  replace HB := hide ((unhide HB).trans (b1.mono (unhide HB).size))
  clear b1
  have e2 := (unhide i2).len
  rw [TK.out] at i2 e2
  rw [hl.out] at e2
  subst e2
  go_wp2_with fail
  refine (IsPins_ok _ _ _ _ _ (unhide i2) HPB false HF).mono ?_
  rintro e w2 ⟨rfl, b2⟩
  replace i0 := hide ((unhide i0).on b2)
  replace i2 := hide ((unhide i2).on b2)
  replace HB := hide ((unhide HB).trans (b2.mono (unhide HB).size))
  clear b2
  go_wp2_with fail
  refine (Pins_no _ HPC.out _).mono ?_
  rintro e wq ⟨rfl, rfl⟩
  go_wp2_with fail
  refine (RIsPins_any _ _ _ _ _ (unhide i0) h false HF).mono ?_
  rintro e w3 ⟨rfl, b3⟩
  replace i0 := hide ((unhide i0).on b3)
  replace i2 := hide ((unhide i2).on b3)
  replace HB := hide ((unhide HB).trans (b3.mono (unhide HB).size))
  clear b3
  go_wp2_with fail
  refine (awake_any _).mono ?_
  rintro e w4 ⟨rfl, b4⟩
  replace i0 := hide ((unhide i0).on b4)
  replace i2 := hide ((unhide i2).on b4)
  replace HB := hide ((unhide HB).trans (b4.mono (unhide HB).size))
  clear b4
  go_wp2_with fail
  go_ret
  exact ⟨rfl, unhide HB⟩

set_option maxRecDepth 100000 in
set_option maxHeartbeats 1000000 in
theorem LPins_no_ok (z : Int) (A : Option Addr) (n c : Nat) (xs : List Int) (w : World) (i0 : Ints w w.heap.size A n c xs) (h : 1 ≤ n ∧ n ≤ 6) (HF : Hid (pinB xs = false)) (hz : 1 ≤ z ∧ z ≤ 6) :
    Calls Try.prog 5 #[.slice A n c, .int .i64 z] w fun e w' => e = .returned (.bool true) ∧ Below w.heap.size w w' := by
  have hl := hide i0.len
  have hm := i0.most; have hcap := i0.cap
  obtain ⟨M, rfl⟩ : ∃ M : Nat, z = (M : Int) := ⟨z.toNat, by omega⟩
  have hM : 1 ≤ M ∧ M ≤ 6 := by omega
  have dz : decide ((M : Int) < 1) = false := by simp; omega
  have dz2 : decide (6 < (M : Int)) = false := by simp; omega
  obtain ⟨PL, hPL⟩ : ∃ PL, pinsL M = PL := ⟨_, rfl⟩
  have HPL := hide hPL
  clear hPL
  have d1 : decide ((n : Int) < 1) = false := by simp; omega
  have d6 : decide ((6 : Int) < (n : Int)) = false := by simp; omega
  have TK := hide (show xs.take 20 = xs from List.take_of_length_le (by rw [hl.out]; omega))
  have HPB := hide (show pcB n = true from by unfold pcB; simp <;> omega)
  replace i0 := hide i0
  have HB := hide (Below.refl w.heap.size w)
  go_enter Try.func5, Try.ntmps5
  go_wp2_with fail
  refine (list_ints _ _ _ _ _ _ (unhide i0) (Nat.le_refl _)).mono ?_
  rintro e w1 ⟨A2, n2, c2, rfl, i2, b1⟩
  replace i0 := hide ((unhide i0).on b1)
  replace i2 := hide i2
  replace HB := hide ((unhide HB).trans (b1.mono (unhide HB).size))
  clear b1
  have e2 := (unhide i2).len
  rw [TK.out] at i2 e2
  rw [hl.out] at e2
  subst e2
  go_wp2_with fail
  refine (IsPins_ok _ _ _ _ _ (unhide i2) HPB false HF).mono ?_
  rintro e w2 ⟨rfl, b2⟩
  replace i0 := hide ((unhide i0).on b2)
  replace i2 := hide ((unhide i2).on b2)
  replace HB := hide ((unhide HB).trans (b2.mono (unhide HB).size))
  clear b2
  go_wp2_with fail
  refine (Pins_rows M hM _).mono ?_
  rintro e w3 ⟨A4, n4, c4, rfl, r4, b3⟩
  replace i0 := hide ((unhide i0).on b3)
  replace i2 := hide ((unhide i2).on b3)
  replace r4 := hide r4
  replace HB := hide ((unhide HB).trans (b3.mono (unhide HB).size))
  clear b3
  rw [HPL.out] at r4
  go_wp2_with fail
  refine (RIsPins_any _ _ _ _ _ (unhide i0) h false HF).mono ?_
  rintro e w4 ⟨rfl, b4⟩
  replace i0 := hide ((unhide i0).on b4)
  replace i2 := hide ((unhide i2).on b4)
  replace r4 := hide ((unhide r4).on b4)
  replace HB := hide ((unhide HB).trans (b4.mono (unhide HB).size))
  clear b4
  go_wp2_with fail
  refine (RPins_any M hM _).mono ?_
  rintro e w5 ⟨A5, n5, c5, rfl, r5, b5⟩
  replace i0 := hide ((unhide i0).on b5)
  replace i2 := hide ((unhide i2).on b5)
  replace r4 := hide ((unhide r4).on b5)
  replace r5 := hide r5
  replace HB := hide ((unhide HB).trans (b5.mono (unhide HB).size))
  clear b5
  rw [HPL.out] at r5
  go_wp2_with fail
  refine (equalR_is _ _ _ _ _ _ _ _ _ _ _ (unhide r4) (unhide r5) (hide rfl)).mono ?_
  rintro e w6 ⟨rfl, qq6, hq6⟩
  have b6 : Below w5.heap.size w5 w6 := by rw [hq6]; exact Below.drewN' (Below.refl _ _) qq6
  clear hq6
  replace i0 := hide ((unhide i0).on b6)
  replace i2 := hide ((unhide i2).on b6)
  replace r4 := hide ((unhide r4).on b6)
  replace r5 := hide ((unhide r5).on b6)
  replace HB := hide ((unhide HB).trans (b6.mono (unhide HB).size))
  clear b6
  go_wp2_with fail
  refine (awake_any _).mono ?_
  rintro e w7 ⟨rfl, b7⟩
  replace i0 := hide ((unhide i0).on b7)
  replace i2 := hide ((unhide i2).on b7)
  replace r4 := hide ((unhide r4).on b7)
  replace r5 := hide ((unhide r5).on b7)
  replace HB := hide ((unhide HB).trans (b7.mono (unhide HB).size))
  clear b7
  go_wp2_with fail
  go_ret
  exact ⟨rfl, unhide HB⟩

set_option maxRecDepth 100000 in
set_option maxHeartbeats 1000000 in
theorem LPins_yes_lo (z : Int) (A : Option Addr) (n c : Nat) (xs : List Int) (w : World) (i0 : Ints w w.heap.size A n c xs) (h : 1 ≤ n ∧ n ≤ 6) (HF : Hid (pinB xs = true)) (hz : z < 1) :
    Calls Try.prog 5 #[.slice A n c, .int .i64 z] w fun e w' => e = .returned (.bool true) ∧ Below w.heap.size w w' := by
  have hl := hide i0.len
  have hm := i0.most; have hcap := i0.cap
  have dz : decide (z < 1) = true := by simpa using hz
  have HPC := hide (show pcI z = false from by unfold pcI; simp <;> omega)
  have d1 : decide ((n : Int) < 1) = false := by simp; omega
  have d6 : decide ((6 : Int) < (n : Int)) = false := by simp; omega
  have TK := hide (show xs.take 20 = xs from List.take_of_length_le (by rw [hl.out]; omega))
  have HPB := hide (show pcB n = true from by unfold pcB; simp <;> omega)
  replace i0 := hide i0
  have HB := hide (Below.refl w.heap.size w)
  go_enter Try.func5, Try.ntmps5
  go_wp2_with fail
  refine (list_ints _ _ _ _ _ _ (unhide i0) (Nat.le_refl _)).mono ?_
  rintro e w1 ⟨A2, n2, c2, rfl, i2, b1⟩
  replace i0 := hide ((unhide i0).on b1)
  replace i2 := hide i2
  replace HB := hide ((unhide HB).trans (b1.mono (unhide HB).size))
  clear b1
  have e2 := (unhide i2).len
  rw [TK.out] at i2 e2
  rw [hl.out] at e2
  subst e2
  go_wp2_with fail
  refine (IsPins_ok _ _ _ _ _ (unhide i2) HPB true HF).mono ?_
  rintro e w2 ⟨rfl, b2⟩
  replace i0 := hide ((unhide i0).on b2)
  replace i2 := hide ((unhide i2).on b2)
  replace HB := hide ((unhide HB).trans (b2.mono (unhide HB).size))
  clear b2
  go_wp2_with fail
  refine (Pins_no _ HPC.out _).mono ?_
  rintro e wq ⟨rfl, rfl⟩
  go_wp2_with fail
  refine (RIsPins_any _ _ _ _ _ (unhide i0) h true HF).mono ?_
  rintro e w3 ⟨rfl, b3⟩
  replace i0 := hide ((unhide i0).on b3)
  replace i2 := hide ((unhide i2).on b3)
  replace HB := hide ((unhide HB).trans (b3.mono (unhide HB).size))
  clear b3
  go_wp2_with fail
  refine (awake_any _).mono ?_
  rintro e w4 ⟨rfl, b4⟩
  replace i0 := hide ((unhide i0).on b4)
  replace i2 := hide ((unhide i2).on b4)
  replace HB := hide ((unhide HB).trans (b4.mono (unhide HB).size))
  clear b4
  go_wp2_with fail
  go_ret
  exact ⟨rfl, unhide HB⟩

set_option maxRecDepth 100000 in
set_option maxHeartbeats 1000000 in
theorem LPins_yes_hi (z : Int) (A : Option Addr) (n c : Nat) (xs : List Int) (w : World) (i0 : Ints w w.heap.size A n c xs) (h : 1 ≤ n ∧ n ≤ 6) (HF : Hid (pinB xs = true)) (hz : 6 < z) :
    Calls Try.prog 5 #[.slice A n c, .int .i64 z] w fun e w' => e = .returned (.bool true) ∧ Below w.heap.size w w' := by
  have hl := hide i0.len
  have hm := i0.most; have hcap := i0.cap
  have dz : decide (z < 1) = false := by simp; omega
  have dz2 : decide (6 < z) = true := by simpa using hz
  have HPC := hide (show pcI z = false from by unfold pcI; simp <;> omega)
  have d1 : decide ((n : Int) < 1) = false := by simp; omega
  have d6 : decide ((6 : Int) < (n : Int)) = false := by simp; omega
  have TK := hide (show xs.take 20 = xs from List.take_of_length_le (by rw [hl.out]; omega))
  have HPB := hide (show pcB n = true from by unfold pcB; simp <;> omega)
  replace i0 := hide i0
  have HB := hide (Below.refl w.heap.size w)
  go_enter Try.func5, Try.ntmps5
  go_wp2_with fail
  refine (list_ints _ _ _ _ _ _ (unhide i0) (Nat.le_refl _)).mono ?_
  rintro e w1 ⟨A2, n2, c2, rfl, i2, b1⟩
  replace i0 := hide ((unhide i0).on b1)
  replace i2 := hide i2
  replace HB := hide ((unhide HB).trans (b1.mono (unhide HB).size))
  clear b1
  have e2 := (unhide i2).len
  rw [TK.out] at i2 e2
  rw [hl.out] at e2
  subst e2
  go_wp2_with fail
  refine (IsPins_ok _ _ _ _ _ (unhide i2) HPB true HF).mono ?_
  rintro e w2 ⟨rfl, b2⟩
  replace i0 := hide ((unhide i0).on b2)
  replace i2 := hide ((unhide i2).on b2)
  replace HB := hide ((unhide HB).trans (b2.mono (unhide HB).size))
  clear b2
  go_wp2_with fail
  refine (Pins_no _ HPC.out _).mono ?_
  rintro e wq ⟨rfl, rfl⟩
  go_wp2_with fail
  refine (RIsPins_any _ _ _ _ _ (unhide i0) h true HF).mono ?_
  rintro e w3 ⟨rfl, b3⟩
  replace i0 := hide ((unhide i0).on b3)
  replace i2 := hide ((unhide i2).on b3)
  replace HB := hide ((unhide HB).trans (b3.mono (unhide HB).size))
  clear b3
  go_wp2_with fail
  refine (awake_any _).mono ?_
  rintro e w4 ⟨rfl, b4⟩
  replace i0 := hide ((unhide i0).on b4)
  replace i2 := hide ((unhide i2).on b4)
  replace HB := hide ((unhide HB).trans (b4.mono (unhide HB).size))
  clear b4
  go_wp2_with fail
  go_ret
  exact ⟨rfl, unhide HB⟩

set_option maxRecDepth 100000 in
set_option maxHeartbeats 1000000 in
theorem LPins_yes_ok (z : Int) (A : Option Addr) (n c : Nat) (xs : List Int) (w : World) (i0 : Ints w w.heap.size A n c xs) (h : 1 ≤ n ∧ n ≤ 6) (HF : Hid (pinB xs = true)) (hz : 1 ≤ z ∧ z ≤ 6) :
    Calls Try.prog 5 #[.slice A n c, .int .i64 z] w fun e w' => e = .returned (.bool true) ∧ Below w.heap.size w w' := by
  have hl := hide i0.len
  have hm := i0.most; have hcap := i0.cap
  obtain ⟨M, rfl⟩ : ∃ M : Nat, z = (M : Int) := ⟨z.toNat, by omega⟩
  have hM : 1 ≤ M ∧ M ≤ 6 := by omega
  have dz : decide ((M : Int) < 1) = false := by simp; omega
  have dz2 : decide (6 < (M : Int)) = false := by simp; omega
  obtain ⟨PL, hPL⟩ : ∃ PL, pinsL M = PL := ⟨_, rfl⟩
  have HPL := hide hPL
  clear hPL
  have d1 : decide ((n : Int) < 1) = false := by simp; omega
  have d6 : decide ((6 : Int) < (n : Int)) = false := by simp; omega
  have TK := hide (show xs.take 20 = xs from List.take_of_length_le (by rw [hl.out]; omega))
  have HPB := hide (show pcB n = true from by unfold pcB; simp <;> omega)
  replace i0 := hide i0
  have HB := hide (Below.refl w.heap.size w)
  go_enter Try.func5, Try.ntmps5
  go_wp2_with fail
  refine (list_ints _ _ _ _ _ _ (unhide i0) (Nat.le_refl _)).mono ?_
  rintro e w1 ⟨A2, n2, c2, rfl, i2, b1⟩
  replace i0 := hide ((unhide i0).on b1)
  replace i2 := hide i2
  replace HB := hide ((unhide HB).trans (b1.mono (unhide HB).size))
  clear b1
  have e2 := (unhide i2).len
  rw [TK.out] at i2 e2
  rw [hl.out] at e2
  subst e2
  go_wp2_with fail
  refine (IsPins_ok _ _ _ _ _ (unhide i2) HPB true HF).mono ?_
  rintro e w2 ⟨rfl, b2⟩
  replace i0 := hide ((unhide i0).on b2)
  replace i2 := hide ((unhide i2).on b2)
  replace HB := hide ((unhide HB).trans (b2.mono (unhide HB).size))
  clear b2
  go_wp2_with fail
  refine (Pins_rows M hM _).mono ?_
  rintro e w3 ⟨A4, n4, c4, rfl, r4, b3⟩
  replace i0 := hide ((unhide i0).on b3)
  replace i2 := hide ((unhide i2).on b3)
  replace r4 := hide r4
  replace HB := hide ((unhide HB).trans (b3.mono (unhide HB).size))
  clear b3
  rw [HPL.out] at r4
  go_wp2_with fail
  refine (RIsPins_any _ _ _ _ _ (unhide i0) h true HF).mono ?_
  rintro e w4 ⟨rfl, b4⟩
  replace i0 := hide ((unhide i0).on b4)
  replace i2 := hide ((unhide i2).on b4)
  replace r4 := hide ((unhide r4).on b4)
  replace HB := hide ((unhide HB).trans (b4.mono (unhide HB).size))
  clear b4
  go_wp2_with fail
  refine (RPins_any M hM _).mono ?_
  rintro e w5 ⟨A5, n5, c5, rfl, r5, b5⟩
  replace i0 := hide ((unhide i0).on b5)
  replace i2 := hide ((unhide i2).on b5)
  replace r4 := hide ((unhide r4).on b5)
  replace r5 := hide r5
  replace HB := hide ((unhide HB).trans (b5.mono (unhide HB).size))
  clear b5
  rw [HPL.out] at r5
  go_wp2_with fail
  refine (equalR_is _ _ _ _ _ _ _ _ _ _ _ (unhide r4) (unhide r5) (hide rfl)).mono ?_
  rintro e w6 ⟨rfl, qq6, hq6⟩
  have b6 : Below w5.heap.size w5 w6 := by rw [hq6]; exact Below.drewN' (Below.refl _ _) qq6
  clear hq6
  replace i0 := hide ((unhide i0).on b6)
  replace i2 := hide ((unhide i2).on b6)
  replace r4 := hide ((unhide r4).on b6)
  replace r5 := hide ((unhide r5).on b6)
  replace HB := hide ((unhide HB).trans (b6.mono (unhide HB).size))
  clear b6
  go_wp2_with fail
  refine (awake_any _).mono ?_
  rintro e w7 ⟨rfl, b7⟩
  replace i0 := hide ((unhide i0).on b7)
  replace i2 := hide ((unhide i2).on b7)
  replace r4 := hide ((unhide r4).on b7)
  replace r5 := hide ((unhide r5).on b7)
  replace HB := hide ((unhide HB).trans (b7.mono (unhide HB).size))
  clear b7
  go_wp2_with fail
  go_ret
  exact ⟨rfl, unhide HB⟩

theorem LPins_any (z : Int) {A : Option Addr} {n c : Nat} {xs : List Int} {w : World} (i0 : Ints w w.heap.size A n c xs) :
    Calls Try.prog 5 #[.slice A n c, .int .i64 z] w fun e w' => e = .returned (.bool true) ∧ Below w.heap.size w w' := by
  rcases (show n = 0 ∨ 6 < n ∨ ((1 ≤ n ∧ n ≤ 6) ∧ pinB xs = false) ∨ ((1 ≤ n ∧ n ≤ 6) ∧ pinB xs = true) by
    cases pinB xs <;> simp <;> omega) with h | h | ⟨h, hf⟩ | ⟨h, hf⟩
  · rcases (show z < 1 ∨ 6 < z ∨ (1 ≤ z ∧ z ≤ 6) by omega) with hz | hz | hz
    · exact LPins_zero_lo z A n c xs w i0 h hz
    · exact LPins_zero_hi z A n c xs w i0 h hz
    · exact LPins_zero_ok z A n c xs w i0 h hz
  · rcases (show z < 1 ∨ 6 < z ∨ (1 ≤ z ∧ z ≤ 6) by omega) with hz | hz | hz
    · exact LPins_big_lo z A n c xs w i0 h hz
    · exact LPins_big_hi z A n c xs w i0 h hz
    · exact LPins_big_ok z A n c xs w i0 h hz
  · rcases (show z < 1 ∨ 6 < z ∨ (1 ≤ z ∧ z ≤ 6) by omega) with hz | hz | hz
    · exact LPins_no_lo z A n c xs w i0 h (hide hf) hz
    · exact LPins_no_hi z A n c xs w i0 h (hide hf) hz
    · exact LPins_no_ok z A n c xs w i0 h (hide hf) hz
  · rcases (show z < 1 ∨ 6 < z ∨ (1 ≤ z ∧ z ≤ 6) by omega) with hz | hz | hz
    · exact LPins_yes_lo z A n c xs w i0 h (hide hf) hz
    · exact LPins_yes_hi z A n c xs w i0 h (hide hf) hz
    · exact LPins_yes_ok z A n c xs w i0 h (hide hf) hz
end Go.Proofs.Ytmgoonoifgcmnaa
