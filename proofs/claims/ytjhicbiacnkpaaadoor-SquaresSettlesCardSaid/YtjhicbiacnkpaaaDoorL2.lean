/-
  The law SquaresTells.
-/
import Derived.Test.YtjhicbiacnkpaaaDoorWa
namespace Go.Proofs.YtjhicbiacnkpaaaDoor
open Go.RowKit

set_option maxRecDepth 100000 in
set_option maxHeartbeats 1000000 in
theorem LTells_0 (m s f e : Nat) (h1 : 1 ≤ m) (h2 : m ≤ 5) (hs : Hid (s + 1 = 2 ^ m)) (hf32 : f < 32) (he32 : e < 32) (A : Option Addr) (n c : Nat) (xs : List Int) (w : World) (i0 : Ints w w.heap.size A n c xs) (ht : Tab w)
    (HC : Hid (clB m xs = true)) (HC8 : Hid (clB m (xs.take 8) = true)) (HFE : Hid (setB m f = true ∧ setB m e = true)) (HF : Hid (setB m f = true)) (HE : Hid (setB m e = true)) (HZ : Hid (f &&& e = 0)) (u v : Nat) (ok : Bool)
    (HU8 : Hid (stR s f e (lnL m (xs.take 8)) (lnL m (xs.take 8)).length = (u, v, ok))) (HUR : Hid (rtR s f e (lnL m xs) (lnL m xs).length = (u, v, ok))) (kk : Int) (HK : Hid (kk = if ok then 0 else 4)) :
    Calls Tryd.prog 4 #[.int .i64 m, .slice A n c, .int .i64 f, .int .i64 e] w fun e w' => e = .returned (.bool true) ∧ Below w.heap.size w w' := by
  replace i0 := hide i0
  have HB := hide (Below.refl w.heap.size w)
  have HT := hide ht
  clear ht
  have a1 : bits BinOp.and IntKind.i64 (f : Int) (e : Int) = 0 := by rw [and_n f e (by omega) (by omega), HZ.out]; rfl
  go_enter Tryd.func4, Tryd.ntmps4
  go_wp2_with fail
  refine (list_ints _ _ _ _ _ _ (unhide i0) (Nat.le_refl _)).mono ?_
  rintro e w1 ⟨A2, n2, c2, rfl, i2, b1⟩
  replace i0 := hide ((unhide i0).on b1)
  replace i2 := hide i2
  replace HB := hide ((unhide HB).trans (b1.mono (unhide HB).size))
  replace HT := hide ((unhide HT).on b1)
  clear b1
  go_wp2_with fail
  refine (Tell_ok m s f e h1 h2 hs _ _ _ _ _ (unhide i2) (unhide HT) HC8 HFE HZ u v ok HU8 kk HK).mono ?_
  rintro e w2 ⟨rfl, b2⟩
  replace i0 := hide ((unhide i0).on b2)
  replace i2 := hide ((unhide i2).on b2)
  replace HB := hide ((unhide HB).trans (b2.mono (unhide HB).size))
  replace HT := hide ((unhide HT).on b2)
  clear b2
  go_wp2_with fail
  refine (RClue_any _ _ _ _ _ _ (unhide i0)).mono ?_
  rintro e w3 ⟨rfl, b3⟩
  replace i0 := hide ((unhide i0).on b3)
  replace i2 := hide ((unhide i2).on b3)
  replace HB := hide ((unhide HB).trans (b3.mono (unhide HB).size))
  replace HT := hide ((unhide HT).on b3)
  clear b3
  rw [HC.out]
  go_wp2_with fail
  refine (RSet_is _ _ _ _ HF).mono ?_
  rintro e w4 ⟨rfl, rfl⟩
  go_wp2_with fail
  refine (RSet_is _ _ _ _ HE).mono ?_
  rintro e w4 ⟨rfl, rfl⟩
  go_wp2_with fail
  refine (RTell_any m s f e h1 h2 hs _ _ _ _ _ (unhide i0) hf32 he32 u v ok HUR kk HK).mono ?_
  rintro e w4 ⟨rfl, b4⟩
  replace i0 := hide ((unhide i0).on b4)
  replace i2 := hide ((unhide i2).on b4)
  replace HB := hide ((unhide HB).trans (b4.mono (unhide HB).size))
  replace HT := hide ((unhide HT).on b4)
  clear b4
  have e1 : ((u : Int) == (u : Int)) = true := by simp
  have e2 : ((v : Int) == (v : Int)) = true := by simp
  have e3 : (kk == kk) = true := by simp
  go_wp2_with fail
  refine (awake_any _ (unhide HT)).mono ?_
  rintro e w5 ⟨rfl, b5⟩
  replace i0 := hide ((unhide i0).on b5)
  replace i2 := hide ((unhide i2).on b5)
  replace HB := hide ((unhide HB).trans (b5.mono (unhide HB).size))
  replace HT := hide ((unhide HT).on b5)
  clear b5
  go_wp2_with fail
  go_ret
  exact ⟨rfl, unhide HB⟩

set_option maxRecDepth 100000 in
set_option maxHeartbeats 1000000 in
theorem LTells_1 (x f e : Int) (hx : -9223372036854775808 ≤ x ∧ x ≤ 9223372036854775807) (A : Option Addr) (n c : Nat) (xs : List Int) (w : World) (i0 : Ints w w.heap.size A n c xs) (ht : Tab w) (HN8 : Hid (telB x (xs.take 8) f e = false)) (HC : Hid (clB x xs = false)) :
    Calls Tryd.prog 4 #[.int .i64 x, .slice A n c, .int .i64 f, .int .i64 e] w fun e w' => e = .returned (.bool true) ∧ Below w.heap.size w w' := by
  replace i0 := hide i0
  have HB := hide (Below.refl w.heap.size w)
  have HT := hide ht
  clear ht
  go_enter Tryd.func4, Tryd.ntmps4
  go_wp2_with fail
  refine (list_ints _ _ _ _ _ _ (unhide i0) (Nat.le_refl _)).mono ?_
  rintro e w1 ⟨A2, n2, c2, rfl, i2, b1⟩
  replace i0 := hide ((unhide i0).on b1)
  replace i2 := hide i2
  replace HB := hide ((unhide HB).trans (b1.mono (unhide HB).size))
  replace HT := hide ((unhide HT).on b1)
  clear b1
  go_wp2_with fail
  refine (Tell_no x f e hx _ _ _ _ _ (unhide i2) HN8).mono ?_
  rintro e w2 ⟨rfl, b2⟩
  replace i0 := hide ((unhide i0).on b2)
  replace i2 := hide ((unhide i2).on b2)
  replace HB := hide ((unhide HB).trans (b2.mono (unhide HB).size))
  replace HT := hide ((unhide HT).on b2)
  clear b2
  go_wp2_with fail
  refine (RClue_any _ _ _ _ _ _ (unhide i0)).mono ?_
  rintro e w3 ⟨rfl, b3⟩
  replace i0 := hide ((unhide i0).on b3)
  replace i2 := hide ((unhide i2).on b3)
  replace HB := hide ((unhide HB).trans (b3.mono (unhide HB).size))
  replace HT := hide ((unhide HT).on b3)
  clear b3
  rw [HC.out]
  go_wp2_with fail
  refine (awake_any _ (unhide HT)).mono ?_
  rintro e w4 ⟨rfl, b4⟩
  replace i0 := hide ((unhide i0).on b4)
  replace i2 := hide ((unhide i2).on b4)
  replace HB := hide ((unhide HB).trans (b4.mono (unhide HB).size))
  replace HT := hide ((unhide HT).on b4)
  clear b4
  go_wp2_with fail
  go_ret
  exact ⟨rfl, unhide HB⟩

set_option maxRecDepth 100000 in
set_option maxHeartbeats 1000000 in
theorem LTells_2 (x f e : Int) (hx : -9223372036854775808 ≤ x ∧ x ≤ 9223372036854775807) (A : Option Addr) (n c : Nat) (xs : List Int) (w : World) (i0 : Ints w w.heap.size A n c xs) (ht : Tab w) (HN8 : Hid (telB x (xs.take 8) f e = false)) (HC : Hid (clB x xs = true)) (HF : Hid (setB x f = false)) :
    Calls Tryd.prog 4 #[.int .i64 x, .slice A n c, .int .i64 f, .int .i64 e] w fun e w' => e = .returned (.bool true) ∧ Below w.heap.size w w' := by
  replace i0 := hide i0
  have HB := hide (Below.refl w.heap.size w)
  have HT := hide ht
  clear ht
  go_enter Tryd.func4, Tryd.ntmps4
  go_wp2_with fail
  refine (list_ints _ _ _ _ _ _ (unhide i0) (Nat.le_refl _)).mono ?_
  rintro e w1 ⟨A2, n2, c2, rfl, i2, b1⟩
  replace i0 := hide ((unhide i0).on b1)
  replace i2 := hide i2
  replace HB := hide ((unhide HB).trans (b1.mono (unhide HB).size))
  replace HT := hide ((unhide HT).on b1)
  clear b1
  go_wp2_with fail
  refine (Tell_no x f e hx _ _ _ _ _ (unhide i2) HN8).mono ?_
  rintro e w2 ⟨rfl, b2⟩
  replace i0 := hide ((unhide i0).on b2)
  replace i2 := hide ((unhide i2).on b2)
  replace HB := hide ((unhide HB).trans (b2.mono (unhide HB).size))
  replace HT := hide ((unhide HT).on b2)
  clear b2
  go_wp2_with fail
  refine (RClue_any _ _ _ _ _ _ (unhide i0)).mono ?_
  rintro e w3 ⟨rfl, b3⟩
  replace i0 := hide ((unhide i0).on b3)
  replace i2 := hide ((unhide i2).on b3)
  replace HB := hide ((unhide HB).trans (b3.mono (unhide HB).size))
  replace HT := hide ((unhide HT).on b3)
  clear b3
  rw [HC.out]
  go_wp2_with fail
  refine (RSet_is _ _ _ _ HF).mono ?_
  rintro e w4 ⟨rfl, rfl⟩
  go_wp2_with fail
  refine (awake_any _ (unhide HT)).mono ?_
  rintro e w4 ⟨rfl, b4⟩
  replace i0 := hide ((unhide i0).on b4)
  replace i2 := hide ((unhide i2).on b4)
  replace HB := hide ((unhide HB).trans (b4.mono (unhide HB).size))
  replace HT := hide ((unhide HT).on b4)
  clear b4
  go_wp2_with fail
  go_ret
  exact ⟨rfl, unhide HB⟩

set_option maxRecDepth 100000 in
set_option maxHeartbeats 1000000 in
theorem LTells_3 (x f e : Int) (hx : -9223372036854775808 ≤ x ∧ x ≤ 9223372036854775807) (A : Option Addr) (n c : Nat) (xs : List Int) (w : World) (i0 : Ints w w.heap.size A n c xs) (ht : Tab w) (HN8 : Hid (telB x (xs.take 8) f e = false)) (HC : Hid (clB x xs = true)) (HF : Hid (setB x f = true)) (HE : Hid (setB x e = false)) :
    Calls Tryd.prog 4 #[.int .i64 x, .slice A n c, .int .i64 f, .int .i64 e] w fun e w' => e = .returned (.bool true) ∧ Below w.heap.size w w' := by
  replace i0 := hide i0
  have HB := hide (Below.refl w.heap.size w)
  have HT := hide ht
  clear ht
  go_enter Tryd.func4, Tryd.ntmps4
  go_wp2_with fail
  refine (list_ints _ _ _ _ _ _ (unhide i0) (Nat.le_refl _)).mono ?_
  rintro e w1 ⟨A2, n2, c2, rfl, i2, b1⟩
  replace i0 := hide ((unhide i0).on b1)
  replace i2 := hide i2
  replace HB := hide ((unhide HB).trans (b1.mono (unhide HB).size))
  replace HT := hide ((unhide HT).on b1)
  clear b1
  go_wp2_with fail
  refine (Tell_no x f e hx _ _ _ _ _ (unhide i2) HN8).mono ?_
  rintro e w2 ⟨rfl, b2⟩
  replace i0 := hide ((unhide i0).on b2)
  replace i2 := hide ((unhide i2).on b2)
  replace HB := hide ((unhide HB).trans (b2.mono (unhide HB).size))
  replace HT := hide ((unhide HT).on b2)
  clear b2
  go_wp2_with fail
  refine (RClue_any _ _ _ _ _ _ (unhide i0)).mono ?_
  rintro e w3 ⟨rfl, b3⟩
  replace i0 := hide ((unhide i0).on b3)
  replace i2 := hide ((unhide i2).on b3)
  replace HB := hide ((unhide HB).trans (b3.mono (unhide HB).size))
  replace HT := hide ((unhide HT).on b3)
  clear b3
  rw [HC.out]
  go_wp2_with fail
  refine (RSet_is _ _ _ _ HF).mono ?_
  rintro e w4 ⟨rfl, rfl⟩
  go_wp2_with fail
  refine (RSet_is _ _ _ _ HE).mono ?_
  rintro e w4 ⟨rfl, rfl⟩
  go_wp2_with fail
  refine (awake_any _ (unhide HT)).mono ?_
  rintro e w4 ⟨rfl, b4⟩
  replace i0 := hide ((unhide i0).on b4)
  replace i2 := hide ((unhide i2).on b4)
  replace HB := hide ((unhide HB).trans (b4.mono (unhide HB).size))
  replace HT := hide ((unhide HT).on b4)
  clear b4
  go_wp2_with fail
  go_ret
  exact ⟨rfl, unhide HB⟩

set_option maxRecDepth 100000 in
set_option maxHeartbeats 1000000 in
theorem LTells_4 (x f e : Int) (hx : -9223372036854775808 ≤ x ∧ x ≤ 9223372036854775807) (A : Option Addr) (n c : Nat) (xs : List Int) (w : World) (i0 : Ints w w.heap.size A n c xs) (ht : Tab w) (HN8 : Hid (telB x (xs.take 8) f e = false)) (HC : Hid (clB x xs = true)) (HF : Hid (setB x f = true)) (HE : Hid (setB x e = true)) (HZ : Hid (¬ bits BinOp.and IntKind.i64 f e = 0)) :
    Calls Tryd.prog 4 #[.int .i64 x, .slice A n c, .int .i64 f, .int .i64 e] w fun e w' => e = .returned (.bool true) ∧ Below w.heap.size w w' := by
  replace i0 := hide i0
  have HB := hide (Below.refl w.heap.size w)
  have HT := hide ht
  clear ht
  obtain ⟨z, hz⟩ : ∃ z, bits BinOp.and IntKind.i64 f e = z := ⟨_, rfl⟩
  have hz1 : (z != 0) = true := by have := HZ.out; rw [hz] at this; simpa using this
  go_enter Tryd.func4, Tryd.ntmps4
  go_wp2_with fail
  refine (list_ints _ _ _ _ _ _ (unhide i0) (Nat.le_refl _)).mono ?_
  rintro e w1 ⟨A2, n2, c2, rfl, i2, b1⟩
  replace i0 := hide ((unhide i0).on b1)
  replace i2 := hide i2
  replace HB := hide ((unhide HB).trans (b1.mono (unhide HB).size))
  replace HT := hide ((unhide HT).on b1)
  clear b1
  go_wp2_with fail
  refine (Tell_no x f e hx _ _ _ _ _ (unhide i2) HN8).mono ?_
  rintro e w2 ⟨rfl, b2⟩
  replace i0 := hide ((unhide i0).on b2)
  replace i2 := hide ((unhide i2).on b2)
  replace HB := hide ((unhide HB).trans (b2.mono (unhide HB).size))
  replace HT := hide ((unhide HT).on b2)
  clear b2
  go_wp2_with fail
  refine (RClue_any _ _ _ _ _ _ (unhide i0)).mono ?_
  rintro e w3 ⟨rfl, b3⟩
  replace i0 := hide ((unhide i0).on b3)
  replace i2 := hide ((unhide i2).on b3)
  replace HB := hide ((unhide HB).trans (b3.mono (unhide HB).size))
  replace HT := hide ((unhide HT).on b3)
  clear b3
  rw [HC.out]
  go_wp2_with fail
  refine (RSet_is _ _ _ _ HF).mono ?_
  rintro e w4 ⟨rfl, rfl⟩
  go_wp2_with fail
  refine (RSet_is _ _ _ _ HE).mono ?_
  rintro e w4 ⟨rfl, rfl⟩
  go_wp2_with fail
  refine (awake_any _ (unhide HT)).mono ?_
  rintro e w4 ⟨rfl, b4⟩
  replace i0 := hide ((unhide i0).on b4)
  replace i2 := hide ((unhide i2).on b4)
  replace HB := hide ((unhide HB).trans (b4.mono (unhide HB).size))
  replace HT := hide ((unhide HT).on b4)
  clear b4
  go_wp2_with fail
  go_ret
  exact ⟨rfl, unhide HB⟩

theorem tel_iff {x : Int} {xs : List Int} {f e : Int} (hc : clB x xs = true) (hf : setB x f = true) (he : setB x e = true) :
    ∃ m s f' e' : Nat, x = (m : Int) ∧ 1 ≤ m ∧ m ≤ 5 ∧ Hid (s + 1 = 2 ^ m) ∧ f = (f' : Int) ∧ e = (e' : Int) ∧ f' < 2 ^ m ∧ e' < 2 ^ m ∧ f' < 32 ∧ e' < 32 ∧ bits BinOp.and IntKind.i64 f e = ((f' &&& e' : Nat) : Int) := by
  have hz : sz x = true := by unfold clB at hc; rw [Bool.and_eq_true] at hc; exact hc.1
  obtain ⟨m, rfl, h1, h2⟩ := sz_nat hz
  obtain ⟨f', rfl, hf'⟩ := (setB_iff h1 h2 f).1 hf
  obtain ⟨e', rfl, he'⟩ := (setB_iff h1 h2 e).1 he
  have := pow_le (n := m) (by omega)
  have hp : 0 < 2 ^ m := Nat.two_pow_pos m
  exact ⟨m, 2 ^ m - 1, f', e', rfl, h1, h2, hide (by omega), rfl, rfl, hf', he', by omega, by omega, and_n f' e' (by omega) (by omega)⟩
theorem LTells_any (x f e : Int) (hx : -9223372036854775808 ≤ x ∧ x ≤ 9223372036854775807) {A : Option Addr} {n c : Nat} {xs : List Int} {w : World} (i0 : Ints w w.heap.size A n c xs) (ht : Tab w) :
    Calls Tryd.prog 4 #[.int .i64 x, .slice A n c, .int .i64 f, .int .i64 e] w fun e w' => e = .returned (.bool true) ∧ Below w.heap.size w w' := by
  have h8 := clB_take x xs
  cases hc : clB x xs with
  | false => exact LTells_1 x f e hx A n c xs w i0 ht (hide (by unfold telB; rw [h8, hc]; rfl)) (hide hc)
  | true =>
    cases hf : setB x f with
    | false => exact LTells_2 x f e hx A n c xs w i0 ht (hide (by unfold telB; rw [ars_two, hf]; simp)) (hide hc) (hide hf)
    | true =>
      cases he : setB x e with
      | false => exact LTells_3 x f e hx A n c xs w i0 ht (hide (by unfold telB; rw [ars_two, he]; simp)) (hide hc) (hide hf) (hide he)
      | true =>
        by_cases hz : bits BinOp.and IntKind.i64 f e = 0
        · obtain ⟨m, s, f', e', rfl, h1, h2, hs, rfl, rfl, b1, b2, b3, b4, b5⟩ := tel_iff hc hf he
          obtain ⟨u, v, ok, hu⟩ : ∃ u v ok, rtR s f' e' (lnL m xs) (lnL m xs).length = (u, v, ok) := ⟨_, _, _, rfl⟩
          have hz' : f' &&& e' = 0 := by rw [b5] at hz; omega
          exact LTells_0 m s f' e' h1 h2 hs b3 b4 A n c xs w i0 ht (hide hc) (hide (h8.trans hc)) (hide ⟨hf, he⟩) (hide hf) (hide he) (hide hz') u v ok
            (hide (by rw [take_cl hc, rtR_eq (sub_set hs.out b1) (sub_set hs.out b2)]; exact hu)) (hide hu) _ (hide rfl)
        · exact LTells_4 x f e hx A n c xs w i0 ht (hide (by unfold telB; simp [hz])) (hide hc) (hide hf) (hide he) (hide hz)
end Go.Proofs.YtjhicbiacnkpaaaDoor
