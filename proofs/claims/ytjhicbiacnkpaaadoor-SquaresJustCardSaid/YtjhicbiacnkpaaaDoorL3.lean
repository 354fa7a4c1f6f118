/-
  The law SquaresJust.
-/
import Derived.Test.YtjhicbiacnkpaaaDoorW6
namespace Go.Proofs.YtjhicbiacnkpaaaDoor
open Go.RowKit

theorem ln_rise {m n : Nat} {xs : List Int} (hn : (lnL m xs).length = n) : ∀ k, k + 1 < n → nth (lnL m xs) k ≤ nth (lnL m xs) (k + 1) := fun k hk => by
  have := lnT_nth xs (2 ^ m) k (by show k + 1 < (lnL m xs).length; omega)
  unfold lnL; omega
theorem ln_apart {m n : Nat} {xs : List Int} (hn : (lnL m xs).length = n) {i j : Nat} (hij : i = j + 1) (hi : i < n) : (nth (lnL m xs) j == nth (lnL m xs) i) = false := by
  subst hij
  have := lnT_nth xs (2 ^ m) j (by show j + 1 < (lnL m xs).length; omega)
  unfold lnL; simp; omega

set_option maxRecDepth 100000 in
set_option maxHeartbeats 1000000 in
theorem LJust_no (x l : Int) (A : Option Addr) (n c : Nat) (w : World) (ht : Tab w) (HS : Hid (setB x l = false)) :
    Calls Tryd.prog 10 #[.int .i64 x, .int .i64 l, .slice A n c] w fun e w' => e = .returned (.bool true) ∧ Below w.heap.size w w' := by
  have HB := hide (Below.refl w.heap.size w)
  have HT := hide ht
  clear ht
  go_enter Tryd.func10, Tryd.ntmps10
  go_wp2_with fail
  refine (Blocks_no _ l HS _).mono ?_
  rintro e w1 ⟨rfl, b1⟩
  replace HB := hide ((unhide HB).trans (b1.mono (unhide HB).size))
  replace HT := hide ((unhide HT).on b1)
  clear b1
  go_wp2_with fail
  refine (awake_any _ (unhide HT)).mono ?_
  rintro e w2 ⟨rfl, b2⟩
  replace HB := hide ((unhide HB).trans (b2.mono (unhide HB).size))
  replace HT := hide ((unhide HT).on b2)
  clear b2
  go_wp2_with fail
  go_ret
  exact ⟨rfl, unhide HB⟩

set_option maxRecDepth 100000 in
set_option maxHeartbeats 2000000 in
theorem LJust_y (m l : Nat) (h1 : 1 ≤ m) (h2 : m ≤ 5) (HL : Hid (l < 2 ^ m)) (A : Option Addr) (n c : Nat) (xs : List Int) (w : World) (i0 : Ints w w.heap.size A n c xs) (ht : Tab w) (HS : Hid (setB m l = true)) (HBL : Hid (clB m (bl l) = true)) (HC8 : Hid (clB m (xs.take 8) = true)) (z : Bool) (HZ : Hid (decide ((l : Int) ∈ lnL m (xs.take 8)) = z)) (HZ2 : Hid (decide (bl l = xs) = z)) :
    Calls Tryd.prog 10 #[.int .i64 m, .int .i64 l, .slice A n c] w fun e w' => e = .returned (.bool true) ∧ Below w.heap.size w w' := by
  replace i0 := hide i0
  have HB := hide (Below.refl w.heap.size w)
  have HT := hide ht
  clear ht
  have hl32 := pow_le (n := m) (by omega)
  have hl := HL.out
  have hb3 := bl_len l (by omega)
  clear hl
  go_enter Tryd.func10, Tryd.ntmps10
  go_wp2_with fail
  refine (Blocks_ok m h1 h2 l HL _ (unhide HT)).mono ?_
  rintro e w1 ⟨A1, n1, c1, rfl, i1, b1⟩
  replace i0 := hide ((unhide i0).on b1)
  replace i1 := hide i1
  replace HB := hide ((unhide HB).trans (b1.mono (unhide HB).size))
  replace HT := hide ((unhide HT).on b1)
  clear b1
  go_wp2_with fail
  refine (RSet_is _ _ _ _ HS).mono ?_
  rintro e w2 ⟨rfl, rfl⟩
  have hn1 := hide (i1.out.len)
  go_wp2_with fail
  refine (clone_any _ _ _ _ _ _ (unhide i1) (by have := hn1.out; omega) (Nat.le_refl _)).mono ?_
  rintro e w2 ⟨v2, rfl, o2, b2⟩
  replace i0 := hide ((unhide i0).on b2)
  replace i1 := hide ((unhide i1).on b2)
  obtain ⟨A2, c2, rfl, i2⟩ := o2.ints
  replace i2 := hide i2
  replace HB := hide ((unhide HB).trans (b2.mono (unhide HB).size))
  replace HT := hide ((unhide HT).on b2)
  clear b2
  go_wp2_with fail
  refine (Lines_ok m h1 h2 _ _ _ _ _ (unhide i2) (unhide HT) HBL).mono ?_
  rintro e w3 ⟨A3, n3, c3, rfl, i3, b3⟩
  replace i0 := hide ((unhide i0).on b3)
  replace i1 := hide ((unhide i1).on b3)
  replace i2 := hide ((unhide i2).on b3)
  replace i3 := hide i3
  replace HB := hide ((unhide HB).trans (b3.mono (unhide HB).size))
  replace HT := hide ((unhide HT).on b3)
  clear b3
  have hn3 := hide (i3.out.len)
  go_wp2_with fail
  refine (Contains_any _ _ _ _ _ _ _ (unhide i3) true (hide (by simpa using (mem_ln HL.out _).2 rfl))).mono ?_
  rintro e w4 ⟨rfl, rfl⟩
  go_wp2_with fail
  refine (IsSorted_yes _ _ _ _ _ _ (unhide i3) (hide (ln_rise hn3.out))).mono ?_
  rintro e w4 ⟨rfl, b4⟩
  replace i0 := hide ((unhide i0).on b4)
  replace i1 := hide ((unhide i1).on b4)
  replace i2 := hide ((unhide i2).on b4)
  replace i3 := hide ((unhide i3).on b4)
  replace HB := hide ((unhide HB).trans (b4.mono (unhide HB).size))
  replace HT := hide ((unhide HT).on b4)
  clear b4
  go_wp2_with fail
  have hm3 := i3.out.most
  have hc3 := i3.out.cap
  obtain ⟨wv, hwv⟩ : ∃ wv : World, wv = w4 := ⟨_, rfl⟩
  go_loopw [10, 11, 12, 13, 56] (fun _ _ _ _ i wr => ∃ k : Nat, k ≤ n3 ∧ i = .int .i64 k ∧ Below w4.heap.size w4 wr) (fun _ _ _ _ i _ => n3 - (intOf i).toNat)
  case atStart => exact ⟨0, Nat.zero_le _, rfl, Below.refl _ _⟩
  case round =>
    obtain ⟨k, hk, rfl, hb⟩ := hrel
    replace i0 := hide ((unhide i0).on hb)
    replace i1 := hide ((unhide i1).on hb)
    replace i3 := hide ((unhide i3).on hb)
    replace HB := hide ((unhide HB).trans (hb.mono (unhide HB).size))
    replace HT := hide ((unhide HT).on hb)
    replace hb := hide hb
    by_cases hlt : k < n3
    · obtain ⟨y, hy0, hy1, hy2⟩ := lnT_at (bl l) (2 ^ m) k (show k < (lnL m (bl l)).length by rw [hn3.out]; exact hlt)
      have hy0' := hide (show nth (lnL m (bl l)) k = (y : Int) from hy0)
      have HY := hide hy1
      have HE := hide (show decide (bl l = bl y) = true by simp [hy2])
      clear hy0 hy1 hy2
      obtain ⟨b, off, rfl, hb0, hc⟩ := i3.out.at_ k hlt
      rw [hy0'.out] at hc
      go_wp2_with fail
      refine (Blocks_ok m h1 h2 y HY _ (unhide HT)).mono ?_
      rintro e w41 ⟨A4, n4, c4, rfl, i4, b41⟩
      replace i1 := hide ((unhide i1).on b41)
      replace i3 := hide ((unhide i3).on b41)
      replace i4 := hide i4
      replace HB := hide ((unhide HB).trans (b41.mono (unhide HB).size))
      replace HT := hide ((unhide HT).on b41)
      go_wp2_with fail
      refine (equal_b _ _ _ _ _ _ _ _ _ _ _ (unhide i1) (unhide i4) true HE).mono ?_
      rintro e w42 ⟨rfl, b42⟩
      replace i1 := hide ((unhide i1).on b42)
      replace i3 := hide ((unhide i3).on b42)
      replace i4 := hide ((unhide i4).on b42)
      replace HB := hide ((unhide HB).trans (b42.mono (unhide HB).size))
      replace HT := hide ((unhide HT).on b42)
      replace hb := hide ((unhide hb).trans ((b41.mono (unhide hb).size).trans (b42.mono (Nat.le_trans (unhide hb).size b41.size))))
      by_cases h0 : k = 0
      · subst h0
        have d : decide (0 < ((0 : Nat) : Int)) = false := by decide
        go_wp2_with fail
        go_roundw
        case rel => exact ⟨1, by omega, by go_num, unhide hb⟩
        case measure => simp [intOf]; omega
      · obtain ⟨j, hj⟩ : ∃ j, k = j + 1 := ⟨k - 1, by omega⟩
        have HA := hide (ln_apart (m := m) (xs := bl l) hn3.out hj hlt)
        rw [hy0'.out] at HA
        obtain ⟨b', off', e, _, hc1⟩ := i3.out.at_ j (by omega)
        cases e
        have d : decide (0 < (k : Int)) = true := by simp; omega
        have z1 : (k : Int) - 1 = (j : Int) := by omega
        have z2 : j < n3 := by omega
        have HJ := hide hj; clear hj h0
        have ha : (nth (lnL m (bl l)) j == (y : Int)) = false := HA.out
        go_wp2_with fail
        go_roundw
        case rel => exact ⟨k + 1, by omega, by go_num, unhide hb⟩
        case measure => simp [intOf]; omega
    · clear hwv
      go_wp2_with fail
      refine (list_ints _ _ _ _ _ _ (unhide i0) (Nat.le_refl _)).mono ?_
      rintro e w61 ⟨A5, n5, c5, rfl, i5, b61⟩
      replace i0 := hide ((unhide i0).on b61)
      replace i1 := hide ((unhide i1).on b61)
      replace i5 := hide i5
      replace HB := hide ((unhide HB).trans (b61.mono (unhide HB).size))
      replace HT := hide ((unhide HT).on b61)
      clear b61
      go_wp2_with fail
      refine (Lines_ok m h1 h2 _ _ _ _ _ (unhide i5) (unhide HT) HC8).mono ?_
      rintro e w62 ⟨A6, n6, c6, rfl, i6, b62⟩
      replace i0 := hide ((unhide i0).on b62)
      replace i1 := hide ((unhide i1).on b62)
      replace i5 := hide ((unhide i5).on b62)
      replace i6 := hide i6
      replace HB := hide ((unhide HB).trans (b62.mono (unhide HB).size))
      replace HT := hide ((unhide HT).on b62)
      clear b62
      go_wp2_with fail
      refine (Contains_any _ _ _ _ _ _ _ (unhide i6) z HZ).mono ?_
      rintro e w63 ⟨rfl, rfl⟩
      go_wp2_with fail
      refine (equal_b _ _ _ _ _ _ _ _ _ _ _ (unhide i1) (unhide i0) z HZ2).mono ?_
      rintro e w63 ⟨rfl, b63⟩
      replace i0 := hide ((unhide i0).on b63)
      replace i1 := hide ((unhide i1).on b63)
      replace i5 := hide ((unhide i5).on b63)
      replace i6 := hide ((unhide i6).on b63)
      replace HB := hide ((unhide HB).trans (b63.mono (unhide HB).size))
      replace HT := hide ((unhide HT).on b63)
      clear b63
      have dz : (z == z) = true := by simp
      go_wp2_with fail
      refine (awake_any _ (unhide HT)).mono ?_
      rintro e w64 ⟨rfl, b64⟩
      replace i0 := hide ((unhide i0).on b64)
      replace i1 := hide ((unhide i1).on b64)
      replace i5 := hide ((unhide i5).on b64)
      replace i6 := hide ((unhide i6).on b64)
      replace HB := hide ((unhide HB).trans (b64.mono (unhide HB).size))
      replace HT := hide ((unhide HT).on b64)
      clear b64
      go_wp2_with fail
      go_ret
      exact ⟨rfl, unhide HB⟩

set_option maxRecDepth 100000 in
set_option maxHeartbeats 2000000 in
theorem LJust_n (m l : Nat) (h1 : 1 ≤ m) (h2 : m ≤ 5) (HL : Hid (l < 2 ^ m)) (A : Option Addr) (n c : Nat) (xs : List Int) (w : World) (i0 : Ints w w.heap.size A n c xs) (ht : Tab w) (HS : Hid (setB m l = true)) (HBL : Hid (clB m (bl l) = true)) (HC8 : Hid (clB m (xs.take 8) = false)) (hx : -9223372036854775808 ≤ (m : Int) ∧ (m : Int) ≤ 9223372036854775807) :
    Calls Tryd.prog 10 #[.int .i64 m, .int .i64 l, .slice A n c] w fun e w' => e = .returned (.bool true) ∧ Below w.heap.size w w' := by
  replace i0 := hide i0
  have HB := hide (Below.refl w.heap.size w)
  have HT := hide ht
  clear ht
  have hl32 := pow_le (n := m) (by omega)
  have hl := HL.out
  have hb3 := bl_len l (by omega)
  clear hl
  go_enter Tryd.func10, Tryd.ntmps10
  go_wp2_with fail
  refine (Blocks_ok m h1 h2 l HL _ (unhide HT)).mono ?_
  rintro e w1 ⟨A1, n1, c1, rfl, i1, b1⟩
  replace i0 := hide ((unhide i0).on b1)
  replace i1 := hide i1
  replace HB := hide ((unhide HB).trans (b1.mono (unhide HB).size))
  replace HT := hide ((unhide HT).on b1)
  clear b1
  go_wp2_with fail
  refine (RSet_is _ _ _ _ HS).mono ?_
  rintro e w2 ⟨rfl, rfl⟩
  have hn1 := hide (i1.out.len)
  go_wp2_with fail
  refine (clone_any _ _ _ _ _ _ (unhide i1) (by have := hn1.out; omega) (Nat.le_refl _)).mono ?_
  rintro e w2 ⟨v2, rfl, o2, b2⟩
  replace i0 := hide ((unhide i0).on b2)
  replace i1 := hide ((unhide i1).on b2)
  obtain ⟨A2, c2, rfl, i2⟩ := o2.ints
  replace i2 := hide i2
  replace HB := hide ((unhide HB).trans (b2.mono (unhide HB).size))
  replace HT := hide ((unhide HT).on b2)
  clear b2
  go_wp2_with fail
  refine (Lines_ok m h1 h2 _ _ _ _ _ (unhide i2) (unhide HT) HBL).mono ?_
  rintro e w3 ⟨A3, n3, c3, rfl, i3, b3⟩
  replace i0 := hide ((unhide i0).on b3)
  replace i1 := hide ((unhide i1).on b3)
  replace i2 := hide ((unhide i2).on b3)
  replace i3 := hide i3
  replace HB := hide ((unhide HB).trans (b3.mono (unhide HB).size))
  replace HT := hide ((unhide HT).on b3)
  clear b3
  have hn3 := hide (i3.out.len)
  go_wp2_with fail
  refine (Contains_any _ _ _ _ _ _ _ (unhide i3) true (hide (by simpa using (mem_ln HL.out _).2 rfl))).mono ?_
  rintro e w4 ⟨rfl, rfl⟩
  go_wp2_with fail
  refine (IsSorted_yes _ _ _ _ _ _ (unhide i3) (hide (ln_rise hn3.out))).mono ?_
  rintro e w4 ⟨rfl, b4⟩
  replace i0 := hide ((unhide i0).on b4)
  replace i1 := hide ((unhide i1).on b4)
  replace i2 := hide ((unhide i2).on b4)
  replace i3 := hide ((unhide i3).on b4)
  replace HB := hide ((unhide HB).trans (b4.mono (unhide HB).size))
  replace HT := hide ((unhide HT).on b4)
  clear b4
  go_wp2_with fail
  have hm3 := i3.out.most
  have hc3 := i3.out.cap
  obtain ⟨wv, hwv⟩ : ∃ wv : World, wv = w4 := ⟨_, rfl⟩
  go_loopw [10, 11, 12, 13, 56] (fun _ _ _ _ i wr => ∃ k : Nat, k ≤ n3 ∧ i = .int .i64 k ∧ Below w4.heap.size w4 wr) (fun _ _ _ _ i _ => n3 - (intOf i).toNat)
  case atStart => exact ⟨0, Nat.zero_le _, rfl, Below.refl _ _⟩
  case round =>
    obtain ⟨k, hk, rfl, hb⟩ := hrel
    replace i0 := hide ((unhide i0).on hb)
    replace i1 := hide ((unhide i1).on hb)
    replace i3 := hide ((unhide i3).on hb)
    replace HB := hide ((unhide HB).trans (hb.mono (unhide HB).size))
    replace HT := hide ((unhide HT).on hb)
    replace hb := hide hb
    by_cases hlt : k < n3
    · obtain ⟨y, hy0, hy1, hy2⟩ := lnT_at (bl l) (2 ^ m) k (show k < (lnL m (bl l)).length by rw [hn3.out]; exact hlt)
      have hy0' := hide (show nth (lnL m (bl l)) k = (y : Int) from hy0)
      have HY := hide hy1
      have HE := hide (show decide (bl l = bl y) = true by simp [hy2])
      clear hy0 hy1 hy2
      obtain ⟨b, off, rfl, hb0, hc⟩ := i3.out.at_ k hlt
      rw [hy0'.out] at hc
      go_wp2_with fail
      refine (Blocks_ok m h1 h2 y HY _ (unhide HT)).mono ?_
      rintro e w41 ⟨A4, n4, c4, rfl, i4, b41⟩
      replace i1 := hide ((unhide i1).on b41)
      replace i3 := hide ((unhide i3).on b41)
      replace i4 := hide i4
      replace HB := hide ((unhide HB).trans (b41.mono (unhide HB).size))
      replace HT := hide ((unhide HT).on b41)
      go_wp2_with fail
      refine (equal_b _ _ _ _ _ _ _ _ _ _ _ (unhide i1) (unhide i4) true HE).mono ?_
      rintro e w42 ⟨rfl, b42⟩
      replace i1 := hide ((unhide i1).on b42)
      replace i3 := hide ((unhide i3).on b42)
      replace i4 := hide ((unhide i4).on b42)
      replace HB := hide ((unhide HB).trans (b42.mono (unhide HB).size))
      replace HT := hide ((unhide HT).on b42)
      replace hb := hide ((unhide hb).trans ((b41.mono (unhide hb).size).trans (b42.mono (Nat.le_trans (unhide hb).size b41.size))))
      by_cases h0 : k = 0
      · subst h0
        have d : decide (0 < ((0 : Nat) : Int)) = false := by decide
        go_wp2_with fail
        go_roundw
        case rel => exact ⟨1, by omega, by go_num, unhide hb⟩
        case measure => simp [intOf]; omega
      · obtain ⟨j, hj⟩ : ∃ j, k = j + 1 := ⟨k - 1, by omega⟩
        have HA := hide (ln_apart (m := m) (xs := bl l) hn3.out hj hlt)
        rw [hy0'.out] at HA
        obtain ⟨b', off', e, _, hc1⟩ := i3.out.at_ j (by omega)
        cases e
        have d : decide (0 < (k : Int)) = true := by simp; omega
        have z1 : (k : Int) - 1 = (j : Int) := by omega
        have z2 : j < n3 := by omega
        have HJ := hide hj; clear hj h0
        have ha : (nth (lnL m (bl l)) j == (y : Int)) = false := HA.out
        go_wp2_with fail
        go_roundw
        case rel => exact ⟨k + 1, by omega, by go_num, unhide hb⟩
        case measure => simp [intOf]; omega
    · clear hwv
      go_wp2_with fail
      refine (list_ints _ _ _ _ _ _ (unhide i0) (Nat.le_refl _)).mono ?_
      rintro e w61 ⟨A5, n5, c5, rfl, i5, b61⟩
      replace i0 := hide ((unhide i0).on b61)
      replace i1 := hide ((unhide i1).on b61)
      replace i5 := hide i5
      replace HB := hide ((unhide HB).trans (b61.mono (unhide HB).size))
      replace HT := hide ((unhide HT).on b61)
      clear b61
      go_wp2_with fail
      refine (Lines_no _ hx _ _ _ _ _ (unhide i5) HC8).mono ?_
      rintro e w62 ⟨rfl, rfl⟩
      go_wp2_with fail
      refine (awake_any _ (unhide HT)).mono ?_
      rintro e w62 ⟨rfl, b62⟩
      replace i0 := hide ((unhide i0).on b62)
      replace i1 := hide ((unhide i1).on b62)
      replace i5 := hide ((unhide i5).on b62)
      replace HB := hide ((unhide HB).trans (b62.mono (unhide HB).size))
      replace HT := hide ((unhide HT).on b62)
      clear b62
      go_wp2_with fail
      go_ret
      exact ⟨rfl, unhide HB⟩

theorem LJust_any (x l : Int) (hx : -9223372036854775808 ≤ x ∧ x ≤ 9223372036854775807) {A : Option Addr} {n c : Nat} {xs : List Int} {w : World} (i0 : Ints w w.heap.size A n c xs) (ht : Tab w) :
    Calls Tryd.prog 10 #[.int .i64 x, .int .i64 l, .slice A n c] w fun e w' => e = .returned (.bool true) ∧ Below w.heap.size w w' := by
  have h8 := clB_take x xs
  cases hs : setB x l with
  | false => exact LJust_no x l A n c w ht (hide hs)
  | true =>
    have hz : sz x = true := by unfold setB at hs; rw [Bool.and_eq_true] at hs; exact hs.1
    obtain ⟨m, rfl, h1, h2⟩ := sz_nat hz
    obtain ⟨k, rfl, hk⟩ := (setB_iff h1 h2 l).1 hs
    have hbl : clB m (bl k) = true := by unfold clB; rw [hz, Bool.true_and]; exact bl_cl m (by omega) k hk
    cases hc : clB m xs with
    | true =>
      refine LJust_y m k h1 h2 (hide hk) A n c xs w i0 ht (hide hs) (hide hbl) (hide (h8.trans hc)) (decide (bl k = xs)) (hide ?_) (hide rfl)
      rw [take_cl hc]
      exact decide_eq_decide.2 (mem_ln hk xs)
    | false => exact LJust_n m k h1 h2 (hide hk) A n c xs w i0 ht (hide hs) (hide hbl) (hide (h8.trans hc)) hx
end Go.Proofs.YtjhicbiacnkpaaaDoor
