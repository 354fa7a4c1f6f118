/-
  The law SquaresSettles.
-/
import Derived.Test.YtjhicbiacnkpaaaDoorL2
import Derived.Test.YtjhicbiacnkpaaaDoorM4
namespace Go.Proofs.YtjhicbiacnkpaaaDoor
open Go.RowKit

set_option maxRecDepth 100000 in
set_option maxHeartbeats 1000000 in
theorem LSettles_1 (x : Int) (f e : Int) (hx : -9223372036854775808 ≤ (x : Int) ∧ (x : Int) ≤ 9223372036854775807) (A : Option Addr) (n c : Nat) (xs : List Int) (w : World) (i0 : Ints w w.heap.size A n c xs) (ht : Tab w) (HN8 : Hid (telB x (xs.take 8) f e = false)) (HC8 : Hid (clB x (xs.take 8) = false))  :
    Calls Tryd.prog 11 #[.int .i64 x, .slice A n c, .int .i64 f, .int .i64 e] w fun e w' => e = .returned (.bool true) ∧ Below w.heap.size w w' := by
  replace i0 := hide i0
  have HB := hide (Below.refl w.heap.size w)
  have HT := hide ht
  clear ht
  go_enter Tryd.func11, Tryd.ntmps11
  go_wp2_with fail
  refine (list_ints _ _ _ _ _ _ (unhide i0) (Nat.le_refl _)).mono ?_
  rintro e w1 ⟨A2, n2, c2, rfl, i2, b1⟩
  replace i0 := hide ((unhide i0).on b1)
  replace i2 := hide i2
  replace HB := hide ((unhide HB).trans (b1.mono (unhide HB).size))
  replace HT := hide ((unhide HT).on b1)
  clear b1
  go_wp2_with fail
  refine (Tell_no x f e hx _ _ _ _ _ (unhide i2) HN8).mono ?_
  rintro e w2 ⟨rfl, b2⟩
  replace i0 := hide ((unhide i0).on b2)
  replace i2 := hide ((unhide i2).on b2)
  replace HB := hide ((unhide HB).trans (b2.mono (unhide HB).size))
  replace HT := hide ((unhide HT).on b2)
  clear b2
  go_wp2_with fail
  refine (list_ints _ _ _ _ _ _ (unhide i0) (Nat.le_refl _)).mono ?_
  rintro e w3 ⟨A3, n3, c3, rfl, i3, b3⟩
  replace i0 := hide ((unhide i0).on b3)
  replace i2 := hide ((unhide i2).on b3)
  replace i3 := hide i3
  replace HB := hide ((unhide HB).trans (b3.mono (unhide HB).size))
  replace HT := hide ((unhide HT).on b3)
  clear b3
  go_wp2_with fail
  refine (Lines_no _ hx _ _ _ _ _ (unhide i3) HC8).mono ?_
  rintro e w4 ⟨rfl, rfl⟩
  go_wp2_with fail
  refine (awake_any _ (unhide HT)).mono ?_
  rintro e w4 ⟨rfl, b4⟩
  replace i0 := hide ((unhide i0).on b4)
  replace i2 := hide ((unhide i2).on b4)
  replace i3 := hide ((unhide i3).on b4)
  replace HB := hide ((unhide HB).trans (b4.mono (unhide HB).size))
  replace HT := hide ((unhide HT).on b4)
  clear b4
  go_wp2_with fail
  go_ret
  exact ⟨rfl, unhide HB⟩

set_option maxRecDepth 100000 in
set_option maxHeartbeats 1000000 in
theorem LSettles_2 (m : Nat) (h1 : 1 ≤ m) (h2 : m ≤ 5) (f e : Int) (hx : -9223372036854775808 ≤ (m : Int) ∧ (m : Int) ≤ 9223372036854775807) (A : Option Addr) (n c : Nat) (xs : List Int) (w : World) (i0 : Ints w w.heap.size A n c xs) (ht : Tab w) (HN8 : Hid (telB m (xs.take 8) f e = false)) (HC8 : Hid (clB m (xs.take 8) = true)) (HF : Hid (setB m f = false)) :
    Calls Tryd.prog 11 #[.int .i64 m, .slice A n c, .int .i64 f, .int .i64 e] w fun e w' => e = .returned (.bool true) ∧ Below w.heap.size w w' := by
  replace i0 := hide i0
  have HB := hide (Below.refl w.heap.size w)
  have HT := hide ht
  clear ht
  go_enter Tryd.func11, Tryd.ntmps11
  go_wp2_with fail
  refine (list_ints _ _ _ _ _ _ (unhide i0) (Nat.le_refl _)).mono ?_
  rintro e w1 ⟨A2, n2, c2, rfl, i2, b1⟩
  replace i0 := hide ((unhide i0).on b1)
  replace i2 := hide i2
  replace HB := hide ((unhide HB).trans (b1.mono (unhide HB).size))
  replace HT := hide ((unhide HT).on b1)
  clear b1
  go_wp2_with fail
  refine (Tell_no m f e hx _ _ _ _ _ (unhide i2) HN8).mono ?_
  rintro e w2 ⟨rfl, b2⟩
  replace i0 := hide ((unhide i0).on b2)
  replace i2 := hide ((unhide i2).on b2)
  replace HB := hide ((unhide HB).trans (b2.mono (unhide HB).size))
  replace HT := hide ((unhide HT).on b2)
  clear b2
  go_wp2_with fail
  refine (list_ints _ _ _ _ _ _ (unhide i0) (Nat.le_refl _)).mono ?_
  rintro e w3 ⟨A3, n3, c3, rfl, i3, b3⟩
  replace i0 := hide ((unhide i0).on b3)
  replace i2 := hide ((unhide i2).on b3)
  replace i3 := hide i3
  replace HB := hide ((unhide HB).trans (b3.mono (unhide HB).size))
  replace HT := hide ((unhide HT).on b3)
  clear b3
  go_wp2_with fail
  refine (Lines_ok m h1 h2 _ _ _ _ _ (unhide i3) (unhide HT) HC8).mono ?_
  rintro e w4 ⟨A4, n4, c4, rfl, i4, b4⟩
  replace i0 := hide ((unhide i0).on b4)
  replace i2 := hide ((unhide i2).on b4)
  replace i3 := hide ((unhide i3).on b4)
  replace i4 := hide i4
  replace HB := hide ((unhide HB).trans (b4.mono (unhide HB).size))
  replace HT := hide ((unhide HT).on b4)
  clear b4
  go_wp2_with fail
  refine (RSet_is _ _ _ _ HF).mono ?_
  rintro e w5 ⟨rfl, rfl⟩
  go_wp2_with fail
  refine (awake_any _ (unhide HT)).mono ?_
  rintro e w5 ⟨rfl, b5⟩
  replace i0 := hide ((unhide i0).on b5)
  replace i2 := hide ((unhide i2).on b5)
  replace i3 := hide ((unhide i3).on b5)
  replace i4 := hide ((unhide i4).on b5)
  replace HB := hide ((unhide HB).trans (b5.mono (unhide HB).size))
  replace HT := hide ((unhide HT).on b5)
  clear b5
  go_wp2_with fail
  go_ret
  exact ⟨rfl, unhide HB⟩

set_option maxRecDepth 100000 in
set_option maxHeartbeats 1000000 in
theorem LSettles_3 (m : Nat) (h1 : 1 ≤ m) (h2 : m ≤ 5) (f e : Int) (hx : -9223372036854775808 ≤ (m : Int) ∧ (m : Int) ≤ 9223372036854775807) (A : Option Addr) (n c : Nat) (xs : List Int) (w : World) (i0 : Ints w w.heap.size A n c xs) (ht : Tab w) (HN8 : Hid (telB m (xs.take 8) f e = false)) (HC8 : Hid (clB m (xs.take 8) = true)) (HF : Hid (setB m f = true)) (HE : Hid (setB m e = false)) :
    Calls Tryd.prog 11 #[.int .i64 m, .slice A n c, .int .i64 f, .int .i64 e] w fun e w' => e = .returned (.bool true) ∧ Below w.heap.size w w' := by
  replace i0 := hide i0
  have HB := hide (Below.refl w.heap.size w)
  have HT := hide ht
  clear ht
  go_enter Tryd.func11, Tryd.ntmps11
  go_wp2_with fail
  refine (list_ints _ _ _ _ _ _ (unhide i0) (Nat.le_refl _)).mono ?_
  rintro e w1 ⟨A2, n2, c2, rfl, i2, b1⟩
  replace i0 := hide ((unhide i0).on b1)
  replace i2 := hide i2
  replace HB := hide ((unhide HB).trans (b1.mono (unhide HB).size))
  replace HT := hide ((unhide HT).on b1)
  clear b1
  go_wp2_with fail
  refine (Tell_no m f e hx _ _ _ _ _ (unhide i2) HN8).mono ?_
  rintro e w2 ⟨rfl, b2⟩
  replace i0 := hide ((unhide i0).on b2)
  replace i2 := hide ((unhide i2).on b2)
  replace HB := hide ((unhide HB).trans (b2.mono (unhide HB).size))
  replace HT := hide ((unhide HT).on b2)
  clear b2
  go_wp2_with fail
  refine (list_ints _ _ _ _ _ _ (unhide i0) (Nat.le_refl _)).mono ?_
  rintro e w3 ⟨A3, n3, c3, rfl, i3, b3⟩
  replace i0 := hide ((unhide i0).on b3)
  replace i2 := hide ((unhide i2).on b3)
  replace i3 := hide i3
  replace HB := hide ((unhide HB).trans (b3.mono (unhide HB).size))
  replace HT := hide ((unhide HT).on b3)
  clear b3
  go_wp2_with fail
  refine (Lines_ok m h1 h2 _ _ _ _ _ (unhide i3) (unhide HT) HC8).mono ?_
  rintro e w4 ⟨A4, n4, c4, rfl, i4, b4⟩
  replace i0 := hide ((unhide i0).on b4)
  replace i2 := hide ((unhide i2).on b4)
  replace i3 := hide ((unhide i3).on b4)
  replace i4 := hide i4
  replace HB := hide ((unhide HB).trans (b4.mono (unhide HB).size))
  replace HT := hide ((unhide HT).on b4)
  clear b4
  go_wp2_with fail
  refine (RSet_is _ _ _ _ HF).mono ?_
  rintro e w5 ⟨rfl, rfl⟩
  go_wp2_with fail
  refine (RSet_is _ _ _ _ HE).mono ?_
  rintro e w5 ⟨rfl, rfl⟩
  go_wp2_with fail
  refine (awake_any _ (unhide HT)).mono ?_
  rintro e w5 ⟨rfl, b5⟩
  replace i0 := hide ((unhide i0).on b5)
  replace i2 := hide ((unhide i2).on b5)
  replace i3 := hide ((unhide i3).on b5)
  replace i4 := hide ((unhide i4).on b5)
  replace HB := hide ((unhide HB).trans (b5.mono (unhide HB).size))
  replace HT := hide ((unhide HT).on b5)
  clear b5
  go_wp2_with fail
  go_ret
  exact ⟨rfl, unhide HB⟩

set_option maxRecDepth 100000 in
set_option maxHeartbeats 1000000 in
theorem LSettles_4 (m : Nat) (h1 : 1 ≤ m) (h2 : m ≤ 5) (f e : Int) (hx : -9223372036854775808 ≤ (m : Int) ∧ (m : Int) ≤ 9223372036854775807) (A : Option Addr) (n c : Nat) (xs : List Int) (w : World) (i0 : Ints w w.heap.size A n c xs) (ht : Tab w) (HN8 : Hid (telB m (xs.take 8) f e = false)) (HC8 : Hid (clB m (xs.take 8) = true)) (HF : Hid (setB m f = true)) (HE : Hid (setB m e = true)) (HZ : Hid (¬ bits BinOp.and IntKind.i64 f e = 0)) :
    Calls Tryd.prog 11 #[.int .i64 m, .slice A n c, .int .i64 f, .int .i64 e] w fun e w' => e = .returned (.bool true) ∧ Below w.heap.size w w' := by
  replace i0 := hide i0
  have HB := hide (Below.refl w.heap.size w)
  have HT := hide ht
  clear ht
  obtain ⟨z, hz⟩ : ∃ z, bits BinOp.and IntKind.i64 f e = z := ⟨_, rfl⟩
  have hz1 : (z != 0) = true := by have := HZ.out; rw [hz] at this; simpa using this
  go_enter Tryd.func11, Tryd.ntmps11
  go_wp2_with fail
  refine (list_ints _ _ _ _ _ _ (unhide i0) (Nat.le_refl _)).mono ?_
  rintro e w1 ⟨A2, n2, c2, rfl, i2, b1⟩
  replace i0 := hide ((unhide i0).on b1)
  replace i2 := hide i2
  replace HB := hide ((unhide HB).trans (b1.mono (unhide HB).size))
  replace HT := hide ((unhide HT).on b1)
  clear b1
  go_wp2_with fail
  refine (Tell_no m f e hx _ _ _ _ _ (unhide i2) HN8).mono ?_
  rintro e w2 ⟨rfl, b2⟩
  replace i0 := hide ((unhide i0).on b2)
  replace i2 := hide ((unhide i2).on b2)
  replace HB := hide ((unhide HB).trans (b2.mono (unhide HB).size))
  replace HT := hide ((unhide HT).on b2)
  clear b2
  go_wp2_with fail
  refine (list_ints _ _ _ _ _ _ (unhide i0) (Nat.le_refl _)).mono ?_
  rintro e w3 ⟨A3, n3, c3, rfl, i3, b3⟩
  replace i0 := hide ((unhide i0).on b3)
  replace i2 := hide ((unhide i2).on b3)
  replace i3 := hide i3
  replace HB := hide ((unhide HB).trans (b3.mono (unhide HB).size))
  replace HT := hide ((unhide HT).on b3)
  clear b3
  go_wp2_with fail
  refine (Lines_ok m h1 h2 _ _ _ _ _ (unhide i3) (unhide HT) HC8).mono ?_
  rintro e w4 ⟨A4, n4, c4, rfl, i4, b4⟩
  replace i0 := hide ((unhide i0).on b4)
  replace i2 := hide ((unhide i2).on b4)
  replace i3 := hide ((unhide i3).on b4)
  replace i4 := hide i4
  replace HB := hide ((unhide HB).trans (b4.mono (unhide HB).size))
  replace HT := hide ((unhide HT).on b4)
  clear b4
  go_wp2_with fail
  refine (RSet_is _ _ _ _ HF).mono ?_
  rintro e w5 ⟨rfl, rfl⟩
  go_wp2_with fail
  refine (RSet_is _ _ _ _ HE).mono ?_
  rintro e w5 ⟨rfl, rfl⟩
  go_wp2_with fail
  refine (awake_any _ (unhide HT)).mono ?_
  rintro e w5 ⟨rfl, b5⟩
  replace i0 := hide ((unhide i0).on b5)
  replace i2 := hide ((unhide i2).on b5)
  replace i3 := hide ((unhide i3).on b5)
  replace i4 := hide ((unhide i4).on b5)
  replace HB := hide ((unhide HB).trans (b5.mono (unhide HB).size))
  replace HT := hide ((unhide HT).on b5)
  clear b5
  go_wp2_with fail
  go_ret
  exact ⟨rfl, unhide HB⟩

set_option maxRecDepth 100000 in
set_option maxHeartbeats 2000000 in
theorem LSettles_y (m s f e : Nat) (h1 : 1 ≤ m) (h2 : m ≤ 5) (hs : Hid (s + 1 = 2 ^ m)) (hf32 : f < 32) (he32 : e < 32) (A : Option Addr) (n c : Nat) (xs : List Int) (w : World) (i0 : Ints w w.heap.size A n c xs) (ht : Tab w)
    (HC8 : Hid (clB m (xs.take 8) = true)) (HFE : Hid (setB m f = true ∧ setB m e = true)) (HF : Hid (setB m f = true)) (HE : Hid (setB m e = true)) (HZ : Hid (f &&& e = 0)) (HSF : Hid (sub_ f s)) (u v : Nat)
    (HU8 : Hid (stR s f e (lnL m (xs.take 8)) (lnL m (xs.take 8)).length = (u, v, true))) (HN : Hid (stT s f e (lnL m (xs.take 8)) (lnL m (xs.take 8)).length = (u, v, true))) (kk : Int) (HK : Hid (kk = if true then 0 else 4)) (HK0 : Hid (kk = 0)) (HFE2 : Hid (setB m u = true ∧ setB m v = true)) (HZ2 : Hid (u &&& v = 0)) (HU2 : Hid (stR s u v (lnL m (xs.take 8)) (lnL m (xs.take 8)).length = (u, v, true))) (HZ3 : Hid (ndn f u = 0 ∧ ndn e v = 0)) :
    Calls Tryd.prog 11 #[.int .i64 m, .slice A n c, .int .i64 f, .int .i64 e] w fun e w' => e = .returned (.bool true) ∧ Below w.heap.size w w' := by
  replace i0 := hide i0
  have HB := hide (Below.refl w.heap.size w)
  have HT := hide ht
  clear ht
  have hs32 : s < 32 := by have := hs.out; have := pow_le (n := m) (by omega); omega
  obtain ⟨P, hP, q1, q2, q3⟩ := pow_nat h1 h2
  have d0 : (P : Int) - 1 = (s : Int) := by have := hs.out; have := hP.out; omega
  have a1 : bits BinOp.and IntKind.i64 (f : Int) (e : Int) = 0 := by rw [and_n f e (by omega) (by omega), HZ.out]; rfl
  go_enter Tryd.func11, Tryd.ntmps11
  go_wp2_with fail
  refine (list_ints _ _ _ _ _ _ (unhide i0) (Nat.le_refl _)).mono ?_
  rintro e w1 ⟨A2, n2, c2, rfl, i2, b1⟩
  replace i0 := hide ((unhide i0).on b1)
  replace i2 := hide i2
  replace HB := hide ((unhide HB).trans (b1.mono (unhide HB).size))
  replace HT := hide ((unhide HT).on b1)
  clear b1
  go_wp2_with fail
  refine (Tell_ok m s f e h1 h2 hs _ _ _ _ _ (unhide i2) (unhide HT) HC8 HFE HZ u v true HU8 kk HK).mono ?_
  rintro e w2 ⟨rfl, b2⟩
  replace i0 := hide ((unhide i0).on b2)
  replace i2 := hide ((unhide i2).on b2)
  replace HB := hide ((unhide HB).trans (b2.mono (unhide HB).size))
  replace HT := hide ((unhide HT).on b2)
  clear b2
  go_wp2_with fail
  refine (list_ints _ _ _ _ _ _ (unhide i0) (Nat.le_refl _)).mono ?_
  rintro e w3 ⟨A3, n3, c3, rfl, i3, b3⟩
  replace i0 := hide ((unhide i0).on b3)
  replace i2 := hide ((unhide i2).on b3)
  replace i3 := hide i3
  replace HB := hide ((unhide HB).trans (b3.mono (unhide HB).size))
  replace HT := hide ((unhide HT).on b3)
  clear b3
  go_wp2_with fail
  refine (Lines_ok m h1 h2 _ _ _ _ _ (unhide i3) (unhide HT) HC8).mono ?_
  rintro e w4 ⟨A4, n4, c4, rfl, i4, b4⟩
  replace i0 := hide ((unhide i0).on b4)
  replace i2 := hide ((unhide i2).on b4)
  replace i3 := hide ((unhide i3).on b4)
  replace i4 := hide i4
  replace HB := hide ((unhide HB).trans (b4.mono (unhide HB).size))
  replace HT := hide ((unhide HT).on b4)
  clear b4
  go_wp2_with fail
  refine (RSet_is _ _ _ _ HF).mono ?_
  rintro e w5 ⟨rfl, rfl⟩
  go_wp2_with fail
  refine (RSet_is _ _ _ _ HE).mono ?_
  rintro e w5 ⟨rfl, rfl⟩
  have hn4 := hide i4.out.len
  have hm4 := i4.out.most
  have hc4 := i4.out.cap
  have HX := hide (AllN_ln m h2 (xs.take 8) n4 hn4.out)
  have HN4 := hide (show stT s f e (lnL m (xs.take 8)) n4 = (u, v, true) from by rw [← hn4.out]; exact HN.out)
  have HS := hide hs32
  have HA1 := hide a1
  go_wp2_with fail
  clear d0 a1 hs32
  go_loop [15, 16, 17, 19, 80] (fun x y o _ i => ∃ (k a b : Nat) (ok : Bool), k ≤ n4 ∧ i = .int .i64 k ∧ o = .bool ok ∧ x = .int .i64 a ∧ y = .int .i64 b ∧ Hid (stT s f e (lnL m (xs.take 8)) k = (a, b, ok)) ∧ (a < 32 ∧ b < 32)) (fun _ _ _ _ i => n4 - (intOf i).toNat)
  case atStart => exact ⟨0, s, s, false, Nat.zero_le _, rfl, rfl, rfl, rfl, hide rfl, ⟨HS.out, HS.out⟩⟩
  case round =>
    obtain ⟨k, a, b, o, hk, rfl, rfl, rfl, rfl, HTT, ⟨ha, hb⟩⟩ := hrel
    by_cases hlt : k < n4
    · obtain ⟨bb, off, rfl, hb0, hc⟩ := i4.out.at_ k hlt
      obtain ⟨y, hy, hyb⟩ := HX.out k hlt
      have hy' := hide hy
      rw [hy] at hc
      clear hy
      have t1 := and_n y f (by omega) (by omega)
      have t2 := and_n y e (by omega) (by omega)
      have t3 := and_n a y (by omega) (by omega)
      have t4 := andNot_n b y (by omega) (by omega)
      have l3 : a &&& y ≤ a := Nat.and_le_left
      have l4 := ndn_le b y
      obtain ⟨p, hp⟩ : ∃ p, p = y &&& f := ⟨_, rfl⟩
      obtain ⟨q, hq⟩ : ∃ q, q = y &&& e := ⟨_, rfl⟩
      rw [← hp] at t1
      rw [← hq] at t2
      have hty := hide (show (nth (lnL m (xs.take 8)) k).toNat = y by rw [hy'.out]; simp)
      have hpq := hide (show agB f e s (nth (lnL m (xs.take 8)) k).toNat = (decide (p = f) && decide (q = 0)) from by
        rw [hty.out, agR_eq HSF.out, hp, hq]; rfl)
      clear hp hq
      by_cases g1 : p = f
      · have d1 : ((p : Int) == (f : Int)) = true := by simp [g1]
        by_cases g2 : q = 0
        · have d2 : ((q : Int) == 0) = true := by simp [g2]
          have HNN := hide (show stT s f e (lnL m (xs.take 8)) (k + 1) = (a &&& y, ndn b y, true) from by
            rw [stT_yes (by rw [hpq.out]; simp [g1, g2]), HTT.out, hty.out])
          clear g1 g2
          go_wp2_with fail
          go_round
          case rel => exact ⟨k + 1, a &&& y, ndn b y, true, by omega, by go_num, rfl, rfl, rfl, HNN, by omega, by omega⟩
          case measure => simp [intOf]; omega
        · have d2 : ((q : Int) == 0) = false := by simpa using g2
          have HNN := hide (show stT s f e (lnL m (xs.take 8)) (k + 1) = (a, b, o) from by
            rw [stT_no (by rw [hpq.out]; simp [g1, g2]), HTT.out])
          clear g1 g2
          go_wp2_with fail
          go_round
          case rel => exact ⟨k + 1, a, b, o, by omega, by go_num, rfl, rfl, rfl, HNN, by omega, by omega⟩
          case measure => simp [intOf]; omega
      · have d1 : ((p : Int) == (f : Int)) = false := by simp; omega
        have HNN := hide (show stT s f e (lnL m (xs.take 8)) (k + 1) = (a, b, o) from by
          rw [stT_no (by rw [hpq.out]; simp [g1]), HTT.out])
        clear g1
        go_wp2_with fail
        go_round
        case rel => exact ⟨k + 1, a, b, o, by omega, by go_num, rfl, rfl, rfl, HNN, by omega, by omega⟩
        case measure => simp [intOf]; omega
    · obtain rfl : k = n4 := by omega
      have e0 := HN4.out.symm.trans HTT.out
      simp only [Prod.mk.injEq] at e0
      obtain ⟨rfl, rfl, rfl⟩ := e0
      clear HTT
      obtain rfl := HK0.out
      go_wp2_with fail
      refine (list_ints _ _ _ _ _ _ (unhide i0) (Nat.le_refl _)).mono ?_
      rintro e w21 ⟨A5, n5, c5, rfl, i5, b21⟩
      replace i0 := hide ((unhide i0).on b21)
      replace i5 := hide i5
      replace HB := hide ((unhide HB).trans (b21.mono (unhide HB).size))
      replace HT := hide ((unhide HT).on b21)
      clear b21
      go_wp2_with fail
      refine (Tell_ok m s u v h1 h2 hs _ _ _ _ _ (unhide i5) (unhide HT) HC8 HFE2 HZ2 u v true HU2 0 (hide rfl)).mono ?_
      rintro e w22 ⟨rfl, b22⟩
      replace i0 := hide ((unhide i0).on b22)
      replace i5 := hide ((unhide i5).on b22)
      replace HB := hide ((unhide HB).trans (b22.mono (unhide HB).size))
      replace HT := hide ((unhide HT).on b22)
      clear b22
      have f1 := andNot_n f u (by omega) (by omega)
      have f2 := andNot_n e v (by omega) (by omega)
      rw [HZ3.out.1] at f1
      rw [HZ3.out.2] at f2
      have e1 : ((u : Int) == (u : Int)) = true := by simp
      have e2 : ((v : Int) == (v : Int)) = true := by simp
      go_wp2_with fail
      refine (awake_any _ (unhide HT)).mono ?_
      rintro e w23 ⟨rfl, b23⟩
      replace i0 := hide ((unhide i0).on b23)
      replace i5 := hide ((unhide i5).on b23)
      replace HB := hide ((unhide HB).trans (b23.mono (unhide HB).size))
      replace HT := hide ((unhide HT).on b23)
      clear b23
      go_wp2_with fail
      go_ret
      exact ⟨rfl, unhide HB⟩

set_option maxRecDepth 100000 in
set_option maxHeartbeats 2000000 in
theorem LSettles_n (m s f e : Nat) (h1 : 1 ≤ m) (h2 : m ≤ 5) (hs : Hid (s + 1 = 2 ^ m)) (hf32 : f < 32) (he32 : e < 32) (A : Option Addr) (n c : Nat) (xs : List Int) (w : World) (i0 : Ints w w.heap.size A n c xs) (ht : Tab w)
    (HC8 : Hid (clB m (xs.take 8) = true)) (HFE : Hid (setB m f = true ∧ setB m e = true)) (HF : Hid (setB m f = true)) (HE : Hid (setB m e = true)) (HZ : Hid (f &&& e = 0)) (HSF : Hid (sub_ f s)) (u v a0 b0 : Nat)
    (HU8 : Hid (stR s f e (lnL m (xs.take 8)) (lnL m (xs.take 8)).length = (u, v, false))) (HN : Hid (stT s f e (lnL m (xs.take 8)) (lnL m (xs.take 8)).length = (a0, b0, false))) (kk : Int) (HK : Hid (kk = if false then 0 else 4)) (HK0 : Hid (kk = 4)) :
    Calls Tryd.prog 11 #[.int .i64 m, .slice A n c, .int .i64 f, .int .i64 e] w fun e w' => e = .returned (.bool true) ∧ Below w.heap.size w w' := by
  replace i0 := hide i0
  have HB := hide (Below.refl w.heap.size w)
  have HT := hide ht
  clear ht
  have hs32 : s < 32 := by have := hs.out; have := pow_le (n := m) (by omega); omega
  obtain ⟨P, hP, q1, q2, q3⟩ := pow_nat h1 h2
  have d0 : (P : Int) - 1 = (s : Int) := by have := hs.out; have := hP.out; omega
  have a1 : bits BinOp.and IntKind.i64 (f : Int) (e : Int) = 0 := by rw [and_n f e (by omega) (by omega), HZ.out]; rfl
  go_enter Tryd.func11, Tryd.ntmps11
  go_wp2_with fail
  refine (list_ints _ _ _ _ _ _ (unhide i0) (Nat.le_refl _)).mono ?_
  rintro e w1 ⟨A2, n2, c2, rfl, i2, b1⟩
  replace i0 := hide ((unhide i0).on b1)
  replace i2 := hide i2
  replace HB := hide ((unhide HB).trans (b1.mono (unhide HB).size))
  replace HT := hide ((unhide HT).on b1)
  clear b1
  go_wp2_with fail
  refine (Tell_ok m s f e h1 h2 hs _ _ _ _ _ (unhide i2) (unhide HT) HC8 HFE HZ u v false HU8 kk HK).mono ?_
  rintro e w2 ⟨rfl, b2⟩
  replace i0 := hide ((unhide i0).on b2)
  replace i2 := hide ((unhide i2).on b2)
  replace HB := hide ((unhide HB).trans (b2.mono (unhide HB).size))
  replace HT := hide ((unhide HT).on b2)
  clear b2
  go_wp2_with fail
  refine (list_ints _ _ _ _ _ _ (unhide i0) (Nat.le_refl _)).mono ?_
  rintro e w3 ⟨A3, n3, c3, rfl, i3, b3⟩
  replace i0 := hide ((unhide i0).on b3)
  replace i2 := hide ((unhide i2).on b3)
  replace i3 := hide i3
  replace HB := hide ((unhide HB).trans (b3.mono (unhide HB).size))
  replace HT := hide ((unhide HT).on b3)
  clear b3
  go_wp2_with fail
  refine (Lines_ok m h1 h2 _ _ _ _ _ (unhide i3) (unhide HT) HC8).mono ?_
  rintro e w4 ⟨A4, n4, c4, rfl, i4, b4⟩
  replace i0 := hide ((unhide i0).on b4)
  replace i2 := hide ((unhide i2).on b4)
  replace i3 := hide ((unhide i3).on b4)
  replace i4 := hide i4
  replace HB := hide ((unhide HB).trans (b4.mono (unhide HB).size))
  replace HT := hide ((unhide HT).on b4)
  clear b4
  go_wp2_with fail
  refine (RSet_is _ _ _ _ HF).mono ?_
  rintro e w5 ⟨rfl, rfl⟩
  go_wp2_with fail
  refine (RSet_is _ _ _ _ HE).mono ?_
  rintro e w5 ⟨rfl, rfl⟩
  have hn4 := hide i4.out.len
  have hm4 := i4.out.most
  have hc4 := i4.out.cap
  have HX := hide (AllN_ln m h2 (xs.take 8) n4 hn4.out)
  have HN4 := hide (show stT s f e (lnL m (xs.take 8)) n4 = (a0, b0, false) from by rw [← hn4.out]; exact HN.out)
  have HS := hide hs32
  have HA1 := hide a1
  go_wp2_with fail
  clear d0 a1 hs32
  go_loop [15, 16, 17, 19, 80] (fun x y o _ i => ∃ (k a b : Nat) (ok : Bool), k ≤ n4 ∧ i = .int .i64 k ∧ o = .bool ok ∧ x = .int .i64 a ∧ y = .int .i64 b ∧ Hid (stT s f e (lnL m (xs.take 8)) k = (a, b, ok)) ∧ (a < 32 ∧ b < 32)) (fun _ _ _ _ i => n4 - (intOf i).toNat)
  case atStart => exact ⟨0, s, s, false, Nat.zero_le _, rfl, rfl, rfl, rfl, hide rfl, ⟨HS.out, HS.out⟩⟩
  case round =>
    obtain ⟨k, a, b, o, hk, rfl, rfl, rfl, rfl, HTT, ⟨ha, hb⟩⟩ := hrel
    by_cases hlt : k < n4
    · obtain ⟨bb, off, rfl, hb0, hc⟩ := i4.out.at_ k hlt
      obtain ⟨y, hy, hyb⟩ := HX.out k hlt
      have hy' := hide hy
      rw [hy] at hc
      clear hy
      have t1 := and_n y f (by omega) (by omega)
      have t2 := and_n y e (by omega) (by omega)
      have t3 := and_n a y (by omega) (by omega)
      have t4 := andNot_n b y (by omega) (by omega)
      have l3 : a &&& y ≤ a := Nat.and_le_left
      have l4 := ndn_le b y
      obtain ⟨p, hp⟩ : ∃ p, p = y &&& f := ⟨_, rfl⟩
      obtain ⟨q, hq⟩ : ∃ q, q = y &&& e := ⟨_, rfl⟩
      rw [← hp] at t1
      rw [← hq] at t2
      have hty := hide (show (nth (lnL m (xs.take 8)) k).toNat = y by rw [hy'.out]; simp)
      have hpq := hide (show agB f e s (nth (lnL m (xs.take 8)) k).toNat = (decide (p = f) && decide (q = 0)) from by
        rw [hty.out, agR_eq HSF.out, hp, hq]; rfl)
      clear hp hq
      by_cases g1 : p = f
      · have d1 : ((p : Int) == (f : Int)) = true := by simp [g1]
        by_cases g2 : q = 0
        · have d2 : ((q : Int) == 0) = true := by simp [g2]
          have HNN := hide (show stT s f e (lnL m (xs.take 8)) (k + 1) = (a &&& y, ndn b y, true) from by
            rw [stT_yes (by rw [hpq.out]; simp [g1, g2]), HTT.out, hty.out])
          clear g1 g2
          go_wp2_with fail
          go_round
          case rel => exact ⟨k + 1, a &&& y, ndn b y, true, by omega, by go_num, rfl, rfl, rfl, HNN, by omega, by omega⟩
          case measure => simp [intOf]; omega
        · have d2 : ((q : Int) == 0) = false := by simpa using g2
          have HNN := hide (show stT s f e (lnL m (xs.take 8)) (k + 1) = (a, b, o) from by
            rw [stT_no (by rw [hpq.out]; simp [g1, g2]), HTT.out])
          clear g1 g2
          go_wp2_with fail
          go_round
          case rel => exact ⟨k + 1, a, b, o, by omega, by go_num, rfl, rfl, rfl, HNN, by omega, by omega⟩
          case measure => simp [intOf]; omega
      · have d1 : ((p : Int) == (f : Int)) = false := by simp; omega
        have HNN := hide (show stT s f e (lnL m (xs.take 8)) (k + 1) = (a, b, o) from by
          rw [stT_no (by rw [hpq.out]; simp [g1]), HTT.out])
        clear g1
        go_wp2_with fail
        go_round
        case rel => exact ⟨k + 1, a, b, o, by omega, by go_num, rfl, rfl, rfl, HNN, by omega, by omega⟩
        case measure => simp [intOf]; omega
    · obtain rfl : k = n4 := by omega
      have e0 := HN4.out.symm.trans HTT.out
      simp only [Prod.mk.injEq] at e0
      obtain ⟨rfl, rfl, rfl⟩ := e0
      clear HTT
      obtain rfl := HK0.out
      go_wp2_with fail
      refine (awake_any _ (unhide HT)).mono ?_
      rintro e w21 ⟨rfl, b21⟩
      replace i0 := hide ((unhide i0).on b21)
      replace HB := hide ((unhide HB).trans (b21.mono (unhide HB).size))
      replace HT := hide ((unhide HT).on b21)
      clear b21
      go_wp2_with fail
      go_ret
      exact ⟨rfl, unhide HB⟩

theorem setB_le {m s a : Nat} (h1 : 1 ≤ m) (h2 : m ≤ 5) (hs : s + 1 = 2 ^ m) (ha : a ≤ s) : setB m a = true := (setB_iff h1 h2 a).2 ⟨a, rfl, by omega⟩
theorem LSettles_any (x f e : Int) (hx : -9223372036854775808 ≤ x ∧ x ≤ 9223372036854775807) {A : Option Addr} {n c : Nat} {xs : List Int} {w : World} (i0 : Ints w w.heap.size A n c xs) (ht : Tab w) :
    Calls Tryd.prog 11 #[.int .i64 x, .slice A n c, .int .i64 f, .int .i64 e] w fun e w' => e = .returned (.bool true) ∧ Below w.heap.size w w' := by
  have h8 := clB_take x xs
  cases hc : clB x xs with
  | false => exact LSettles_1 x f e hx A n c xs w i0 ht (hide (by unfold telB; rw [h8, hc]; rfl)) (hide (h8.trans hc))
  | true =>
    have hz : sz x = true := by unfold clB at hc; rw [Bool.and_eq_true] at hc; exact hc.1
    obtain ⟨m, rfl, h1, h2⟩ := sz_nat hz
    cases hf : setB m f with
    | false => exact LSettles_2 m h1 h2 f e hx A n c xs w i0 ht (hide (by unfold telB; rw [ars_two, hf]; simp)) (hide (h8.trans hc)) (hide hf)
    | true =>
      cases he : setB m e with
      | false => exact LSettles_3 m h1 h2 f e hx A n c xs w i0 ht (hide (by unfold telB; rw [ars_two, he]; simp)) (hide (h8.trans hc)) (hide hf) (hide he)
      | true =>
        by_cases hz : bits BinOp.and IntKind.i64 f e = 0
        · obtain ⟨m', s, f', e', hm', _, _, hs, rfl, rfl, b1, b2, b3, b4, b5⟩ := tel_iff hc hf he
          obtain rfl : m = m' := by omega
          have hz' : f' &&& e' = 0 := by rw [b5] at hz; omega
          have sf := sub_set hs.out b1
          have se := sub_set hs.out b2
          obtain ⟨a0, b0, ok, hn⟩ : ∃ a0 b0 ok, stT s f' e' (lnL m (xs.take 8)) (lnL m (xs.take 8)).length = (a0, b0, ok) := ⟨_, _, _, rfl⟩
          cases ok with
          | true =>
            obtain ⟨g1, g2, g3, g4, g5, g6, g7⟩ := tell_again sf se hn
            exact LSettles_y m s f' e' h1 h2 hs b3 b4 A n c xs w i0 ht (hide (h8.trans hc)) (hide ⟨hf, he⟩) (hide hf) (hide he) (hide hz') (hide sf) a0 b0 (hide g1) (hide hn) 0 (hide rfl) (hide rfl)
              (hide ⟨setB_le h1 h2 hs.out g6, setB_le h1 h2 hs.out g7⟩) (hide g3) (hide g2) (hide ⟨g4, g5⟩)
          | false => exact LSettles_n m s f' e' h1 h2 hs b3 b4 A n c xs w i0 ht (hide (h8.trans hc)) (hide ⟨hf, he⟩) (hide hf) (hide he) (hide hz') (hide sf) 0 0 a0 b0 (hide (tell_none hn)) (hide hn) 4 (hide rfl) (hide rfl)
        · exact LSettles_4 m h1 h2 f e hx A n c xs w i0 ht (hide (by unfold telB; simp [hz])) (hide (h8.trans hc)) (hide hf) (hide he) (hide hz)
end Go.Proofs.YtjhicbiacnkpaaaDoor
