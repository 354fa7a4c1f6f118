/-
  Tell of the program, refused; Tell of the reference.
-/
import Derived.Test.YtjhicbiacnkpaaaDoorW9
import Derived.Test.YtjhicbiacnkpaaaDoorM3
namespace Go.Proofs.YtjhicbiacnkpaaaDoor
open Go.RowKit

/-- What is asked of the arguments of Tell. -/
def telB (x : Int) (xs : List Int) (f e : Int) : Bool := clB x xs && (ars x [f, e] && decide (bits BinOp.and IntKind.i64 f e = 0))

set_option maxRecDepth 100000 in
set_option maxHeartbeats 400000 in
theorem Tell_no (x f e : Int) (hx : -9223372036854775808 ≤ x ∧ x ≤ 9223372036854775807) (A : Option Addr) (n c : Nat) (xs : List Int) (w : World) (h : Ints w w.heap.size A n c xs) (hc : Hid (telB x xs f e = false)) :
    Calls Tryd.prog 27 #[.int .i64 x, .slice A n c, .int .i64 f, .int .i64 e] w fun r w' => r = .returned (.tuple #[.int .i64 0, .int .i64 0, .int .i64 2]) ∧ Below w.heap.size w w' := by
  have hi2 := hide (ints_two w f e)
  have hb0 := hide ((Below.refl w.heap.size w).alloc (Nat.le_refl _) (.cells #[.int .i64 f, .int .i64 e] 3))
  cases c1 : clB x xs with
  | false =>
    have HC := hide c1; clear c1
    go_enter Tryd.func27, Tryd.ntmps27
    go_wp2_with fail
    refine (isClue_any _ hx _ _ _ _ _ _ h).mono ?_
    rintro r w' ⟨rfl, rfl⟩
    rw [HC.out]
    go_wp2_with fail
    go_ret3
    exact ⟨rfl, Below.refl _ _⟩
  | true =>
    have HC := hide c1; clear c1
    cases c2 : ars x [f, e] with
    | false =>
      have HA := hide c2; clear c2
      go_enter Tryd.func27, Tryd.ntmps27
      go_wp2_with fail
      refine (isClue_any _ hx _ _ _ _ _ _ h).mono ?_
      rintro r w' ⟨rfl, rfl⟩
      rw [HC.out]
      go_wp2_with fail
      refine (areSets_any _ _ _ _ _ _ _ (unhide hi2)).mono ?_
      rintro r w' ⟨rfl, rfl⟩
      rw [HA.out]
      go_wp2_with fail
      go_ret3
      exact ⟨rfl, unhide hb0⟩
    | true =>
      have HA := hide c2; clear c2
      obtain ⟨z, hz⟩ : ∃ z, bits BinOp.and IntKind.i64 f e = z := ⟨_, rfl⟩
      have hz0 : (z == 0) = false := by
        have := hc.out
        unfold telB at this
        rw [HC.out, HA.out, hz] at this
        simpa using this
      have hz1 : (z != 0) = true := by simp [bne, hz0]
      go_enter Tryd.func27, Tryd.ntmps27
      go_wp2_with fail
      refine (isClue_any _ hx _ _ _ _ _ _ h).mono ?_
      rintro r w' ⟨rfl, rfl⟩
      rw [HC.out]
      go_wp2_with fail
      refine (areSets_any _ _ _ _ _ _ _ (unhide hi2)).mono ?_
      rintro r w' ⟨rfl, rfl⟩
      rw [HA.out]
      go_wp2_with fail
      go_ret3
      exact ⟨rfl, unhide hb0⟩

set_option maxRecDepth 100000 in
set_option maxHeartbeats 1000000 in
theorem RTell_any (m s f e : Nat) (h1 : 1 ≤ m) (h2 : m ≤ 5) (hs : Hid (s + 1 = 2 ^ m)) (A : Option Addr) (n c : Nat) (xs : List Int) (w : World) (h : Ints w w.heap.size A n c xs)
    (hf : f < 32) (he : e < 32) (u v : Nat) (ok : Bool) (HU : Hid (rtR s f e (lnL m xs) (lnL m xs).length = (u, v, ok))) (kk : Int) (HK : Hid (kk = if ok then 0 else 4)) :
    Calls Tryd.prog 28 #[.int .i64 m, .slice A n c, .int .i64 f, .int .i64 e] w fun r w' => r = .returned (.tuple #[.int .i64 u, .int .i64 v, .int .i64 kk]) ∧ Below w.heap.size w w' := by
  have hs32 : s < 32 := by have := hs.out; have := pow_le (n := m) (by omega); omega
  obtain ⟨P, hP, q1, q2, q3⟩ := pow_nat h1 h2
  have d0 : (P : Int) - 1 = (s : Int) := by have := hs.out; have := hP.out; omega
  go_enter Tryd.func28, Tryd.ntmps28
  go_wp2_with fail
  refine (RLines_ints m h1 h2 _ _ _ _ _ h).mono ?_
  rintro r w1 ⟨A1, n1, c1, rfl, hn1, i1, b1⟩
  have hm := i1.most; have hcap := i1.cap
  have HX := hide (AllN_ln m h2 xs n1 hn1.out.symm)
  have HU' := hide (show rtR s f e (lnL m xs) n1 = (u, v, ok) from by rw [hn1.out]; exact HU.out)
  have HS := hide hs32
  clear hs32 d0
  go_wp2_with fail
  go_loop [12, 13, 14, 16, 26] (fun x y o _ i => ∃ (k a b : Nat) (ok : Bool), k ≤ n1 ∧ i = .int .i64 k ∧ o = .bool ok ∧ x = .int .i64 a ∧ y = .int .i64 b ∧ Hid (rtT s f e (lnL m xs) k = (a, b, ok)) ∧ (a < 32 ∧ b < 32)) (fun _ _ _ _ i => n1 - (intOf i).toNat)
  case atStart => exact ⟨0, s, s, false, Nat.zero_le _, rfl, rfl, rfl, rfl, hide rfl, ⟨HS.out, HS.out⟩⟩
  case round =>
    obtain ⟨k, a, b, o, hk, rfl, rfl, rfl, rfl, HT, ⟨ha, hb⟩⟩ := hrel
    by_cases hlt : k < n1
    · obtain ⟨bb, off, rfl, hb0, hc⟩ := i1.at_ k hlt
      obtain ⟨y, hy, hyb⟩ := HX.out k hlt
      have hy' := hide hy
      rw [hy] at hc
      clear hy
      have hs' := HS.out
      have t1 := and_n y f (by omega) (by omega)
      have t2 := and_n y e (by omega) (by omega)
      have t3 := and_n a y (by omega) (by omega)
      have t4 := andNot_n s y (by omega) (by omega)
      have t5 := and_n b (ndn s y) (by omega) (by have := ndn_le s y; omega)
      have l3 : a &&& y ≤ a := Nat.and_le_left
      have l5 : b &&& ndn s y ≤ b := Nat.and_le_left
      have l4 := ndn_le s y
      obtain ⟨p, hp⟩ : ∃ p, p = y &&& f := ⟨_, rfl⟩
      obtain ⟨q, hq⟩ : ∃ q, q = y &&& e := ⟨_, rfl⟩
      rw [← hp] at t1
      rw [← hq] at t2
      have hpq := hide (show agR f e (nth (lnL m xs) k).toNat = (decide (p = f) && decide (q = 0)) from by
        have hty : (nth (lnL m xs) k).toNat = y := by rw [hy'.out]; simp
        rw [hty, hp, hq]; rfl)
      have hty := hide (show (nth (lnL m xs) k).toNat = y by rw [hy'.out]; simp)
      clear hp hq
      by_cases g1 : p = f
      · have d1 : ((p : Int) == (f : Int)) = true := by simp [g1]
        by_cases g2 : q = 0
        · have d2 : ((q : Int) == 0) = true := by simp [g2]
          have HN := hide (show rtT s f e (lnL m xs) (k + 1) = (a &&& y, b &&& ndn s y, true) from by
            rw [rtT_yes (by rw [hpq.out]; simp [g1, g2]), HT.out, hty.out])
          clear g1 g2
          go_wp2_with fail
          go_round
          case rel => exact ⟨k + 1, a &&& y, b &&& ndn s y, true, by omega, by go_num, rfl, rfl, rfl, HN, by omega, by omega⟩
          case measure => simp [intOf]; omega
        · have d2 : ((q : Int) == 0) = false := by simpa using g2
          have HN := hide (show rtT s f e (lnL m xs) (k + 1) = (a, b, o) from by
            rw [rtT_no (by rw [hpq.out]; simp [g1, g2]), HT.out])
          clear g1 g2
          go_wp2_with fail
          go_round
          case rel => exact ⟨k + 1, a, b, o, by omega, by go_num, rfl, rfl, rfl, HN, by omega, by omega⟩
          case measure => simp [intOf]; omega
      · have d1 : ((p : Int) == (f : Int)) = false := by simp; omega
        have HN := hide (show rtT s f e (lnL m xs) (k + 1) = (a, b, o) from by
          rw [rtT_no (by rw [hpq.out]; simp [g1]), HT.out])
        clear g1
        go_wp2_with fail
        go_round
        case rel => exact ⟨k + 1, a, b, o, by omega, by go_num, rfl, rfl, rfl, HN, by omega, by omega⟩
        case measure => simp [intOf]; omega
    · obtain rfl : k = n1 := by omega
      cases o with
      | true =>
        have HR := hide (show (a, b, true) = (u, v, ok) from by rw [← HU'.out]; unfold rtR; rw [HT.out]; simp)
        go_wp2_with fail
        go_ret3
        have e1 := HR.out
        simp only [Prod.mk.injEq] at e1
        obtain ⟨rfl, rfl, rfl⟩ := e1
        have e2 := HK.out
        simp only [if_true] at e2
        subst e2
        exact ⟨rfl, b1⟩
      | false =>
        have HR := hide (show ((0 : Nat), (0 : Nat), false) = (u, v, ok) from by rw [← HU'.out]; unfold rtR; rw [HT.out]; simp)
        go_wp2_with fail
        go_ret3
        have e1 := HR.out
        simp only [Prod.mk.injEq] at e1
        obtain ⟨rfl, rfl, rfl⟩ := e1
        have e2 : kk = 4 := by have := HK.out; simpa using this
        subst e2
        exact ⟨rfl, b1⟩
end Go.Proofs.YtjhicbiacnkpaaaDoor
