/-
  The law CountsTwo walked.
-/
import Derived.Test.YtabgifpenegofaaZ7
import Derived.Test.YtabgifpenegofaaL1
namespace Go.Proofs.Ytabgifpenegofaa
open Go.RowKit

theorem run_min4 (x y z u : Int) (W : World) : (Builtin.min_ #[3, 3, 3, 3] 3 #[.int .i64 x, .int .i64 y, .int .i64 z, .int .i64 u]).run Try.prog W = .ok (.int .i64 (min (min x y) (min z u))) W := by
  have h : (Builtin.min_ #[3, 3, 3, 3] 3 #[.int .i64 x, .int .i64 y, .int .i64 z, .int .i64 u]).run Try.prog W = .ok (.int .i64 (if u < (if z < (if y < x then y else x) then z else (if y < x then y else x)) then u else (if z < (if y < x then y else x) then z else (if y < x then y else x)))) W := by
    simp [Builtin.min_, Builtin.min2, List.foldlM]
    repeat (first | rfl | split)
  rw [h]
  congr 2
  repeat (first | split | omega)
theorem two_sl (w : World) (a b c d : Int) : ∃ W, (w.alloc (.cells #[.int .i64 a, .int .i64 b] 3)).alloc (.cells #[.int .i64 c, .int .i64 d] 3) = W ∧ Hid (Ints W W.heap.size (some ⟨w.heap.size, 0, none⟩) 2 2 [a, b]) ∧ Hid (Ints W W.heap.size (some ⟨w.heap.size + 1, 0, none⟩) 2 2 [c, d]) ∧ Hid (Below w.heap.size w W) := by
  have i1 := ((ints_2 w a b).alloc (by simp) (.cells #[.int .i64 c, .int .i64 d] 3))
  have i2 := ints_2 (w.alloc (.cells #[.int .i64 a, .int .i64 b] 3)) c d
  rw [World.size_alloc] at i2
  refine ⟨_, rfl, hide (i1.more (by simp)), hide (by simpa using i2.more (by simp)), hide (((Below.refl _ w).alloc (Nat.le_refl _) _).alloc (by simp) _)⟩
theorem one_sl (w : World) (a b : Int) : ∃ W, w.alloc (.cells #[.int .i64 a, .int .i64 b] 3) = W ∧ Hid (Ints W W.heap.size (some ⟨w.heap.size, 0, none⟩) 2 2 [a, b]) ∧ Hid (Below w.heap.size w W) :=
  ⟨_, rfl, hide ((ints_2 w a b).more (by simp)), hide ((Below.refl _ w).alloc (Nat.le_refl _) _)⟩
set_option maxRecDepth 100000 in
set_option maxHeartbeats 4000000 in
theorem LTwo_any (a b c d : Int) (w : World) :
    Calls Try.prog 17 #[.int .i64 a, .int .i64 b, .int .i64 c, .int .i64 d] w fun e w' => e = .returned (.bool true) ∧ Below w.heap.size w w' := by
  obtain ⟨W1, e1, I1, J1, HB1⟩ := two_sl w a b c d
  cases hx : areC 16 [a, b] with
  | false =>
    have HX := hide hx
    have HXY := hide (show (areC 16 [a, b] && areC 16 [c, d]) = false from by rw [hx]; rfl)
    clear hx
    go_enter Try.func17, Try.ntmps17
    go_wp2_with fail
    refine (Count_no _ _ _ _ _ _ _ _ _ (unhide I1) (unhide J1) HXY).mono ?_
    rintro e w2 ⟨rfl, rfl⟩
    clear e1
    obtain ⟨W2, e2, I2, HB2⟩ := one_sl W1 a b
    go_wp2_with (go_at_call 33; refine (RMargin_is _ _ _ _ _ _ (unhide I2) _ HX).mono ?_; rintro e w' ⟨rfl, rfl⟩; clear e2)
    refine (awake_any _).mono ?_
    rintro e w5 ⟨rfl, b5⟩
    have HB5 := hide (((unhide HB1).trans ((unhide HB2).mono (unhide HB1).size)).trans (b5.mono (((unhide HB1).trans ((unhide HB2).mono (unhide HB1).size))).size))
    go_wp2_with fail
    go_ret
    exact ⟨rfl, unhide HB5⟩
  | true =>
    have HX := hide hx
    cases hy : areC 16 [c, d] with
    | false =>
      have HY := hide hy
      have HXY := hide (show (areC 16 [a, b] && areC 16 [c, d]) = false from by rw [hx, hy]; rfl)
      clear hx hy
      go_enter Try.func17, Try.ntmps17
      go_wp2_with fail
      refine (Count_no _ _ _ _ _ _ _ _ _ (unhide I1) (unhide J1) HXY).mono ?_
      rintro e w2 ⟨rfl, rfl⟩
      clear e1
      obtain ⟨W2, e2, I2, HB2⟩ := one_sl W1 a b
      obtain ⟨W3, e3, I3, HB3⟩ := one_sl W2 c d
      go_wp2_with (first
        | (go_at_call 33; (with_reducible refine (RMargin_is _ _ _ [a, b] _ _ (unhide I2) _ HX).mono ?_); rintro e w' ⟨rfl, rfl⟩; clear e2)
        | (go_at_call 33; (with_reducible refine (RMargin_is _ _ _ [c, d] _ _ (unhide I3) _ HY).mono ?_); rintro e w' ⟨rfl, rfl⟩; clear e3))
      refine (awake_any _).mono ?_
      rintro e w5 ⟨rfl, b5⟩
      have HB4 := hide (((unhide HB1).trans ((unhide HB2).mono (unhide HB1).size)))
      have HB4b := hide ((unhide HB4).trans ((unhide HB3).mono (unhide HB4).size))
      have HB5 := hide ((unhide HB4b).trans (b5.mono (unhide HB4b).size))
      go_wp2_with fail
      go_ret
      exact ⟨rfl, unhide HB5⟩
    | true =>
      have HY := hide hy
      have ba := (areC_nth hx (by omega)).2 0; have bb := (areC_nth hx (by omega)).2 1
      have bc := (areC_nth hy (by omega)).2 0; have bd := (areC_nth hy (by omega)).2 1
      have hs := (areC_iff.1 hx).2.2.2
      have ht := (areC_iff.1 hy).2.2.2
      rw [show nth [a, b] 0 = a from rfl] at ba
      rw [show nth [a, b] 1 = b from rfl] at bb
      rw [show nth [c, d] 0 = c from rfl] at bc
      rw [show nth [c, d] 1 = d from rfl] at bd
      simp at hs ht
      obtain ⟨k, hk⟩ : ∃ k, (famL (nth [a, b]) (nth [c, d])).length = k := ⟨_, rfl⟩
      have HK := hide hk
      have HKV := hide (show if a + b = c + d then (k : Int) = 1 + min (min a b) (min c d) else k = 0 from by
        rw [← hk]
        split
        · rename_i hab
          obtain ⟨na, rfl⟩ := Int.eq_ofNat_of_zero_le ba.1
          obtain ⟨nb, rfl⟩ := Int.eq_ofNat_of_zero_le bb.1
          obtain ⟨nc, rfl⟩ := Int.eq_ofNat_of_zero_le bc.1
          obtain ⟨nd, rfl⟩ := Int.eq_ofNat_of_zero_le bd.1
          rw [fam_two na nb nc nd (by omega) (by omega)]
          omega
        · rename_i hab
          exact fam_none a b c d ba.1 bb.1 bc.1 bd.1 hab)
      clear hx hy hk
      have hkb : (k : Int) ≤ 17 := by have := HKV.out; split at this <;> omega
      go_enter Try.func17, Try.ntmps17
      go_wp2_with fail
      refine (Count_ok _ _ _ _ _ _ _ _ _ (unhide I1) (unhide J1) HX HY k HK).mono ?_
      rintro e w2 ⟨rfl, b2⟩
      have HBa := hide ((unhide HB1).trans (b2.mono (unhide HB1).size))
      clear e1 b2
      obtain ⟨W2, e2, I2, HB2⟩ := one_sl w2 a b
      obtain ⟨W3, e3, I3, HB3⟩ := one_sl W2 c d
      have HB4 := hide (((unhide HBa).trans ((unhide HB2).mono (unhide HBa).size)))
      have HB5 := hide ((unhide HB4).trans ((unhide HB3).mono (unhide HB4).size))
      by_cases hab : a + b = c + d
      · have hab2 : (a + b != c + d) = false := by simp [hab]
        have hkk : (k : Int) = 1 + min (min a b) (min c d) := by have := HKV.out; rwa [if_pos hab] at this
        have hmin := fun W => run_min4 a b c d W
        obtain ⟨mn, hmn⟩ : ∃ mn, min (min a b) (min c d) = mn := ⟨_, rfl⟩
        rw [hmn] at hmin hkk
        clear hmn
        go_wp2_with (first
          | (go_at_call 33; (with_reducible refine (RMargin_is _ _ _ [a, b] _ _ (unhide I2) _ HX).mono ?_); rintro e w' ⟨rfl, rfl⟩; clear e2)
          | (go_at_call 33; (with_reducible refine (RMargin_is _ _ _ [c, d] _ _ (unhide I3) _ HY).mono ?_); rintro e w' ⟨rfl, rfl⟩; clear e3))
        refine (awake_any _).mono ?_
        rintro e w5 ⟨rfl, b5⟩
        have HB6 := hide ((unhide HB5).trans (b5.mono (unhide HB5).size))
        go_wp2_with fail
        go_ret
        exact ⟨rfl, unhide HB6⟩
      · have hab2 : (a + b != c + d) = true := by simp [hab]
        obtain rfl : k = 0 := by have := HKV.out; rwa [if_neg hab] at this
        go_wp2_with (first
          | (go_at_call 33; (with_reducible refine (RMargin_is _ _ _ [a, b] _ _ (unhide I2) _ HX).mono ?_); rintro e w' ⟨rfl, rfl⟩; clear e2)
          | (go_at_call 33; (with_reducible refine (RMargin_is _ _ _ [c, d] _ _ (unhide I3) _ HY).mono ?_); rintro e w' ⟨rfl, rfl⟩; clear e3))
        refine (awake_any _).mono ?_
        rintro e w5 ⟨rfl, b5⟩
        have HB6 := hide ((unhide HB5).trans (b5.mono (unhide HB5).size))
        go_wp2_with fail
        go_ret
        exact ⟨rfl, unhide HB6⟩
end Go.Proofs.Ytabgifpenegofaa
