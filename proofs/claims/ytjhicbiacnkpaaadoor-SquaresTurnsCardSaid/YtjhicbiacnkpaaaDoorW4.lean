/-
  lines, Lines, Blocks of the program.
-/
import Derived.Test.YtjhicbiacnkpaaaDoorW3
namespace Go.Proofs.YtjhicbiacnkpaaaDoor
open Go.RowKit

set_option maxHeartbeats 1000000 in
theorem lines_any (m : Nat) (h1 : 1 ≤ m) (h2 : m ≤ 5) (A : Option Addr) (n c : Nat) (xs : List Int) (w : World) (h : Ints w w.heap.size A n c xs) (ht : Tab w) :
    Calls Tryd.prog 63 #[.int .i64 m, .slice A n c] w fun e w' => ∃ v, e = .returned v ∧ Owned w' w.heap.size v (lnL m xs) ∧ Below w.heap.size w w' := by
  obtain ⟨P, hP, q1, q2, q3⟩ := pow_nat h1 h2
  go_enter Tryd.func63, Tryd.ntmps63
  go_wp2_with fail
  go_loopw [5, 6, 9] (fun v _ i wr => ∃ (j : Nat), j ≤ P ∧ i = .int .i64 j ∧ Owned wr w.heap.size v (lnT xs j) ∧ Below w.heap.size w wr) (fun _ _ i _ => P - (intOf i).toNat)
  case atStart => exact ⟨0, Nat.zero_le _, rfl, World.ownsRow_nil _ _ _ _, Below.refl _ _⟩
  case round =>
    obtain ⟨j, hj, rfl, ho, hb⟩ := hrel
    have hlen : (lnT xs j).length ≤ 100000 := by have := lnT_len xs j; omega
    have HLEN := hide hlen; clear hlen
    by_cases hlt : j < P
    · have htr := hide (ht.on hb)
      have hbs := hb.size
      have hir := hide (h.below hb)
      by_cases he : bl j = xs
      · have HY := hide (lnT_yes he)
        have HE := hide (show decide (bl j = xs) = true by simpa using he)
        clear he
        go_wp2_with fail
        refine (blocks_ints j (by omega) _ (unhide htr)).mono ?_
        rintro e w1 ⟨A1, n1, c1, rfl, ho1, hi1, hb1⟩
        go_wp2_with fail
        refine (equal_b _ _ _ _ _ _ _ _ _ _ _ hi1 ((unhide hir).below (hb1.mono hbs)) true HE).mono ?_
        rintro e w2 ⟨rfl, hd⟩
        have hb2 := hb.trans ((hb1.trans (hd.mono hb1.size)).mono hbs)
        have ho2 := ho.below (hb1.trans (hd.mono hb1.size)) (Nat.le_refl _)
        clear hd
        have hbase := hb2.size
        clear ho hb hb1 hi1 ho1 hir htr
        go_wp2_with (at_builtin; refine wpList_app1 rfl _ _ rfl rfl rfl ho2 (unhide HLEN) hbase ?_; intro v' w3 ho3 hb3)
        go_roundw
        case rel => exact ⟨j + 1, by omega, by go_num, by rw [HY.out]; exact ho3, hb2.trans hb3⟩
        case measure => simp [intOf]; omega
      · have HY := hide (lnT_no he)
        have HE := hide (show decide (bl j = xs) = false by simpa using he)
        clear he
        go_wp2_with fail
        refine (blocks_ints j (by omega) _ (unhide htr)).mono ?_
        rintro e w1 ⟨A1, n1, c1, rfl, ho1, hi1, hb1⟩
        go_wp2_with fail
        refine (equal_b _ _ _ _ _ _ _ _ _ _ _ hi1 ((unhide hir).below (hb1.mono hbs)) false HE).mono ?_
        rintro e w2 ⟨rfl, hd⟩
        have hb2 := hb.trans ((hb1.trans (hd.mono hb1.size)).mono hbs)
        have ho2 := ho.below (hb1.trans (hd.mono hb1.size)) (Nat.le_refl _)
        clear hd
        clear ho hb hb1 hi1 ho1 hir htr
        go_wp2_with fail
        go_roundw
        case rel => exact ⟨j + 1, by omega, by go_num, by rw [HY.out]; exact ho2, hb2⟩
        case measure => simp [intOf]; omega
    · have e : j = P := by omega
      have HL := hide (show lnT xs j = lnL m xs from by unfold lnL; rw [← hP.out, e])
      clear e
      go_wp2_with fail
      go_ret
      exact ⟨_, rfl, by rw [← HL.out]; exact ho, hb⟩
theorem lines_ints (m : Nat) (h1 : 1 ≤ m) (h2 : m ≤ 5) (A : Option Addr) (n c : Nat) (xs : List Int) (w : World) (h : Ints w w.heap.size A n c xs) (ht : Tab w) :
    Calls Tryd.prog 63 #[.int .i64 m, .slice A n c] w fun e w' => ∃ A' n' c', e = .returned (.slice A' n' c') ∧ Ints w' w'.heap.size A' n' c' (lnL m xs) ∧ Below w.heap.size w w' :=
  (lines_any m h1 h2 A n c xs w h ht).mono fun _ _ ⟨_, he, ho, hb⟩ => by
    obtain ⟨A', c', rfl, hi⟩ := ho.ints
    exact ⟨A', _, c', he, hi, hb⟩

set_option maxHeartbeats 400000 in
theorem Lines_ok (m : Nat) (h1 : 1 ≤ m) (h2 : m ≤ 5) (A : Option Addr) (n c : Nat) (xs : List Int) (w : World) (h : Ints w w.heap.size A n c xs) (ht : Tab w) (hc : Hid (clB m xs = true)) :
    Calls Tryd.prog 19 #[.int .i64 m, .slice A n c] w fun e w' => ∃ A' n' c', e = .returned (.tuple #[.slice A' n' c', .int .i64 0]) ∧ Ints w' w'.heap.size A' n' c' (lnL m xs) ∧ Below w.heap.size w w' := by
  have HB : Hid (sz (m : Int) = true) := hide (sz_iff.2 ⟨by omega, by omega⟩)
  go_enter Tryd.func19, Tryd.ntmps19
  go_wp2_with fail
  refine (isClue_any _ (by omega) _ _ _ _ _ _ h).mono ?_
  rintro e w' ⟨rfl, rfl⟩
  rw [hc.out]
  go_wp2_with fail
  refine (lines_ints m h1 h2 _ _ _ _ _ h ht).mono ?_
  rintro e w1 ⟨A1, n1, c1, rfl, hi1, hb1⟩
  go_wp2_with fail
  go_ret2
  exact ⟨_, _, _, rfl, hi1, hb1⟩
theorem Lines_no (x : Int) (hx : -9223372036854775808 ≤ x ∧ x ≤ 9223372036854775807) (A : Option Addr) (n c : Nat) (xs : List Int) (w : World) (h : Ints w w.heap.size A n c xs) (hc : Hid (clB x xs = false)) :
    Calls Tryd.prog 19 #[.int .i64 x, .slice A n c] w fun e w' => e = .returned (.tuple #[.slice none 0 0, .int .i64 2]) ∧ w = w' := by
  go_enter Tryd.func19, Tryd.ntmps19
  go_wp2_with fail
  refine (isClue_any _ hx _ _ _ _ _ _ h).mono ?_
  rintro e w' ⟨rfl, rfl⟩
  rw [hc.out]
  go_wp2_with fail
  go_ret2
  exact ⟨rfl, rfl⟩

set_option maxHeartbeats 400000 in
theorem Blocks_ok (m : Nat) (h1 : 1 ≤ m) (h2 : m ≤ 5) (l : Nat) (hl : Hid (l < 2 ^ m)) (w : World) (ht : Tab w) :
    Calls Tryd.prog 18 #[.int .i64 m, .int .i64 l] w fun e w' => ∃ A' n' c', e = .returned (.tuple #[.slice A' n' c', .int .i64 0]) ∧ Ints w' w'.heap.size A' n' c' (bl l) ∧ Below w.heap.size w w' := by
  have HB := hide (show ars m [(l : Int)] = true from by
    have hz : sz (m : Int) = true := sz_iff.2 ⟨by omega, by omega⟩
    unfold ars; rw [hz]; simp; exact (setB_iff h1 h2 l).2 ⟨l, rfl, hl.out⟩)
  have hl' : l < 32 := by have := hl.out; have := pow_le (n := m) (by omega); omega
  have hi := ints_one w l
  have hb0 := (Below.refl w.heap.size w).alloc (Nat.le_refl _) (.cells #[.int .i64 (l : Int)] 3)
  have ht0 := hide (ht.on hb0)
  go_enter Tryd.func18, Tryd.ntmps18
  go_wp2_with fail
  refine (areSets_any _ _ _ _ _ _ _ hi).mono ?_
  rintro e w' ⟨rfl, rfl⟩
  rw [HB.out]
  go_wp2_with fail
  refine (blocks_ints l hl' _ (unhide ht0)).mono ?_
  rintro e w1 ⟨A1, n1, c1, rfl, ho1, hi1, hb1⟩
  go_wp2_with fail
  go_ret2
  exact ⟨_, _, _, rfl, hi1, hb0.trans (hb1.mono (by simp))⟩
set_option maxHeartbeats 400000 in
theorem Blocks_no (x l : Int) (hc : Hid (setB x l = false)) (w : World) :
    Calls Tryd.prog 18 #[.int .i64 x, .int .i64 l] w fun e w' => e = .returned (.tuple #[.slice none 0 0, .int .i64 2]) ∧ Below w.heap.size w w' := by
  have HB := hide (show ars x [l] = false from by
    unfold ars; simp [hc.out])
  have hi := ints_one w l
  have hb0 := (Below.refl w.heap.size w).alloc (Nat.le_refl _) (.cells #[.int .i64 l] 3)
  go_enter Tryd.func18, Tryd.ntmps18
  go_wp2_with fail
  refine (areSets_any _ _ _ _ _ _ _ hi).mono ?_
  rintro e w' ⟨rfl, rfl⟩
  rw [HB.out]
  go_wp2_with fail
  go_ret2
  exact ⟨rfl, hb0⟩
end Go.Proofs.YtjhicbiacnkpaaaDoor
