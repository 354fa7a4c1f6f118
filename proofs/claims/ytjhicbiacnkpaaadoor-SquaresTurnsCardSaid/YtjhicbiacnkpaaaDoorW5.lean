/-
  The reference's blocks, lines and clues.
-/
import Derived.Test.YtjhicbiacnkpaaaDoorW4
import Derived.Lib.RabinKarpLaws
namespace Go.Proofs.YtjhicbiacnkpaaaDoor
open Go.RowKit

set_option maxHeartbeats 400000 in
theorem same_any (A A' : Option Addr) (n c n' c' : Nat) (xs ys : List Int) (w : World) (B B' : Nat) (h : Ints w B A n c xs) (h' : Ints w B' A' n' c' ys) :
    Calls Tryd.prog 65 #[.slice A n c, .slice A' n' c'] w fun e w' => e = .returned (.bool (decide (xs = ys))) ∧ w = w' := by
  have hm := h.most; have hcap := h.cap; have hm' := h'.most; have hcap' := h'.cap
  have hl := hide h.len; have hl' := hide h'.len
  by_cases hn : n = n'
  · subst hn
    go_enter Tryd.func65, Tryd.ntmps65
    go_wp2
    go_loop [5, 6, 14] (fun _ _ i => ∃ k : Nat, k ≤ n ∧ i = .int .i64 k ∧ Hid (EqTo xs ys k)) (fun _ _ i => n - (intOf i).toNat)
    case atStart => exact ⟨0, Nat.zero_le _, rfl, hide (by intro j h1; omega)⟩
    case round =>
      obtain ⟨k, hk, rfl, HA⟩ := hrel
      by_cases hlt : k < n
      · obtain ⟨b, off, rfl, hb, hc⟩ := h.at_ k hlt
        obtain ⟨b1, off1, rfl, hb1, hc1⟩ := h'.at_ k hlt
        by_cases he : nth xs k = nth ys k
        · have he' : (nth xs k != nth ys k) = false := by simp [he]
          have HE := hide he; clear he
          go_wp2
          go_round
          case rel => exact ⟨k + 1, by omega, by go_num, hide (by
            intro j hj
            rcases Nat.lt_or_ge j k with h1 | h1
            · exact HA.out j h1
            · obtain rfl : j = k := by omega
              exact HE.out)⟩
          case measure => simp [intOf]; omega
        · have he' : (nth xs k != nth ys k) = true := by simp [he]
          have HE := hide he; clear he
          go_wp2
          go_ret
          exact ⟨ret_bool (by
            symm; rw [decide_eq_false_iff_not]; intro e; exact HE.out (by rw [e])), rfl⟩
      · go_wp2
        go_ret
        obtain rfl : k = n := by omega
        exact ⟨ret_bool (by
          symm; rw [decide_eq_true_eq]; exact eq_of_to (by rw [hl.out, hl'.out]) (by rw [hl.out]; exact HA.out)), rfl⟩
  · have hn' : ((n : Int) != (n' : Int)) = true := by simp; omega
    go_enter Tryd.func65, Tryd.ntmps65
    go_wp2
    go_ret
    exact ⟨ret_bool (by
      symm; rw [decide_eq_false_iff_not]; intro e
      have e1 := hl.out; have e2 := hl'.out
      rw [e] at e1; omega), rfl⟩
theorem same_b (A A' : Option Addr) (n c n' c' : Nat) (xs ys : List Int) (w : World) (B B' : Nat) (h : Ints w B A n c xs) (h' : Ints w B' A' n' c' ys) (b : Bool) (hb : Hid (decide (xs = ys) = b)) :
    Calls Tryd.prog 65 #[.slice A n c, .slice A' n' c'] w fun e w' => e = .returned (.bool b) ∧ w = w' := by
  rw [← hb.out]; exact same_any A A' n c n' c' xs ys w B B' h h'

theorem bit_at (l k : Nat) : ∃ e r : Nat, (l : Int) / 2 ^ k = (e : Int) ∧ (l < 9223372036854775808 → bits BinOp.and IntKind.i64 (e : Int) 1 = (r : Int)) ∧ Hid (r = l / 2 ^ k % 2) ∧ r < 2 := by
  refine ⟨l / 2 ^ k, l / 2 ^ k % 2, by simp, fun h => ?_, hide rfl, by omega⟩
  exact and_one _ (Nat.lt_of_le_of_lt (Nat.div_le_self _ _) h)
theorem rb_one {l k : Nat} (h : l / 2 ^ k % 2 = 1) : rbT l (k + 1) = ((rbT l k).1, (rbT l k).2 + 1) := by
  show rbS l (rbT l k) k = _
  unfold rbS; rw [if_pos h]
theorem rb_end {l k : Nat} (h : ¬ l / 2 ^ k % 2 = 1) (hr : 0 < (rbT l k).2) : rbT l (k + 1) = ((rbT l k).1 ++ [((rbT l k).2 : Int)], 0) := by
  show rbS l (rbT l k) k = _
  unfold rbS; rw [if_neg h, if_pos hr]
theorem rb_no {l k : Nat} (h : ¬ l / 2 ^ k % 2 = 1) (hr : ¬ 0 < (rbT l k).2) : rbT l (k + 1) = ((rbT l k).1, 0) := by
  show rbS l (rbT l k) k = _
  unfold rbS; rw [if_neg h, if_neg hr]

set_option maxHeartbeats 1000000 in
theorem RBlocks_any (m : Nat) (h1 : 1 ≤ m) (h2 : m ≤ 5) (l : Nat) (hl : Hid (l < 2 ^ m)) (w : World) :
    Calls Tryd.prog 23 #[.int .i64 m, .int .i64 l] w fun e w' => ∃ v, e = .returned v ∧ Owned w' w.heap.size v (bl l) ∧ Below w.heap.size w w' := by
  have hl' : l < 32 := by have := hl.out; have := pow_le (n := m) (by omega); omega
  go_enter Tryd.func23, Tryd.ntmps23
  go_wp2_with fail
  go_loopw [5, 6, 7, 10] (fun v u _ i wr => ∃ (k run : Nat) (ys : List Int), k ≤ m + 1 ∧ i = .int .i64 k ∧ u = .int .i64 run ∧ run ≤ k ∧ ys.length ≤ k ∧ Hid (rbT l k = (ys, run)) ∧ Owned wr w.heap.size v ys ∧ Below w.heap.size w wr) (fun _ _ _ i _ => m + 1 - (intOf i).toNat)
  case atStart => exact ⟨0, 0, [], Nat.zero_le _, rfl, rfl, Nat.le_refl _, Nat.le_refl _, hide rfl, World.ownsRow_nil _ _ _ _, Below.refl _ _⟩
  case round =>
    obtain ⟨k, run, ys, hk, rfl, rfl, hr, hy, HR, ho, hb⟩ := hrel
    have hlen := hide (show ys.length ≤ 100000 by omega)
    have hbase := hb.size
    by_cases hlt : k < m + 1
    · have d0 : decide ((k : Int) < (m : Int) + 1) = true := by simp; omega
      obtain ⟨e, r, d1, d2, hre, hr2⟩ := bit_at l k
      have d2 := d2 (by omega)
      by_cases hone : r = 1
      · have d3 : ((r : Int) == 1) = true := by simp; omega
        have HN := hide (show rbT l (k + 1) = (ys, run + 1) from by rw [rb_one (by rw [← hre.out]; exact hone), HR.out])
        go_wp2_with fail
        go_roundw
        case rel => exact ⟨k + 1, run + 1, ys, by omega, by go_num, by go_num, by omega, by omega, HN, ho, hb⟩
        case measure => simp [intOf]; omega
      · have d3 : ((r : Int) == 1) = false := by simp; omega
        by_cases hrun : 0 < run
        · have d4 : decide (0 < (run : Int)) = true := by simp; omega
          have HN := hide (show rbT l (k + 1) = (ys ++ [(run : Int)], 0) from by rw [rb_end (by rw [← hre.out]; exact hone) (by rw [HR.out]; exact hrun), HR.out])
          go_wp2_with (at_builtin; refine wpList_app1 rfl _ _ rfl rfl rfl ho (unhide hlen) hbase ?_; intro v' w3 ho3 hb3)
          go_roundw
          case rel => exact ⟨k + 1, 0, ys ++ [(run : Int)], by omega, by go_num, rfl, by omega, by simp; omega, HN, ho3, hb.trans hb3⟩
          case measure => simp [intOf]; omega
        · have d4 : decide (0 < (run : Int)) = false := by simp; omega
          have HN := hide (show rbT l (k + 1) = (ys, 0) from by rw [rb_no (by rw [← hre.out]; exact hone) (by rw [HR.out]; exact hrun), HR.out])
          go_wp2_with fail
          go_roundw
          case rel => exact ⟨k + 1, 0, ys, by omega, by go_num, rfl, by omega, by omega, HN, ho, hb⟩
          case measure => simp [intOf]; omega
    · have d0 : decide ((k : Int) < (m : Int) + 1) = false := by simp; omega
      have HE := hide (show ys = bl l from by
        have e : k = m + 1 := by omega
        have := rb_all m (by omega) l hl.out
        rw [← e, HR.out] at this; exact this)
      go_wp2_with fail
      go_ret
      exact ⟨_, rfl, by rw [← HE.out]; exact ho, hb⟩
theorem RBlocks_ints (m : Nat) (h1 : 1 ≤ m) (h2 : m ≤ 5) (l : Nat) (hl : Hid (l < 2 ^ m)) (w : World) :
    Calls Tryd.prog 23 #[.int .i64 m, .int .i64 l] w fun e w' => ∃ A n c, e = .returned (.slice A n c) ∧ Owned w' w.heap.size (.slice A n c) (bl l) ∧ Ints w' w'.heap.size A n c (bl l) ∧ Below w.heap.size w w' :=
  (RBlocks_any m h1 h2 l hl w).mono fun _ _ ⟨_, he, ho, hb⟩ => by
    obtain ⟨A', c', rfl, hi⟩ := ho.ints
    exact ⟨A', _, c', he, ho, hi, hb⟩

set_option maxHeartbeats 1000000 in
theorem RLines_any (m : Nat) (h1 : 1 ≤ m) (h2 : m ≤ 5) (A : Option Addr) (n c : Nat) (xs : List Int) (w : World) (h : Ints w w.heap.size A n c xs) :
    Calls Tryd.prog 26 #[.int .i64 m, .slice A n c] w fun e w' => ∃ v, e = .returned v ∧ Owned w' w.heap.size v (lnL m xs) ∧ Below w.heap.size w w' := by
  obtain ⟨P, hP, q1, q2, q3⟩ := pow_nat h1 h2
  go_enter Tryd.func26, Tryd.ntmps26
  go_wp2_with fail
  go_loopw [5, 6, 9] (fun v _ i wr => ∃ (j : Nat), j ≤ P ∧ i = .int .i64 j ∧ Owned wr w.heap.size v (lnT xs j) ∧ Below w.heap.size w wr) (fun _ _ i _ => P - (intOf i).toNat)
  case atStart => exact ⟨0, Nat.zero_le _, rfl, World.ownsRow_nil _ _ _ _, Below.refl _ _⟩
  case round =>
    obtain ⟨j, hj, rfl, ho, hb⟩ := hrel
    have hlen : (lnT xs j).length ≤ 100000 := by have := lnT_len xs j; omega
    have HLEN := hide hlen; clear hlen
    by_cases hlt : j < P
    · have hbs := hb.size
      have hir := hide (h.below hb)
      have hj2 := hide (show j < 2 ^ m by rw [← hP.out]; exact hlt)
      by_cases he : bl j = xs
      · have HY := hide (lnT_yes he)
        have HE := hide (show decide (bl j = xs) = true by simpa using he)
        clear he
        go_wp2_with fail
        refine (RBlocks_ints m h1 h2 j hj2 _).mono ?_
        rintro e w1 ⟨A1, n1, c1, rfl, ho1, hi1, hb1⟩
        go_wp2_with fail
        refine (same_b _ _ _ _ _ _ _ _ _ _ _ hi1 ((unhide hir).below (hb1.mono hbs)) true HE).mono ?_
        rintro e w2 ⟨rfl, rfl⟩
        have hb2 := hb.trans (hb1.mono hbs)
        have ho2 := ho.below hb1 (Nat.le_refl _)
        have hbase := hb2.size
        clear ho hb hb1 hi1 ho1 hir
        go_wp2_with (at_builtin; refine wpList_app1 rfl _ _ rfl rfl rfl ho2 (unhide HLEN) hbase ?_; intro v' w3 ho3 hb3)
        go_roundw
        case rel => exact ⟨j + 1, by omega, by go_num, by rw [HY.out]; exact ho3, hb2.trans hb3⟩
        case measure => simp [intOf]; omega
      · have HY := hide (lnT_no he)
        have HE := hide (show decide (bl j = xs) = false by simpa using he)
        clear he
        go_wp2_with fail
        refine (RBlocks_ints m h1 h2 j hj2 _).mono ?_
        rintro e w1 ⟨A1, n1, c1, rfl, ho1, hi1, hb1⟩
        go_wp2_with fail
        refine (same_b _ _ _ _ _ _ _ _ _ _ _ hi1 ((unhide hir).below (hb1.mono hbs)) false HE).mono ?_
        rintro e w2 ⟨rfl, rfl⟩
        have hb2 := hb.trans (hb1.mono hbs)
        have ho2 := ho.below hb1 (Nat.le_refl _)
        clear ho hb hb1 hi1 ho1 hir
        go_wp2_with fail
        go_roundw
        case rel => exact ⟨j + 1, by omega, by go_num, by rw [HY.out]; exact ho2, hb2⟩
        case measure => simp [intOf]; omega
    · have e : j = P := by omega
      have HL := hide (show lnT xs j = lnL m xs from by unfold lnL; rw [← hP.out, e])
      clear e
      go_wp2_with fail
      go_ret
      exact ⟨_, rfl, by rw [← HL.out]; exact ho, hb⟩
theorem RLines_ints (m : Nat) (h1 : 1 ≤ m) (h2 : m ≤ 5) (A : Option Addr) (n c : Nat) (xs : List Int) (w : World) (h : Ints w w.heap.size A n c xs) :
    Calls Tryd.prog 26 #[.int .i64 m, .slice A n c] w fun e w' => ∃ A' n' c', e = .returned (.slice A' n' c') ∧ Hid (n' = (lnL m xs).length) ∧ Ints w' w'.heap.size A' n' c' (lnL m xs) ∧ Below w.heap.size w w' :=
  (RLines_any m h1 h2 A n c xs w h).mono fun _ _ ⟨_, he, ho, hb⟩ => by
    obtain ⟨A', c', rfl, hi⟩ := ho.ints
    exact ⟨A', _, c', he, hide rfl, hi, hb⟩

set_option maxHeartbeats 400000 in
theorem RClue_any (x : Int) (A : Option Addr) (n c : Nat) (xs : List Int) (w : World) (h : Ints w w.heap.size A n c xs) :
    Calls Tryd.prog 24 #[.int .i64 x, .slice A n c] w fun e w' => e = .returned (.bool (clB x xs)) ∧ Below w.heap.size w w' := by
  by_cases hx : sz x = true
  · obtain ⟨m, rfl, h1, h2⟩ := sz_nat hx
    have HX := hide hx; clear hx
    go_enter Tryd.func24, Tryd.ntmps24
    go_wp2_with fail
    refine (RSize_is _ _ true HX).mono ?_
    rintro e w' ⟨rfl, rfl⟩
    go_wp2_with fail
    refine (RLines_ints m h1 h2 _ _ _ _ _ h).mono ?_
    rintro e w1 ⟨A1, n1, c1, rfl, hn, hi1, hb1⟩
    by_cases hp : 0 < n1
    · have d : decide (0 < (n1 : Int)) = true := by simp; omega
      have HF := hide (show clB m xs = true from by unfold clB; rw [HX.out, cl_lnL (by omega), ← hn.out]; simp; omega)
      go_wp2_with fail
      go_ret
      exact ⟨ret_bool HF.out.symm, hb1⟩
    · have d : decide (0 < (n1 : Int)) = false := by simp; omega
      have HF := hide (show clB m xs = false from by unfold clB; rw [HX.out, cl_lnL (by omega), ← hn.out]; simp; omega)
      go_wp2_with fail
      go_ret
      exact ⟨ret_bool HF.out.symm, hb1⟩
  · have HX := hide (show sz x = false from by simpa using hx)
    clear hx
    go_enter Tryd.func24, Tryd.ntmps24
    go_wp2_with fail
    refine (RSize_is _ _ false HX).mono ?_
    rintro e w' ⟨rfl, rfl⟩
    go_wp2_with fail
    go_ret
    exact ⟨ret_bool (by unfold clB; rw [HX.out]; rfl), Below.refl _ _⟩

theorem bl_23 : bl 23 = [3, 1] := by decide +kernel
theorem ints_two (w : World) (a b : Int) : Ints (w.alloc (.cells #[.int .i64 a, .int .i64 b] 3)) (w.heap.size + 1) (some ⟨w.heap.size, 0, none⟩) 2 2 [a, b] :=
  ⟨rfl, Nat.le_refl _, by omega, (fun e => by cases e), fun k hk => ⟨w.heap.size, 0, rfl, by omega, by
    rcases (show k = 0 ∨ k = 1 by omega) with rfl | rfl
    · rw [World.cell?_alloc_at _ _ _ _ rfl]; rfl
    · rw [World.cell?_alloc_at _ _ _ _ rfl]; rfl⟩⟩
set_option maxHeartbeats 400000 in
theorem awake_any (w : World) (ht : Tab w) : Calls Tryd.prog 25 #[] w fun e w' => e = .returned (.bool true) ∧ Below w.heap.size w w' := by
  have hl := hide (show (23 : Nat) < 2 ^ 5 by decide)
  have HE := hide (show decide (bl 23 = [3, 1]) = true by rw [bl_23]; rfl)
  have hB := Blocks_ok 5 (by omega) (by omega) 23 hl w ht
  go_enter Tryd.func25, Tryd.ntmps25
  go_wp2_with fail
  refine hB.mono ?_
  rintro e w1 ⟨A1, n1, c1, rfl, hi1, hb1⟩
  have hb2 := hb1.trans ((Below.refl w1.heap.size w1).alloc (Nat.le_refl _) (.cells #[.int .i64 3, .int .i64 1] 3) |>.mono hb1.size)
  have hi2 := hi1.alloc (Nat.le_refl _) (.cells #[.int .i64 3, .int .i64 1] 3)
  have hi3 := ints_two w1 3 1
  have hs := hb2.size
  go_wp2_with fail
  refine (equal_b _ _ _ _ _ _ _ _ _ _ _ hi2 hi3 true HE).mono ?_
  rintro e w2 ⟨rfl, hd⟩
  go_wp2_with fail
  go_ret
  exact ⟨rfl, hb2.trans (hd.mono hs)⟩
end Go.Proofs.YtjhicbiacnkpaaaDoor
