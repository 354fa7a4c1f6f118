/-
  list of the law, slices.Equal at numbers; small lemmas.
-/
import Derived.Test.YtmgoonoifgcmnaaQ5
import Derived.IntWalk
import Derived.Laws.MakeOwn
namespace Go.Proofs.Ytmgoonoifgcmnaa
open Go.RowKit

theorem and_no {a b : Bool} (h : (a && b) = false) : a = false ∨ (a = true ∧ b = false) := by cases a <;> simp_all

theorem run_min' (x y : Int) (W : World) : (Builtin.min_ #[3, 3] 3 #[.int .i64 x, .int .i64 y]).run Try.prog W = .ok (.int .i64 (min x y)) W := by
  rw [run_min_int2 (P := Try.prog)]
  congr 2
  split <;> omega
theorem bool_not {b : Bool} (h : ¬ b = true) : b = false := by simpa using h

set_option maxHeartbeats 400000 in
theorem list_any (A : Option Addr) (n c : Nat) (xs : List Int) (w : World) (B : Nat) (h : Ints w B A n c xs) (hB : B ≤ w.heap.size) :
    Calls Try.prog 19 #[.slice A n c] w fun e w' => ∃ v, e = .returned v ∧ Owned w' w.heap.size v (xs.take 20) ∧ Below w.heap.size w w' := by
  have hm := h.most; have hcap := h.cap
  have hl := hide h.len
  by_cases h1 : n ≤ 20
  · have hx := hide (show xs.take 20 = xs from List.take_of_length_le (by have := hl.out; omega))
    go_enter Try.func19, Try.ntmps19
    go_wp2_with fail
    all_goals first | (exfalso; omega) | skip
    refine (clone_any _ _ _ _ _ _ h (by omega) hB).mono ?_
    rintro e w' ⟨v, rfl, ho, hb⟩
    go_wp2_with fail
    go_ret
    exact ⟨_, rfl, by rw [hx.out]; exact ho, hb⟩
  · have hcut := hide (h.cut (k := 20) (by omega))
    have h2 : 20 ≤ n := by omega
    go_enter Try.func19, Try.ntmps19
    go_wp2_with fail
    all_goals first | (exfalso; omega) | skip
    refine (clone_any _ _ _ _ _ _ (unhide hcut) (by omega) hB).mono ?_
    rintro e w' ⟨v, rfl, ho, hb⟩
    go_wp2_with fail
    go_ret
    exact ⟨_, rfl, ho, hb⟩
theorem list_ints (A : Option Addr) (n c : Nat) (xs : List Int) (w : World) (B : Nat) (h : Ints w B A n c xs) (hB : B ≤ w.heap.size) :
    Calls Try.prog 19 #[.slice A n c] w fun e w' => ∃ A' n' c', e = .returned (.slice A' n' c') ∧ Ints w' w'.heap.size A' n' c' (xs.take 20) ∧ Below w.heap.size w w' :=
  (list_any A n c xs w B h hB).mono fun _ _ ⟨_, he, ho, hb⟩ => by
    obtain ⟨A', c', rfl, hi⟩ := ho.ints
    exact ⟨A', _, c', he, hi, hb⟩

def EqTo (xs ys : List Int) (k : Nat) : Prop := ∀ j, j < k → nth xs j = nth ys j
theorem eq_of_to {xs ys : List Int} (hl : xs.length = ys.length) (h : EqTo xs ys xs.length) : xs = ys := by
  apply List.ext_getElem hl
  intro i h1 h2
  have := h i h1
  simpa [nth, List.getD, h1, h2] using this

set_option maxHeartbeats 400000 in
theorem equal_any (A A' : Option Addr) (n c n' c' : Nat) (xs ys : List Int) (w : World) (B B' : Nat) (h : Ints w B A n c xs) (h' : Ints w B' A' n' c' ys) :
    Calls Try.prog 24 #[.slice A n c, .slice A' n' c'] w fun e w' => e = .returned (.bool (decide (xs = ys))) ∧ ∃ q, w' = w.drewN q := by
  have hm := h.most; have hcap := h.cap; have hm' := h'.most; have hcap' := h'.cap
  have hl := hide h.len; have hl' := hide h'.len
  by_cases hn : n = n'
  · subst hn
    go_enter Try.func24, Try.ntmps24
    go_wp2
    go_loopw [5, 13] (fun _ i wr => ∃ k : Nat, k ≤ n ∧ i = .int .i64 k ∧ EqTo xs ys k ∧ ∃ q, wr = w.drewN q) (fun _ i _ => n - (intOf i).toNat)
    case atStart => exact ⟨0, Nat.zero_le _, rfl, (by intro j h1; omega), 0, rfl⟩
    case round =>
      obtain ⟨k, hk, rfl, hall, q, rfl⟩ := hrel
      have HA : Hid _ := hall
      clear hall
      by_cases hlt : k < n
      · obtain ⟨b, off, rfl, hb, hc⟩ := h.at_ k hlt
        obtain ⟨b1, off1, rfl, hb1, hc1⟩ := h'.at_ k hlt
        by_cases he : nth xs k = nth ys k
        · have he' : (nth xs k != nth ys k) = false := by simp [he]
          have HE := hide he; clear he
          go_wp2
          go_quiet (fail)
          go_wp2
          go_roundw
          case rel => exact ⟨k + 1, by omega, by go_num, (by
            intro j hj
            rcases Nat.lt_or_ge j k with h1 | h1
            · exact (unhide HA) j h1
            · obtain rfl : j = k := by omega
              exact HE.out), (by first | exact ⟨_, rfl⟩ | exact quiet_q _ _ _)⟩
          case measure => simp [intOf]; omega
        · have he' : (nth xs k != nth ys k) = true := by simp [he]
          have HE := hide he; clear he
          go_wp2
          go_quiet (fail)
          go_wp2
          go_ret
          exact ⟨ret_bool (by
            symm; rw [decide_eq_false_iff_not]; intro e; exact HE.out (by rw [e])), (by first | exact ⟨_, rfl⟩ | exact quiet_q _ _ _)⟩
      · go_wp2
        go_ret
        obtain rfl : k = n := by omega
        exact ⟨ret_bool (by
          symm; rw [decide_eq_true_eq]; exact eq_of_to (by rw [hl.out, hl'.out]) (by rw [hl.out]; exact unhide HA)), (by first | exact ⟨_, rfl⟩ | exact quiet_q _ _ _)⟩
  · have hn' : ((n : Int) != (n' : Int)) = true := by simp; omega
    go_enter Try.func24, Try.ntmps24
    go_wp2
    go_ret
    exact ⟨ret_bool (by
      symm; rw [decide_eq_false_iff_not]; intro e
      have e1 := hl.out; have e2 := hl'.out
      rw [e] at e1; omega), 0, rfl⟩
theorem equal_is (A A' : Option Addr) (n c n' c' : Nat) (xs ys : List Int) (w : World) (B B' : Nat) (h : Ints w B A n c xs) (h' : Ints w B' A' n' c' ys) (hb : Hid (xs = ys)) :
    Calls Try.prog 24 #[.slice A n c, .slice A' n' c'] w fun e w' => e = .returned (.bool true) ∧ ∃ q, w' = w.drewN q :=
  (equal_any A A' n c n' c' xs ys w B B' h h').mono fun _ _ ⟨he, hw⟩ => ⟨by rw [he]; exact ret_bool (by rw [decide_eq_true_eq]; exact hb.out), hw⟩

end Go.Proofs.Ytmgoonoifgcmnaa
