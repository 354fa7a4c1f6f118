/-
  Places and Same of the reference.
-/
import Derived.Test.YtabgifpenegofaaX1
namespace Go.Proofs.Ytabgifpenegofaa
open Go.RowKit

set_option maxRecDepth 100000 in
set_option maxHeartbeats 8000000 in
theorem RPlaces_any (b off n c m : Nat) (t : List (List Int)) (i j k l : Int) (w : World) (B : Nat) (h : Rows_ w B (some ⟨b, off, none⟩) n c t) (ht : Hid (Tb t n m)) (r : Bool) (hr : Hid ((twoB i j n && twoB k l m) = r)) :
    Calls Try.prog 43 #[.slice (some ⟨b, off, none⟩) n c, .int .i64 i, .int .i64 j, .int .i64 k, .int .i64 l] w fun e w' => e = .returned (.bool r) ∧ w = w' := by
  have hm := h.most; have hcap := h.cap
  have n1 := ht.out.n1
  obtain ⟨A0, c0, hc0, hi0⟩ := ht.out.get h (show 0 < n by omega)
  simp only [Nat.add_zero] at hc0
  have hm0 := hi0.most; have hcap0 := hi0.cap
  clear hi0 h
  by_cases q0 : 0 ≤ i
  · have d0 : decide (0 ≤ i) = true := by simp; omega
    by_cases q1 : i < (n : Int)
    · have d1 : decide (i < (n : Int)) = true := by simp; omega
      by_cases q2 : 0 ≤ j
      · have d2 : decide (0 ≤ j) = true := by simp; omega
        by_cases q3 : j < (n : Int)
        · have d3 : decide (j < (n : Int)) = true := by simp; omega
          by_cases q4 : ¬ i = j
          · have d4 : (i != j) = true := by simp; omega
            by_cases q5 : 0 ≤ k
            · have d5 : decide (0 ≤ k) = true := by simp; omega
              by_cases q6 : k < (m : Int)
              · have d6 : decide (k < (m : Int)) = true := by simp; omega
                by_cases q7 : 0 ≤ l
                · have d7 : decide (0 ≤ l) = true := by simp; omega
                  by_cases q8 : l < (m : Int)
                  · have d8 : decide (l < (m : Int)) = true := by simp; omega
                    by_cases q9 : ¬ k = l
                    · have d9 : (k != l) = true := by simp; omega
                      have HF := hide (show true = r from by rw [← hr.out, eq_comm, Bool.and_eq_true, twoB_iff, twoB_iff]; omega)
                      go_enter Try.func43, Try.ntmps43
                      go_wp2_with fail
                      go_ret
                      exact ⟨ret_bool HF.out, rfl⟩
                    · have d9 : (k != l) = false := by simp; omega
                      have HF := hide (show false = r from by rw [← hr.out, eq_comm, Bool.eq_false_iff]; intro hc; rw [Bool.and_eq_true, twoB_iff, twoB_iff] at hc; omega)
                      go_enter Try.func43, Try.ntmps43
                      go_wp2_with fail
                      go_ret
                      exact ⟨ret_bool HF.out, rfl⟩
                  · have d8 : decide (l < (m : Int)) = false := by simp; omega
                    have HF := hide (show false = r from by rw [← hr.out, eq_comm, Bool.eq_false_iff]; intro hc; rw [Bool.and_eq_true, twoB_iff, twoB_iff] at hc; omega)
                    go_enter Try.func43, Try.ntmps43
                    go_wp2_with fail
                    go_ret
                    exact ⟨ret_bool HF.out, rfl⟩
                · have d7 : decide (0 ≤ l) = false := by simp; omega
                  have HF := hide (show false = r from by rw [← hr.out, eq_comm, Bool.eq_false_iff]; intro hc; rw [Bool.and_eq_true, twoB_iff, twoB_iff] at hc; omega)
                  go_enter Try.func43, Try.ntmps43
                  go_wp2_with fail
                  go_ret
                  exact ⟨ret_bool HF.out, rfl⟩
              · have d6 : decide (k < (m : Int)) = false := by simp; omega
                have HF := hide (show false = r from by rw [← hr.out, eq_comm, Bool.eq_false_iff]; intro hc; rw [Bool.and_eq_true, twoB_iff, twoB_iff] at hc; omega)
                go_enter Try.func43, Try.ntmps43
                go_wp2_with fail
                go_ret
                exact ⟨ret_bool HF.out, rfl⟩
            · have d5 : decide (0 ≤ k) = false := by simp; omega
              have HF := hide (show false = r from by rw [← hr.out, eq_comm, Bool.eq_false_iff]; intro hc; rw [Bool.and_eq_true, twoB_iff, twoB_iff] at hc; omega)
              go_enter Try.func43, Try.ntmps43
              go_wp2_with fail
              go_ret
              exact ⟨ret_bool HF.out, rfl⟩
          · have d4 : (i != j) = false := by simp; omega
            have HF := hide (show false = r from by rw [← hr.out, eq_comm, Bool.eq_false_iff]; intro hc; rw [Bool.and_eq_true, twoB_iff, twoB_iff] at hc; omega)
            go_enter Try.func43, Try.ntmps43
            go_wp2_with fail
            go_ret
            exact ⟨ret_bool HF.out, rfl⟩
        · have d3 : decide (j < (n : Int)) = false := by simp; omega
          have HF := hide (show false = r from by rw [← hr.out, eq_comm, Bool.eq_false_iff]; intro hc; rw [Bool.and_eq_true, twoB_iff, twoB_iff] at hc; omega)
          go_enter Try.func43, Try.ntmps43
          go_wp2_with fail
          go_ret
          exact ⟨ret_bool HF.out, rfl⟩
      · have d2 : decide (0 ≤ j) = false := by simp; omega
        have HF := hide (show false = r from by rw [← hr.out, eq_comm, Bool.eq_false_iff]; intro hc; rw [Bool.and_eq_true, twoB_iff, twoB_iff] at hc; omega)
        go_enter Try.func43, Try.ntmps43
        go_wp2_with fail
        go_ret
        exact ⟨ret_bool HF.out, rfl⟩
    · have d1 : decide (i < (n : Int)) = false := by simp; omega
      have HF := hide (show false = r from by rw [← hr.out, eq_comm, Bool.eq_false_iff]; intro hc; rw [Bool.and_eq_true, twoB_iff, twoB_iff] at hc; omega)
      go_enter Try.func43, Try.ntmps43
      go_wp2_with fail
      go_ret
      exact ⟨ret_bool HF.out, rfl⟩
  · have d0 : decide (0 ≤ i) = false := by simp; omega
    have HF := hide (show false = r from by rw [← hr.out, eq_comm, Bool.eq_false_iff]; intro hc; rw [Bool.and_eq_true, twoB_iff, twoB_iff] at hc; omega)
    go_enter Try.func43, Try.ntmps43
    go_wp2_with fail
    go_ret
    exact ⟨ret_bool HF.out, rfl⟩

/-- The first k rows are the same. -/
def EqRows (s t : List (List Int)) (k : Nat) : Prop := ∀ j, j < k → row s j = row t j
theorem eqRows_all {s t : List (List Int)} (hl : s.length = t.length) (h : EqRows s t s.length) : s = t := by
  apply List.ext_getElem hl
  intro i h1 h2
  have := h i h1
  simpa [row, List.getD, h1, h2] using this
theorem EqRows.succ {s t : List (List Int)} {k : Nat} (h : EqRows s t k) (hk : row s k = row t k) : EqRows s t (k + 1) := fun j hj => by
  rcases Nat.lt_or_ge j k with h1 | h1
  · exact h j h1
  · obtain rfl : j = k := by omega
    exact hk
theorem EqTo.succ {xs ys : List Int} {k : Nat} (h : EqTo xs ys k) (hk : nth xs k = nth ys k) : EqTo xs ys (k + 1) := fun j hj => by
  rcases Nat.lt_or_ge j k with h1 | h1
  · exact h j h1
  · obtain rfl : j = k := by omega
    exact hk
set_option maxRecDepth 100000 in
set_option maxHeartbeats 4000000 in
theorem RSame_any (A A' : Option Addr) (n c n' c' : Nat) (s t : List (List Int)) (w : World) (B B' : Nat) (h : Rows_ w B A n c s) (h' : Rows_ w B' A' n' c' t) :
    Calls Try.prog 26 #[.slice A n c, .slice A' n' c'] w fun e w' => e = .returned (.bool (decide (s = t))) ∧ w = w' := by
  have hm := h.most; have hcap := h.cap; have hm' := h'.most; have hcap' := h'.cap
  have hl := hide h.len; have hl' := hide h'.len
  by_cases hn : n = n'
  · subst hn
    go_enter Try.func26, Try.ntmps26
    go_wp2_with fail
    go_loopw [5, 6, 7, 8, 16] (fun _ _ _ _ i wr => ∃ k : Nat, k ≤ n ∧ i = .int .i64 k ∧ Hid (EqRows s t k) ∧ w = wr) (fun _ _ _ _ i _ => n - (intOf i).toNat)
    case atStart => exact ⟨0, Nat.zero_le _, rfl, hide (fun j hj => absurd hj (by omega)), rfl⟩
    case round =>
      obtain ⟨k, hk, rfl, HE, rfl⟩ := hrel
      by_cases hlt : k < n
      · obtain ⟨b, off, A1, n1, c1, rfl, hb, hc, hi⟩ := h.at_ k hlt
        obtain ⟨b', off', A2, n2, c2, rfl, hb', hc', hi'⟩ := h'.at_ k hlt
        have L1 := hide hi.len; have L2 := hide hi'.len
        have hm1 := hi.most; have hcap1 := hi.cap; have hm2 := hi'.most; have hcap2 := hi'.cap
        by_cases hnn : n1 = n2
        · subst hnn
          have hd : ((n1 : Int) != (n1 : Int)) = false := by simp
          go_wp2_with fail
          go_loopw [7, 8, 31] (fun _ _ i wr => ∃ j : Nat, j ≤ n1 ∧ i = .int .i64 j ∧ Hid (EqTo (row s k) (row t k) j) ∧ w = wr) (fun _ _ i _ => n1 - (intOf i).toNat)
          case atStart => exact ⟨0, Nat.zero_le _, rfl, hide (fun j hj => absurd hj (by omega)), rfl⟩
          case round =>
            obtain ⟨j, hj, rfl, HJ, rfl⟩ := hrel
            by_cases hjt : j < n1
            · obtain ⟨b1, off1, rfl, hb1, hx⟩ := hi.at_ j hjt
              obtain ⟨b2, off2, rfl, hb2, hy⟩ := hi'.at_ j hjt
              by_cases he : nth (row s k) j = nth (row t k) j
              · have HS := hide (HJ.out.succ he)
                have he' : (nth (row s k) j != nth (row t k) j) = false := by simp [he]
                clear he
                go_wp2_with fail
                go_roundw
                case rel => exact ⟨j + 1, by omega, by go_num, HS, trivial⟩
                case measure => simp [intOf]; omega
              · have HF := hide (show false = decide (s = t) from by
                  rw [eq_comm, decide_eq_false_iff_not]; intro e; exact he (by rw [e]))
                have he' : (nth (row s k) j != nth (row t k) j) = true := by simp [he]
                clear he
                go_wp2_with fail
                go_ret
                exact ⟨ret_bool HF.out, rfl⟩
            · have HS := hide (HE.out.succ (eq_of_to (by rw [L1.out, L2.out]) (by rw [L1.out, show n1 = j by omega]; exact HJ.out)))
              go_wp2_with fail
              go_roundw
              case rel => exact ⟨k + 1, by omega, by go_num, HS, trivial⟩
              case measure => simp [intOf]; omega
        · have hd : ((n1 : Int) != (n2 : Int)) = true := by simp; omega
          have HF := hide (show false = decide (s = t) from by
            rw [eq_comm, decide_eq_false_iff_not]; intro e
            have e1 := L1.out; have e2 := L2.out
            rw [e] at e1; omega)
          clear hnn
          go_wp2_with fail
          go_ret
          exact ⟨ret_bool HF.out, rfl⟩
      · have HF := hide (show true = decide (s = t) from by
          rw [eq_comm, decide_eq_true_eq]
          exact eqRows_all (by rw [hl.out, hl'.out]) (by rw [hl.out, show n = k by omega]; exact HE.out))
        go_wp2_with fail
        go_ret
        exact ⟨ret_bool HF.out, rfl⟩
  · have hn' : ((n : Int) != (n' : Int)) = true := by simp; omega
    have HF := hide (show false = decide (s = t) from by
      rw [eq_comm, decide_eq_false_iff_not]; intro e
      have e1 := hl.out; have e2 := hl'.out
      rw [e] at e1; omega)
    clear hn
    go_enter Try.func26, Try.ntmps26
    go_wp2_with fail
    go_ret
    exact ⟨ret_bool HF.out, rfl⟩
theorem RSame_is (A A' : Option Addr) (n c n' c' : Nat) (s t : List (List Int)) (w : World) (B B' : Nat) (h : Rows_ w B A n c s) (h' : Rows_ w B' A' n' c' t) (r : Bool) (hr : Hid (decide (s = t) = r)) :
    Calls Try.prog 26 #[.slice A n c, .slice A' n' c'] w fun e w' => e = .returned (.bool r) ∧ w = w' := by rw [← hr.out]; exact RSame_any A A' n c n' c' s t w B B' h h'
end Go.Proofs.Ytabgifpenegofaa
