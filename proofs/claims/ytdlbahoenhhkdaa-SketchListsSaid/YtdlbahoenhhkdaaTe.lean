import Derived.Test.YtdlbahoenhhkdaaTd
/-
  slices.EqualFunc of slices of slices, with slices.Equal; equal.
-/
namespace Go.Proofs.Ytdlbahoenhhkdaa
open Go.RowKit

def EqToR (xss yss : List (List Int)) (k : Nat) : Prop := ∀ j, j < k → row xss j = row yss j
theorem eqR_of_to {xss yss : List (List Int)} (hl : xss.length = yss.length) (h : EqToR xss yss xss.length) : xss = yss := by
  apply List.ext_getElem hl
  intro i h1 h2
  have := h i h1
  simpa [row, List.getD, h1, h2] using this

set_option maxHeartbeats 800000 in
theorem equalFunc_any (A A' : Option Addr) (n c n' c' : Nat) (xss yss : List (List Int)) (w : World) (B B' : Nat) (h : Rows_ w B A n c xss) (h' : Rows_ w B' A' n' c' yss) :
    Calls Try.prog 69 #[.slice A n c, .slice A' n' c', .func (Fn.func 29) #[] #[]] w fun e w' => e = .returned (.bool (decide (xss = yss))) ∧ ∃ q, w' = w.drewN q := by
  have hm := h.most; have hcap := h.cap; have hm' := h'.most; have hcap' := h'.cap
  have hl := hide h.len; have hl' := hide h'.len
  by_cases hn : n = n'
  · subst hn
    go_enter Try.func69, Try.ntmps69
    go_wp2
    go_loopw [7, 8, 9, 17] (fun _ _ _ i wr => ∃ k : Nat, k ≤ n ∧ i = .int .i64 k ∧ EqToR xss yss k ∧ ∃ q, wr = w.drewN q) (fun _ _ _ i _ => n - (intOf i).toNat)
    case atStart => exact ⟨0, Nat.zero_le _, rfl, (by intro j h1; omega), 0, rfl⟩
    case round =>
      obtain ⟨k, hk, rfl, hall, q, rfl⟩ := hrel
      have HA : Hid _ := hall
      clear hall
      by_cases hlt : k < n
      · obtain ⟨b, off, A1, n1, c1, rfl, hb, hc, hi⟩ := h.at_ k hlt
        obtain ⟨b', off', A2, n2, c2, rfl, hb', hc', hi'⟩ := h'.at_ k hlt
        have j1 := hi.drewN q
        have j2 := hi'.drewN q
        have hE := equal_any _ _ _ _ _ _ _ _ _ _ _ j1 j2
        by_cases he : row xss k = row yss k
        · have hd : decide (row xss k = row yss k) = true := by simp [he]
          rw [hd] at hE
          have HE := hide he; clear he hd
          have HC := hide hE; clear hE
          go_wp2_with fail
          refine (unhide HC).mono ?_
          rintro e w2 ⟨rfl, q2, rfl⟩
          go_wp2_with fail
          go_roundw
          case rel => exact ⟨k + 1, by omega, by go_num, (by
            intro j hj
            rcases Nat.lt_or_ge j k with h1 | h1
            · exact (unhide HA) j h1
            · obtain rfl : j = k := by omega
              exact HE.out), (by first | exact ⟨_, rfl⟩ | exact quiet_q _ _ _)⟩
          case measure => simp [intOf]; omega
        · have hd : decide (row xss k = row yss k) = false := by simp [he]
          rw [hd] at hE
          have HE := hide he; clear he hd
          have HC := hide hE; clear hE
          go_wp2_with fail
          refine (unhide HC).mono ?_
          rintro e w2 ⟨rfl, q2, rfl⟩
          go_wp2_with fail
          go_ret
          exact ⟨ret_bool (by
            symm; rw [decide_eq_false_iff_not]; intro e; exact HE.out (by rw [e])), (by first | exact ⟨_, rfl⟩ | exact quiet_q _ _ _)⟩
      · go_wp2
        go_ret
        obtain rfl : n = k := by omega
        exact ⟨ret_bool (by
          symm; rw [decide_eq_true_eq]; exact eqR_of_to (by rw [hl.out, hl'.out]) (by rw [hl.out]; exact unhide HA)), (by first | exact ⟨_, rfl⟩ | exact quiet_q _ _ _)⟩
  · have hn' : ((n : Int) != (n' : Int)) = true := by simp; omega
    go_enter Try.func69, Try.ntmps69
    go_wp2
    go_ret
    exact ⟨ret_bool (by
      symm; rw [decide_eq_false_iff_not]; intro e
      have e1 := hl.out; have e2 := hl'.out
      rw [e] at e1; omega), 0, rfl⟩

theorem equalT_any (A A' : Option Addr) (n c n' c' : Nat) (xss yss : List (List Int)) (w : World) (B B' : Nat) (h : Rows_ w B A n c xss) (h' : Rows_ w B' A' n' c' yss) :
    Calls Try.prog 37 #[.slice A n c, .slice A' n' c'] w fun e w' => e = .returned (.bool (decide (xss = yss))) ∧ ∃ q, w' = w.drewN q := by
  go_enter Try.func37, Try.ntmps37
  go_wp2_with fail
  refine (equalFunc_any _ _ _ _ _ _ _ _ _ _ _ h h').mono ?_
  rintro e w' ⟨rfl, q, rfl⟩
  go_wp2_with fail
  go_ret
  exact ⟨rfl, q, rfl⟩
theorem equalT_is (A A' : Option Addr) (n c n' c' : Nat) (xss yss : List (List Int)) (w : World) (B B' : Nat) (h : Rows_ w B A n c xss) (h' : Rows_ w B' A' n' c' yss) (hb : Hid (xss = yss)) :
    Calls Try.prog 37 #[.slice A n c, .slice A' n' c'] w fun e w' => e = .returned (.bool true) ∧ ∃ q, w' = w.drewN q :=
  (equalT_any A A' n c n' c' xss yss w B B' h h').mono fun _ _ ⟨he, hw⟩ => ⟨by rw [he]; exact ret_bool (by rw [decide_eq_true_eq]; exact hb.out), hw⟩
end Go.Proofs.Ytdlbahoenhhkdaa
