import Derived.Test.YtmpdalcdkibgpaaW2
namespace Go.Proofs.Ytmpdalcdkibgpaa
open Go.RowKit

set_option maxHeartbeats 400000 in
theorem Shares_any (A : Option Addr) (n c : Nat) (xs : List Int) (w : World) (B : Nat) (h : Ints w B A n c xs) :
    Calls Try.prog 20 #[.slice A n c] w fun e w' => e = .returned (.bool (isSh xs)) ∧ w = w' := by
  have hm := h.most; have hcap := h.cap
  have hl := hide h.len
  go_enter Try.func20, Try.ntmps20
  go_wp2
  go_loop [7] (fun i => ∃ k : Nat, k ≤ n ∧ i = .int .i64 k ∧ allIn 0 20 (xs.take k) = true) (fun i => n - (intOf i).toNat)
  case atStart => exact ⟨0, Nat.zero_le _, rfl, by simp [allIn]⟩
  case round =>
    obtain ⟨k, hk, rfl, hall⟩ := hrel
    have HA : Hid _ := hall
    clear hall
    by_cases hlt : k < n
    · obtain ⟨b, off, rfl, hb, hc⟩ := h.at_ k hlt
      have hkl : k < xs.length := by have := hl.out; omega
      have HS := hide (allIn_snoc 0 20 xs k hkl)
      go_wp2
      all_goals first
        | (go_ret
           exact ⟨ret_bool (by rw [isSh, allIn_no 0 20 xs k hkl (by omega), Bool.and_false]), rfl⟩)
        | (go_round
           case rel => exact ⟨k + 1, by omega, by go_num, by rw [HS.out, HA.out]; simp; omega⟩
           case measure => simp [intOf]; omega)
    · have hkn : k = xs.length := by have := hl.out; omega
      have HB := HA.out
      rw [hkn, List.take_length] at HB
      have HC := hide HB
      clear HB hkn
      by_cases h1 : 1 ≤ n
      · by_cases h2 : n ≤ 6
        · go_wp2
          go_ret
          exact ⟨ret_bool (by simp [isSh, hl.out, h1, h2, HC.out]; omega), rfl⟩
        · go_wp2
          go_ret
          exact ⟨ret_bool (by simp [isSh, hl.out, h1, h2]; omega), rfl⟩
      · go_wp2
        go_ret
        exact ⟨ret_bool (by simp [isSh, hl.out, h1]), rfl⟩

theorem Shares_is (A : Option Addr) (n c : Nat) (xs : List Int) (w : World) (B : Nat) (h : Ints w B A n c xs) (b : Bool) (hb : Hid (isSh xs = b)) :
    Calls Try.prog 20 #[.slice A n c] w fun e w' => e = .returned (.bool b) ∧ w = w' :=
  (Shares_any A n c xs w B h).mono fun _ _ ⟨he, hw⟩ => ⟨by rw [he, hb.out], hw⟩

set_option maxHeartbeats 400000 in
theorem Two_any (A A' : Option Addr) (n c n' c' : Nat) (xs ys : List Int) (w : World) (B B' : Nat) (h : Ints w B A n c xs) (h' : Ints w B' A' n' c' ys) :
    Calls Try.prog 23 #[.slice A n c, .slice A' n' c'] w fun e w' => e = .returned (.bool (areSh xs ys)) ∧ w = w' := by
  have hm := h.most; have hcap := h.cap; have hm' := h'.most; have hcap' := h'.cap
  have hl := hide h.len; have hl' := hide h'.len
  rcases hx : isSh xs
  · have HX := hide hx; clear hx
    go_enter Try.func23, Try.ntmps23
    go_wp2_with (go_at_call 20; refine (Shares_is _ _ _ _ _ _ h _ HX).mono ?_; rintro e w' ⟨rfl, rfl⟩)
    go_ret
    exact ⟨ret_bool (by simp [areSh, HX.out]), rfl⟩
  have HX := hide hx; clear hx
  rcases hy : isSh ys
  · have HY := hide hy; clear hy
    go_enter Try.func23, Try.ntmps23
    go_wp2_with fail
    refine (Shares_is _ _ _ _ _ _ h _ HX).mono ?_; rintro e w' ⟨rfl, rfl⟩
    go_wp2_with fail
    refine (Shares_is _ _ _ _ _ _ h' _ HY).mono ?_; rintro e w' ⟨rfl, rfl⟩
    go_wp2_with fail
    go_ret
    exact ⟨ret_bool (by simp [areSh, HY.out]), rfl⟩
  have HY := hide hy; clear hy
  by_cases hn : n = n'
  · subst hn
    go_enter Try.func23, Try.ntmps23
    go_wp2_with fail
    refine (Shares_is _ _ _ _ _ _ h _ HX).mono ?_; rintro e w' ⟨rfl, rfl⟩
    go_wp2_with fail
    refine (Shares_is _ _ _ _ _ _ h' _ HY).mono ?_; rintro e w' ⟨rfl, rfl⟩
    go_wp2_with fail
    go_ret
    exact ⟨ret_bool (by simp [areSh, HX.out, HY.out, hl.out, hl'.out]), rfl⟩
  · have e1 : ((n : Int) == (n' : Int)) = false := by simp; omega
    go_enter Try.func23, Try.ntmps23
    go_wp2_with fail
    refine (Shares_is _ _ _ _ _ _ h _ HX).mono ?_; rintro e w' ⟨rfl, rfl⟩
    go_wp2_with fail
    refine (Shares_is _ _ _ _ _ _ h' _ HY).mono ?_; rintro e w' ⟨rfl, rfl⟩
    go_wp2_with fail
    go_ret
    exact ⟨ret_bool (by simp [areSh, HX.out, HY.out, hl.out, hl'.out, hn]), rfl⟩

/-- The sum of the first k numbers, as far as there are so many. -/
def sumTo (xs : List Int) (k : Nat) : Int := pre xs (min k xs.length)
def goSum (xs : List Int) (k : Nat) : Nat → Int
  | 0 => 0
  | j + 1 => goSum xs k j + if j < k then nth xs j else 0
theorem goSum_eq (xs : List Int) (k : Nat) : ∀ j, goSum xs k j = pre xs (min k j) := by
  intro j
  induction j with
  | zero => simp [goSum, pre]
  | succ j ih =>
    simp only [goSum, ih]
    by_cases h : j < k
    · rw [if_pos h, show min k (j + 1) = j + 1 from by omega, show min k j = j from by omega]; rfl
    · rw [if_neg h, show min k (j + 1) = k from by omega, show min k j = k from by omega]; simp
theorem goSum_bd {m : Int} {xs : List Int} (h : Small m xs) (k j : Nat) : 0 ≤ goSum xs k j ∧ goSum xs k j ≤ m * j := by
  rw [goSum_eq]
  have h1 := pre_bd h (min k j)
  have hm : 0 ≤ m := by have := h 0; omega
  refine ⟨h1.1, Int.le_trans h1.2 (Int.mul_le_mul_of_nonneg_left (by omega) hm)⟩

set_option maxHeartbeats 400000 in
theorem sum_any (A : Option Addr) (n c : Nat) (xs : List Int) (k : Nat) (w : World) (B : Nat) (h : Ints w B A n c xs) (hx : Hid (Small 20 xs)) (hn : n ≤ 1000000) :
    Calls Try.prog 64 #[.slice A n c, .int .i64 k] w fun e w' => e = .returned (.int .i64 (sumTo xs k)) ∧ w = w' := by
  have hm := h.most; have hcap := h.cap
  have hl := hide h.len
  go_enter Try.func64, Try.ntmps64
  go_wp2
  go_loop [10, 5] (fun i s => ∃ j : Nat, j ≤ n ∧ i = .int .i64 j ∧ s = .int .i64 (goSum xs k j)) (fun i _ => n - (intOf i).toNat)
  case atStart => exact ⟨0, Nat.zero_le _, rfl, rfl⟩
  case round =>
    obtain ⟨j, hj, rfl, rfl⟩ := hrel
    obtain ⟨p1a, p1b⟩ := goSum_bd (unhide hx) k j
    obtain ⟨p5a, p5b⟩ := (unhide hx) j
    by_cases hlt : j < n
    · obtain ⟨b, off, rfl, hb, hc⟩ := h.at_ j hlt
      have HS := hide (show goSum xs k (j + 1) = goSum xs k j + if j < k then nth xs j else 0 from rfl)
      by_cases hjk : j < k
      · go_wp2
        go_round
        case rel => exact ⟨j + 1, by omega, by go_num, by rw [HS.out, if_pos hjk]⟩
        case measure => simp [intOf]; omega
      · go_wp2
        go_round
        case rel => exact ⟨j + 1, by omega, by go_num, by rw [HS.out, if_neg hjk]; simp⟩
        case measure => simp [intOf]; omega
    · go_wp2
      go_ret
      obtain rfl : j = n := by omega
      exact ⟨ret_int (by rw [sumTo, hl.out, goSum_eq]), rfl⟩
end Go.Proofs.Ytmpdalcdkibgpaa
