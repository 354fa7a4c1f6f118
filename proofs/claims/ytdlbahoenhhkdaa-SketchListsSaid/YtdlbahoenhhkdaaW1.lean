import Derived.Test.YtdlbahoenhhkdaaT1
namespace Go.Proofs.Ytdlbahoenhhkdaa
open Go.RowKit

theorem Ints.drewN {w : World} {B n c : Nat} {A : Option Addr} {xs : List Int} (h : Ints w B A n c xs) (k : Nat) : Ints (w.drewN k) B A n c xs := ⟨h.len, h.cap, h.most, h.bare, h.at_⟩
theorem quiet_q (w : World) (a b : Nat) : ∃ r, (w.drewN a).drewN b = w.drewN r := ⟨a + b, World.drewN_drewN _ _ _⟩

/-- A stream. -/
def isStr (xs : List Int) : Bool := decide (xs.length ≤ 40) && allIn 0 15 xs
def isKeyB (k : Int) : Bool := decide (0 ≤ k) && decide (k ≤ 15)
def cntB (k : Int) : Bool := decide (1 ≤ k) && decide (k ≤ 8)

theorem isStr_len {xs : List Int} (h : isStr xs = true) : xs.length ≤ 40 := by simp only [isStr, Bool.and_eq_true, decide_eq_true_eq] at h; exact h.1
theorem allIn_bd {lo hi : Int} {xs : List Int} (h : allIn lo hi xs = true) (k : Nat) (hk : k < xs.length) : lo ≤ nth xs k ∧ nth xs k ≤ hi := by
  simp only [allIn, List.all_eq_true, Bool.and_eq_true, decide_eq_true_eq] at h
  exact h (nth xs k) (by simp [nth, List.getD, hk])
theorem isStr_bd {xs : List Int} (h : isStr xs = true) (k : Nat) (hk : k < xs.length) : 0 ≤ nth xs k ∧ nth xs k ≤ 15 := by
  simp only [isStr, Bool.and_eq_true, decide_eq_true_eq] at h
  exact allIn_bd h.2 k hk
theorem cntB_bd {k : Int} (h : cntB k = true) : 1 ≤ k ∧ k ≤ 8 := by simpa [cntB] using h

set_option maxHeartbeats 400000 in
theorem isStream_any (A : Option Addr) (n c : Nat) (xs : List Int) (w : World) (B : Nat) (h : Ints w B A n c xs) :
    Calls Try.prog 59 #[.slice A n c] w fun e w' => e = .returned (.bool (isStr xs)) ∧ w = w' := by
  have hm := h.most; have hcap := h.cap
  have hl := hide h.len
  by_cases h2 : n ≤ 40
  · go_enter Try.func59, Try.ntmps59
    go_wp2_with (go_at_call 79; refine (allWithin_any _ _ _ _ _ _ _ _ h).mono ?_; rintro e w' ⟨rfl, rfl⟩)
    go_ret
    exact ⟨ret_bool (by simp [isStr, hl.out, h2]), rfl⟩
  · go_enter Try.func59, Try.ntmps59
    go_wp2_with fail
    go_ret
    exact ⟨ret_bool (by simp [isStr, hl.out, h2]), rfl⟩
theorem isStream_is (A : Option Addr) (n c : Nat) (xs : List Int) (w : World) (B : Nat) (h : Ints w B A n c xs) (b : Bool) (hb : Hid (isStr xs = b)) :
    Calls Try.prog 59 #[.slice A n c] w fun e w' => e = .returned (.bool b) ∧ w = w' :=
  (isStream_any A n c xs w B h).mono fun _ _ ⟨he, hw⟩ => ⟨by rw [he, hb.out], hw⟩

set_option maxHeartbeats 400000 in
theorem RStream_any (A : Option Addr) (n c : Nat) (xs : List Int) (w : World) (B : Nat) (h : Ints w B A n c xs) :
    Calls Try.prog 20 #[.slice A n c] w fun e w' => e = .returned (.bool (isStr xs)) ∧ w = w' := by
  have hm := h.most; have hcap := h.cap
  have hl := hide h.len
  go_enter Try.func20, Try.ntmps20
  go_wp2
  go_loop [7] (fun i => ∃ k : Nat, k ≤ n ∧ i = .int .i64 k ∧ allIn 0 15 (xs.take k) = true) (fun i => n - (intOf i).toNat)
  case atStart => exact ⟨0, Nat.zero_le _, rfl, by simp [allIn]⟩
  case round =>
    obtain ⟨k, hk, rfl, hall⟩ := hrel
    have HA : Hid _ := hall
    clear hall
    by_cases hlt : k < n
    · obtain ⟨b, off, rfl, hb, hc⟩ := h.at_ k hlt
      have hkl : k < xs.length := by have := hl.out; omega
      have HS := hide (allIn_snoc 0 15 xs k hkl)
      go_wp2
      all_goals first
        | (go_ret
           exact ⟨ret_bool (by rw [isStr, allIn_no 0 15 xs k hkl (by omega), Bool.and_false]), rfl⟩)
        | (go_round
           case rel => exact ⟨k + 1, by omega, by go_num, by rw [HS.out, HA.out]; simp; omega⟩
           case measure => simp [intOf]; omega)
    · have hkn : k = xs.length := by have := hl.out; omega
      have HB := HA.out
      rw [hkn, List.take_length] at HB
      have HC := hide HB
      clear HB hkn
      go_wp2
      go_ret
      exact ⟨ret_bool (by simp [isStr, hl.out, HC.out]; omega), rfl⟩
theorem RStream_is (A : Option Addr) (n c : Nat) (xs : List Int) (w : World) (B : Nat) (h : Ints w B A n c xs) (b : Bool) (hb : Hid (isStr xs = b)) :
    Calls Try.prog 20 #[.slice A n c] w fun e w' => e = .returned (.bool b) ∧ w = w' :=
  (RStream_any A n c xs w B h).mono fun _ _ ⟨he, hw⟩ => ⟨by rw [he, hb.out], hw⟩

theorem isKey_any (k : Int) (w : World) : Calls Try.prog 60 #[.int .i64 k] w fun e w' => e = .returned (.bool (isKeyB k)) ∧ w = w' := by
  by_cases h0 : 0 ≤ k
  · go_enter Try.func60, Try.ntmps60
    go_wp2_with fail
    go_ret
    exact ⟨ret_bool (by simp [isKeyB, h0]; omega), rfl⟩
  · go_enter Try.func60, Try.ntmps60
    go_wp2_with fail
    go_ret
    exact ⟨ret_bool (by simp [isKeyB, h0]; omega), rfl⟩
theorem isKey_is (k : Int) (w : World) (b : Bool) (hb : Hid (isKeyB k = b)) : Calls Try.prog 60 #[.int .i64 k] w fun e w' => e = .returned (.bool b) ∧ w = w' :=
  (isKey_any k w).mono fun _ _ ⟨he, hw⟩ => ⟨by rw [he, hb.out], hw⟩
theorem isCounters_any (k : Int) (w : World) : Calls Try.prog 62 #[.int .i64 k] w fun e w' => e = .returned (.bool (cntB k)) ∧ w = w' := by
  by_cases h0 : 1 ≤ k
  · go_enter Try.func62, Try.ntmps62
    go_wp2_with fail
    go_ret
    exact ⟨ret_bool (by simp [cntB, h0]; try omega), rfl⟩
  · go_enter Try.func62, Try.ntmps62
    go_wp2_with fail
    go_ret
    exact ⟨ret_bool (by simp [cntB, h0]; try omega), rfl⟩
theorem isCounters_is (k : Int) (w : World) (b : Bool) (hb : Hid (cntB k = b)) : Calls Try.prog 62 #[.int .i64 k] w fun e w' => e = .returned (.bool b) ∧ w = w' :=
  (isCounters_any k w).mono fun _ _ ⟨he, hw⟩ => ⟨by rw [he, hb.out], hw⟩
theorem RCounters_any (k : Int) (w : World) : Calls Try.prog 19 #[.int .i64 k] w fun e w' => e = .returned (.bool (cntB k)) ∧ w = w' := by
  by_cases h0 : 1 ≤ k
  · go_enter Try.func19, Try.ntmps19
    go_wp2_with fail
    go_ret
    exact ⟨ret_bool (by simp [cntB, h0]; try omega), rfl⟩
  · go_enter Try.func19, Try.ntmps19
    go_wp2_with fail
    go_ret
    exact ⟨ret_bool (by simp [cntB, h0]; try omega), rfl⟩
theorem RCounters_is (k : Int) (w : World) (b : Bool) (hb : Hid (cntB k = b)) : Calls Try.prog 19 #[.int .i64 k] w fun e w' => e = .returned (.bool b) ∧ w = w' :=
  (RCounters_any k w).mono fun _ _ ⟨he, hw⟩ => ⟨by rw [he, hb.out], hw⟩

/-- How often a key comes among the first j numbers. -/
def cntTo (xs : List Int) (key : Int) : Nat → Int
  | 0 => 0
  | j + 1 => cntTo xs key j + if nth xs j = key then 1 else 0
theorem cntTo_bd (xs : List Int) (key : Int) : ∀ j : Nat, 0 ≤ cntTo xs key j ∧ cntTo xs key j ≤ j := by
  intro j
  induction j with
  | zero => simp [cntTo]
  | succ j ih => simp only [cntTo]; split <;> omega
/-- How often a key comes. -/
def often (xs : List Int) (key : Int) : Int := cntTo xs key xs.length

set_option maxHeartbeats 400000 in
theorem ROften_any (A : Option Addr) (n c : Nat) (xs : List Int) (key : Int) (w : World) (B : Nat) (h : Ints w B A n c xs) :
    Calls Try.prog 28 #[.slice A n c, .int .i64 key] w fun e w' => e = .returned (.int .i64 (often xs key)) ∧ w = w' := by
  have hm := h.most; have hcap := h.cap
  have hl := hide h.len
  go_enter Try.func28, Try.ntmps28
  go_wp2
  go_loop [10, 5] (fun i s => ∃ j : Nat, j ≤ n ∧ i = .int .i64 j ∧ s = .int .i64 (cntTo xs key j)) (fun i _ => n - (intOf i).toNat)
  case atStart => exact ⟨0, Nat.zero_le _, rfl, rfl⟩
  case round =>
    obtain ⟨j, hj, rfl, rfl⟩ := hrel
    obtain ⟨p1a, p1b⟩ := cntTo_bd xs key j
    by_cases hlt : j < n
    · obtain ⟨b, off, rfl, hb, hc⟩ := h.at_ j hlt
      have HS := hide (show cntTo xs key (j + 1) = cntTo xs key j + if nth xs j = key then 1 else 0 from rfl)
      by_cases hjk : nth xs j = key
      · have hjk' : (nth xs j == key) = true := by simp [hjk]
        have HK := hide hjk; clear hjk
        go_wp2
        go_round
        case rel => exact ⟨j + 1, by omega, by go_num, by rw [HS.out, if_pos HK.out]⟩
        case measure => simp [intOf]; omega
      · have hjk' : (nth xs j == key) = false := by simp [hjk]
        have HK := hide hjk; clear hjk
        go_wp2
        go_round
        case rel => exact ⟨j + 1, by omega, by go_num, by rw [HS.out, if_neg HK.out]; simp⟩
        case measure => simp [intOf]; omega
    · go_wp2
      go_ret
      obtain rfl : j = n := by omega
      exact ⟨ret_int (by rw [often, hl.out]), rfl⟩
end Go.Proofs.Ytdlbahoenhhkdaa
