import Derived.Test.YtmpdalcdkibgpaaW3
namespace Go.Proofs.Ytmpdalcdkibgpaa
open Go.RowKit
def gapIn (xs : List Int) (v : Int) : Nat → Int
  | 0 => 0
  | j + 1 => gapIn xs v j + max (v - nth xs j) (nth xs j - v)
def gapTo (xs : List Int) : Nat → Int
  | 0 => 0
  | k + 1 => gapTo xs k + gapIn xs (nth xs k) k
theorem gapIn_bd {xs : List Int} (h : Small 20 xs) (k : Nat) : ∀ j, 0 ≤ gapIn xs (nth xs k) j ∧ gapIn xs (nth xs k) j ≤ 20 * j := by
  intro j
  induction j with
  | zero => simp [gapIn]
  | succ j ih =>
    have h1 := h k; have h2 := h j
    simp only [gapIn]; omega
theorem gapTo_bd {xs : List Int} (h : Small 20 xs) : ∀ k : Nat, k ≤ 6 → 0 ≤ gapTo xs k ∧ gapTo xs k ≤ 120 * k := by
  intro k hk
  induction k with
  | zero => simp [gapTo]
  | succ k ih =>
    have h1 := gapIn_bd h k k
    have h2 := ih (by omega)
    simp only [gapTo]; omega
def gap (xs : List Int) : Int := gapTo xs xs.length

set_option maxHeartbeats 800000 in
theorem RGap_any (A : Option Addr) (n c : Nat) (xs : List Int) (w : World) (B : Nat) (h : Ints w B A n c xs) (hx : Hid (Small 20 xs)) (hn : n ≤ 6) :
    Calls Try.prog 22 #[.slice A n c] w fun e w' => e = .returned (.int .i64 (gap xs)) ∧ w = w' := by
  have hm := h.most; have hcap := h.cap
  have hl := hide h.len
  go_enter Try.func22, Try.ntmps22
  go_wp2
  go_loop [10, 3] (fun i s => ∃ k : Nat, k ≤ n ∧ i = .int .i64 k ∧ s = .int .i64 (gapTo xs k)) (fun i _ => n - (intOf i).toNat)
  case atStart => exact ⟨0, Nat.zero_le _, rfl, rfl⟩
  case round =>
    obtain ⟨k, hk, rfl, rfl⟩ := hrel
    obtain ⟨q1, q2⟩ := gapTo_bd (unhide hx) k (by omega)
    obtain ⟨p5a, p5b⟩ := (unhide hx) k
    by_cases hlt : k < n
    · obtain ⟨b, off, rfl, hb, hc⟩ := h.at_ k hlt
      have H := hide h
      clear h
      go_wp2
      go_loop [19, 3] (fun i s => ∃ j : Nat, j ≤ k ∧ i = .int .i64 j ∧ s = .int .i64 (gapTo xs k + gapIn xs (nth xs k) j)) (fun i _ => k - (intOf i).toNat)
      case atStart => exact ⟨0, Nat.zero_le _, rfl, by simp [gapIn]⟩
      case round =>
        obtain ⟨j, hj, rfl, rfl⟩ := hrel
        obtain ⟨r1, r2⟩ := gapIn_bd (unhide hx) k j
        obtain ⟨p6a, p6b⟩ := (unhide hx) j
        by_cases hjk : j < k
        · obtain ⟨b1, off1, e1, hb1, hc1⟩ := (unhide H).at_ j (by omega)
          simp only [Option.some.injEq, Addr.mk.injEq, true_and, and_true] at e1
          obtain ⟨rfl, rfl⟩ := e1
          have HS := hide (show gapIn xs (nth xs k) (j + 1) = gapIn xs (nth xs k) j + max (nth xs k - nth xs j) (nth xs j - nth xs k) from rfl)
          go_wp2
          all_goals
            go_round
            case rel => exact ⟨j + 1, by omega, by go_num, by rw [HS.out]; go_num⟩
            case measure => simp [intOf]; omega
        · obtain rfl : j = k := by omega
          have HS := hide (show gapTo xs (j + 1) = gapTo xs j + gapIn xs (nth xs j) j from rfl)
          go_wp2
          go_round
          case rel => exact ⟨j + 1, by omega, by go_num, by rw [HS.out]⟩
          case measure => simp [intOf]; omega
    · go_wp2
      go_ret
      obtain rfl : k = n := by omega
      exact ⟨ret_int (by rw [gap, hl.out]), rfl⟩

set_option maxHeartbeats 800000 in
theorem Gap_ok (A : Option Addr) (n c : Nat) (xs : List Int) (w : World) (B : Nat) (h : Ints w B A n c xs) (hx : Hid (Small 20 xs)) (hn : n ≤ 6) (hs : Hid (isSh xs = true)) :
    Calls Try.prog 19 #[.slice A n c] w fun e w' => e = .returned (.tuple #[.int .i64 (gap xs), .int .i64 0]) ∧ w = w' := by
  have hm := h.most; have hcap := h.cap
  have hl := hide h.len
  go_enter Try.func19, Try.ntmps19
  go_wp2_with (go_at_call 62; refine (isShares_is _ _ _ _ _ _ h _ hs).mono ?_; rintro e w' ⟨rfl, rfl⟩)
  go_loop [14, 4] (fun i s => ∃ k : Nat, k ≤ n ∧ i = .int .i64 k ∧ s = .int .i64 (gapTo xs k)) (fun i _ => n - (intOf i).toNat)
  case atStart => exact ⟨0, Nat.zero_le _, rfl, rfl⟩
  case round =>
    obtain ⟨k, hk, rfl, rfl⟩ := hrel
    obtain ⟨q1, q2⟩ := gapTo_bd (unhide hx) k (by omega)
    obtain ⟨p5a, p5b⟩ := (unhide hx) k
    by_cases hlt : k < n
    · obtain ⟨b, off, rfl, hb, hc⟩ := h.at_ k hlt
      have H := hide h
      clear h
      go_wp2
      go_loop [23, 4] (fun i s => ∃ j : Nat, j ≤ k ∧ i = .int .i64 j ∧ s = .int .i64 (gapTo xs k + gapIn xs (nth xs k) j)) (fun i _ => k - (intOf i).toNat)
      case atStart => exact ⟨0, Nat.zero_le _, rfl, by simp [gapIn]⟩
      case round =>
        obtain ⟨j, hj, rfl, rfl⟩ := hrel
        obtain ⟨r1, r2⟩ := gapIn_bd (unhide hx) k j
        obtain ⟨p6a, p6b⟩ := (unhide hx) j
        by_cases hjk : j < k
        · obtain ⟨b1, off1, e1, hb1, hc1⟩ := (unhide H).at_ j (by omega)
          simp only [Option.some.injEq, Addr.mk.injEq, true_and, and_true] at e1
          obtain ⟨rfl, rfl⟩ := e1
          have HS := hide (show gapIn xs (nth xs k) (j + 1) = gapIn xs (nth xs k) j + max (nth xs k - nth xs j) (nth xs j - nth xs k) from rfl)
          go_wp2
          all_goals
            go_round
            case rel => exact ⟨j + 1, by omega, by go_num, by rw [HS.out]; go_num⟩
            case measure => simp [intOf]; omega
        · obtain rfl : j = k := by omega
          have HS := hide (show gapTo xs (j + 1) = gapTo xs j + gapIn xs (nth xs j) j from rfl)
          go_wp2
          go_round
          case rel => exact ⟨j + 1, by omega, by go_num, by rw [HS.out]⟩
          case measure => simp [intOf]; omega
    · go_wp2
      go_ret2
      obtain rfl : k = n := by omega
      exact ⟨ret_int2 (by rw [gap, hl.out]) rfl, rfl⟩

set_option maxHeartbeats 400000 in
theorem Gap_no (A : Option Addr) (n c : Nat) (xs : List Int) (w : World) (B : Nat) (h : Ints w B A n c xs) (hs : Hid (isSh xs = false)) :
    Calls Try.prog 19 #[.slice A n c] w fun e w' => e = .returned (.tuple #[.int .i64 0, .int .i64 2]) ∧ w = w' := by
  have hm := h.most; have hcap := h.cap
  go_enter Try.func19, Try.ntmps19
  go_wp2_with (go_at_call 62; refine (isShares_is _ _ _ _ _ _ h _ hs).mono ?_; rintro e w' ⟨rfl, rfl⟩)
  go_ret2
  exact ⟨rfl, rfl⟩
end Go.Proofs.Ytmpdalcdkibgpaa
