import Derived.Test.YtdlbahoenhhkdaaO2
/-
  Heavy of the program and of the reference.
-/
namespace Go.Proofs.Ytdlbahoenhhkdaa
open Go.RowKit

/-- The keys below j that come often. -/
def heavyTo (k : Int) (xs : List Int) : Nat → List Int
  | 0 => []
  | j + 1 => heavyTo k xs j ++ if (xs.length : Int) < often xs j * (k + 1) then [(j : Int)] else []
theorem heavyTo_len (k : Int) (xs : List Int) : ∀ j, (heavyTo k xs j).length ≤ j := by
  intro j
  induction j with
  | zero => simp [heavyTo]
  | succ j ih => simp only [heavyTo, List.length_append]; split <;> simp <;> omega
def heavy (k : Int) (xs : List Int) : List Int := heavyTo k xs 16
theorem often_bd {xs : List Int} (key : Int) : 0 ≤ often xs key ∧ often xs key ≤ xs.length := cntTo_bd xs key xs.length

theorem prod_bd (a k : Int) (h0 : 0 ≤ a) (h1 : a ≤ 40) (h2 : 1 ≤ k) (h3 : k ≤ 8) : 0 ≤ a * (k + 1) ∧ a * (k + 1) ≤ 360 :=
  ⟨Int.mul_nonneg h0 (by omega), by
    have := Int.mul_le_mul h1 (show k + 1 ≤ 9 by omega) (by omega) (by omega)
    omega⟩

set_option maxHeartbeats 800000 in
theorem Heavy_ok (A : Option Addr) (n c : Nat) (xs : List Int) (k : Int) (w : World) (h : Ints w w.heap.size A n c xs) (hs : Hid (isStr xs = true)) (hk : Hid (cntB k = true)) :
    Calls Try.prog 27 #[.int .i64 k, .slice A n c] w fun e w' => ∃ v, e = .returned (.tuple #[v, .int .i64 0]) ∧ Owned w' w.heap.size v (heavy k xs) ∧ Below w.heap.size w w' := by
  have hm := h.most; have hcap := h.cap
  have hl := hide h.len
  obtain ⟨k1, k2⟩ := cntB_bd hk.out
  have hn : n ≤ 40 := by have := isStr_len hs.out; have := hl.out; omega
  go_enter Try.func27, Try.ntmps27
  go_wp2_with (first
    | (go_at_call 62; refine (isCounters_is _ _ _ hk).mono ?_; rintro e w' ⟨rfl, rfl⟩)
    | (go_at_call 59; refine (isStream_is _ _ _ _ _ _ h _ hs).mono ?_; rintro e w' ⟨rfl, rfl⟩)
    | (go_at_call 61; refine (tally_any _ _ _ _ _ h hs).mono ?_; rintro e w1 ⟨rfl, hb⟩))
  go_loopw [6, 7, 8, 19] (fun v _ _ i wr => ∃ j : Nat, j ≤ 16 ∧ i = .int .i64 j ∧ Owned wr w.heap.size v (heavyTo k xs j) ∧ Below w.heap.size w wr) (fun _ _ _ i _ => 16 - (intOf i).toNat)
  case atStart => exact ⟨0, by omega, rfl, World.ownsRow_nil _ _ _ _, hb⟩
  case round =>
    obtain ⟨j, hj, rfl, ho, hbr⟩ := hrel
    by_cases hlt : j < 16
    · have hix := fun W => run_index_tarr (fun i => often xs i) j hlt W
      obtain ⟨o1, o2⟩ := often_bd (xs := xs) (j : Int)
      have o3 : often xs j ≤ 40 := by have := hl.out; omega
      obtain ⟨m1, m2⟩ := prod_bd (often xs j) k o1 o3 k1 k2
      have HS := hide (show heavyTo k xs (j + 1) = heavyTo k xs j ++ if (xs.length : Int) < often xs j * (k + 1) then [(j : Int)] else [] from rfl)
      by_cases hgt : (n : Int) < often xs j * (k + 1)
      · have hll : (heavyTo k xs j).length ≤ 100000 := by have := heavyTo_len k xs j; omega
        have hbase := hbr.size
        go_wp2_with (at_builtin; refine wpList_app1 rfl _ _ rfl rfl rfl ho hll hbase ?_; intro v' w2 ho2 hb2)
        go_roundw
        case rel => exact ⟨j + 1, by omega, by go_num, by rw [HS.out, if_pos (by have := hl.out; omega)]; exact ho2, hbr.trans hb2⟩
        case measure => simp [intOf]; omega
      · go_wp2
        go_roundw
        case rel => exact ⟨j + 1, by omega, by go_num, by rw [HS.out, if_neg (by have := hl.out; omega), List.append_nil]; exact ho, hbr⟩
        case measure => simp [intOf]; omega
    · obtain rfl : j = 16 := by omega
      go_wp2
      go_ret2
      exact ⟨_, rfl, ho, hbr⟩

set_option maxHeartbeats 400000 in
theorem Heavy_no (A : Option Addr) (n c : Nat) (xs : List Int) (k : Int) (w : World) (B : Nat) (h : Ints w B A n c xs) (hs : Hid ((cntB k && isStr xs) = false)) :
    Calls Try.prog 27 #[.int .i64 k, .slice A n c] w fun e w' => e = .returned (.tuple #[.slice none 0 0, .int .i64 2]) ∧ w = w' := by
  rcases and_no hs.out with h1 | ⟨h1, h2⟩
  · have H1 := hide h1; clear h1
    go_enter Try.func27, Try.ntmps27
    go_wp2_with (go_at_call 62; refine (isCounters_is _ _ _ H1).mono ?_; rintro e w' ⟨rfl, rfl⟩)
    go_ret2
    exact ⟨rfl, rfl⟩
  · have H1 := hide h1; clear h1
    have H2 := hide h2; clear h2
    go_enter Try.func27, Try.ntmps27
    go_wp2_with (first
      | (go_at_call 62; refine (isCounters_is _ _ _ H1).mono ?_; rintro e w' ⟨rfl, rfl⟩)
      | (go_at_call 59; refine (isStream_is _ _ _ _ _ _ h _ H2).mono ?_; rintro e w' ⟨rfl, rfl⟩))
    go_ret2
    exact ⟨rfl, rfl⟩

set_option maxHeartbeats 800000 in
theorem RHeavy_any (A : Option Addr) (n c : Nat) (xs : List Int) (k : Int) (w : World) (h : Ints w w.heap.size A n c xs) (hs : Hid (isStr xs = true)) (hk : Hid (cntB k = true)) :
    Calls Try.prog 30 #[.int .i64 k, .slice A n c] w fun e w' => ∃ v, e = .returned v ∧ Owned w' w.heap.size v (heavy k xs) ∧ Below w.heap.size w w' := by
  have hm := h.most; have hcap := h.cap
  have hl := hide h.len
  obtain ⟨k1, k2⟩ := cntB_bd hk.out
  have hn : n ≤ 40 := by have := isStr_len hs.out; have := hl.out; omega
  go_enter Try.func30, Try.ntmps30
  go_wp2
  go_loopw [5, 6, 7] (fun v _ i wr => ∃ j : Nat, j ≤ 16 ∧ i = .int .i64 j ∧ Owned wr w.heap.size v (heavyTo k xs j) ∧ Below w.heap.size w wr) (fun _ _ i _ => 16 - (intOf i).toNat)
  case atStart => exact ⟨0, by omega, rfl, World.ownsRow_nil _ _ _ _, Below.refl _ _⟩
  case round =>
    obtain ⟨j, hj, rfl, ho, hbr⟩ := hrel
    by_cases hlt : j < 16
    · obtain ⟨o1, o2⟩ := often_bd (xs := xs) (j : Int)
      have o3 : often xs j ≤ 40 := by have := hl.out; omega
      obtain ⟨m1, m2⟩ := prod_bd (often xs j) k o1 o3 k1 k2
      have HS := hide (show heavyTo k xs (j + 1) = heavyTo k xs j ++ if (xs.length : Int) < often xs j * (k + 1) then [(j : Int)] else [] from rfl)
      have hi := h.below hbr
      by_cases hgt : (n : Int) < often xs j * (k + 1)
      · have hll : (heavyTo k xs j).length ≤ 100000 := by have := heavyTo_len k xs j; omega
        have hbase := hbr.size
        go_wp2_with (first
          | (go_at_call 28; refine (ROften_any _ _ _ _ _ _ _ hi).mono ?_; rintro e w' ⟨rfl, rfl⟩)
          | (at_builtin; refine wpList_app1 rfl _ _ rfl rfl rfl ho hll hbase ?_; intro v' w2 ho2 hb2))
        go_roundw
        case rel => exact ⟨j + 1, by omega, by go_num, by rw [HS.out, if_pos (by have := hl.out; omega)]; exact ho2, hbr.trans hb2⟩
        case measure => simp [intOf]; omega
      · go_wp2_with (go_at_call 28; refine (ROften_any _ _ _ _ _ _ _ hi).mono ?_; rintro e w' ⟨rfl, rfl⟩)
        go_roundw
        case rel => exact ⟨j + 1, by omega, by go_num, by rw [HS.out, if_neg (by have := hl.out; omega), List.append_nil]; exact ho, hbr⟩
        case measure => simp [intOf]; omega
    · obtain rfl : j = 16 := by omega
      go_wp2
      go_ret
      exact ⟨_, rfl, ho, hbr⟩
end Go.Proofs.Ytdlbahoenhhkdaa
