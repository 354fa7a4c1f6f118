/-
  slices.Contains, slices.IsSorted at numbers; the lists of lines rise.
-/
import Derived.Test.YtjhicbiacnkpaaaDoorW5
namespace Go.Proofs.YtjhicbiacnkpaaaDoor
open Go.RowKit

theorem Ints.on {w w' : World} {n c : Nat} {A : Option Addr} {xs : List Int} (h : Ints w w.heap.size A n c xs) (hb : Below w.heap.size w w') : Ints w' w'.heap.size A n c xs := (h.below hb).more hb.size

theorem quiet_left {P : Program} {f : FuncId} {args : Array Value} {w : World} {n : Nat} {v : Value}
    (h : Calls P f args (w.drewN n) fun e w' => e = .returned v ∧ w.drewN n = w') : Calls P f args (w.drewN n) fun e w'' => e = .returned v ∧ ∃ m, w'' = w.drewN m :=
  h.mono fun _ _ ⟨he, hm⟩ => ⟨he, n, hm.symm⟩
theorem quiet_left2 {P : Program} {f : FuncId} {args : Array Value} {w : World} {q n : Nat} {v : Value}
    (h : Calls P f args (w.drewN (q + n)) fun e w' => e = .returned v ∧ w.drewN (q + n) = w') : Calls P f args (w.drewN (q + n)) fun e w'' => e = .returned v ∧ ∃ m, w'' = w.drewN (q + m) :=
  h.mono fun _ _ ⟨he, hm⟩ => ⟨he, n, hm.symm⟩
/-- Whether what Index answers says that z is there. -/
def Found (xs : List Int) (z r : Int) : Prop := decide (0 ≤ r) = decide (z ∈ xs)
set_option maxHeartbeats 400000 in
theorem Index_any (A : Option Addr) (n c : Nat) (xs : List Int) (z : Int) (w : World) (B : Nat) (h : Ints w B A n c xs) :
    Calls Tryd.prog 87 #[.slice A n c, .int .i64 z] w fun e w' => (∃ r : Int, e = .returned (.int .i64 r) ∧ -1 ≤ r ∧ Found xs z r) ∧ w = w' := by
  have hm := h.most; have hcap := h.cap
  have hl := hide h.len
  go_enter Tryd.func87, Tryd.ntmps87
  go_wp2_with fail
  go_loop [5, 8] (fun _ i => ∃ k : Nat, k ≤ n ∧ i = .int .i64 k ∧ Hid (∀ j, j < k → nth xs j ≠ z)) (fun _ i => n - (intOf i).toNat)
  case atStart => exact ⟨0, Nat.zero_le _, rfl, hide (fun j hj => absurd hj (by omega))⟩
  case round =>
    obtain ⟨k, hk, rfl, HA⟩ := hrel
    by_cases hlt : k < n
    · obtain ⟨b, off, rfl, hb, hc⟩ := h.at_ k hlt
      by_cases he : z = nth xs k
      · have he' : (z == nth xs k) = true := by simpa using he
        have HE := hide (show Found xs z (k : Int) from by
          unfold Found
          have : z ∈ xs := by rw [he]; exact nth_mem (by rw [hl.out]; exact hlt)
          simp [this])
        have HZ := hide he; clear he
        go_wp2_with fail
        go_ret
        exact ⟨⟨(k : Int), rfl, by omega, HE.out⟩, rfl⟩
      · have he' : (z == nth xs k) = false := by simpa using he
        have HE := hide he; clear he
        go_wp2_with fail
        go_round
        case rel => exact ⟨k + 1, by omega, by go_num, hide (by
          intro j hj
          rcases Nat.lt_or_ge j k with h1 | h1
          · exact HA.out j h1
          · obtain rfl : j = k := by omega
            exact fun e => HE.out e.symm)⟩
        case measure => simp [intOf]; omega
    · have HE := hide (show Found xs z (-1 : Int) from by
        unfold Found
        have : ¬ z ∈ xs := by
          intro hz
          obtain ⟨j, hj, he⟩ := List.mem_iff_getElem.1 hz
          refine HA.out j (by have := hl.out; omega) ?_
          rw [← he]; simp [nth, List.getD, hj]
        simp [this])
      go_wp2_with fail
      go_ret
      exact ⟨⟨-1, rfl, by omega, HE.out⟩, rfl⟩
theorem Contains_any (A : Option Addr) (n c : Nat) (xs : List Int) (z : Int) (w : World) (B : Nat) (h : Ints w B A n c xs) (b : Bool) (hb : Hid (decide (z ∈ xs) = b)) :
    Calls Tryd.prog 51 #[.slice A n c, .int .i64 z] w fun e w' => e = .returned (.bool b) ∧ w = w' := by
  go_enter Tryd.func51, Tryd.ntmps51
  go_wp2_with fail
  refine (Index_any _ _ _ _ z _ _ h).mono ?_
  rintro e w' ⟨⟨r, rfl, hr, HR⟩, rfl⟩
  have HB := hide ((show decide (0 ≤ r) = decide (z ∈ xs) from HR).trans hb.out)
  clear hb HR
  by_cases h0 : 0 ≤ r
  · have d : decide (0 ≤ r) = true := by simpa using h0
    go_wp2_with fail
    go_ret
    exact ⟨ret_bool (by rw [← HB.out]; simp [h0]), rfl⟩
  · have d : decide (0 ≤ r) = false := by simpa using h0
    go_wp2_with fail
    go_ret
    exact ⟨ret_bool (by rw [← HB.out]; simp [h0]), rfl⟩

theorem isNaN_any (x : Int) (w : World) : Calls Tryd.prog 107 #[.int .i64 x] w fun e w' => e = .returned (.bool false) ∧ w = w' := by
  have d : (x != x) = false := by simp
  go_enter Tryd.func107, Tryd.ntmps107
  go_wp2_with fail
  go_ret
  exact ⟨rfl, rfl⟩
theorem Less_no (x y : Int) (h : y ≤ x) (w : World) : Calls Tryd.prog 88 #[.int .i64 x, .int .i64 y] w fun e w' => e = .returned (.bool false) ∧ w = w' := by
  have d : decide (x < y) = false := by simp; omega
  go_enter Tryd.func88, Tryd.ntmps88
  go_wp2_with (go_at_call 107; refine (isNaN_any _ _).mono ?_; rintro e w' ⟨rfl, rfl⟩)
  go_ret
  exact ⟨rfl, rfl⟩

set_option maxHeartbeats 400000 in
theorem IsSorted_yes (A : Option Addr) (n c : Nat) (xs : List Int) (w : World) (B : Nat) (h : Ints w B A n c xs) (hs : Hid (∀ k, k + 1 < n → nth xs k ≤ nth xs (k + 1))) :
    Calls Tryd.prog 52 #[.slice A n c] w fun e w' => e = .returned (.bool true) ∧ Below w.heap.size w w' := by
  have hm := h.most; have hcap := h.cap
  go_enter Tryd.func52, Tryd.ntmps52
  go_wp2_with fail
  go_loopw [3] (fun i wr => ∃ k : Int, -1 ≤ k ∧ k < n ∧ i = .int .i64 k ∧ ∃ q, wr = w.drewN q) (fun i _ => (intOf i).toNat)
  case atStart => exact ⟨(n : Int) - 1, by omega, by omega, rfl, 0, rfl⟩
  case round =>
    obtain ⟨k, hk1, hk2, rfl, q, rfl⟩ := hrel
    by_cases hlt : 0 < k
    · obtain ⟨i, j, rfl, hij, hi, hj⟩ : ∃ i j : Nat, k = (i : Int) ∧ Hid (i = j + 1) ∧ i < n ∧ j < n := ⟨k.toNat, k.toNat - 1, by omega, hide (by omega), by omega, by omega⟩
      obtain ⟨b, off, rfl, hb, hc⟩ := h.at_ i hi
      obtain ⟨b1, off1, e, hb1, hc1⟩ := h.at_ j hj
      cases e
      have hno := hide (show nth xs j ≤ nth xs i by rw [hij.out]; exact hs.out j (by have := hij.out; omega))
      have d2 : decide (0 < (i : Int)) = true := by simpa using hlt
      have d4 : (i : Int) - 1 = (j : Int) := by have := hij.out; omega
      have d5 := hide d4; clear d4
      have d3 : IntKind.i64.wrap ((i : Int) - 1) = (j : Int) := by rw [IntKind.wrap_i64, d5.out]; omega
      have z1 : 0 ≤ (i : Int) := by omega
      have z2 : 0 ≤ (j : Int) := by omega
      have z3 : (i : Int) < n := by omega
      have z4 : (j : Int) < n := by omega
      go_wp2_with fail
      go_big_quiet (first | exact quiet_left2 (Less_no _ _ (unhide hno) _) | exact quiet_left (Less_no _ _ (unhide hno) _))
      go_wp2_with fail
      go_roundw
      case rel => exact ⟨(j : Int), by omega, by omega, by first | rfl | rw [d5.out], (by first | exact ⟨_, rfl⟩ | exact quiet_q _ _ _)⟩
      case measure => have := hij.out; simp [intOf]; omega
    · have d2 : decide (0 < k) = false := by simpa using hlt
      go_wp2_with fail
      go_ret
      exact ⟨rfl, Below.drewN' (Below.refl _ _) q⟩

theorem lnT_rise (xs : List Int) (j : Nat) : (lnT xs j).Pairwise (· < ·) := by
  unfold lnT
  rw [List.pairwise_map]
  refine (List.Pairwise.filter _ List.pairwise_lt_range).imp ?_
  intro a b h
  exact Int.ofNat_lt.2 h
theorem lnT_nth (xs : List Int) (j k : Nat) (h : k + 1 < (lnT xs j).length) : nth (lnT xs j) k < nth (lnT xs j) (k + 1) := by
  have := List.pairwise_iff_getElem.1 (lnT_rise xs j) k (k + 1) (by omega) h (by omega)
  simpa [nth, List.getD, h, show k < (lnT xs j).length by omega] using this
theorem lnT_at (xs : List Int) (j k : Nat) (h : k < (lnT xs j).length) : ∃ y : Nat, nth (lnT xs j) k = (y : Int) ∧ y < j ∧ bl y = xs := by
  obtain ⟨y, h1, h2, h3⟩ := mem_lnT.1 (nth_mem h)
  exact ⟨y, h3, h1, h2⟩
theorem mem_ln {m l : Nat} (h : l < 2 ^ m) (xs : List Int) : (l : Int) ∈ lnL m xs ↔ bl l = xs := by
  unfold lnL
  rw [mem_lnT]
  constructor
  · rintro ⟨y, _, h2, h3⟩
    obtain rfl : l = y := by omega
    exact h2
  · intro e; exact ⟨l, h, e, rfl⟩
end Go.Proofs.YtjhicbiacnkpaaaDoor
