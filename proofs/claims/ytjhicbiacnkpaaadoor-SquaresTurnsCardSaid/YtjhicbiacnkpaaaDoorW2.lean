/-
  Small functions: sizes, sets, clues.
-/
import Derived.Test.YtjhicbiacnkpaaaDoorW1
namespace Go.Proofs.YtjhicbiacnkpaaaDoor
open Go.RowKit

theorem isSize_any (x : Int) (w : World) : Calls Tryd.prog 68 #[.int .i64 x] w fun e w' => e = .returned (.bool (sz x)) ∧ w = w' := by
  by_cases h1 : 1 ≤ x
  · have d1 : decide (1 ≤ x) = true := by simpa using h1
    by_cases h2 : x ≤ 5
    · have HF := hide (show sz x = true from sz_iff.2 ⟨h1, h2⟩)
      have d2 : decide (x ≤ 5) = true := by simpa using h2
      go_enter Tryd.func68, Tryd.ntmps68
      go_wp2_with fail
      go_ret
      exact ⟨ret_bool HF.out.symm, rfl⟩
    · have HF := hide (show sz x = false from sz_no (by omega))
      have d2 : decide (x ≤ 5) = false := by simp; omega
      go_enter Tryd.func68, Tryd.ntmps68
      go_wp2_with fail
      go_ret
      exact ⟨ret_bool HF.out.symm, rfl⟩
  · have HF := hide (show sz x = false from sz_no (by omega))
    have d1 : decide (1 ≤ x) = false := by simp; omega
    go_enter Tryd.func68, Tryd.ntmps68
    go_wp2_with fail
    go_ret
    exact ⟨ret_bool HF.out.symm, rfl⟩
theorem isSize_is (x : Int) (w : World) (b : Bool) (hb : Hid (sz x = b)) : Calls Tryd.prog 68 #[.int .i64 x] w fun e w' => e = .returned (.bool b) ∧ w = w' := by rw [← hb.out]; exact isSize_any x w
theorem RSize_any (x : Int) (w : World) : Calls Tryd.prog 64 #[.int .i64 x] w fun e w' => e = .returned (.bool (sz x)) ∧ w = w' := by
  by_cases h1 : 1 ≤ x
  · have d1 : decide (1 ≤ x) = true := by simpa using h1
    by_cases h2 : x ≤ 5
    · have HF := hide (show sz x = true from sz_iff.2 ⟨h1, h2⟩)
      have d2 : decide (x ≤ 5) = true := by simpa using h2
      go_enter Tryd.func64, Tryd.ntmps64
      go_wp2_with fail
      go_ret
      exact ⟨ret_bool HF.out.symm, rfl⟩
    · have HF := hide (show sz x = false from sz_no (by omega))
      have d2 : decide (x ≤ 5) = false := by simp; omega
      go_enter Tryd.func64, Tryd.ntmps64
      go_wp2_with fail
      go_ret
      exact ⟨ret_bool HF.out.symm, rfl⟩
  · have HF := hide (show sz x = false from sz_no (by omega))
    have d1 : decide (1 ≤ x) = false := by simp; omega
    go_enter Tryd.func64, Tryd.ntmps64
    go_wp2_with fail
    go_ret
    exact ⟨ret_bool HF.out.symm, rfl⟩
theorem RSize_is (x : Int) (w : World) (b : Bool) (hb : Hid (sz x = b)) : Calls Tryd.prog 64 #[.int .i64 x] w fun e w' => e = .returned (.bool b) ∧ w = w' := by rw [← hb.out]; exact RSize_any x w

theorem pow_nat {n : Nat} (h1 : 1 ≤ n) (h2 : n ≤ 5) : ∃ P : Nat, Hid (P = 2 ^ n) ∧ (2 : Int) ^ n = (P : Int) ∧ 2 ≤ P ∧ P ≤ 32 := by
  refine ⟨2 ^ n, hide rfl, by simp, ?_, pow_le (by omega)⟩
  have := Nat.pow_le_pow_right (n := 2) (by decide) h1
  simpa using this
theorem all_any (n P : Nat) (h1 : 1 ≤ n) (h2 : n ≤ 5) (hP : Hid (P = 2 ^ n)) (w : World) : Calls Tryd.prog 66 #[.int .i64 n] w fun e w' => e = .returned (.int .i64 ((P : Int) - 1)) ∧ w = w' := by
  obtain ⟨Q, hQ, q1, q2, q3⟩ := pow_nat h1 h2
  obtain rfl : P = Q := by rw [hP.out, hQ.out]
  go_enter Tryd.func66, Tryd.ntmps66
  go_wp2_with fail
  go_ret
  exact ⟨rfl, rfl⟩

/-- These are sets of x squares. -/
def ars (x : Int) (xs : List Int) : Bool := sz x && xs.all (setB x)
theorem setB_eq {n P : Nat} (h1 : 1 ≤ n) (h2 : n ≤ 5) (hP : Hid (P = 2 ^ n)) (l : Int) : setB n l = (decide (0 ≤ l) && decide (l < P)) := by
  unfold setB
  rw [sz_iff.2 (show 1 ≤ (n : Int) ∧ (n : Int) ≤ 5 by omega), Bool.true_and, Int.toNat_natCast, hP.out]
  simp
theorem nth_mem {xs : List Int} {k : Nat} (h : k < xs.length) : nth xs k ∈ xs := by
  have : nth xs k = xs[k] := by simp [nth, List.getD, h]
  rw [this]; exact List.getElem_mem h
theorem all_nth {f : Int → Bool} {xs : List Int} (h : ∀ k, k < xs.length → f (nth xs k) = true) : xs.all f = true := by
  rw [List.all_eq_true]
  intro z hz
  obtain ⟨k, hk, rfl⟩ := List.mem_iff_getElem.1 hz
  have := h k hk
  have e : nth xs k = xs[k] := by simp [nth, List.getD, hk]
  rwa [e] at this
theorem not_all {f : Int → Bool} {xs : List Int} {k : Nat} (h : k < xs.length) (hf : f (nth xs k) = false) : xs.all f = false := by
  cases e : xs.all f with
  | false => rfl
  | true => have := List.all_eq_true.1 e _ (nth_mem h); rw [hf] at this; cases this
def ArTo (x : Int) (xs : List Int) (k : Nat) : Prop := ∀ j, j < k → setB x (nth xs j) = true
theorem ArTo.succ {x : Int} {xs : List Int} {k : Nat} (h : ArTo x xs k) (hk : setB x (nth xs k) = true) : ArTo x xs (k + 1) := by
  intro j hj
  rcases Nat.lt_or_ge j k with h1 | h1
  · exact h j h1
  · obtain rfl : j = k := by omega
    exact hk

set_option maxHeartbeats 400000 in
theorem areSets_any (x : Int) (A : Option Addr) (n c : Nat) (xs : List Int) (w : World) (B : Nat) (h : Ints w B A n c xs) :
    Calls Tryd.prog 60 #[.int .i64 x, .slice A n c] w fun e w' => e = .returned (.bool (ars x xs)) ∧ w = w' := by
  have hm := h.most; have hcap := h.cap
  have hl := hide h.len
  by_cases hx : sz x = true
  · obtain ⟨m, rfl, h1, h2⟩ := sz_nat hx
    obtain ⟨P, hP, q1, q2, q3⟩ := pow_nat h1 h2
    have HX := hide hx; clear hx
    go_enter Tryd.func60, Tryd.ntmps60
    go_wp2_with (go_at_call 68; refine (isSize_is _ _ true HX).mono ?_; rintro e w' ⟨rfl, rfl⟩)
    go_loop [6, 12] (fun _ i => ∃ k : Nat, k ≤ n ∧ i = .int .i64 k ∧ Hid (ArTo m xs k)) (fun _ i => n - (intOf i).toNat)
    case atStart => exact ⟨0, Nat.zero_le _, rfl, hide (fun j hj => absurd hj (by omega))⟩
    case round =>
      obtain ⟨k, hk, rfl, HA⟩ := hrel
      by_cases hlt : k < n
      · obtain ⟨b, off, rfl, hb, hc⟩ := h.at_ k hlt
        have hkl := hide (show k < xs.length from by have := hl.out; omega)
        have HE := hide (setB_eq h1 h2 hP (nth xs k))
        by_cases hlo : nth xs k < 0
        · have d1 : decide (nth xs k < 0) = true := by simpa using hlo
          have HF := hide (show ars m xs = false from by
            unfold ars; rw [not_all hkl.out (by rw [HE.out]; simp; omega)]; simp)
          go_wp2_with fail
          go_ret
          exact ⟨ret_bool HF.out.symm, rfl⟩
        · have d1 : decide (nth xs k < 0) = false := by simpa using hlo
          by_cases hhi : (P : Int) - 1 < nth xs k
          · have d2 : decide ((P : Int) - 1 < nth xs k) = true := by simpa using hhi
            have HF := hide (show ars m xs = false from by
              unfold ars; rw [not_all hkl.out (by rw [HE.out]; simp; omega)]; simp)
            go_wp2_with (go_at_call 66; refine (all_any m P h1 h2 hP _).mono ?_; rintro e w' ⟨rfl, rfl⟩)
            go_ret
            exact ⟨ret_bool HF.out.symm, rfl⟩
          · have d2 : decide ((P : Int) - 1 < nth xs k) = false := by simpa using hhi
            have HS := hide (show setB m (nth xs k) = true from by rw [HE.out]; simp; omega)
            go_wp2_with (go_at_call 66; refine (all_any m P h1 h2 hP _).mono ?_; rintro e w' ⟨rfl, rfl⟩)
            go_round
            case rel => exact ⟨k + 1, by omega, by go_num, hide (HA.out.succ HS.out)⟩
            case measure => simp [intOf]; omega
      · go_wp2_with fail
        go_ret
        have e : k = n := by omega
        subst e
        exact ⟨ret_bool (by symm; unfold ars; rw [HX.out, Bool.true_and]; exact all_nth (by rw [hl.out]; exact HA.out)), rfl⟩
  · have HX := hide (show sz x = false from by simpa using hx)
    clear hx
    go_enter Tryd.func60, Tryd.ntmps60
    go_wp2_with (go_at_call 68; refine (isSize_is _ _ false HX).mono ?_; rintro e w' ⟨rfl, rfl⟩)
    go_ret
    exact ⟨ret_bool (by symm; unfold ars; rw [HX.out]; rfl), rfl⟩

set_option maxHeartbeats 400000 in
theorem RSet_any (x l : Int) (w : World) : Calls Tryd.prog 21 #[.int .i64 x, .int .i64 l] w fun e w' => e = .returned (.bool (setB x l)) ∧ w = w' := by
  by_cases hx : sz x = true
  · obtain ⟨m, rfl, h1, h2⟩ := sz_nat hx
    obtain ⟨P, hP, q1, q2, q3⟩ := pow_nat h1 h2
    have HX := hide hx; clear hx
    have HE := hide (setB_eq h1 h2 hP l)
    by_cases hlo : 0 ≤ l
    · have d1 : decide (0 ≤ l) = true := by simpa using hlo
      by_cases hhi : l < P
      · have d2 : decide (l < (P : Int)) = true := by simpa using hhi
        go_enter Tryd.func21, Tryd.ntmps21
        go_wp2_with (go_at_call 64; refine (RSize_is _ _ true HX).mono ?_; rintro e w' ⟨rfl, rfl⟩)
        go_ret
        exact ⟨ret_bool (by rw [HE.out]; simp; omega), rfl⟩
      · have d2 : decide (l < (P : Int)) = false := by simp; omega
        go_enter Tryd.func21, Tryd.ntmps21
        go_wp2_with (go_at_call 64; refine (RSize_is _ _ true HX).mono ?_; rintro e w' ⟨rfl, rfl⟩)
        go_ret
        exact ⟨ret_bool (by rw [HE.out]; simp; omega), rfl⟩
    · have d1 : decide (0 ≤ l) = false := by simp; omega
      go_enter Tryd.func21, Tryd.ntmps21
      go_wp2_with (go_at_call 64; refine (RSize_is _ _ true HX).mono ?_; rintro e w' ⟨rfl, rfl⟩)
      go_ret
      exact ⟨ret_bool (by rw [HE.out]; simp; omega), rfl⟩
  · have HX := hide (show sz x = false from by simpa using hx)
    clear hx
    go_enter Tryd.func21, Tryd.ntmps21
    go_wp2_with (go_at_call 64; refine (RSize_is _ _ false HX).mono ?_; rintro e w' ⟨rfl, rfl⟩)
    go_ret
    exact ⟨ret_bool (by unfold setB; rw [HX.out]; rfl), rfl⟩
theorem RSet_is (x l : Int) (w : World) (b : Bool) (hb : Hid (setB x l = b)) : Calls Tryd.prog 21 #[.int .i64 x, .int .i64 l] w fun e w' => e = .returned (.bool b) ∧ w = w' := by rw [← hb.out]; exact RSet_any x l w
end Go.Proofs.YtjhicbiacnkpaaaDoor
