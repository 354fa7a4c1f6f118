/-
  allWithin of the program.
-/
import Derived.Test.YtdbflcfjjoocgaaBase
namespace Go.Proofs.Ytdbflcfjjoocgaa
open Go.RowKit
def allIn (lo hi : Int) (xs : List Int) : Bool := xs.all fun v => decide (lo ≤ v) && decide (v ≤ hi)
theorem take_snoc (xs : List Int) (k : Nat) (h : k < xs.length) : xs.take (k + 1) = xs.take k ++ [nth xs k] := by
  rw [List.take_succ_eq_append_getElem h]; simp [nth, List.getD, h]
theorem allIn_snoc (lo hi : Int) (xs : List Int) (k : Nat) (h : k < xs.length) : allIn lo hi (xs.take (k + 1)) = (allIn lo hi (xs.take k) && (decide (lo ≤ nth xs k) && decide (nth xs k ≤ hi))) := by
  rw [take_snoc xs k h]; simp [allIn]
theorem allIn_no (lo hi : Int) (xs : List Int) (k : Nat) (h : k < xs.length) (hn : nth xs k < lo ∨ hi < nth xs k) : allIn lo hi xs = false := by
  rw [Bool.eq_false_iff]; intro hc
  simp only [allIn, List.all_eq_true, Bool.and_eq_true, decide_eq_true_eq] at hc
  have := hc (nth xs k) (by simp [nth, List.getD, h])
  omega
set_option maxHeartbeats 400000 in
theorem allWithin_any (A : Option Addr) (n c : Nat) (xs : List Int) (lo hi : Int) (w : World) (B : Nat) (h : Ints w B A n c xs) :
    Calls Try.prog 75 #[.slice A n c, .int .i64 lo, .int .i64 hi] w fun e w' => e = .returned (.bool (allIn lo hi xs)) ∧ w = w' := by
  have hm := h.most; have hcap := h.cap
  
  go_enter Try.func75, Try.ntmps75
  go_wp2
  go_loop [11] (fun i => ∃ k : Nat, k ≤ n ∧ i = .int .i64 k ∧ allIn lo hi (xs.take k) = true) (fun i => n - (intOf i).toNat)
  case atStart => exact ⟨0, Nat.zero_le _, rfl, by simp [allIn]⟩
  case round =>
    obtain ⟨k, hk, rfl, hall⟩ := hrel
    have HA : Hid _ := hall
    clear hall
    by_cases hlt : k < n
    · obtain ⟨b, off, rfl, hb, hc⟩ := h.at_ k hlt
      have hkl : k < xs.length := by have := h.len; omega
      have HS := hide (allIn_snoc lo hi xs k hkl)
      go_wp2
      all_goals first
        | (go_ret
           exact ⟨ret_bool (allIn_no lo hi xs k hkl (by omega)).symm, rfl⟩)
        | (go_round
           case rel => exact ⟨k + 1, by omega, by go_num, by rw [HS.out, HA.out]; simp; omega⟩
           case measure => simp [intOf]; omega)
    · go_wp2
      go_ret
      have hkn : k = xs.length := by have := h.len; omega
      have HB := HA.out
      rw [hkn, List.take_length] at HB
      exact ⟨ret_bool HB.symm, rfl⟩
end Go.Proofs.Ytdbflcfjjoocgaa
