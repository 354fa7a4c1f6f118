/-
  Valid curves: arePoles, slices.IsSorted, areKnots of the program.
-/
import Derived.Test.YtdbflcfjjoocgaaF4
namespace Go.Proofs.Ytdbflcfjjoocgaa
open Go.RowKit

theorem quiet_left {P : Program} {f : FuncId} {args : Array Value} {w : World} {n : Nat} {v : Value}
    (h : Calls P f args (w.drewN n) fun e w' => e = .returned v ∧ w.drewN n = w') : Calls P f args (w.drewN n) fun e w'' => e = .returned v ∧ ∃ m, w'' = w.drewN m :=
  h.mono fun _ _ ⟨he, hm⟩ => ⟨he, n, hm.symm⟩

theorem quiet_left2 {P : Program} {f : FuncId} {args : Array Value} {w : World} {q n : Nat} {v : Value}
    (h : Calls P f args (w.drewN (q + n)) fun e w' => e = .returned v ∧ w.drewN (q + n) = w') : Calls P f args (w.drewN (q + n)) fun e w'' => e = .returned v ∧ ∃ m, w'' = w.drewN (q + m) :=
  h.mono fun _ _ ⟨he, hm⟩ => ⟨he, n, hm.symm⟩
theorem arePoles_any (A : Option Addr) (n c : Nat) (xs : List Int) (w : World) (B : Nat) (h : Ints w B A n c xs) :
    Calls Try.prog 65 #[.slice A n c] w fun e w' => e = .returned (.bool (allIn (-50) 50 xs)) ∧ w = w' := by
  go_enter Try.func65, Try.ntmps65
  go_wp2_with fail
  refine (allWithin_any _ _ _ _ _ _ _ _ h).mono ?_
  rintro e w' ⟨rfl, rfl⟩
  go_wp2_with fail
  go_ret
  exact ⟨rfl, rfl⟩

theorem less_any (a b : Int) (w : World) : Calls Try.prog 73 #[.int .i64 a, .int .i64 b] w fun e w' => e = .returned (.bool (decide (a < b))) ∧ w = w' := by
  go_enter Try.func73, Try.ntmps73
  go_wp2_with fail
  go_wp2
  go_ret
  exact ⟨rfl, rfl⟩

/-- Numbers that do not fall. -/
def sortB (xs : List Int) : Bool := (List.range (xs.length - 1)).all fun i => decide (nth xs i ≤ nth xs (i + 1))
theorem sortB_iff (xs : List Int) : sortB xs = true ↔ ∀ i, i + 1 < xs.length → nth xs i ≤ nth xs (i + 1) := by
  simp only [sortB, List.all_eq_true, List.mem_range, decide_eq_true_eq]
  exact ⟨fun h i hi => h i (by omega), fun h i hi => h i (by omega)⟩

set_option maxRecDepth 100000 in
set_option maxHeartbeats 1000000 in
theorem isSorted_any (A : Option Addr) (n c : Nat) (xs : List Int) (w : World) (B : Nat) (h : Ints w B A n c xs) (hn : n ≤ 1000) (b : Bool) (hb : Hid (sortB xs = b)) :
    Calls Try.prog 77 #[.slice A n c] w fun e w' => e = .returned (.bool b) ∧ ∃ q, w' = w.drewN q := by
  have hm := h.most; have hcap := h.cap
  have hl := hide h.len
  have H := hide h; clear h
  go_enter Try.func77, Try.ntmps77
  go_wp2_with fail
  go_loopw [3] (fun i wr => ∃ k : Int, -1 ≤ k ∧ k + 1 ≤ n ∧ i = .int .i64 k ∧ Hid (∀ j : Nat, k ≤ j → j + 1 < n → nth xs j ≤ nth xs (j + 1)) ∧ ∃ q, wr = w.drewN q) (fun i _ => (intOf i).toNat)
  case atStart => exact ⟨(n : Int) - 1, by omega, by omega, by go_num, hide (fun j h1 h2 => absurd h1 (by omega)), 0, rfl⟩
  case round =>
    obtain ⟨k, hk0, hk, rfl, HJ, q, rfl⟩ := hrel
    by_cases h0 : 0 < k
    · obtain ⟨k, rfl⟩ : ∃ m : Nat, k = ((m + 1 : Nat) : Int) := ⟨(k - 1).toNat, by omega⟩
      have hkn : k + 1 < n := by omega
      obtain ⟨b1, off, rfl, hbb, e1⟩ := (unhide H).at_ (k + 1) hkn
      obtain ⟨b2, off2, e0, _, e2⟩ := (unhide H).at_ k (by omega)
      simp only [Option.some.injEq, Addr.mk.injEq, and_true] at e0
      obtain ⟨rfl, rfl⟩ := e0
      have HJ2 := hide (fun (hle : nth xs k ≤ nth xs (k + 1)) => show ∀ j : Nat, (k : Int) ≤ j → j + 1 < n → nth xs j ≤ nth xs (j + 1) from fun j h1 h2 => by
        by_cases e : j = k
        · subst e; exact hle
        · exact HJ.out j (by omega) h2)
      have HF := hide (fun (hlt : nth xs (k + 1) < nth xs k) => show false = b from by
        rw [← hb.out, eq_comm, Bool.eq_false_iff]
        intro hc
        have := (sortB_iff xs).1 hc k (by rw [hl.out]; omega)
        omega)
      revert HJ2 HF e1 e2
      obtain ⟨x, hx⟩ : ∃ x, nth xs (k + 1) = x := ⟨_, rfl⟩
      obtain ⟨y, hy⟩ : ∃ x, nth xs k = x := ⟨_, rfl⟩
      rw [hx, hy]
      intro e1 e2 HJ2 HF
      clear hx hy HJ
      have hidx : ((k + 1 : Nat) : Int) - 1 = (k : Int) := by omega
      by_cases hlt : x < y
      · have HR := hide (HF.out hlt)
        have HL := hide (fun W => less_any x y W)
        have hd : decide (x < y) = true := decide_eq_true hlt
        rw [hd] at HL
        go_wp2_with fail
        go_big_quiet (first | exact quiet_left2 ((unhide HL) _) | exact quiet_left ((unhide HL) _))
        go_wp2_with fail
        go_ret
        exact ⟨ret_bool HR.out, (by first | exact ⟨_, rfl⟩ | exact quiet_q _ _ _)⟩
      · have HR := hide (HJ2.out (by omega))
        have HL := hide (fun W => less_any x y W)
        have hd : decide (x < y) = false := decide_eq_false hlt
        rw [hd] at HL
        go_wp2_with fail
        go_big_quiet (first | exact quiet_left2 ((unhide HL) _) | exact quiet_left ((unhide HL) _))
        go_wp2_with fail
        go_roundw
        case rel => exact ⟨k, by omega, by omega, by go_num, HR, (by first | exact ⟨_, rfl⟩ | exact quiet_q _ _ _)⟩
        case measure => simp [intOf]
    · have HT := hide (show true = b from by
        rw [← hb.out, eq_comm, sortB_iff]
        intro j hj
        exact HJ.out j (by omega) (by rw [← hl.out]; exact hj))
      go_wp2_with fail
      go_ret
      exact ⟨ret_bool HT.out, _, rfl⟩
end Go.Proofs.Ytdbflcfjjoocgaa
