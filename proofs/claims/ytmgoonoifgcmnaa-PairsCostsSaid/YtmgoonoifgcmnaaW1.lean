/-
  slices.Index, slices.Contains; counts and shifts; a row is one.
-/
import Derived.Test.YtmgoonoifgcmnaaM1
import Derived.Test.YtmgoonoifgcmnaaR3
namespace Go.Proofs.Ytmgoonoifgcmnaa
open Go.RowKit

theorem Ints.on {w w' : World} {n c : Nat} {A : Option Addr} {xs : List Int} (h : Ints w w.heap.size A n c xs) (hb : Below w.heap.size w w') : Ints w' w'.heap.size A n c xs := (h.below hb).more hb.size

theorem quiet_left {P : Program} {f : FuncId} {args : Array Value} {w : World} {n : Nat} {v : Value}
    (h : Calls P f args (w.drewN n) fun e w' => e = .returned v ∧ w.drewN n = w') : Calls P f args (w.drewN n) fun e w'' => e = .returned v ∧ ∃ m, w'' = w.drewN m :=
  h.mono fun _ _ ⟨he, hm⟩ => ⟨he, n, hm.symm⟩

set_option maxHeartbeats 400000 in
theorem Index_any (A : Option Addr) (n c : Nat) (xs : List Int) (z : Int) (w : World) (B : Nat) (h : Ints w B A n c xs) :
    Calls Try.prog 98 #[.slice A n c, .int .i64 z] w fun e w' => e = .returned (.int .i64 (ixI xs z)) ∧ w = w' := by
  have hm := h.most; have hcap := h.cap
  have hl := hide h.len
  go_enter Try.func98, Try.ntmps98
  go_wp2_with fail
  go_loop [5, 8] (fun _ i => ∃ k : Nat, k ≤ n ∧ i = .int .i64 k ∧ Hid (∀ j, j < k → nth xs j ≠ z)) (fun _ i => n - (intOf i).toNat)
  case atStart => exact ⟨0, Nat.zero_le _, rfl, hide (fun j hj => absurd hj (by omega))⟩
  case round =>
    obtain ⟨k, hk, rfl, HA⟩ := hrel
    by_cases hlt : k < n
    · obtain ⟨b, off, rfl, hb, hc⟩ := h.at_ k hlt
      by_cases he : z = nth xs k
      · have he' : (z == nth xs k) = true := by simpa using he
        have HE := hide (ixI_at HA.out (by rw [hl.out]; exact hlt) he.symm)
        have HZ := hide he; clear he
        go_wp2_with fail
        go_ret
        exact ⟨ret_int HE.out.symm, rfl⟩
      · have he' : (z == nth xs k) = false := by simpa using he
        have HE := hide he; clear he
        go_wp2_with fail
        go_round
        case rel => exact ⟨k + 1, by omega, by go_num, hide (by
          intro j hj
          rcases Nat.lt_or_ge j k with h1 | h1
          · exact HA.out j h1
          · obtain rfl : j = k := by omega
            exact fun e => HE.out e.symm)⟩
        case measure => simp [intOf]; omega
    · have HE := hide (ixI_none (xs := xs) (z := z) fun j hj => HA.out j (by have := hl.out; omega))
      go_wp2_with fail
      go_ret
      exact ⟨ret_int HE.out.symm, rfl⟩
theorem ix_mem (xs : List Int) (z : Int) : decide (0 ≤ ixI xs z) = decide (z ∈ xs) := by
  rcases ix_cases xs z with ⟨e, h⟩ | ⟨k, e, hk, hz, _⟩
  · have : ¬ z ∈ xs := fun hz => by
      obtain ⟨j, hj, he⟩ := List.mem_iff_getElem.1 hz
      exact h j hj (by rw [← he]; simp [nth, List.getD, hj])
    simp [e, this]
  · have : z ∈ xs := by rw [← hz]; simp [nth, List.getD, hk]
    simp [e, this]
theorem Contains_any (A : Option Addr) (n c : Nat) (xs : List Int) (z : Int) (w : World) (B : Nat) (h : Ints w B A n c xs) (b : Bool) (hb : Hid (decide (z ∈ xs) = b)) :
    Calls Try.prog 102 #[.slice A n c, .int .i64 z] w fun e w' => e = .returned (.bool b) ∧ w = w' := by
  go_enter Try.func102, Try.ntmps102
  go_wp2_with fail
  refine (Index_any _ _ _ _ z _ _ h).mono ?_
  rintro e w' ⟨rfl, rfl⟩
  have HB := hide ((ix_mem xs z).trans hb.out)
  clear hb
  obtain ⟨r, hr⟩ : ∃ r, ixI xs z = r := ⟨_, rfl⟩
  rw [hr] at HB ⊢
  by_cases h0 : 0 ≤ r
  · have d : decide (0 ≤ r) = true := by simpa using h0
    go_wp2_with fail
    go_ret
    exact ⟨ret_bool (by rw [← HB.out]; simp [h0]), rfl⟩
  · have d : decide (0 ≤ r) = false := by simpa using h0
    go_wp2_with fail
    go_ret
    exact ⟨ret_bool (by rw [← HB.out]; simp [h0]), rfl⟩

def ctB (n : Int) : Bool := decide (1 ≤ n) && decide (n ≤ 8)
theorem isCount_any (n : Int) (w : World) (b : Bool) (hb : Hid (ctB n = b)) : Calls Try.prog 72 #[.int .i64 n] w fun e w' => e = .returned (.bool b) ∧ w = w' := by
  by_cases h1 : 1 ≤ n
  · have d : decide (1 ≤ n) = true := by simpa using h1
    go_enter Try.func72, Try.ntmps72
    go_wp2_with fail
    all_goals
      go_ret
      exact ⟨ret_bool (by rw [← hb.out]; unfold ctB; simp; omega), rfl⟩
  · have d : decide (1 ≤ n) = false := by simpa using h1
    go_enter Try.func72, Try.ntmps72
    go_wp2_with fail
    all_goals
      go_ret
      exact ⟨ret_bool (by rw [← hb.out]; unfold ctB; simp; omega), rfl⟩
theorem isShift_any (s : Int) (w : World) (b : Bool) (hb : Hid (shB s = b)) : Calls Try.prog 68 #[.int .i64 s] w fun e w' => e = .returned (.bool b) ∧ w = w' := by
  by_cases h1 : s = 1
  · subst h1
    go_enter Try.func68, Try.ntmps68
    go_wp2_with fail
    go_ret
    exact ⟨ret_bool (by rw [← hb.out]; rfl), rfl⟩
  · have d : (s == 1) = false := by simpa using h1
    have HB := hide (show (s == 2) = b from by rw [← hb.out]; unfold shB; simp [h1, Bool.beq_eq_decide_eq])
    clear hb h1
    go_enter Try.func68, Try.ntmps68
    go_wp2_with fail
    go_ret
    exact ⟨ret_bool HB.out, rfl⟩
end Go.Proofs.Ytmgoonoifgcmnaa
