/-
  Lines and blocks of the program: isClue, lines, Lines, Blocks.
-/
import Derived.Test.YtjhicbiacnkpaaaDoorW2
namespace Go.Proofs.YtjhicbiacnkpaaaDoor
open Go.RowKit

theorem blocks_ints (l : Nat) (hl : l < 32) (w : World) (ht : Tab w) :
    Calls Tryd.prog 61 #[.int .i64 l] w fun e w' => ∃ A n c, e = .returned (.slice A n c) ∧ Owned w' w.heap.size (.slice A n c) (bl l) ∧ Ints w' w'.heap.size A n c (bl l) ∧ Below w.heap.size w w' :=
  (blocks_any l hl w ht).mono fun _ _ ⟨_, he, ho, hb⟩ => by
    obtain ⟨A', c', rfl, hi⟩ := ho.ints
    exact ⟨A', _, c', he, ho, hi, hb⟩
theorem equal_b (A A' : Option Addr) (n c n' c' : Nat) (xs ys : List Int) (w : World) (B B' : Nat) (h : Ints w B A n c xs) (h' : Ints w B' A' n' c' ys) (b : Bool) (hb : Hid (decide (xs = ys) = b)) :
    Calls Tryd.prog 22 #[.slice A n c, .slice A' n' c'] w fun e w' => e = .returned (.bool b) ∧ Below w.heap.size w w' := by
  rw [← hb.out]
  refine (equal_any A A' n c n' c' xs ys w B B' h h').mono fun e w' ⟨he, q, hw⟩ => ⟨he, ?_⟩
  rw [hw]; exact Below.drewN' (Below.refl _ _) q

/-- The walk over a clue: what holds ahead of number k. -/
def ClTo (z0 : Int) (xs : List Int) (k : Nat) (z : Int) : Prop := clA z0 xs = clA z (xs.drop k)
theorem clA_step {xs : List Int} {k : Nat} {z : Int} (hk : k < xs.length) : clA z (xs.drop k) = (decide (1 ≤ nth xs k) && (decide (nth xs k < z) && clA (z - (nth xs k + 1)) (xs.drop (k + 1)))) := by
  rw [List.drop_eq_getElem_cons hk]
  have : nth xs k = xs[k] := by simp [nth, List.getD, hk]
  rw [this]; rfl

set_option maxHeartbeats 400000 in
theorem isClue_core (x z0 : Int) (hz : IntKind.i64.wrap (x + 1) = z0) (b1 : -9223372036854775808 ≤ z0) (b2 : z0 ≤ 9223372036854775807) (A : Option Addr) (n c : Nat) (xs : List Int) (w : World) (B : Nat) (h : Ints w B A n c xs) :
    Calls Tryd.prog 62 #[.int .i64 x, .slice A n c] w fun e w' => e = .returned (.bool (sz x && clA z0 xs)) ∧ w = w' := by
  have hm := h.most; have hcap := h.cap
  have hl := hide h.len
  go_enter Tryd.func62, Tryd.ntmps62
  go_wp2_with fail
  have hz' := hide hz; clear hz
  go_loop [5, 7, 12] (fun u _ i => ∃ (k : Nat) (z : Int), k ≤ n ∧ i = .int .i64 k ∧ u = .int .i64 z ∧ Hid (ClTo z0 xs k z) ∧ (-9223372036854775808 ≤ z ∧ z ≤ 9223372036854775807)) (fun _ _ i => n - (intOf i).toNat)
  case atStart => exact ⟨0, z0, Nat.zero_le _, rfl, rfl, hide (by unfold ClTo; simp), b1, b2⟩
  case round =>
    obtain ⟨k, z, hk, rfl, rfl, HC, c1, c2⟩ := hrel
    by_cases hlt : k < n
    · obtain ⟨b, off, rfl, hb, hc⟩ := h.at_ k hlt
      have HS := hide (clA_step (z := z) (show k < xs.length from by have := hl.out; omega))
      by_cases d : nth xs k < 1
      · have d1 : decide (nth xs k < 1) = true := by simpa using d
        have HF := hide (show clA z0 xs = false from by have := HC.out; unfold ClTo at this; rw [this, HS.out]; simp; omega)
        go_wp2_with fail
        go_ret
        exact ⟨ret_bool (by rw [HF.out]; simp), rfl⟩
      · have d1 : decide (nth xs k < 1) = false := by simpa using d
        by_cases e : z ≤ nth xs k
        · have d2 : decide (z ≤ nth xs k) = true := by simpa using e
          have HF := hide (show clA z0 xs = false from by have := HC.out; unfold ClTo at this; rw [this, HS.out]; simp; omega)
          go_wp2_with fail
          go_ret
          exact ⟨ret_bool (by rw [HF.out]; simp), rfl⟩
        · have d2 : decide (z ≤ nth xs k) = false := by simpa using e
          have e1 : nth xs k + 1 ≤ z := by omega
          have e2 : 1 ≤ nth xs k := by omega
          have HN := hide (show ClTo z0 xs (k + 1) (z - (nth xs k + 1)) from by
            have := HC.out; unfold ClTo at this ⊢; rw [this, HS.out]; simp [e2]; omega)
          go_wp2_with fail
          go_round
          case rel => exact ⟨k + 1, _, by omega, by go_num, rfl, HN, by omega, by omega⟩
          case measure => simp [intOf]; omega
    · have hkn : n = k := by omega
      have HF := hide (show clA z0 xs = true from by
        have := HC.out; unfold ClTo at this; rw [this, List.drop_eq_nil_of_le (by rw [hl.out]; omega)]; simp [clA])
      clear hkn
      go_wp2_with (go_at_call 68; refine (isSize_any _ _).mono ?_; rintro e w' ⟨rfl, rfl⟩)
      go_ret
      exact ⟨ret_bool (by rw [HF.out]; simp), rfl⟩
theorem isClue_any (x : Int) (hx : -9223372036854775808 ≤ x ∧ x ≤ 9223372036854775807) (A : Option Addr) (n c : Nat) (xs : List Int) (w : World) (B : Nat) (h : Ints w B A n c xs) :
    Calls Tryd.prog 62 #[.int .i64 x, .slice A n c] w fun e w' => e = .returned (.bool (clB x xs)) ∧ w = w' := by
  obtain ⟨z0, hz, b1, b2⟩ : ∃ z0, IntKind.i64.wrap (x + 1) = z0 ∧ -9223372036854775808 ≤ z0 ∧ z0 ≤ 9223372036854775807 := ⟨_, rfl, by simp [IntKind.wrap, IntKind.signed, IntKind.bits]; omega, by simp [IntKind.wrap, IntKind.signed, IntKind.bits]; omega⟩
  refine (isClue_core x z0 hz b1 b2 A n c xs w B h).mono fun e w' ⟨he, hw⟩ => ⟨?_, hw⟩
  rw [he]
  refine ret_bool ?_
  unfold clB
  cases e : sz x with
  | false => rfl
  | true =>
    have h5 := sz_iff.1 e
    have : IntKind.i64.wrap (x + 1) = x + 1 := by simp [IntKind.wrap, IntKind.signed, IntKind.bits]; omega
    rw [← hz, this]
end Go.Proofs.YtjhicbiacnkpaaaDoor
