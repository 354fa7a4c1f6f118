/-
  Puzzles: whether one is valid, by the program and by the reference; how many squares are filled.
-/
import Derived.Test.YtjhicbiacnkpaaaDoorWd
namespace Go.Proofs.YtjhicbiacnkpaaaDoor
open Go.RowKit

def acB (x : Int) (R : List (List Int)) : Bool := sz (R.length : Int) && R.all (clB x)
def puzB (R C : List (List Int)) : Bool := acB (C.length : Int) R && acB (R.length : Int) C
theorem row_in {R : List (List Int)} {k : Nat} (h : k < R.length) : row R k ∈ R := by
  have : row R k = R[k] := by simp [row, List.getD, h]
  rw [this]; exact List.getElem_mem h
theorem all_row {f : List Int → Bool} {R : List (List Int)} (h : ∀ k, k < R.length → f (row R k) = true) : R.all f = true := by
  rw [List.all_eq_true]
  intro z hz
  obtain ⟨k, hk, rfl⟩ := List.mem_iff_getElem.1 hz
  have := h k hk
  have e : row R k = R[k] := by simp [row, List.getD, hk]
  rwa [e] at this
theorem not_all_row {f : List Int → Bool} {R : List (List Int)} {k : Nat} (h : k < R.length) (hf : f (row R k) = false) : R.all f = false := by
  cases e : R.all f with
  | false => rfl
  | true => have := List.all_eq_true.1 e _ (row_in h); rw [hf] at this; cases this
/-- The first k rows let f pass. -/
def RwTo (f : List Int → Bool) (R : List (List Int)) (k : Nat) : Prop := ∀ j, j < k → f (row R j) = true
theorem RwTo.succ {f : List Int → Bool} {R : List (List Int)} {k : Nat} (h : RwTo f R k) (hk : f (row R k) = true) : RwTo f R (k + 1) := by
  intro j hj
  rcases Nat.lt_or_ge j k with h1 | h1
  · exact h j h1
  · obtain rfl : j = k := by omega
    exact hk

set_option maxHeartbeats 400000 in
theorem areClues_any (x : Int) (hx : -9223372036854775808 ≤ x ∧ x ≤ 9223372036854775807) (A : Option Addr) (n c : Nat) (R : List (List Int)) (w : World) (B : Nat) (h : Rows_ w B A n c R) :
    Calls Tryd.prog 99 #[.int .i64 x, .slice A n c] w fun e w' => e = .returned (.bool (acB x R)) ∧ w = w' := by
  have hm := h.most; have hcap := h.cap
  have hl := hide h.len
  cases hs : sz (n : Int) with
  | false =>
    have HS := hide hs; clear hs
    go_enter Tryd.func99, Tryd.ntmps99
    go_wp2_with fail
    refine (isSize_is _ _ _ HS).mono ?_
    rintro e w' ⟨rfl, rfl⟩
    go_wp2_with fail
    go_ret
    exact ⟨ret_bool (by unfold acB; rw [hl.out, HS.out]; rfl), rfl⟩
  | true =>
    have HS := hide hs; clear hs
    go_enter Tryd.func99, Tryd.ntmps99
    go_wp2_with fail
    refine (isSize_is _ _ _ HS).mono ?_
    rintro e w' ⟨rfl, rfl⟩
    go_wp2_with fail
    go_loop [6, 13] (fun _ i => ∃ k : Nat, k ≤ n ∧ i = .int .i64 k ∧ Hid (RwTo (clB x) R k)) (fun _ i => n - (intOf i).toNat)
    case atStart => exact ⟨0, Nat.zero_le _, rfl, hide (fun j hj => absurd hj (by omega))⟩
    case round =>
      obtain ⟨k, hk, rfl, HA⟩ := hrel
      by_cases hlt : k < n
      · obtain ⟨b, off, A', n', c', rfl, hb, hc, hi⟩ := h.at_ k hlt
        have HI := hide hi; clear hi
        cases hcl : clB x (row R k) with
        | true =>
          have HC := hide hcl; clear hcl
          go_wp2_with fail
          refine (isClue_any _ hx _ _ _ _ _ _ (unhide HI)).mono ?_
          rintro e w' ⟨rfl, rfl⟩
          rw [HC.out]
          go_wp2_with fail
          go_round
          case rel => exact ⟨k + 1, by omega, by go_num, hide (HA.out.succ HC.out)⟩
          case measure => simp [intOf]; omega
        | false =>
          have HC := hide hcl; clear hcl
          have HF := hide (show acB x R = false from by unfold acB; rw [not_all_row (by rw [hl.out]; exact hlt) HC.out]; simp)
          go_wp2_with fail
          refine (isClue_any _ hx _ _ _ _ _ _ (unhide HI)).mono ?_
          rintro e w' ⟨rfl, rfl⟩
          rw [HC.out]
          go_wp2_with fail
          go_ret
          exact ⟨ret_bool HF.out.symm, rfl⟩
      · obtain rfl : k = n := by omega
        have HF := hide (show acB x R = true from by unfold acB; rw [hl.out, HS.out, all_row (by rw [hl.out]; exact HA.out)]; rfl)
        go_wp2_with fail
        go_ret
        exact ⟨ret_bool HF.out.symm, rfl⟩
theorem areClues_is (x : Int) (hx : -9223372036854775808 ≤ x ∧ x ≤ 9223372036854775807) (A : Option Addr) (n c : Nat) (R : List (List Int)) (w : World) (B : Nat) (h : Rows_ w B A n c R) (b : Bool) (hb : Hid (acB x R = b)) :
    Calls Tryd.prog 99 #[.int .i64 x, .slice A n c] w fun e w' => e = .returned (.bool b) ∧ w = w' := by rw [← hb.out]; exact areClues_any x hx A n c R w B h

set_option maxHeartbeats 400000 in
theorem isPuzzle_any (A1 A2 : Option Addr) (n1 n2 c1 c2 : Nat) (R C : List (List Int)) (w : World) (r1 : Rows_ w w.heap.size A1 n1 c1 R) (r2 : Rows_ w w.heap.size A2 n2 c2 C) (b : Bool) (hb : Hid (puzB R C = b)) :
    Calls Tryd.prog 70 #[.agg #[.slice A1 n1 c1, .slice A2 n2 c2]] w fun e w' => e = .returned (.bool b) ∧ Below w.heap.size w w' := by
  have m1 := r1.most; have m2 := r2.most; have k1 := r1.cap; have k2 := r2.cap
  have l1 := hide r1.len; have l2 := hide r2.len
  have hb0 := (Below.refl w.heap.size w).alloc (Nat.le_refl _) (.cells #[.slice A1 n1 c1, .slice A2 n2 c2] 40)
  have R1 := hide (r1.below hb0); have R2 := hide (r2.below hb0)
  replace hb0 := hide hb0
  clear r1 r2
  cases ha : acB (n2 : Int) R with
  | false =>
    have HA := hide ha; clear ha
    go_enter Tryd.func70, Tryd.ntmps70
    go_wp2_with fail
    refine (areClues_is _ (by omega) _ _ _ _ _ _ (unhide R1) _ HA).mono ?_
    rintro e w' ⟨rfl, rfl⟩
    go_wp2_with fail
    go_ret
    exact ⟨ret_bool (by rw [← hb.out]; unfold puzB; rw [l2.out, HA.out]; rfl), unhide hb0⟩
  | true =>
    have HA := hide ha; clear ha
    go_enter Tryd.func70, Tryd.ntmps70
    go_wp2_with fail
    refine (areClues_is _ (by omega) _ _ _ _ _ _ (unhide R1) _ HA).mono ?_
    rintro e w' ⟨rfl, rfl⟩
    go_wp2_with fail
    refine (areClues_any _ (by omega) _ _ _ _ _ _ (unhide R2)).mono ?_
    rintro e w' ⟨rfl, rfl⟩
    go_wp2_with fail
    go_ret
    exact ⟨ret_bool (by rw [← hb.out]; unfold puzB; rw [l2.out, l1.out, HA.out]; simp), unhide hb0⟩

/-- What the first k rows sum to. -/
def smT (R : List (List Int)) (k : Nat) : Int := ((R.take k).map List.sum).sum
def smR (R : List (List Int)) : Int := (R.map List.sum).sum
theorem smT_snoc {R : List (List Int)} {k : Nat} (hk : k < R.length) : smT R (k + 1) = smT R k + (row R k).sum := by
  unfold smT
  have : row R k = R[k] := by simp [row, List.getD, hk]
  rw [List.take_succ_eq_append_getElem hk, List.map_append, List.sum_append, this]
  simp only [List.map_cons, List.map_nil, List.sum_cons, List.sum_nil, Int.add_zero]
theorem sum_snoc (xs : List Int) (k : Nat) (hk : k < xs.length) : (xs.take (k + 1)).sum = (xs.take k).sum + nth xs k := by
  have : nth xs k = xs[k] := by simp [nth, List.getD, hk]
  rw [List.take_succ_eq_append_getElem hk, List.sum_append, this]
  simp only [List.sum_cons, List.sum_nil, Int.add_zero]
theorem cl_sum : ∀ (xs : List Int) (z : Int), 0 ≤ z → clA z xs = true → 0 ≤ xs.sum ∧ xs.sum ≤ z ∧ ∀ k, 0 ≤ (xs.take k).sum ∧ (xs.take k).sum ≤ z := by
  intro xs
  induction xs with
  | nil => intro z hz _; exact ⟨by simp, by simpa using hz, fun k => by simp; omega⟩
  | cons b r ih =>
    intro z hz h
    simp only [clA, Bool.and_eq_true, decide_eq_true_eq] at h
    obtain ⟨h1, h2, h3⟩ := h
    obtain ⟨a1, a2, a3⟩ := ih _ (by omega) h3
    refine ⟨by rw [List.sum_cons]; omega, by rw [List.sum_cons]; omega, fun k => ?_⟩
    cases k with
    | zero => simp; omega
    | succ k => rw [List.take_succ_cons, List.sum_cons]; have := a3 k; omega
theorem clB_sum {x : Int} {xs : List Int} (h : clB x xs = true) : 0 ≤ xs.sum ∧ xs.sum ≤ 6 ∧ ∀ k, 0 ≤ (xs.take k).sum ∧ (xs.take k).sum ≤ 6 := by
  unfold clB at h
  rw [Bool.and_eq_true] at h
  have hz := sz_iff.1 h.1
  obtain ⟨a, b, c⟩ := cl_sum xs (x + 1) (by omega) h.2
  exact ⟨a, by omega, fun k => ⟨(c k).1, by have := (c k).2; omega⟩⟩
theorem smT_bd {x : Int} {R : List (List Int)} (h : R.all (clB x) = true) : ∀ k, k ≤ R.length → 0 ≤ smT R k ∧ smT R k ≤ 6 * k := by
  intro k
  induction k with
  | zero => intro _; simp [smT]
  | succ k ih =>
    intro hk
    have h1 := ih (by omega)
    have h2 := clB_sum (List.all_eq_true.1 h _ (row_in (show k < R.length by omega)))
    rw [smT_snoc (by omega)]
    omega

set_option maxHeartbeats 800000 in
theorem sumOf_any {x : Int} (A : Option Addr) (n c : Nat) (R : List (List Int)) (w : World) (B : Nat) (h : Rows_ w B A n c R) (HV : Hid (acB x R = true)) :
    Calls Tryd.prog 82 #[.slice A n c] w fun e w' => e = .returned (.int .i64 (smR R)) ∧ w = w' := by
  have hm := h.most; have hcap := h.cap
  have hl := hide h.len
  have HR := hide (show R.all (clB x) = true from by have := HV.out; unfold acB at this; rw [Bool.and_eq_true] at this; exact this.2)
  have hn : n ≤ 5 := by have := HV.out; unfold acB at this; rw [Bool.and_eq_true] at this; have := sz_iff.1 this.1; rw [hl.out] at this; omega
  go_enter Tryd.func82, Tryd.ntmps82
  go_wp2_with fail
  go_loop [3, 5, 7, 10] (fun s _ _ i => ∃ (k : Nat) (z : Int), k ≤ n ∧ i = .int .i64 k ∧ s = .int .i64 z ∧ Hid (z = smT R k)) (fun _ _ _ i => n - (intOf i).toNat)
  case atStart => exact ⟨0, 0, Nat.zero_le _, rfl, rfl, hide (by simp [smT])⟩
  case round =>
    obtain ⟨k, z, hk, rfl, rfl, HZ⟩ := hrel
    by_cases hlt : k < n
    · obtain ⟨b, off, A', n', c', rfl, hb, hc, hi⟩ := h.at_ k hlt
      have hkR : k < R.length := by rw [hl.out]; exact hlt
      have hbd := smT_bd HR.out k (by omega)
      have hcb := hide (clB_sum (List.all_eq_true.1 HR.out _ (row_in hkR))).2.2
      have HSN := hide (smT_snoc hkR)
      have hl' := hide hi.len
      have hm' := hi.most; have hcap' := hi.cap
      have HI := hide hi; clear hi
      have hzb : 0 ≤ z ∧ z ≤ 30 := by rw [HZ.out]; omega
      obtain ⟨z1, z2⟩ := hzb
      clear hbd hkR
      go_wp2_with fail
      go_loop [3, 7, 16] (fun s _ i => ∃ (j : Nat) (y : Int), j ≤ n' ∧ i = .int .i64 j ∧ s = .int .i64 y ∧ Hid (y = z + ((row R k).take j).sum)) (fun _ _ i => n' - (intOf i).toNat)
      case atStart => exact ⟨0, z, Nat.zero_le _, rfl, rfl, hide (by simp)⟩
      case round =>
        obtain ⟨j, y, hj, rfl, rfl, HY⟩ := hrel
        by_cases hlt2 : j < n'
        · obtain ⟨b2, off2, rfl, hb2, hc2⟩ := HI.out.at_ j hlt2
          have HS2 := hide (sum_snoc (row R k) j (by rw [hl'.out]; exact hlt2))
          have hy : 0 ≤ y ∧ y ≤ 36 := by have := hcb.out j; rw [HY.out]; omega
          have hy2 : 0 ≤ y + nth (row R k) j ∧ y + nth (row R k) j ≤ 36 := by have := hcb.out (j + 1); rw [HS2.out] at this; rw [HY.out]; omega
          obtain ⟨y1, y2⟩ := hy
          obtain ⟨y3, y4⟩ := hy2
          have y5 : IntKind.i64.wrap (y + nth (row R k) j) = y + nth (row R k) j := by rw [IntKind.wrap_i64]; omega
          go_wp2_with fail
          go_round
          case rel => exact ⟨j + 1, y + nth (row R k) j, by omega, by go_num, rfl, hide (by rw [HS2.out, HY.out]; omega)⟩
          case measure => simp [intOf]; omega
        · have HE := hide (show y = smT R (k + 1) from by
            rw [HSN.out, HY.out, HZ.out, List.take_of_length_le (by rw [hl'.out]; omega)])
          go_wp2_with fail
          go_round
          case rel => exact ⟨k + 1, y, by omega, by go_num, rfl, HE⟩
          case measure => simp [intOf]; omega
    · have HE := hide (show z = smR R from by
        rw [HZ.out]; unfold smT smR; rw [List.take_of_length_le (by rw [hl.out]; omega)])
      go_wp2_with fail
      go_ret
      exact ⟨ret_int HE.out, rfl⟩
end Go.Proofs.YtjhicbiacnkpaaaDoor
