import Derived.Test.YtdlbahoenhhkdaaW1
/-
  What dice keep: plain lists.
-/
namespace Go.Proofs.Ytdlbahoenhhkdaa

/-- What is kept of the first i keys, in K places. -/
def keepTo (K : Nat) (xs ds : List Int) : Nat → List Int
  | 0 => []
  | i + 1 => if i < K then keepTo K xs ds i ++ [nth xs i]
    else if nth ds i % ((i : Int) + 1) < K then (keepTo K xs ds i).set (nth ds i % ((i : Int) + 1)).toNat (nth xs i) else keepTo K xs ds i
def keep (K : Nat) (xs ds : List Int) : List Int := keepTo K xs ds xs.length

theorem keepTo_len (K : Nat) (xs ds : List Int) : ∀ i, (keepTo K xs ds i).length = min K i := by
  intro i
  induction i with
  | zero => simp [keepTo]
  | succ i ih =>
    simp only [keepTo]
    split
    · simp [ih]; omega
    · split
      · simp [ih]; omega
      · omega
theorem keepTo_take (K : Nat) (xs ds : List Int) : ∀ i, i ≤ K → i ≤ xs.length → keepTo K xs ds i = xs.take i := by
  intro i
  induction i with
  | zero => intros; simp [keepTo]
  | succ i ih =>
    intro h1 h2
    rw [keepTo, if_pos (by omega), ih (by omega) (by omega), take_snoc xs i (by omega)]
theorem keepTo_put {K : Nat} {xs ds : List Int} {i p : Nat} (h : ¬ i < K) (hp : nth ds i % ((i : Int) + 1) = p) (hk : p < K) : keepTo K xs ds (i + 1) = (keepTo K xs ds i).set p (nth xs i) := by
  rw [keepTo, if_neg h, hp, if_pos (by omega), Int.toNat_natCast]
theorem keepTo_same {K : Nat} {xs ds : List Int} {i p : Nat} (h : ¬ i < K) (hp : nth ds i % ((i : Int) + 1) = p) (hk : ¬ p < K) : keepTo K xs ds (i + 1) = keepTo K xs ds i := by
  rw [keepTo, if_neg h, hp, if_neg (by omega)]
theorem keepTo_add {K : Nat} {xs ds : List Int} {i : Nat} (h : i < K) : keepTo K xs ds (i + 1) = keepTo K xs ds i ++ [nth xs i] := by
  rw [keepTo, if_pos h]

theorem cntTo_take (xs : List Int) (key : Int) : ∀ j, j ≤ xs.length → cntTo xs key j = ((xs.take j).count key : Nat) := by
  intro j
  induction j with
  | zero => intros; simp [cntTo]
  | succ j ih =>
    intro h
    rw [cntTo, ih (by omega), take_snoc xs j (by omega), List.count_append]
    by_cases e : nth xs j = key
    · simp [e]
    · simp [e, List.count_cons]
theorem often_count (xs : List Int) (key : Int) : often xs key = (xs.count key : Nat) := by
  rw [often, cntTo_take xs key _ (Nat.le_refl _), List.take_length]

theorem count_set_le (key z : Int) : ∀ (ys : List Int) (p : Nat), (ys.set p z).count key ≤ ys.count key + (if z = key then 1 else 0) := by
  intro ys
  induction ys with
  | nil => intro p; simp
  | cons y ys ih =>
    intro p
    cases p with
    | zero => simp only [List.set_cons_zero, List.count_cons, beq_iff_eq]; omega
    | succ p => have := ih p; simp only [List.set_cons_succ, List.count_cons]; omega

theorem keepTo_count (K : Nat) (xs ds : List Int) (key : Int) : ∀ i, i ≤ xs.length → (keepTo K xs ds i).count key ≤ (xs.take i).count key := by
  intro i
  induction i with
  | zero => intros; simp [keepTo]
  | succ i ih =>
    intro h
    have h0 := ih (by omega)
    rw [take_snoc xs i (by omega), List.count_append]
    have e1 : List.count key [nth xs i] = if nth xs i = key then 1 else 0 := by simp [List.count_cons]
    rw [keepTo]
    split
    · rw [List.count_append]; omega
    · split
      · have := count_set_le key (nth xs i) (keepTo K xs ds i) (nth ds i % ((i : Int) + 1)).toNat
        omega
      · omega
theorem keep_count (K : Nat) (xs ds : List Int) (key : Int) : often (keep K xs ds) key ≤ often xs key := by
  rw [often_count, often_count]
  have := keepTo_count K xs ds key xs.length (Nat.le_refl _)
  rw [List.take_length] at this
  unfold keep
  omega
theorem keep_mem (K : Nat) (xs ds : List Int) (j : Nat) (hj : j < (keep K xs ds).length) : nth (keep K xs ds) j ∈ xs := by
  have h := keep_count K xs ds (nth (keep K xs ds) j)
  rw [often_count, often_count] at h
  have h1 : nth (keep K xs ds) j ∈ keep K xs ds := by simp [nth, List.getD, hj]
  have h2 := List.count_pos_iff.2 h1
  exact List.count_pos_iff.1 (by omega)
theorem keep_len (K : Nat) (xs ds : List Int) : (keep K xs ds).length = min K xs.length := keepTo_len _ _ _ _
theorem keep_all (K : Nat) (xs ds : List Int) (h : xs.length ≤ K) : keep K xs ds = xs := by
  rw [keep, keepTo_take K xs ds _ h (Nat.le_refl _), List.take_length]

def diceB (ds : List Int) (n : Nat) : Bool := decide (ds.length = n) && allIn 0 39 ds
theorem diceB_take {ds : List Int} {n : Nat} (hn : n ≤ 40) : diceB (ds.take 45) n = diceB ds n := by
  by_cases h : ds.length ≤ 45
  · rw [List.take_of_length_le h]
  · have h1 : diceB ds n = false := by simp [diceB]; omega
    have h2 : diceB (ds.take 45) n = false := by simp [diceB]; omega
    rw [h1, h2]
theorem diceB_len {ds : List Int} {n : Nat} (h : diceB ds n = true) : ds.length = n := by simp only [diceB, Bool.and_eq_true, decide_eq_true_eq] at h; exact h.1
theorem diceB_bd {ds : List Int} {n : Nat} (h : diceB ds n = true) (k : Nat) (hk : k < n) : 0 ≤ nth ds k ∧ nth ds k ≤ 39 := by
  simp only [diceB, Bool.and_eq_true, decide_eq_true_eq] at h
  exact allIn_bd h.2 k (by omega)
end Go.Proofs.Ytdlbahoenhhkdaa
