/-
  Plain facts: a give to the first share that lacks something, from the nearest one before it that has too much.
-/
import Derived.Test.YtmpdalcdkibgpaaG4
import Derived.Test.YtmpdalcdkibgpaaM3
namespace Go.Proofs.Ytmpdalcdkibgpaa

theorem pre_set {l : List Int} {i : Nat} (hi : i < l.length) (z : Int) : ∀ m, pre (l.set i z) m = pre l m + if i < m then z - nth l i else 0 := by
  intro m
  induction m with
  | zero => simp [pre]
  | succ m ih =>
    simp only [pre, ih]
    by_cases h : i = m
    · subst h
      have e : nth (l.set i z) i = z := by simp [nth, List.getD, hi]
      rw [e, if_neg (by omega), if_pos (by omega)]; omega
    · rw [nth_set_ne _ h]
      by_cases h2 : i < m
      · rw [if_pos h2, if_pos (by omega)]; omega
      · rw [if_neg h2, if_neg (by omega)]; omega
theorem pre_gap {S Y : List Int} {k j : Nat} (h : ltAt S Y k) : ∀ m, j < m → m ≤ k → nth S j - nth Y j ≤ pre S m - pre Y m := by
  have nn : ∀ m, m ≤ k → pre Y m ≤ pre S m := by
    intro m
    induction m with
    | zero => intro _; simp [pre]
    | succ m ih =>
      intro hm
      have := ih (by omega); have := h m (by omega)
      simp only [pre]; omega
  intro m
  induction m with
  | zero => intro h1; omega
  | succ m ih =>
    intro h1 h2
    simp only [pre]
    by_cases h3 : j = m
    · subst h3; have := nn j (by omega); omega
    · have := ih (by omega) (by omega); have := h m (by omega); omega
/-- How many numbers differ. -/
def dif (S Y : List Int) : Nat → Nat
  | 0 => 0
  | i + 1 => dif S Y i + if nth S i = nth Y i then 0 else 1
theorem dif_le (S Y : List Int) : ∀ n, dif S Y n ≤ n := by
  intro n
  induction n with
  | zero => simp [dif]
  | succ n ih => simp only [dif]; split <;> omega
theorem dif_pos {S Y : List Int} {k : Nat} (h : nth S k ≠ nth Y k) : ∀ n, k < n → 1 ≤ dif S Y n := by
  intro n
  induction n with
  | zero => intro h; omega
  | succ n ih =>
    intro hk
    simp only [dif]
    by_cases e : k = n
    · subst e; rw [if_neg h]; omega
    · have := ih (by omega); omega
theorem dif_less {S S' Y : List Int} {p : Nat} (h : ∀ i, nth S i = nth Y i → nth S' i = nth Y i) (hp : nth S p ≠ nth Y p) (hp' : nth S' p = nth Y p) : ∀ n, dif S' Y n ≤ dif S Y n ∧ (p < n → dif S' Y n + 1 ≤ dif S Y n) := by
  intro n
  induction n with
  | zero => simp [dif]
  | succ n ih =>
    simp only [dif]
    by_cases e : p = n
    · subst e
      rw [if_pos hp', if_neg hp]
      omega
    · by_cases h1 : nth S n = nth Y n
      · rw [if_pos h1, if_pos (h n h1)]; omega
      · rw [if_neg h1]
        split <;> omega
structure Inv (S Y : List Int) (n : Nat) : Prop where
  len : S.length = n
  lenY : Y.length = n
  small : Small 20 S
  ge : ∀ k, k ≤ n → pre Y k ≤ pre S k
  sum : pre S n = pre Y n
theorem inv_end {S Y : List Int} {n : Nat} (h : Inv S Y n) (hl : ltAt S Y n) : S = Y := by
  apply List.ext_getElem (by rw [h.len, h.lenY])
  intro j h1 h2
  have hj : j < n := by have := h.len; omega
  have h3 := pre_gap (j := j) hl n hj (Nat.le_refl _)
  have h4 := hl j hj; have h5 := h.sum
  have : nth S j = nth Y j := by omega
  simpa [nth, List.getD, h1, h2] using this
theorem inv_some {S Y : List Int} {n k : Nat} (h : Inv S Y n) (hk : k < n) (_hl : ltAt S Y k) (hlt : nth S k < nth Y k) : ∃ i, i < k ∧ nth S i ≠ nth Y i := by
  by_cases hc : ∃ i, i < k ∧ nth S i ≠ nth Y i
  · exact hc
  · have key : ∀ m, m ≤ k → pre S m = pre Y m := by
      intro m
      induction m with
      | zero => intro _; rfl
      | succ m ih =>
        intro hm
        have e : nth S m = nth Y m := by
          by_cases e : nth S m = nth Y m
          · exact e
          · exact absurd ⟨m, by omega, e⟩ hc
        simp only [pre, ih (by omega), e]
    have h1 := key k (Nat.le_refl _); have h2 := h.ge (k + 1) (by omega)
    simp only [pre] at h2
    omega
theorem inv_step {S Y : List Int} {n k j : Nat} {d : Int} (h : Inv S Y n) (hY : isFal Y = true) (hk : k < n) (hl : ltAt S Y k) (hlt : nth S k < nth Y k) (hj : j < k) (hne : nth S j ≠ nth Y j) (hd : d = min (nth S j - nth Y j) (nth Y k - nth S k)) :
    canG S ((j : Int), (k : Int), d) = true ∧ Inv (doG S ((j : Int), (k : Int), d)) Y n ∧ dif (doG S ((j : Int), (k : Int), d)) Y n + 1 ≤ dif S Y n := by
  have hlj := hl j hj
  have hYjk : nth Y k ≤ nth Y j := by
    have key : ∀ i, j ≤ i → i ≤ k → nth Y i ≤ nth Y j := by
      intro i
      induction i with
      | zero => intro h1 _; obtain rfl : j = 0 := by omega
                exact Int.le_refl _
      | succ i ih =>
        intro h1 h2
        by_cases e : j = i + 1
        · rw [e]; exact Int.le_refl _
        · have h3 := ih (by omega) (by omega)
          rw [isFal, decide_eq_true_eq] at hY
          have h4 := hY (i + 1) (by have := h.lenY; omega) (by omega)
          rw [Nat.add_sub_cancel] at h4
          omega
    exact key k (by omega) (Nat.le_refl _)
  have hjl : j < S.length := by have := h.len; omega
  have hkl : k < S.length := by have := h.len; omega
  have hcan : canG S ((j : Int), (k : Int), d) = true := by
    rw [canG_val hjl hkl, Bool.and_eq_true, decide_eq_true_eq, decide_eq_true_eq]
    refine ⟨by omega, ?_⟩
    rw [Int.tdiv_eq_ediv_of_nonneg (by omega)]
    omega
  have e : doG S ((j : Int), (k : Int), d) = (S.set j (nth S j - d)).set k (nth S k + d) := by rw [doG]; simp
  have hnk : nth (S.set j (nth S j - d)) k = nth S k := nth_set_ne _ (by omega)
  have hpre : ∀ m, pre (doG S ((j : Int), (k : Int), d)) m = pre S m + (if j < m then -d else 0) + if k < m then d else 0 := by
    intro m
    rw [e, pre_set (by rw [List.length_set]; exact hkl), pre_set hjl, hnk]
    split <;> split <;> omega
  have hval : ∀ i, nth (doG S ((j : Int), (k : Int), d)) i = if i = k then nth S k + d else if i = j then nth S j - d else nth S i := by
    intro i
    rw [e]
    by_cases h1 : i = k
    · subst h1; rw [if_pos rfl]; simp [nth, List.getD, hkl]
    · rw [if_neg h1, nth_set_ne _ (by omega)]
      by_cases h2 : i = j
      · subst h2; rw [if_pos rfl]; simp [nth, List.getD, hjl]
      · rw [if_neg h2, nth_set_ne _ (by omega)]
  refine ⟨hcan, ⟨by rw [doG_length, h.len], h.lenY, doG_small h.small hcan, fun m hm => ?_, ?_⟩, ?_⟩
  · rw [hpre]
    have h1 := h.ge m hm
    by_cases h2 : j < m
    · by_cases h3 : k < m
      · rw [if_pos h2, if_pos h3]; omega
      · rw [if_pos h2, if_neg h3]
        have := pre_gap (j := j) hl m h2 (by omega)
        omega
    · rw [if_neg h2, if_neg (by omega)]; omega
  · rw [hpre, if_pos (by omega), if_pos hk, ← h.sum]; omega
  · have hother : ∀ i, nth S i = nth Y i → nth (doG S ((j : Int), (k : Int), d)) i = nth Y i := by
      intro i hi
      rw [hval, if_neg (by rintro rfl; omega), if_neg (by rintro rfl; exact hne hi)]
      exact hi
    by_cases hc : nth S j - nth Y j ≤ nth Y k - nth S k
    · exact (dif_less (p := j) hother hne (by rw [hval, if_neg (by omega), if_pos rfl]; omega) n).2 (by omega)
    · exact (dif_less (p := k) hother (by omega) (by rw [hval, if_pos rfl]; omega) n).2 hk
end Go.Proofs.Ytmpdalcdkibgpaa
