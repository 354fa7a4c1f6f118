/-
  Rows of numbers: their places, what a row is, rows that can be filled.
-/
import Derived.Test.YtmgoonoifgcmnaaBase
namespace Go.Proofs.Ytmgoonoifgcmnaa
open Go.RowKit

/-- The places of a number among the first k, rising; all of them; the first one, -1 if there is none. -/
def plT (xs : List Int) (z : Int) (k : Nat) : List Int := ((List.range k).filter fun j => nth xs j == z).map fun (j : Nat) => (j : Int)
def plL (xs : List Int) (z : Int) : List Int := plT xs z xs.length
def ixI (xs : List Int) (z : Int) : Int := (plL xs z).headD (-1)

theorem plT_succ (xs : List Int) (z : Int) (k : Nat) : plT xs z (k + 1) = plT xs z k ++ if nth xs k = z then [(k : Int)] else [] := by
  unfold plT
  rw [List.range_succ, List.filter_append, List.map_append]
  by_cases h : nth xs k = z <;> simp [h]
theorem plT_yes {xs : List Int} {z : Int} {k : Nat} (h : nth xs k = z) : plT xs z (k + 1) = plT xs z k ++ [(k : Int)] := by rw [plT_succ, if_pos h]
theorem plT_no {xs : List Int} {z : Int} {k : Nat} (h : ¬ nth xs k = z) : plT xs z (k + 1) = plT xs z k := by rw [plT_succ, if_neg h, List.append_nil]
theorem plT_none {xs : List Int} {z : Int} : ∀ {k : Nat}, (∀ j, j < k → nth xs j ≠ z) → plT xs z k = []
  | 0, _ => rfl
  | k + 1, h => by rw [plT_no (h k (by omega)), plT_none fun j hj => h j (by omega)]
theorem plT_mem {xs : List Int} {z : Int} {k : Nat} {x : Int} : x ∈ plT xs z k ↔ ∃ j : Nat, x = j ∧ j < k ∧ nth xs j = z := by
  unfold plT
  simp only [List.mem_map, List.mem_filter, List.mem_range, beq_iff_eq]
  constructor
  · rintro ⟨j, ⟨h1, h2⟩, rfl⟩; exact ⟨j, rfl, h1, h2⟩
  · rintro ⟨j, rfl, h1, h2⟩; exact ⟨j, ⟨h1, h2⟩, rfl⟩
theorem plT_len (xs : List Int) (z : Int) : ∀ k : Nat, (plT xs z k).length ≤ k
  | 0 => by simp [plT]
  | k + 1 => by
    have := plT_len xs z k
    rw [plT_succ]; split <;> simp <;> omega
theorem plT_head {xs : List Int} {z : Int} {k : Nat} (h : ∀ j, j < k → nth xs j ≠ z) (hk : nth xs k = z) : ∀ d : Nat, (plT xs z (k + 1 + d)).headD (-1) = k
  | 0 => by rw [Nat.add_zero, plT_yes hk, plT_none h]; rfl
  | d + 1 => by
    have ih := plT_head h hk d
    rw [← Nat.add_assoc, plT_succ]
    cases hp : plT xs z (k + 1 + d) with
    | nil => rw [hp] at ih; simp at ih
    | cons a l => rw [hp] at ih; simpa using ih
theorem ixI_at {xs : List Int} {z : Int} {k : Nat} (h : ∀ j, j < k → nth xs j ≠ z) (hk : k < xs.length) (he : nth xs k = z) : ixI xs z = k := by
  unfold ixI plL
  have := plT_head h he (xs.length - (k + 1))
  rwa [show k + 1 + (xs.length - (k + 1)) = xs.length from by omega] at this
theorem ixI_none {xs : List Int} {z : Int} (h : ∀ j, j < xs.length → nth xs j ≠ z) : ixI xs z = -1 := by
  unfold ixI plL; rw [plT_none h]; rfl
theorem ix_cases (xs : List Int) (z : Int) : (ixI xs z = -1 ∧ ∀ j, j < xs.length → nth xs j ≠ z) ∨ ∃ k : Nat, ixI xs z = k ∧ k < xs.length ∧ nth xs k = z ∧ ∀ j, j < k → nth xs j ≠ z := by
  have key : ∀ m, m ≤ xs.length → (∀ j, j < m → nth xs j ≠ z) ∨ ∃ k : Nat, k < xs.length ∧ nth xs k = z ∧ ∀ j, j < k → nth xs j ≠ z := fun m => by
    induction m with
    | zero => intro _; left; intro j hj; omega
    | succ m ih =>
      intro hm
      rcases ih (by omega) with h | h
      · by_cases e : nth xs m = z
        · right; exact ⟨m, by omega, e, h⟩
        · left; intro j hj
          rcases Nat.lt_or_ge j m with h1 | h1
          · exact h j h1
          · obtain rfl : j = m := by omega
            exact e
      · exact .inr h
  rcases key xs.length (Nat.le_refl _) with h | ⟨k, h1, h2, h3⟩
  · exact .inl ⟨ixI_none h, h⟩
  · exact .inr ⟨k, ixI_at h3 h1 h2, h1, h2, h3⟩

/-- A shift. -/
def shB (s : Int) : Bool := decide (s = 1) || decide (s = 2)
/-- What is asked of the number k. -/
def rkB (s : Int) (xs : List Int) (k : Int) : Bool := decide (0 ≤ ixI xs k) && (decide (ixI xs k + k + s - 1 < xs.length) && decide (nth xs (ixI xs k + k + s - 1).toNat = k))
def rfB (s : Int) (xs : List Int) (k : Int) : Bool := decide ((plL xs k).length = 2) && decide (nth (plL xs k) 1 - nth (plL xs k) 0 = k + s - 1)
def allB (p : Int → Bool) (m : Nat) : Bool := (List.range m).all fun (j : Nat) => p ((j : Int) + 1)
def lenB (xs : List Int) : Bool := decide (1 ≤ xs.length / 2) && (decide (xs.length / 2 ≤ 8) && decide (xs.length = 2 * (xs.length / 2)))
/-- A row, by the program; by the reference. -/
def rowB (s : Int) (xs : List Int) : Bool := shB s && (lenB xs && allB (rkB s xs) (xs.length / 2))
def rowR (s : Int) (xs : List Int) : Bool := lenB xs && allB (rfB s xs) (xs.length / 2)

theorem allB_iff {p : Int → Bool} {m : Nat} : allB p m = true ↔ ∀ j : Nat, j < m → p ((j : Int) + 1) = true := by simp [allB]
theorem allB_succ (p : Int → Bool) (m : Nat) : allB p (m + 1) = (allB p m && p ((m : Int) + 1)) := by simp [allB, List.range_succ]
theorem allB_false {p : Int → Bool} {m j : Nat} (hj : j < m) (h : p ((j : Int) + 1) = false) : allB p m = false := by
  rw [Bool.eq_false_iff]; intro h2; rw [allB_iff.1 h2 j hj] at h; cases h

def sumN (f : Nat → Nat) : Nat → Nat
  | 0 => 0
  | m + 1 => sumN f m + f m
theorem sumN_add (f g : Nat → Nat) : ∀ m, sumN (fun j => f j + g j) m = sumN f m + sumN g m
  | 0 => rfl
  | m + 1 => by simp only [sumN, sumN_add f g m]; omega
theorem sumN_one (x : Int) : ∀ m : Nat, sumN (fun j => if x = (j : Int) + 1 then 1 else 0) m ≤ if 1 ≤ x ∧ x ≤ m then 1 else 0
  | 0 => by simp [sumN]
  | m + 1 => by
    have := sumN_one x m
    simp only [sumN]
    split at this <;> split <;> split <;> omega
theorem sumN_ext {f g : Nat → Nat} : ∀ {m : Nat}, (∀ j, j < m → f j = g j) → sumN f m = sumN g m
  | 0, _ => rfl
  | m + 1, h => by
    simp only [sumN, h m (by omega)]
    rw [sumN_ext fun j hj => h j (by omega)]
theorem sumN_two {f : Nat → Nat} : ∀ {m : Nat}, (∀ j, j < m → 2 ≤ f j) → 2 * m ≤ sumN f m
  | 0, _ => by simp
  | m + 1, h => by have := sumN_two (f := f) (m := m) fun j hj => h j (by omega); have := h m (by omega); simp only [sumN]; omega
theorem sumN_exact {f : Nat → Nat} {i : Nat} : ∀ {m : Nat}, (∀ j, j < m → 2 ≤ f j) → i < m → f i + 2 * m ≤ sumN f m + 2
  | 0, _, h => absurd h (by omega)
  | m + 1, h, hi => by
    simp only [sumN]
    have h2 := sumN_two (f := f) (m := m) fun j hj => h j (by omega)
    rcases Nat.lt_or_ge i m with h1 | h1
    · have := sumN_exact (f := f) (i := i) (m := m) (fun j hj => h j (by omega)) h1
      have := h m (by omega)
      omega
    · obtain rfl : i = m := by omega
      omega
theorem places_sum (xs : List Int) (m : Nat) : ∀ k : Nat, sumN (fun j => (plT xs ((j : Int) + 1) k).length) m ≤ k
  | 0 => by
    have : ∀ m, sumN (fun j => (plT xs ((j : Int) + 1) 0).length) m = 0 := fun m => by
      induction m with
      | zero => rfl
      | succ m ih => simp only [sumN, ih]; simp [plT]
    rw [this]; omega
  | k + 1 => by
    have h1 := places_sum xs m k
    have h2 := sumN_one (nth xs k) m
    have e : sumN (fun j => (plT xs ((j : Int) + 1) (k + 1)).length) m = sumN (fun j => (plT xs ((j : Int) + 1) k).length + if nth xs k = (j : Int) + 1 then 1 else 0) m :=
      sumN_ext fun j _ => by rw [plT_succ, List.length_append]; split <;> simp
    rw [e, sumN_add]
    split at h2 <;> omega

/-- The number k stands at the place i, and again at its distance. -/
def Has (s : Int) (xs : List Int) (k : Int) : Prop := ∃ i j : Nat, (j : Int) = i + k + s - 1 ∧ j < xs.length ∧ nth xs i = k ∧ nth xs j = k
theorem plT_lt (xs : List Int) (z : Int) : ∀ k : Nat, List.Pairwise (· < ·) (plT xs z k)
  | 0 => by simp [plT]
  | k + 1 => by
    rw [plT_succ]
    split
    · rw [List.pairwise_append]
      refine ⟨plT_lt xs z k, by simp, fun a ha b hb => ?_⟩
      obtain ⟨j, rfl, h, _⟩ := plT_mem.1 ha
      simp at hb; subst hb; omega
    · rw [List.append_nil]; exact plT_lt xs z k
theorem two_of {l : List Int} {i j : Int} (hl : l.length = 2) (hp : List.Pairwise (· < ·) l) (hi : i ∈ l) (hj : j ∈ l) (h : i < j) : l = [i, j] := by
  match l, hl with
  | [a, b], _ =>
    simp at hi hj hp
    rcases hi with rfl | rfl <;> rcases hj with rfl | rfl
    · omega
    · rfl
    · omega
    · omega
theorem two_le {l : List Int} {i j : Int} (hi : i ∈ l) (hj : j ∈ l) (h : i ≠ j) : 2 ≤ l.length := by
  match l with
  | [] => cases hi
  | [a] => simp at hi hj; omega
  | a :: b :: l => simp
theorem has_two {s : Int} {xs : List Int} (hs : 1 ≤ s) {m : Nat} (hn : xs.length = 2 * m) (h : ∀ q : Nat, q < m → Has s xs ((q : Int) + 1)) {q : Nat} (hq : q < m) :
    ∃ i j : Nat, plL xs ((q : Int) + 1) = [(i : Int), (j : Int)] ∧ (j : Int) = i + ((q : Int) + 1) + s - 1 ∧ j < xs.length ∧ nth xs i = (q : Int) + 1 ∧ nth xs j = (q : Int) + 1 := by
  have mem : ∀ q : Nat, q < m → ∃ i j : Nat, (j : Int) = i + ((q : Int) + 1) + s - 1 ∧ j < xs.length ∧ (i : Int) ∈ plL xs ((q : Int) + 1) ∧ (j : Int) ∈ plL xs ((q : Int) + 1) ∧ nth xs i = (q : Int) + 1 ∧ nth xs j = (q : Int) + 1 := fun q hq => by
    obtain ⟨i, j, h1, h2, h3, h4⟩ := h q hq
    exact ⟨i, j, h1, h2, plT_mem.2 ⟨i, rfl, by omega, h3⟩, plT_mem.2 ⟨j, rfl, h2, h4⟩, h3, h4⟩
  have two : ∀ q : Nat, q < m → 2 ≤ (plT xs ((q : Int) + 1) xs.length).length := fun q hq => by
    obtain ⟨i, j, h1, _, h3, h4, _⟩ := mem q hq
    exact two_le h3 h4 (by omega)
  have h5 := sumN_exact (f := fun (j : Nat) => (plT xs ((j : Int) + 1) xs.length).length) two hq
  have h6 := places_sum xs m xs.length
  have h7 := two q hq
  obtain ⟨i, j, h1, h2, h3, h4, h8⟩ := mem q hq
  exact ⟨i, j, two_of (by unfold plL; omega) (plT_lt _ _ _) h3 h4 (by omega), h1, h2, h8⟩
theorem rkB_has {s : Int} {xs : List Int} {k : Int} (hs : 0 ≤ k + s - 1) (h : rkB s xs k = true) : Has s xs k := by
  simp only [rkB, Bool.and_eq_true, decide_eq_true_eq] at h
  obtain ⟨h1, h2, h3⟩ := h
  rcases ix_cases xs k with ⟨e, _⟩ | ⟨i, e, hi, hk, _⟩
  · omega
  · rw [e] at h2 h3
    exact ⟨i, (((i : Int) + k + s - 1).toNat), by omega, by omega, hk, h3⟩
theorem rkB_of {s : Int} {xs : List Int} {k : Int} {i j : Nat} (h : plL xs k = [(i : Int), (j : Int)]) (hj : (j : Int) = i + k + s - 1) (hl : j < xs.length) (hk : nth xs j = k) : rkB s xs k = true := by
  have e : ixI xs k = i := by unfold ixI; rw [h]; rfl
  simp only [rkB, Bool.and_eq_true, decide_eq_true_eq, e, ← hj]
  exact ⟨by omega, by omega, by simpa using hk⟩
theorem rfB_has {s : Int} {xs : List Int} {k : Int} (h : rfB s xs k = true) : Has s xs k := by
  simp only [rfB, Bool.and_eq_true, decide_eq_true_eq] at h
  obtain ⟨h1, h2⟩ := h
  match hp : plL xs k, h1 with
  | [a, b], _ =>
    obtain ⟨i, rfl, hi, hik⟩ := plT_mem.1 (show a ∈ plT xs k xs.length by rw [show plT xs k xs.length = [a, b] from hp]; simp)
    obtain ⟨j, rfl, hj, hjk⟩ := plT_mem.1 (show b ∈ plT xs k xs.length by rw [show plT xs k xs.length = [(i : Int), b] from hp]; simp)
    rw [hp] at h2
    simp [nth] at h2
    exact ⟨i, j, by omega, hj, hik, hjk⟩
theorem rfB_of {s : Int} {xs : List Int} {k : Int} {i j : Nat} (h : plL xs k = [(i : Int), (j : Int)]) (hj : (j : Int) = i + k + s - 1) : rfB s xs k = true := by
  simp only [rfB, Bool.and_eq_true, decide_eq_true_eq, h]
  exact ⟨rfl, by simp [nth]; omega⟩
theorem shB_pos {s : Int} (h : shB s = true) : 1 ≤ s ∧ s ≤ 2 := by simp [shB] at h; omega
theorem row_has {s : Int} {xs : List Int} (h : rowB s xs = true) : ∃ m : Nat, 1 ≤ m ∧ m ≤ 8 ∧ xs.length = 2 * m ∧ xs.length / 2 = m ∧ (1 ≤ s ∧ s ≤ 2) ∧ ∀ q : Nat, q < m → Has s xs ((q : Int) + 1) := by
  simp only [rowB, lenB, Bool.and_eq_true, decide_eq_true_eq, allB_iff] at h
  obtain ⟨h0, ⟨h1, h2, h3⟩, h4⟩ := h
  have := shB_pos h0
  exact ⟨xs.length / 2, h1, h2, h3, rfl, this, fun q hq => rkB_has (by omega) (h4 q hq)⟩
theorem row_of {s : Int} {xs : List Int} {m : Nat} (h1 : 1 ≤ m) (h2 : m ≤ 8) (h3 : xs.length = 2 * m) (hs : 1 ≤ s ∧ s ≤ 2) (h : ∀ q : Nat, q < m → Has s xs ((q : Int) + 1)) : rowB s xs = true := by
  have e : xs.length / 2 = m := by omega
  simp only [rowB, lenB, Bool.and_eq_true, decide_eq_true_eq, allB_iff, e]
  refine ⟨by simp [shB]; omega, ⟨h1, h2, h3⟩, fun q hq => ?_⟩
  obtain ⟨i, j, h4, h5, h6, _, h7⟩ := has_two hs.1 h3 h hq
  exact rkB_of h4 h5 h6 h7
theorem row_same {s : Int} (hs : shB s = true) (xs : List Int) : rowR s xs = rowB s xs := by
  have hs2 := shB_pos hs
  rw [Bool.eq_iff_iff]
  constructor
  · intro h
    simp only [rowR, lenB, Bool.and_eq_true, decide_eq_true_eq, allB_iff] at h
    obtain ⟨⟨h1, h2, h3⟩, h4⟩ := h
    exact row_of h1 h2 h3 hs2 fun q hq => rfB_has (h4 q hq)
  · intro h
    obtain ⟨m, h1, h2, h3, e, _, h4⟩ := row_has h
    simp only [rowR, lenB, Bool.and_eq_true, decide_eq_true_eq, allB_iff, e]
    refine ⟨⟨h1, h2, h3⟩, fun q hq => ?_⟩
    obtain ⟨i, j, h5, h6, _⟩ := has_two hs2.1 h3 h4 hq
    exact rfB_of h5 h6
theorem nth_rev {xs : List Int} {i : Nat} (h : i < xs.length) : nth xs.reverse i = nth xs (xs.length - 1 - i) := by
  have h2 : xs.length - 1 - i < xs.length := by omega
  simp [nth, List.getD, h, h2]
/-- A row backward is a row. -/
theorem row_rev {s : Int} {xs : List Int} (h : rowB s xs = true) : rowB s xs.reverse = true := by
  obtain ⟨m, h1, h2, h3, _, h5, h4⟩ := row_has h
  refine row_of h1 h2 (by simpa using h3) h5 fun q hq => ?_
  obtain ⟨i, j, e, hj, hi, hk⟩ := h4 q hq
  refine ⟨xs.length - 1 - j, xs.length - 1 - i, by omega, by simp; omega, ?_, ?_⟩
  · rw [nth_rev (by omega), show xs.length - 1 - (xs.length - 1 - j) = j by omega]; exact hk
  · rw [nth_rev (by omega), show xs.length - 1 - (xs.length - 1 - i) = i by omega]; exact hi
/-- A row with a number laid at two places. -/
def putR (xs : List Int) (i j : Nat) (z : Int) : List Int := (xs.set i z).set j z
/-- All rows, in order, that a row can become which has 0 where it is free (f: how often a number may be laid still, and one more). -/
def fillL : Nat → Nat → List Int → List (List Int)
  | 0, _, _ => []
  | f + 1, s, xs =>
    if ixI xs 0 < 0 then [xs] else (List.range (xs.length / 2)).flatMap fun (j : Nat) =>
      let q := (ixI xs 0).toNat + (j + 1) + s - 1
      if xs.length ≤ q ∨ nth xs q ≠ 0 ∨ ((j : Int) + 1) ∈ xs then [] else fillL f s (putR xs (ixI xs 0).toNat q ((j : Int) + 1))
def fillS (f s : Nat) (xs : List Int) (p j : Nat) : List (List Int) :=
  if xs.length ≤ p + (j + 1) + s - 1 ∨ nth xs (p + (j + 1) + s - 1) ≠ 0 ∨ ((j : Int) + 1) ∈ xs then [] else fillL f s (putR xs p (p + (j + 1) + s - 1) ((j : Int) + 1))
def fillT (f s : Nat) (xs : List Int) (p k : Nat) : List (List Int) := (List.range k).flatMap fun j => fillS f s xs p j
theorem fillT_succ (f s : Nat) (xs : List Int) (p k : Nat) : fillT f s xs p (k + 1) = fillT f s xs p k ++ fillS f s xs p k := by
  unfold fillT; rw [List.range_succ, List.flatMap_append]; simp
theorem fillT_skip {f s : Nat} {xs : List Int} {p k : Nat} (h : xs.length ≤ p + (k + 1) + s - 1 ∨ nth xs (p + (k + 1) + s - 1) ≠ 0 ∨ ((k : Int) + 1) ∈ xs) : fillT f s xs p (k + 1) = fillT f s xs p k := by
  rw [fillT_succ]; unfold fillS; rw [if_pos h, List.append_nil]
theorem fillT_go {f s : Nat} {xs : List Int} {p k : Nat} (h : ¬ (xs.length ≤ p + (k + 1) + s - 1 ∨ nth xs (p + (k + 1) + s - 1) ≠ 0 ∨ ((k : Int) + 1) ∈ xs)) : fillT f s xs p (k + 1) = fillT f s xs p k ++ fillL f s (putR xs p (p + (k + 1) + s - 1) ((k : Int) + 1)) := by
  rw [fillT_succ]; unfold fillS; rw [if_neg h]
theorem fillL_end {f s : Nat} {xs : List Int} (h : ixI xs 0 < 0) : fillL (f + 1) s xs = [xs] := by unfold fillL; rw [if_pos h]
theorem fillL_on {f s : Nat} {xs : List Int} {p : Nat} (h : ixI xs 0 = p) : fillL (f + 1) s xs = fillT f s xs p (xs.length / 2) := by
  unfold fillL; rw [if_neg (by omega), h]; rfl
theorem putR_len (xs : List Int) (i j : Nat) (z : Int) : (putR xs i j z).length = xs.length := by simp [putR]
/-- How many 0s a row has. -/
def zer (xs : List Int) : Nat := xs.count 0
theorem count_set {xs : List Int} {i : Nat} {z : Int} (h : i < xs.length) (h0 : xs[i] = 0) (hz : z ≠ 0) : (xs.set i z).count 0 + 1 = xs.count 0 := by
  have hp : 0 < xs.count 0 := List.count_pos_iff.2 (h0 ▸ List.getElem_mem h)
  rw [List.count_set h]
  simp [h0, hz]
  omega
theorem zer_put {xs : List Int} {i j : Nat} {z : Int} (hi : i < xs.length) (hj : j < xs.length) (hij : i ≠ j) (h0 : nth xs i = 0) (h1 : nth xs j = 0) (hz : z ≠ 0) : zer (putR xs i j z) + 2 = zer xs := by
  have e0 : xs[i] = 0 := by simpa [nth, List.getD, hi] using h0
  have e1 : xs[j] = 0 := by simpa [nth, List.getD, hj] using h1
  have a := count_set (z := z) hi e0 hz
  have b := count_set (xs := xs.set i z) (i := j) (z := z) (by simpa using hj) (by simp [hij, e1]) hz
  unfold zer putR
  omega
end Go.Proofs.Ytmgoonoifgcmnaa
