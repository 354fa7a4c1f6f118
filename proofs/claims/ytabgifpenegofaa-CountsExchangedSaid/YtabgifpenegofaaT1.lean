/-
  Plain words: numbers that may be sums, tables.
-/
import Derived.Test.YtabgifpenegofaaR2
namespace Go.Proofs.Ytabgifpenegofaa
open Go.RowKit

theorem take_snoc (xs : List Int) (k : Nat) (h : k < xs.length) : xs.take (k + 1) = xs.take k ++ [nth xs k] := by
  rw [List.take_succ_eq_append_getElem h]; simp [nth, List.getD, h]
theorem sum_snoc (xs : List Int) (k : Nat) (h : k < xs.length) : (xs.take (k + 1)).sum = (xs.take k).sum + nth xs k := by
  rw [take_snoc xs k h]; simp
theorem sum_nn : ∀ (xs : List Int), (∀ x, x ∈ xs → 0 ≤ x) → 0 ≤ xs.sum
  | [], _ => by simp
  | x :: xs, h => by
    have h1 := h x (by simp)
    have h2 := sum_nn xs (fun y hy => h y (by simp [hy]))
    simp only [List.sum_cons]; omega
theorem sum_split (xs : List Int) (k : Nat) : xs.sum = (xs.take k).sum + (xs.drop k).sum := by
  rw [← List.sum_append, List.take_append_drop]
theorem sum_take_le {xs : List Int} (h : ∀ x, x ∈ xs → 0 ≤ x) (k : Nat) : (xs.take k).sum ≤ xs.sum := by
  have := sum_split xs k
  have := sum_nn (xs.drop k) (fun x hx => h x (List.mem_of_mem_drop hx))
  omega
theorem nth_mem {xs : List Int} {k : Nat} (h : k < xs.length) : nth xs k ∈ xs := by simp [nth, List.getD, h]
theorem nth_out {xs : List Int} {k : Nat} (h : xs.length ≤ k) : nth xs k = 0 := by simp [nth, List.getD, List.getElem?_eq_none h]
theorem mem_nth {xs : List Int} {x : Int} (h : x ∈ xs) : ∃ k, k < xs.length ∧ nth xs k = x := by
  obtain ⟨j, hj, e⟩ := List.getElem_of_mem h
  exact ⟨j, hj, by simp [nth, List.getD, hj, e]⟩

/-- One to three numbers from 0 on that sum to at most lim. -/
def areC (lim : Int) (xs : List Int) : Bool := decide (1 ≤ xs.length) && decide (xs.length ≤ 3) && xs.all (fun x => decide (0 ≤ x)) && decide (xs.sum ≤ lim)
theorem areC_iff {lim : Int} {xs : List Int} : areC lim xs = true ↔ 1 ≤ xs.length ∧ xs.length ≤ 3 ∧ (∀ x, x ∈ xs → 0 ≤ x) ∧ xs.sum ≤ lim := by
  simp only [areC, Bool.and_eq_true, decide_eq_true_eq, List.all_eq_true, and_assoc]
theorem areC_no {lim : Int} {xs : List Int} {k : Nat} (hk : k < xs.length) (h : nth xs k < 0 ∨ lim - (xs.take k).sum < nth xs k) : areC lim xs = false := by
  rw [Bool.eq_false_iff]; intro hc
  obtain ⟨_, _, h3, h4⟩ := areC_iff.1 hc
  have h5 := h3 _ (nth_mem hk)
  have h6 := sum_take_le h3 (k + 1)
  rw [sum_snoc xs k hk] at h6
  omega
def NnTo (xs : List Int) (k : Nat) : Prop := ∀ j, j < k → 0 ≤ nth xs j
theorem NnTo.succ {xs : List Int} {k : Nat} (h : NnTo xs k) (hk : 0 ≤ nth xs k) : NnTo xs (k + 1) := fun j hj => by
  rcases Nat.lt_or_ge j k with h1 | h1
  · exact h j h1
  · obtain rfl : j = k := by omega
    exact hk
theorem NnTo.all {xs : List Int} (h : NnTo xs xs.length) : ∀ x, x ∈ xs → 0 ≤ x := fun x hx => by
  obtain ⟨k, hk, rfl⟩ := mem_nth hx
  exact h k hk

def rOk (t : List (List Int)) (r : List Int) : Bool := decide (r.length = (row t 0).length) && areC 16 r
/-- A table. -/
def isT (t : List (List Int)) : Bool := decide (1 ≤ t.length) && decide (t.length ≤ 3) && t.all (rOk t) && decide ((t.map List.sum).sum ≤ 16)
/-- What the first k rows sum to. -/
def sumTo (t : List (List Int)) (k : Nat) : Int := ((t.take k).map List.sum).sum
theorem sumTo_snoc (t : List (List Int)) (k : Nat) (h : k < t.length) : sumTo t (k + 1) = sumTo t k + (row t k).sum := by
  unfold sumTo
  rw [List.take_succ_eq_append_getElem h, List.map_append, List.sum_append]
  have e : row t k = t[k] := by simp [row, List.getD, h]
  rw [e]; simp
theorem sumTo_all (t : List (List Int)) : sumTo t t.length = (t.map List.sum).sum := by unfold sumTo; rw [List.take_length]
theorem isT_iff {t : List (List Int)} : isT t = true ↔ 1 ≤ t.length ∧ t.length ≤ 3 ∧ (∀ k, k < t.length → (row t k).length = (row t 0).length ∧ areC 16 (row t k) = true) ∧ sumTo t t.length ≤ 16 := by
  rw [sumTo_all]
  simp only [isT, Bool.and_eq_true, decide_eq_true_eq, List.all_eq_true, and_assoc]
  constructor
  · rintro ⟨h1, h2, h3, h4⟩
    refine ⟨h1, h2, fun k hk => ?_, h4⟩
    have := h3 _ (row_mem hk)
    simpa only [rOk, Bool.and_eq_true, decide_eq_true_eq] using this
  · rintro ⟨h1, h2, h3, h4⟩
    refine ⟨h1, h2, fun r hr => ?_, h4⟩
    obtain ⟨k, hk, rfl⟩ := mem_row hr
    simpa only [rOk, Bool.and_eq_true, decide_eq_true_eq] using h3 k hk
theorem isT_row {t : List (List Int)} {k : Nat} (hk : k < t.length) (h : ¬ ((row t k).length = (row t 0).length ∧ areC 16 (row t k) = true)) : isT t = false := by
  rw [Bool.eq_false_iff]; intro hc
  exact h ((isT_iff.1 hc).2.2.1 k hk)
theorem sums_nn {t : List (List Int)} (h : isT t = true) (k : Nat) (hk : k ≤ t.length) : sumTo t k ≤ sumTo t t.length := by
  have hc := (isT_iff.1 h).2.2.1
  unfold sumTo
  rw [List.take_length, List.map_take]
  apply sum_take_le
  intro x hx
  obtain ⟨r, hr, rfl⟩ := List.mem_map.1 hx
  obtain ⟨j, hj, rfl⟩ := mem_row hr
  exact sum_nn _ (areC_iff.1 (hc j hj).2).2.2.1
theorem isT_over {t : List (List Int)} {k : Nat} (hk : k < t.length) (h : 16 < sumTo t (k + 1)) : isT t = false := by
  rw [Bool.eq_false_iff]; intro hc
  have := sums_nn hc (k + 1) hk
  have := (isT_iff.1 hc).2.2.2
  omega
theorem areC_lim {lim : Int} {xs : List Int} (hl : lim ≤ 16) (h : areC lim xs = false) : areC 16 xs = false ∨ lim < xs.sum := by
  cases h1 : areC 16 xs with
  | false => exact .inl rfl
  | true =>
    right
    obtain ⟨a, b, c, d⟩ := areC_iff.1 h1
    rcases Int.lt_or_le lim xs.sum with h2 | h2
    · exact h2
    · rw [areC_iff.2 ⟨a, b, c, h2⟩] at h; cases h
theorem areC_up {lim : Int} {xs : List Int} (hl : lim ≤ 16) (h : areC lim xs = true) : areC 16 xs = true := by
  obtain ⟨a, b, c, d⟩ := areC_iff.1 h
  exact areC_iff.2 ⟨a, b, c, by omega⟩

/-- The number in row i and column j, 0 where there is none. -/
def at2 (t : List (List Int)) (i j : Nat) : Int := nth (row t i) j
theorem row_out {t : List (List Int)} {k : Nat} (h : t.length ≤ k) : row t k = [] := by simp [row, List.getD, List.getElem?_eq_none h]

/-- What is known of a table. -/
structure Tb (t : List (List Int)) (n m : Nat) : Prop where
  len : t.length = n
  n1 : 1 ≤ n
  n3 : n ≤ 3
  m1 : 1 ≤ m
  m3 : m ≤ 3
  rows : ∀ k, k < n → (row t k).length = m
  nn : ∀ i j, 0 ≤ at2 t i j
  all : sumTo t n ≤ 16
theorem sum3 {xs : List Int} (h : xs.length ≤ 3) : xs.sum = nth xs 0 + nth xs 1 + nth xs 2 := by
  match xs, h with
  | [], _ => rfl
  | [a], _ => simp [nth]
  | [a, b], _ => simp [nth]
  | [a, b, c], _ => simp [nth, Int.add_assoc]
theorem sumTo3 {t : List (List Int)} (h : t.length ≤ 3) : sumTo t t.length = (row t 0).sum + (row t 1).sum + (row t 2).sum := by
  unfold sumTo; rw [List.take_length]
  match t, h with
  | [], _ => rfl
  | [a], _ => simp [row]
  | [a, b], _ => simp [row]
  | [a, b, c], _ => simp [row, Int.add_assoc]
theorem tb_of {t : List (List Int)} (h : isT t = true) : Tb t t.length (row t 0).length := by
  obtain ⟨h1, h2, h3, h4⟩ := isT_iff.1 h
  have h5 := (h3 0 (by omega)).2
  obtain ⟨a, b, _, _⟩ := areC_iff.1 h5
  refine ⟨rfl, h1, h2, a, b, fun k hk => (h3 k hk).1, fun i j => ?_, h4⟩
  rcases Nat.lt_or_ge i t.length with hi | hi
  · rcases Nat.lt_or_ge j (row t i).length with hj | hj
    · exact (areC_iff.1 (h3 i hi).2).2.2.1 _ (nth_mem hj)
    · unfold at2; rw [nth_out hj]; exact Int.le_refl _
  · unfold at2; rw [row_out hi, nth_out (by simp)]; exact Int.le_refl _
theorem Tb.row_sum {t : List (List Int)} {n m : Nat} (h : Tb t n m) (i : Nat) : (row t i).sum = at2 t i 0 + at2 t i 1 + at2 t i 2 := by
  apply sum3
  rcases Nat.lt_or_ge i n with hi | hi
  · rw [h.rows i hi]; exact h.m3
  · rw [row_out (by rw [h.len]; exact hi)]; simp
theorem Tb.total {t : List (List Int)} {n m : Nat} (h : Tb t n m) : (at2 t 0 0 + at2 t 0 1 + at2 t 0 2) + (at2 t 1 0 + at2 t 1 1 + at2 t 1 2) + (at2 t 2 0 + at2 t 2 1 + at2 t 2 2) ≤ 16 := by
  have h1 := h.all
  have e := h.len
  rw [← e] at h1
  rw [sumTo3 (by rw [e]; exact h.n3), h.row_sum, h.row_sum, h.row_sum] at h1
  exact h1
theorem Tb.le {t : List (List Int)} {n m : Nat} (h : Tb t n m) (i j : Nat) : at2 t i j ≤ 16 := by
  have h1 := h.total
  have := h.nn 0 0; have := h.nn 0 1; have := h.nn 0 2
  have := h.nn 1 0; have := h.nn 1 1; have := h.nn 1 2
  have := h.nn 2 0; have := h.nn 2 1; have := h.nn 2 2
  rcases Nat.lt_or_ge i 3 with hi | hi
  · rcases Nat.lt_or_ge j 3 with hj | hj
    · rcases (show i = 0 ∨ i = 1 ∨ i = 2 by omega) with rfl | rfl | rfl <;> rcases (show j = 0 ∨ j = 1 ∨ j = 2 by omega) with rfl | rfl | rfl <;> omega
    · have : at2 t i j = 0 := by
        unfold at2; apply nth_out
        rcases Nat.lt_or_ge i n with h2 | h2
        · rw [h.rows i h2]; have := h.m3; omega
        · rw [row_out (by rw [h.len]; exact h2)]; simp
      omega
  · have : at2 t i j = 0 := by
      unfold at2; rw [row_out (by rw [h.len]; have := h.n3; omega)]; rfl
    omega
theorem isT_of {t : List (List Int)} {n m : Nat} (h : Tb t n m) : isT t = true := by
  refine isT_iff.2 ⟨by rw [h.len]; exact h.n1, by rw [h.len]; exact h.n3, fun k hk => ?_, by rw [h.len]; exact h.all⟩
  rw [h.len] at hk
  refine ⟨by rw [h.rows k hk, h.rows 0 h.n1], areC_iff.2 ⟨by rw [h.rows k hk]; exact h.m1, by rw [h.rows k hk]; exact h.m3, fun x hx => ?_, ?_⟩⟩
  · obtain ⟨j, hj, rfl⟩ := mem_nth hx
    exact h.nn k j
  · have h1 := h.total
    have := h.nn 0 0; have := h.nn 0 1; have := h.nn 0 2
    have := h.nn 1 0; have := h.nn 1 1; have := h.nn 1 2
    have := h.nn 2 0; have := h.nn 2 1; have := h.nn 2 2
    rw [h.row_sum]
    have := h.n3
    rcases (show k = 0 ∨ k = 1 ∨ k = 2 by omega) with rfl | rfl | rfl <;> omega
theorem cutT_of {t : List (List Int)} (h : isT t = true) : cutT t = t := by
  have ht := tb_of h
  exact cutT_same (by have := ht.n3; omega) fun k hk => by rw [ht.rows k hk]; have := ht.m3; omega
theorem isT_cut (t : List (List Int)) : isT (cutT t) = isT t := by
  cases h : isT t with
  | true => rw [cutT_of h, h]
  | false =>
    cases h' : isT (cutT t) with
    | false => rfl
    | true =>
      have hb := tb_of h'
      have hl : t.length ≤ 3 := by have := hb.n3; simp [cutT] at this; omega
      have e : cutT t = t := cutT_same (by omega) fun k hk => by
        have h6 := hb.rows k (by simp [cutT]; omega)
        have h7 := hb.m3
        rw [cutT_row (by omega)] at h6
        have : ((row t k).take 6).length ≤ 3 := by omega
        simp at this; omega
      rw [e, h] at h'; cases h'
end Go.Proofs.Ytabgifpenegofaa
