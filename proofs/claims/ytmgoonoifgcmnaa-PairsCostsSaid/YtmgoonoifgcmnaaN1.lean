/-
  How many rows there are.
-/
import Derived.Test.YtmgoonoifgcmnaaX2
namespace Go.Proofs.Ytmgoonoifgcmnaa
open Go.RowKit

/-- The first place of a set that is free, of m from j on. -/
def fz (occ : Nat) : Nat → Nat → Nat
  | 0, j => j
  | m + 1, j => bif occ.testBit j then fz occ m (j + 1) else j
/-- How many rows fill yields, by sets of the numbers and of the places that are taken. -/
def cnt (n s : Nat) : Nat → Nat → Nat → Nat
  | 0, _, _ => 0
  | f + 1, used, occ =>
    let p := fz occ (2 * n) 0
    bif Nat.ble (2 * n) p then 1 else
    sumN (fun j => let q := p + (j + 1) + s - 1
      bif used.testBit (j + 1) then 0 else bif Nat.ble (2 * n) q then 0 else bif occ.testBit q then 0 else cnt n s f (used ||| 2 ^ (j + 1)) (occ ||| (2 ^ p ||| 2 ^ q))) n
structure RelC (n : Nat) (xs : List Int) (used occ : Nat) : Prop where
  len : xs.length = 2 * n
  occ : ∀ j, j < 2 * n → occ.testBit j = decide (nth xs j ≠ 0)
  used : ∀ j : Nat, j < n → used.testBit (j + 1) = decide (((j : Int) + 1) ∈ xs)
theorem mem_nth {xs : List Int} {z : Int} : z ∈ xs ↔ ∃ i, i < xs.length ∧ nth xs i = z := by
  constructor
  · intro h
    obtain ⟨i, hi, e⟩ := List.mem_iff_getElem.1 h
    exact ⟨i, hi, by rw [← e]; simp [nth, List.getD, hi]⟩
  · rintro ⟨i, hi, rfl⟩
    simp [nth, List.getD, hi]
theorem nth_put {xs : List Int} {p q : Nat} {z : Int} (hp : p < xs.length) (hq : q < xs.length) (i : Nat) : nth (putR xs p q z) i = if i = q ∨ i = p then z else nth xs i := by
  unfold nth putR
  simp only [List.getD_eq_getElem?_getD, List.getElem?_set, List.length_set]
  by_cases c1 : q = i
  · subst c1; simp [hq]
  · by_cases c2 : p = i
    · subst c2; simp [c1, hp]
    · have d1 : ¬ i = q := fun e => c1 e.symm
      have d2 : ¬ i = p := fun e => c2 e.symm
      simp [c1, c2, d1, d2]
theorem fz_all {occ : Nat} : ∀ {m j : Nat}, (∀ i, j ≤ i → i < j + m → occ.testBit i = true) → fz occ m j = j + m
  | 0, j, _ => rfl
  | m + 1, j, h => by
    unfold fz
    rw [h j (by omega) (by omega), cond_true, fz_all fun i h1 h2 => h i (by omega) (by omega)]
    omega
theorem fz_at {occ p : Nat} (hp : occ.testBit p = false) : ∀ {m j : Nat}, j ≤ p → p < j + m → (∀ i, j ≤ i → i < p → occ.testBit i = true) → fz occ m j = p
  | 0, j, h1, h2, _ => by omega
  | m + 1, j, h1, h2, h => by
    unfold fz
    by_cases e : j = p
    · subst e; rw [hp]; rfl
    · rw [h j (by omega) (by omega), cond_true, fz_at hp (by omega) (by omega) fun i h3 h4 => h i (by omega) h4]
theorem fillT_sum (f s : Nat) (xs : List Int) (p : Nat) : ∀ k, (fillT f s xs p k).length = sumN (fun j => (fillS f s xs p j).length) k
  | 0 => rfl
  | k + 1 => by rw [fillT_succ, List.length_append, fillT_sum f s xs p k]; rfl
theorem cnt_len {n s : Nat} (hs : 1 ≤ s) : ∀ (f : Nat) (xs : List Int) (used occ : Nat), RelC n xs used occ → (fillL f s xs).length = cnt n s f used occ
  | 0, _, _, _, _ => rfl
  | f + 1, xs, used, occ, h => by
    have hl := h.len
    rcases ix_cases xs 0 with ⟨e, hall⟩ | ⟨p, e, hp, hp0, hbef⟩
    · rw [fillL_end (by omega)]
      have hz : fz occ (2 * n) 0 = 2 * n := by
        have := fz_all (occ := occ) (m := 2 * n) (j := 0) fun i _ h2 => by rw [h.occ i (by omega)]; simpa using hall i (by omega)
        omega
      unfold cnt
      simp only [hz]
      have : Nat.ble (2 * n) (2 * n) = true := by simp
      rw [this]; rfl
    · rw [fillL_on e, fillT_sum]
      have hz : fz occ (2 * n) 0 = p := fz_at (by rw [h.occ p (by omega)]; simpa using hp0) (Nat.zero_le _) (by omega) fun i _ h2 => by rw [h.occ i (by omega)]; simpa using hbef i h2
      unfold cnt
      simp only [hz]
      have hb : Nat.ble (2 * n) p = false := by rw [Bool.eq_false_iff]; simp; omega
      rw [hb, cond_false, show xs.length / 2 = n by omega]
      refine sumN_ext fun j hj => ?_
      unfold fillS
      rw [h.used j hj]
      by_cases c3 : ((j : Int) + 1) ∈ xs
      · rw [if_pos (.inr (.inr c3))]; simp [c3]
      · by_cases c1 : 2 * n ≤ p + (j + 1) + s - 1
        · have : Nat.ble (2 * n) (p + (j + 1) + s - 1) = true := by simp; omega
          rw [if_pos (.inl (by omega)), this]; simp [c3]
        · have hb2 : Nat.ble (2 * n) (p + (j + 1) + s - 1) = false := by rw [Bool.eq_false_iff]; simp; omega
          obtain ⟨q, hq⟩ : ∃ q, p + (j + 1) + s - 1 = q := ⟨_, rfl⟩
          rw [hq] at c1 hb2 ⊢
          rw [hb2, h.occ q (by omega)]
          by_cases c2 : nth xs q = 0
          · rw [if_neg (by simp [c2, c3]; omega)]
            simp only [c3, c2, ne_eq, not_true_eq_false, decide_false, cond_false]
            refine cnt_len hs f _ _ _ ⟨by rw [putR_len]; exact hl, fun i hi => ?_, fun i hi => ?_⟩
            · rw [Nat.testBit_or, Nat.testBit_or, Nat.testBit_two_pow, Nat.testBit_two_pow, h.occ i hi, nth_put (by omega) (by omega)]
              by_cases e1 : i = q
              · subst e1; simp; omega
              · by_cases e2 : i = p
                · subst e2; simp; omega
                · have d1 : ¬ q = i := fun e => e1 e.symm
                  have d2 : ¬ p = i := fun e => e2 e.symm
                  simp [e1, e2, d1, d2]
            · rw [Nat.testBit_or, Nat.testBit_two_pow, h.used i hi]
              have key : ((i : Int) + 1) ∈ putR xs p q ((j : Int) + 1) ↔ ((i : Int) + 1) ∈ xs ∨ j = i := by
                rw [mem_nth, mem_nth]
                constructor
                · rintro ⟨a, ha, he⟩
                  rw [putR_len] at ha
                  rw [nth_put (by omega) (by omega)] at he
                  split at he
                  · right; omega
                  · exact .inl ⟨a, ha, he⟩
                · rintro (⟨a, ha, he⟩ | rfl)
                  · refine ⟨a, by rw [putR_len]; exact ha, ?_⟩
                    rw [nth_put (by omega) (by omega), if_neg]
                    · exact he
                    · rintro (rfl | rfl) <;> omega
                  · exact ⟨q, by rw [putR_len]; omega, by rw [nth_put (by omega) (by omega), if_pos (.inl rfl)]⟩
              rw [Bool.eq_iff_iff]
              simp only [Bool.or_eq_true, decide_eq_true_eq]
              rw [key]
              constructor
              · rintro (h1 | h1)
                · exact .inl h1
                · right; omega
              · rintro (h1 | h1)
                · exact .inl h1
                · right; omega
          · rw [if_pos (.inr (.inl c2))]; simp [c3, c2]
theorem rel_zero (n : Nat) : RelC n (List.replicate (2 * n) 0) 0 0 :=
  ⟨by simp, fun j hj => by simp [nth, List.getD, hj], fun j hj => by simp; omega⟩
theorem rows_cnt {n s : Nat} (hs : 1 ≤ s) : (rowsL n s).length = cnt n s (n + 1) 0 0 := cnt_len hs _ _ _ _ (rel_zero n)
set_option maxRecDepth 100000
theorem head_of {l : List (List Int)} {x : List Int} (h : l.head? = some x) : ∃ rest, l = x :: rest := by
  cases l with
  | nil => cases h
  | cons a l => simp at h; subst h; exact ⟨l, rfl⟩
theorem cnt_1_1 : (rowsL 1 1).length = 1 := (rows_cnt (by omega)).trans (by decide +kernel)
theorem head_1_1 : ∃ rest, rowsL 1 1 = [1, 1] :: rest := head_of (by decide +kernel)
theorem isr_1_1 : rowB 1 [1, 1] = true := by decide +kernel
theorem cnt_1_2 : (rowsL 1 2).length = 0 := (rows_cnt (by omega)).trans (by decide +kernel)
theorem none_1_2 : rowsL 1 2 = [] := List.eq_nil_of_length_eq_zero cnt_1_2
theorem cnt_2_1 : (rowsL 2 1).length = 0 := (rows_cnt (by omega)).trans (by decide +kernel)
theorem none_2_1 : rowsL 2 1 = [] := List.eq_nil_of_length_eq_zero cnt_2_1
theorem cnt_2_2 : (rowsL 2 2).length = 0 := (rows_cnt (by omega)).trans (by decide +kernel)
theorem none_2_2 : rowsL 2 2 = [] := List.eq_nil_of_length_eq_zero cnt_2_2
theorem cnt_3_1 : (rowsL 3 1).length = 0 := (rows_cnt (by omega)).trans (by decide +kernel)
theorem none_3_1 : rowsL 3 1 = [] := List.eq_nil_of_length_eq_zero cnt_3_1
theorem cnt_3_2 : (rowsL 3 2).length = 2 := (rows_cnt (by omega)).trans (by decide +kernel)
theorem head_3_2 : ∃ rest, rowsL 3 2 = [2, 3, 1, 2, 1, 3] :: rest := head_of (by decide +kernel)
theorem isr_3_2 : rowB 2 [2, 3, 1, 2, 1, 3] = true := by decide +kernel
theorem cnt_4_1 : (rowsL 4 1).length = 6 := (rows_cnt (by omega)).trans (by decide +kernel)
theorem head_4_1 : ∃ rest, rowsL 4 1 = [1, 1, 3, 4, 2, 3, 2, 4] :: rest := head_of (by decide +kernel)
theorem isr_4_1 : rowB 1 [1, 1, 3, 4, 2, 3, 2, 4] = true := by decide +kernel
theorem cnt_4_2 : (rowsL 4 2).length = 2 := (rows_cnt (by omega)).trans (by decide +kernel)
theorem head_4_2 : ∃ rest, rowsL 4 2 = [2, 3, 4, 2, 1, 3, 1, 4] :: rest := head_of (by decide +kernel)
theorem isr_4_2 : rowB 2 [2, 3, 4, 2, 1, 3, 1, 4] = true := by decide +kernel
theorem cnt_5_1 : (rowsL 5 1).length = 10 := (rows_cnt (by omega)).trans (by decide +kernel)
theorem head_5_1 : ∃ rest, rowsL 5 1 = [1, 1, 3, 4, 5, 3, 2, 4, 2, 5] :: rest := head_of (by decide +kernel)
theorem isr_5_1 : rowB 1 [1, 1, 3, 4, 5, 3, 2, 4, 2, 5] = true := by decide +kernel
theorem cnt_5_2 : (rowsL 5 2).length = 0 := (rows_cnt (by omega)).trans (by decide +kernel)
theorem none_5_2 : rowsL 5 2 = [] := List.eq_nil_of_length_eq_zero cnt_5_2
theorem cnt_6_1 : (rowsL 6 1).length = 0 := (rows_cnt (by omega)).trans (by decide +kernel)
theorem none_6_1 : rowsL 6 1 = [] := List.eq_nil_of_length_eq_zero cnt_6_1
theorem cnt_6_2 : (rowsL 6 2).length = 0 := (rows_cnt (by omega)).trans (by decide +kernel)
theorem none_6_2 : rowsL 6 2 = [] := List.eq_nil_of_length_eq_zero cnt_6_2
theorem cnt_7_1 : (rowsL 7 1).length = 0 := (rows_cnt (by omega)).trans (by decide +kernel)
theorem none_7_1 : rowsL 7 1 = [] := List.eq_nil_of_length_eq_zero cnt_7_1
theorem cnt_7_2 : (rowsL 7 2).length = 52 := (rows_cnt (by omega)).trans (by decide +kernel)
theorem head_7_2 : ∃ rest, rowsL 7 2 = [1, 4, 1, 5, 6, 7, 4, 2, 3, 5, 2, 6, 3, 7] :: rest := head_of (by decide +kernel)
theorem isr_7_2 : rowB 2 [1, 4, 1, 5, 6, 7, 4, 2, 3, 5, 2, 6, 3, 7] = true := by decide +kernel
theorem cnt_8_1 : (rowsL 8 1).length = 504 := (rows_cnt (by omega)).trans (by decide +kernel)
theorem head_8_1 : ∃ rest, rowsL 8 1 = [1, 1, 2, 5, 2, 6, 7, 8, 5, 3, 4, 6, 3, 7, 4, 8] :: rest := head_of (by decide +kernel)
theorem isr_8_1 : rowB 1 [1, 1, 2, 5, 2, 6, 7, 8, 5, 3, 4, 6, 3, 7, 4, 8] = true := by decide +kernel
theorem cnt_8_2 : (rowsL 8 2).length = 300 := (rows_cnt (by omega)).trans (by decide +kernel)
theorem head_8_2 : ∃ rest, rowsL 8 2 = [1, 3, 1, 6, 7, 3, 8, 5, 2, 4, 6, 2, 7, 5, 4, 8] :: rest := head_of (by decide +kernel)
theorem isr_8_2 : rowB 2 [1, 3, 1, 6, 7, 3, 8, 5, 2, 4, 6, 2, 7, 5, 4, 8] = true := by decide +kernel
end Go.Proofs.Ytmgoonoifgcmnaa
