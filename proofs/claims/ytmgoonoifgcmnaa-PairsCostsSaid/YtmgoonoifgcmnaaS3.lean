/-
  Pins, plain: all of them; a quarter turn.
-/
import Derived.Test.YtmgoonoifgcmnaaS2
import Derived.Test.YtmgoonoifgcmnaaN1
namespace Go.Proofs.Ytmgoonoifgcmnaa
open Go.RowKit

/-- One number that is out of bounds leaves a place less. -/
theorem places_out (xs : List Int) (m i0 : Nat) (h0 : ¬ (0 ≤ nth xs i0 ∧ nth xs i0 < (m : Int))) : ∀ k : Nat, sumN (fun j => (plT xs (j : Int) k).length) m + (if i0 < k then 1 else 0) ≤ k
  | 0 => by
    have : ∀ m : Nat, sumN (fun j => (plT xs (j : Int) 0).length) m = 0 := fun m => by
      induction m with
      | zero => rfl
      | succ m ih => simp only [sumN, ih]; simp [plT]
    rw [this]; simp
  | k + 1 => by
    have h1 := places_out xs m i0 h0 k
    have e : sumN (fun j => (plT xs (j : Int) (k + 1)).length) m = sumN (fun j => (plT xs (j : Int) k).length + if nth xs k + 1 = (j : Int) + 1 then 1 else 0) m :=
      sumN_ext fun j _ => by
        rw [plT_succ, List.length_append]
        by_cases e : nth xs k = (j : Int)
        · have e2 : nth xs k + 1 = (j : Int) + 1 := by omega
          simp [e]
        · have e2 : ¬ nth xs k + 1 = (j : Int) + 1 := by omega
          rw [if_neg e, if_neg e2]; simp
    have h2 := sumN_one (nth xs k + 1) m
    rw [e, sumN_add]
    by_cases c : i0 = k
    · subst c
      rw [if_neg (by omega)] at h2
      rw [if_pos (by omega)]
      split at h1 <;> omega
    · split at h2 <;> split at h1 <;> split <;> omega
theorem sumN_ones {f : Nat → Nat} : ∀ {m : Nat}, (∀ j, j < m → 1 ≤ f j) → m ≤ sumN f m
  | 0, _ => by simp
  | m + 1, h => by have := sumN_ones (f := f) (m := m) fun j hj => h j (by omega); have := h m (by omega); simp only [sumN]; omega
theorem sumN_exact1 {f : Nat → Nat} {i : Nat} : ∀ {m : Nat}, (∀ j, j < m → 1 ≤ f j) → i < m → f i + m ≤ sumN f m + 1
  | 0, _, h => absurd h (by omega)
  | m + 1, h, hi => by
    simp only [sumN]
    have h2 := sumN_ones (f := f) (m := m) fun j hj => h j (by omega)
    rcases Nat.lt_or_ge i m with h1 | h1
    · have := sumN_exact1 (f := f) (i := i) (m := m) (fun j hj => h j (by omega)) h1
      have := h m (by omega)
      omega
    · obtain rfl : i = m := by omega
      omega
theorem mem_pl {xs : List Int} {z : Int} (h : z ∈ xs) : 1 ≤ (plL xs z).length := by
  obtain ⟨i, hi, e⟩ := mem_nth.1 h
  have : (i : Int) ∈ plL xs z := plT_mem.2 ⟨i, rfl, hi, e⟩
  exact List.length_pos_of_mem this
/-- If each number below the length is there, all are such numbers. -/
theorem eo_bd {xs : List Int} (h : eoB xs = true) {k : Nat} (hk : k < xs.length) : 0 ≤ nth xs k ∧ nth xs k < (xs.length : Int) := by
  rcases Classical.em (0 ≤ nth xs k ∧ nth xs k < (xs.length : Int)) with h1 | h1
  · exact h1
  · have h2 := places_out xs xs.length k h1 xs.length
    have h3 := sumN_ones (f := fun j => (plT xs ((j : Nat) : Int) xs.length).length) (m := xs.length) fun j hj => mem_pl (eoT_iff.1 h j hj)
    rw [if_pos hk] at h2
    omega
theorem places_sum0 (xs : List Int) (m : Nat) : ∀ k : Nat, sumN (fun j => (plT xs (j : Int) k).length) m ≤ k
  | 0 => by
    have : ∀ m : Nat, sumN (fun j => (plT xs (j : Int) 0).length) m = 0 := fun m => by
      induction m with
      | zero => rfl
      | succ m ih => simp only [sumN, ih]; simp [plT]
    rw [this]; omega
  | k + 1 => by
    have h1 := places_sum0 xs m k
    have h2 := sumN_one (nth xs k + 1) m
    have e : sumN (fun j => (plT xs (j : Int) (k + 1)).length) m = sumN (fun j => (plT xs (j : Int) k).length + if nth xs k + 1 = (j : Int) + 1 then 1 else 0) m :=
      sumN_ext fun j _ => by
        rw [plT_succ, List.length_append]
        by_cases e : nth xs k = (j : Int)
        · have e2 : nth xs k + 1 = (j : Int) + 1 := by omega
          simp [e]
        · have e2 : ¬ nth xs k + 1 = (j : Int) + 1 := by omega
          rw [if_neg e, if_neg e2]; simp
    rw [e, sumN_add]
    split at h2 <;> omega
theorem eo_one {xs : List Int} (h : eoB xs = true) {j : Nat} (hj : j < xs.length) : (plL xs (j : Int)).length = 1 := by
  have h1 : ∀ j, j < xs.length → 1 ≤ (plT xs ((j : Nat) : Int) xs.length).length := fun j hj => mem_pl (eoT_iff.1 h j hj)
  have h2 := sumN_exact1 (f := fun j => (plT xs ((j : Nat) : Int) xs.length).length) h1 hj
  have h3 := places_sum0 xs xs.length xs.length
  have := h1 j hj
  show (plT xs (j : Int) xs.length).length = 1
  omega
theorem eo_inj {xs : List Int} (h : eoB xs = true) {a b : Nat} (ha : a < xs.length) (hb : b < xs.length) (e : nth xs a = nth xs b) : a = b := by
  obtain ⟨h1, h2⟩ := eo_bd h ha
  obtain ⟨j, hj⟩ : ∃ j : Nat, nth xs a = (j : Int) := ⟨(nth xs a).toNat, by omega⟩
  have h3 := eo_one h (j := j) (by omega)
  have ma : (a : Int) ∈ plL xs (j : Int) := plT_mem.2 ⟨a, rfl, ha, hj⟩
  have mb : (b : Int) ∈ plL xs (j : Int) := plT_mem.2 ⟨b, rfl, hb, e ▸ hj⟩
  match hp : plL xs (j : Int), h3 with
  | [x], _ =>
    rw [hp] at ma mb
    simp at ma mb
    omega
/-- All of n numbers, by the reference. -/
def allR (xs : List Int) (n : Nat) : Bool := ((List.range n).all fun (j : Nat) => decide ((plL xs (j : Int)).length = 1)) && decide (xs.length = n)
theorem all_same (xs : List Int) : allR xs xs.length = eoB xs := by
  rw [Bool.eq_iff_iff]
  simp only [allR, Bool.and_eq_true, decide_eq_true_eq, and_true, List.all_eq_true, List.mem_range]
  constructor
  · intro h
    refine eoT_iff.2 fun j hj => ?_
    have h1 := h j hj
    match hp : plL xs (j : Int), h1 with
    | [x], _ =>
      obtain ⟨i, _, hi, e⟩ := plT_mem.1 (show x ∈ plT xs (j : Int) xs.length by rw [show plT xs (j : Int) xs.length = [x] from hp]; simp)
      exact mem_nth.2 ⟨i, hi, e⟩
  · intro h j hj
    exact eo_one h hj
/-- Pins. -/
def pcB (n : Nat) : Bool := decide (1 ≤ n) && decide (n ≤ 6)
def pinB (xs : List Int) : Bool := pcB xs.length && (eoB xs && arB xs)
/-- Pins by the reference. -/
def arR (xs : List Int) : Bool := (List.range (xs.length - 1)).all fun d => (List.range (xs.length - (d + 1))).all fun i => (List.range i).all fun j => decide (nth xs (i + (d + 1)) - nth xs i ≠ nth xs (j + (d + 1)) - nth xs j)
theorem ar_same (xs : List Int) : arR xs = arB xs := by
  rw [Bool.eq_iff_iff]
  constructor
  · intro h
    simp only [arR, List.all_eq_true, List.mem_range, decide_eq_true_eq] at h
    refine arT_iff.2 fun j hj => arJ_iff.2 fun i hi => arK_iff.2 fun k hk => ?_
    have := h (j - i - 1) (by omega) i (by omega) k hk
    rw [show i + (j - i - 1 + 1) = j by omega, show k + (j - i - 1 + 1) = k + (j - i) by omega] at this
    exact this
  · intro h
    simp only [arR, List.all_eq_true, List.mem_range, decide_eq_true_eq]
    intro d hd i hi k hk
    have := arK_iff.1 (arJ_iff.1 (arT_iff.1 h (i + (d + 1)) (by omega)) i (by omega)) k hk
    rw [show i + (d + 1) - i = d + 1 by omega] at this
    exact this
/-- All pins that begin with some, in order (f: how many may still come, and one more). -/
def pinsF (n : Nat) : Nat → List Int → List (List Int)
  | 0, _ => []
  | f + 1, xs => if xs.length = n then [xs] else (List.range n).flatMap fun (p : Nat) =>
      if (p : Int) ∈ xs ∨ arB (xs ++ [(p : Int)]) = false then [] else pinsF n f (xs ++ [(p : Int)])
def pinsS (n f : Nat) (xs : List Int) (p : Nat) : List (List Int) := if (p : Int) ∈ xs ∨ arB (xs ++ [(p : Int)]) = false then [] else pinsF n f (xs ++ [(p : Int)])
def pinsT (n f : Nat) (xs : List Int) (k : Nat) : List (List Int) := (List.range k).flatMap fun p => pinsS n f xs p
theorem pinsT_succ (n f : Nat) (xs : List Int) (k : Nat) : pinsT n f xs (k + 1) = pinsT n f xs k ++ pinsS n f xs k := by
  unfold pinsT; rw [List.range_succ, List.flatMap_append]; simp
theorem pinsF_end {n f : Nat} {xs : List Int} (h : xs.length = n) : pinsF n (f + 1) xs = [xs] := by unfold pinsF; rw [if_pos h]
theorem pinsF_on {n f : Nat} {xs : List Int} (h : xs.length ≠ n) : pinsF n (f + 1) xs = pinsT n f xs n := by unfold pinsF; rw [if_neg h]; rfl
theorem pinsT_skip {n f k : Nat} {xs : List Int} (h : (k : Int) ∈ xs ∨ arB (xs ++ [(k : Int)]) = false) : pinsT n f xs (k + 1) = pinsT n f xs k := by
  rw [pinsT_succ]; unfold pinsS; rw [if_pos h, List.append_nil]
theorem pinsT_go {n f k : Nat} {xs : List Int} (h1 : ¬ (k : Int) ∈ xs) (h2 : arB (xs ++ [(k : Int)]) = true) : pinsT n f xs (k + 1) = pinsT n f xs k ++ pinsF n f (xs ++ [(k : Int)]) := by
  rw [pinsT_succ]; unfold pinsS; rw [if_neg (by simp [h1, h2])]
def pinsL (n : Nat) : List (List Int) := pinsF n (n + 1) []
theorem nth_take {xs : List Int} {k j : Nat} (h : j < k) : nth (xs.take k) j = nth xs j := by simp [nth, List.getD, h]
theorem ar_take {xs : List Int} (h : arB xs = true) (k : Nat) : arB (xs.take k) = true := by
  refine arT_iff.2 fun j hj => arJ_iff.2 fun i hi => arK_iff.2 fun q hq => ?_
  rw [List.length_take] at hj
  have := arK_iff.1 (arJ_iff.1 (arT_iff.1 h j (by omega)) i hi) q hq
  rw [nth_take (by omega), nth_take (by omega), nth_take (by omega), nth_take (by omega)]
  exact this
theorem take_snoc {xs : List Int} {k : Nat} (h : k < xs.length) : xs.take (k + 1) = xs.take k ++ [nth xs k] := by
  rw [List.take_add_one, List.getElem?_eq_getElem h]
  simp [nth, List.getD, h]
theorem pins_all {xs : List Int} {n : Nat} (hl : xs.length = n) (he : eoB xs = true) (ha : arB xs = true) : ∀ (f k : Nat), k ≤ n → n < f + k → xs ∈ pinsF n f (xs.take k)
  | 0, k, h1, h2 => by omega
  | f + 1, k, h1, h2 => by
    by_cases e : k = n
    · have : xs.take k = xs := List.take_of_length_le (by omega)
      rw [this, pinsF_end hl]; simp
    · have hk : k < xs.length := by omega
      rw [pinsF_on (by rw [List.length_take]; omega)]
      obtain ⟨b1, b2⟩ := eo_bd he hk
      obtain ⟨p, hp⟩ : ∃ p : Nat, nth xs k = (p : Int) := ⟨(nth xs k).toNat, by omega⟩
      refine List.mem_flatMap.2 ⟨p, List.mem_range.2 (by omega), ?_⟩
      unfold pinsS
      have e1 : xs.take k ++ [(p : Int)] = xs.take (k + 1) := by rw [take_snoc hk, hp]
      rw [e1, if_neg]
      · exact pins_all hl he ha f (k + 1) (by omega) (by omega)
      · rintro (h3 | h3)
        · obtain ⟨i, hi, hj⟩ := mem_nth.1 h3
          rw [List.length_take] at hi
          rw [nth_take (by omega)] at hj
          have := eo_inj he (a := i) (b := k) (by omega) hk (by rw [hj, hp])
          omega
        · rw [ar_take ha] at h3; cases h3
theorem pin_mem {xs : List Int} (h : pinB xs = true) : xs ∈ pinsL xs.length ∧ 1 ≤ xs.length ∧ xs.length ≤ 6 := by
  simp only [pinB, pcB, Bool.and_eq_true, decide_eq_true_eq] at h
  obtain ⟨⟨h1, h2⟩, h3, h4⟩ := h
  have := pins_all rfl h3 h4 (xs.length + 1) 0 (by omega) (by omega)
  exact ⟨by simpa [pinsL] using this, h1, h2⟩

/-- Pins turned by a quarter, the first k laid. -/
def qtT (xs : List Int) : Nat → List Int
  | 0 => List.replicate xs.length 0
  | k + 1 => (qtT xs k).set (nth xs k).toNat ((xs.length : Int) - 1 - k)
def qtL (xs : List Int) : List Int := qtT xs xs.length
theorem qtT_len (xs : List Int) : ∀ k, (qtT xs k).length = xs.length
  | 0 => by simp [qtT]
  | k + 1 => by simp [qtT, qtT_len xs k]
/-- What is asked of pins that are turned. -/
def qtB (xs : List Int) : Bool := pinB (qtL xs) && (pinB xs.reverse && (pinB (qtL (qtL xs)) && (pinB (qtL (qtL (qtL xs))) && decide (qtL (qtL (qtL (qtL xs))) = xs))))
set_option maxRecDepth 100000
theorem qt_1 : (pinsL 1).all qtB = true := by decide +kernel
theorem qt_2 : (pinsL 2).all qtB = true := by decide +kernel
theorem qt_3 : (pinsL 3).all qtB = true := by decide +kernel
theorem qt_4 : (pinsL 4).all qtB = true := by decide +kernel
theorem qt_5 : (pinsL 5).all qtB = true := by decide +kernel
theorem qt_6 : (pinsL 6).all qtB = true := by decide +kernel
theorem qt_all {xs : List Int} (h : pinB xs = true) : qtB xs = true := by
  obtain ⟨h1, h2, h3⟩ := pin_mem h
  rcases (show xs.length = 1 ∨ xs.length = 2 ∨ xs.length = 3 ∨ xs.length = 4 ∨ xs.length = 5 ∨ xs.length = 6 by omega) with e | e | e | e | e | e
  · rw [e] at h1; exact List.all_eq_true.1 qt_1 xs h1
  · rw [e] at h1; exact List.all_eq_true.1 qt_2 xs h1
  · rw [e] at h1; exact List.all_eq_true.1 qt_3 xs h1
  · rw [e] at h1; exact List.all_eq_true.1 qt_4 xs h1
  · rw [e] at h1; exact List.all_eq_true.1 qt_5 xs h1
  · rw [e] at h1; exact List.all_eq_true.1 qt_6 xs h1
theorem pin_parts {xs : List Int} (h : pinB xs = true) : (1 ≤ xs.length ∧ xs.length ≤ 6) ∧ eoB xs = true ∧ arB xs = true := by
  simp only [pinB, pcB, Bool.and_eq_true, decide_eq_true_eq] at h
  exact h
end Go.Proofs.Ytmgoonoifgcmnaa
