import Derived.Test.YtdlbahoenhhkdaaC4
import Derived.Test.YtdlbahoenhhkdaaShelf
import Derived.Sort.OwnSortedInts
import Derived.StillTailTactics
/-
  Merge of two lists of counts: plain facts; the array sorted.
-/
namespace Go.Proofs.Ytdlbahoenhhkdaa
open Go.RowKit Go.Sort

/-- The sum of a key among the first j counts. -/
def kS (gs : List G) (key : Nat) : Nat → Int
  | 0 => 0
  | j + 1 => kS gs key j + if (gth gs j).1 = key then (gth gs j).2.1 else 0
def kF (gs : List G) (key : Nat) : Int := kS gs key gs.length
theorem gth_left {xs ys : List G} {j : Nat} (h : j < xs.length) : gth (xs ++ ys) j = gth xs j := by simp [gth, List.getD, List.getElem?_append_left h]
theorem gth_right {xs ys : List G} {j : Nat} : gth (xs ++ ys) (xs.length + j) = gth ys j := by simp [gth, List.getD, List.getElem?_append_right]
theorem kS_left (xs ys : List G) (key : Nat) : ∀ j, j ≤ xs.length → kS (xs ++ ys) key j = kS xs key j := by
  intro j; induction j with
  | zero => intro _; rfl
  | succ j ih => intro hj; rw [kS, kS, ih (by omega), gth_left (by omega)]
theorem kS_right (xs ys : List G) (key : Nat) : ∀ j, kS (xs ++ ys) key (xs.length + j) = kF xs key + kS ys key j := by
  intro j; induction j with
  | zero => rw [Nat.add_zero, kS_left xs ys key _ (Nat.le_refl _), kS, kF]; omega
  | succ j ih => rw [← Nat.add_assoc, kS, ih, gth_right, kS]; omega
theorem kF_app (xs ys : List G) (key : Nat) : kF (xs ++ ys) key = kF xs key + kF ys key := by
  rw [kF, List.length_append, kS_right, kF]; rfl
theorem kS_none {xs : List G} {key : Nat} : ∀ j, (∀ i, i < j → (gth xs i).1 ≠ key) → kS xs key j = 0 := by
  intro j; induction j with
  | zero => intro _; rfl
  | succ j ih => intro h; rw [kS, ih (fun i hi => h i (by omega)), if_neg (h j (by omega))]; rfl
theorem lst_rise {xs : List G} {n : Nat} (h : LstTo xs n) : ∀ j, j < n → ∀ i, i < j → (gth xs i).1 < (gth xs j).1 := by
  intro j; induction j with
  | zero => intro _ i hi; omega
  | succ j ih =>
    intro hj i hi
    have h1 := (h (j + 1) hj).2 (by omega)
    simp only [Nat.add_sub_cancel] at h1
    rcases Nat.lt_or_ge i j with h2 | h2
    · have := ih (by omega) i h2; omega
    · obtain rfl : i = j := by omega
      exact h1
theorem cOk_get {g : G} (h : cOk g = true) : 0 ≤ g.1 ∧ g.1 ≤ 15 ∧ 1 ≤ g.2.1 ∧ g.2.1 ≤ 40 ∧ g.2.2 = 0 := cOk_parts (f := g.1) (d := g.2.1) (m := g.2.2) h
theorem kS_bd {xs : List G} {n : Nat} (h : LstTo xs n) (key : Nat) : ∀ j, j ≤ n → 0 ≤ kS xs key j ∧ kS xs key j ≤ 40 := by
  intro j; induction j with
  | zero => intro _; simp [kS]
  | succ j ih =>
    intro hj
    have h0 := ih (by omega)
    have h1 := cOk_get (h j (by omega)).1
    rw [kS]
    by_cases e : (gth xs j).1 = key
    · rw [if_pos e, kS_none j (fun i hi => by have := lst_rise h j (by omega) i hi; omega)]
      omega
    · rw [if_neg e]; omega
theorem kF_bd {xs : List G} (h : lstB xs = true) (key : Nat) : 0 ≤ kF xs key ∧ kF xs key ≤ 40 := kS_bd (lstB_get h) key xs.length (Nat.le_refl _)
theorem kS_mono {xs : List G} (h : ∀ j, j < xs.length → 1 ≤ (gth xs j).2.1) (key : Nat) : ∀ j, j ≤ xs.length → 0 ≤ kS xs key j := by
  intro j; induction j with
  | zero => intro _; simp [kS]
  | succ j ih => intro hj; have := ih (by omega); have := h j (by omega); rw [kS]; split <;> omega

/-- The sixteen numbers as a list. -/
def arrL (f : Nat → Int) : List Int := (List.range 16).map fun i => f i
theorem arrL_len (f : Nat → Int) : (arrL f).length = 16 := by simp [arrL]
theorem arrL_at (f : Nat → Int) (i : Nat) (h : i < 16) : nth (arrL f) i = f i := by unfold arrL; exact range_nth h
def srt (f : Nat → Int) : List Int := (arrL f).mergeSort fun x y => decide (x ≤ y)
theorem srt_len (f : Nat → Int) : (srt f).length = 16 := by simp [srt, arrL_len]
theorem srt_perm (f : Nat → Int) : (srt f).Perm (arrL f) := List.mergeSort_perm _ _
theorem srt_le (f : Nat → Int) (i j : Nat) (hij : i ≤ j) (hj : j < 16) : nth (srt f) i ≤ nth (srt f) j := by
  have hs : (srt f).Pairwise fun x y => decide (x ≤ y) = true := List.pairwise_mergeSort (fun a b c h1 h2 => by simp at *; omega) (fun a b => by simp; omega) _
  rcases Nat.lt_or_ge i j with h | h
  · have hl := srt_len f
    have := List.pairwise_iff_getElem.1 hs i j (by omega) (by omega) h
    simp only [decide_eq_true_eq] at this
    simpa [nth, List.getD, List.getElem?_eq_getElem (show i < (srt f).length by omega), List.getElem?_eq_getElem (show j < (srt f).length by omega)] using this
  · obtain rfl : i = j := by omega
    omega

theorem sort_arr {w : World} {g : Nat} {f : Nat → Int} (h : Blk w g 85 (tarr f)) :
    Calls Try.prog 65 #[.slice (some ⟨g, 0, none⟩) 16 16] w fun e w' => e = .returned (.tuple #[]) ∧ (∀ i, i < 16 → w'.cell? ⟨g, i, none⟩ = some (.int .i64 (nth (srt f) i))) ∧ w.grownBy w' (some g) := by
  have hH : Holds (Value.int .i64) w g 0 (arrL f).toArray := by
    intro j hj
    have hj' : j < 16 := by simpa [arrL_len] using hj
    refine ⟨?_, by rw [Nat.zero_add]; exact h.frozen j⟩
    rw [Nat.zero_add, h.cell, tarr_at f j hj']
    simp [arrL, hj']
  have hc := Try.slices_Sort_int g 0 16 (arrL f) w hH h.lt (by rw [arrL_len]; omega)
  rw [arrL_len] at hc
  refine hc.mono fun e w' ⟨he, n, os, hw'⟩ => ⟨he, fun i hi => ?_, ?_⟩
  · have hsz : (srt f).toArray.size = (arrL f).toArray.size := by simp [srt_len, arrL_len]
    have hH2 : Holds (Value.int .i64) (Sort.ahead w n) g 0 (arrL f).toArray := hH
    have h3 := holds_grow (Value.int .i64) _ os g 0 _ (by simpa using h.lt) (holds_putRow (Value.int .i64) (Sort.ahead w n) g 0 _ (srt f).toArray hH2 hsz) i (by simp [srt_len]; omega)
    rw [hw']
    have h4 := h3.1
    rw [Nat.zero_add] at h4
    have hl := srt_len f
    rw [show ((arrL f).mergeSort fun x y => decide (x ≤ y)) = srt f from rfl, h4]
    simp [nth, List.getD, List.getElem?_eq_getElem (show i < (srt f).length by omega), show i < (srt f).length by omega]
  · rw [hw']
    exact grownBy_sortedI _

/-- What is left of the sums. -/
def mergeTo (f : Nat → Int) (less : Int) : Nat → List G
  | 0 => []
  | j + 1 => mergeTo f less j ++ if less < f j then [((j : Int), f j - less, 0)] else []
theorem mergeTo_len (f : Nat → Int) (less : Int) : ∀ j, (mergeTo f less j).length ≤ j := by
  intro j; induction j with
  | zero => simp [mergeTo]
  | succ j ih => simp only [mergeTo, List.length_append]; split <;> simp <;> omega

/-- How many of the sixteen are at least n. -/
def many (f : Nat → Int) (n : Int) : Nat → Int
  | 0 => 0
  | j + 1 => many f n j + if n ≤ f j then 1 else 0
/-- The greatest number up to j that more than k of the sums reach. -/
def lessTo (f : Nat → Int) (k : Int) : Nat → Int
  | 0 => 0
  | j + 1 => if k < many f ((j : Int) + 1) 16 then (j : Int) + 1 else lessTo f k j

theorem many_bd (f : Nat → Int) (n : Int) : ∀ j : Nat, 0 ≤ many f n j ∧ many f n j ≤ j := by
  intro j; induction j with
  | zero => simp [many]
  | succ j ih => simp only [many]; split <;> omega
theorem many_count (f : Nat → Int) (n : Int) : ∀ j, j ≤ 16 → many f n j = (((arrL f).take j).countP fun x => decide (n ≤ x) : Nat) := by
  intro j; induction j with
  | zero => intro _; simp [many]
  | succ j ih =>
    intro hj
    rw [many, ih (by omega), take_snoc _ j (by rw [arrL_len]; omega), List.countP_append, arrL_at f j (by omega)]
    by_cases h : n ≤ f j
    · simp [h]
    · simp [h, List.countP_cons]
theorem many_srt (f : Nat → Int) (n : Int) : many f n 16 = ((srt f).countP fun x => decide (n ≤ x) : Nat) := by
  rw [many_count f n 16 (Nat.le_refl _), List.take_of_length_le (by rw [arrL_len]; omega), (srt_perm f).countP_eq]
/-- In a rising list of sixteen more than k reach n just if the k + 1-st from the end does. -/
theorem many_iff (f : Nat → Int) (n : Int) (K : Nat) (hK : K ≤ 15) : (K : Int) < many f n 16 ↔ n ≤ nth (srt f) (15 - K) := by
  have hl := srt_len f
  rw [many_srt]
  constructor
  · intro h
    by_cases hc : n ≤ nth (srt f) (15 - K)
    · exact hc
    · exfalso
      have hsplit : (srt f).countP (fun x => decide (n ≤ x)) = ((srt f).take (16 - K)).countP (fun x => decide (n ≤ x)) + ((srt f).drop (16 - K)).countP (fun x => decide (n ≤ x)) := by
        rw [← List.countP_append, List.take_append_drop]
      have h0 : ((srt f).take (16 - K)).countP (fun x => decide (n ≤ x)) = 0 := by
        rw [List.countP_eq_zero]
        intro x hx
        obtain ⟨i, hi, e⟩ := mem_nth hx
        have hi' : i < 16 - K := by simp at hi; omega
        have e2 : nth ((srt f).take (16 - K)) i = nth (srt f) i := by simp [nth, List.getD, List.getElem?_take, hi']
        have := srt_le f i (15 - K) (by omega) (by omega)
        simp; omega
      have h1 : ((srt f).drop (16 - K)).countP (fun x => decide (n ≤ x)) ≤ K := by
        have := List.countP_le_length (p := fun x => decide (n ≤ x)) (l := (srt f).drop (16 - K))
        simp at this; omega
      omega
  · intro h
    have hsplit : (srt f).countP (fun x => decide (n ≤ x)) = ((srt f).take (15 - K)).countP (fun x => decide (n ≤ x)) + ((srt f).drop (15 - K)).countP (fun x => decide (n ≤ x)) := by
      rw [← List.countP_append, List.take_append_drop]
    have h0 : ((srt f).drop (15 - K)).countP (fun x => decide (n ≤ x)) = ((srt f).drop (15 - K)).length := by
      rw [List.countP_eq_length]
      intro x hx
      obtain ⟨i, hi, e⟩ := mem_nth hx
      have hi' : i < 16 - (15 - K) := by simp at hi; omega
      have e2 : nth ((srt f).drop (15 - K)) i = nth (srt f) (15 - K + i) := by simp [nth, List.getD]
      have := srt_le f (15 - K) (15 - K + i) (by omega) (by omega)
      simp; omega
    rw [List.length_drop, hl] at h0
    omega
theorem lessTo_eq (f : Nat → Int) (K : Nat) (hK : K ≤ 15) : ∀ j : Nat, 0 ≤ nth (srt f) (15 - K) → lessTo f K j = min (j : Int) (nth (srt f) (15 - K)) := by
  intro j h0; induction j with
  | zero => simp only [lessTo]; omega
  | succ j ih =>
    rw [lessTo]
    by_cases h : (K : Int) < many f ((j : Int) + 1) 16
    · rw [if_pos h]
      have := (many_iff f _ K hK).1 h
      omega
    · rw [if_neg h, ih]
      have : ¬ ((j : Int) + 1 ≤ nth (srt f) (15 - K)) := fun hc => h ((many_iff f _ K hK).2 hc)
      omega
theorem srt_mem (f : Nat → Int) (i : Nat) (hi : i < 16) : ∃ j, j < 16 ∧ nth (srt f) i = f j := by
  have hm : nth (srt f) i ∈ arrL f := (srt_perm f).mem_iff.1 (nth_mem (by rw [srt_len]; exact hi))
  obtain ⟨j, hj, e⟩ := mem_nth hm
  rw [arrL_len] at hj
  rw [arrL_at f j hj] at e
  exact ⟨j, hj, e.symm⟩
theorem less_same (f : Nat → Int) (K : Nat) (hK : K ≤ 15) (hf : ∀ j, j < 16 → 0 ≤ f j ∧ f j ≤ 80) : lessTo f K 80 = nth (srt f) (15 - K) := by
  obtain ⟨j, hj, e⟩ := srt_mem f (15 - K) (by omega)
  have := hf j hj
  rw [lessTo_eq f K hK 80 (by omega)]
  omega
end Go.Proofs.Ytdlbahoenhhkdaa
