import Derived.Test.YtdlbahoenhhkdaaDf
import Derived.Test.YtdlbahoenhhkdaaC6
/-
  What two short lists make together; slices.Clone of counts.
-/
namespace Go.Proofs.Ytdlbahoenhhkdaa
open Go.RowKit

def sm (f : Nat → Int) : Nat → Int
  | 0 => 0
  | j + 1 => sm f j + f j
theorem sm_add (f g : Nat → Int) : ∀ j, sm (fun k => f k + g k) j = sm f j + sm g j := by
  intro j; induction j with
  | zero => rfl
  | succ j ih => simp only [sm, ih]; omega
theorem sm_one (g : G) : ∀ j : Nat, 0 ≤ g.1 → sm (fun key => nF key g) j = if g.1 < j then g.2.1 else 0 := by
  intro j h; induction j with
  | zero => rw [if_neg (by omega)]; rfl
  | succ j ih =>
    rw [show sm (fun key : Nat => nF key g) (j + 1) = sm (fun key : Nat => nF key g) j + nF j g from rfl, ih]
    simp only [nF]
    push_cast
    by_cases e : g.1 = j
    · rw [if_neg (show ¬ g.1 < (j : Int) by omega), if_pos e, if_pos (show g.1 < (j : Int) + 1 by omega)]; omega
    · rw [if_neg e]
      by_cases e2 : g.1 < j
      · rw [if_pos e2, if_pos (show g.1 < (j : Int) + 1 by omega)]; omega
      · rw [if_neg e2, if_neg (show ¬ g.1 < (j : Int) + 1 by omega)]; omega
theorem sm_zero : ∀ j, sm (fun _ => 0) j = 0 := by
  intro j; induction j with
  | zero => rfl
  | succ j ih => simp only [sm, ih]; rfl
theorem sm_S (gs : List G) (h : ∀ g ∈ gs, 0 ≤ g.1 ∧ g.1 ≤ 15) : sm (fun key => S (nF key) gs) 16 = S (fun g => g.2.1) gs := by
  induction gs with
  | nil => exact sm_zero 16
  | cons g l ih =>
    have e : (fun key : Nat => S (nF key) (g :: l)) = fun key : Nat => nF key g + S (nF key) l := by
      funext key; rw [S_cons]
    rw [e, sm_add, ih fun x hx => h x (by simp [hx]), S_cons, sm_one g 16 (h g (by simp)).1]
    have := h g (by simp)
    rw [if_pos (by omega)]
theorem kF_S (gs : List G) (key : Nat) : kF gs key = S (nF key) gs := by
  have h : ∀ j, j ≤ gs.length → kS gs key j = S (nF key) (gs.take j) := by
    intro j; induction j with
    | zero => intro _; simp [kS, S]
    | succ j ih =>
      intro hj
      rw [kS, ih (by omega), gtake gs j (by omega), S_app, S_cons, S_nil]
      simp only [nF]; omega
  rw [kF, h _ (Nat.le_refl _), List.take_length]
theorem sm_many (f : Nat → Int) (n : Int) (hn : 0 ≤ n) (hf : ∀ j, 0 ≤ f j) : ∀ j, n * many f n j ≤ sm f j := by
  intro j; induction j with
  | zero => simp [many, sm]
  | succ j ih =>
    simp only [many, sm]
    have := hf j
    split
    · rw [Int.mul_add]; omega
    · rw [Int.mul_add]; omega
theorem less_bd (f : Nat → Int) (K : Nat) (hK : K ≤ 15) (h0 : 0 ≤ nth (srt f) (15 - K)) (hf : ∀ j, 0 ≤ f j) : nth (srt f) (15 - K) * ((K : Int) + 1) ≤ sm f 16 := by
  have h1 := (many_iff f (nth (srt f) (15 - K)) K hK).2 (Int.le_refl _)
  have h2 := sm_many f _ h0 hf 16
  have h3 : nth (srt f) (15 - K) * ((K : Int) + 1) ≤ nth (srt f) (15 - K) * many f (nth (srt f) (15 - K)) 16 := Int.mul_le_mul_of_nonneg_left (by omega) h0
  omega
theorem merge_len (f : Nat → Int) (less : Int) : ∀ j, ((mergeTo f less j).length : Int) = many f (less + 1) j := by
  intro j; induction j with
  | zero => rfl
  | succ j ih =>
    simp only [mergeTo, many, List.length_append]
    push_cast
    rw [ih]
    by_cases e : less < f j
    · rw [if_pos e, if_pos (show less + 1 ≤ f j by omega)]; rfl
    · rw [if_neg e, if_neg (show ¬ less + 1 ≤ f j by omega)]; rfl
theorem merge_few (f : Nat → Int) (K : Nat) (hK : K ≤ 15) : (mergeTo f (nth (srt f) (15 - K)) 16).length ≤ K := by
  have h1 := merge_len f (nth (srt f) (15 - K)) 16
  have h2 : ¬ (K : Int) < many f (nth (srt f) (15 - K) + 1) 16 := fun h => by
    have := (many_iff f _ K hK).1 h; omega
  omega
theorem merge_mem (f : Nat → Int) (less : Int) : ∀ j, ∀ g ∈ mergeTo f less j, 0 ≤ g.1 ∧ g.1 < j ∧ g.2.2 = 0 := by
  intro j; induction j with
  | zero => intro g h; simp [mergeTo] at h
  | succ j ih =>
    intro g h
    rw [mergeTo, List.mem_append] at h
    rcases h with h | h
    · have := ih g h; push_cast; omega
    · split at h
      · rw [List.mem_singleton] at h; subst h; refine ⟨by simp only; omega, by simp only; push_cast; omega, rfl⟩
      · simp at h
theorem merge_rise (f : Nat → Int) (less : Int) (j : Nat) : Rise (mergeTo f less j) := by
  rw [rise_iff]
  induction j with
  | zero => exact List.Pairwise.nil
  | succ j ih =>
    rw [mergeTo, List.pairwise_append]
    refine ⟨ih, by split <;> simp, fun a ha b hb => ?_⟩
    have h1 := (merge_mem f less j a ha).2.1
    split at hb
    · rw [List.mem_singleton] at hb; subst hb; exact h1
    · simp at hb
theorem merge_val (f : Nat → Int) (less : Int) (key : Nat) : ∀ j, S (nF key) (mergeTo f less j) = if key < j then (if less < f key then f key - less else 0) else 0 := by
  intro j; induction j with
  | zero => rw [if_neg (by omega)]; rfl
  | succ j ih =>
    rw [mergeTo, S_app, ih]
    by_cases e : key = j
    · subst e
      rw [if_neg (show ¬ key < key by omega), if_pos (show key < key + 1 by omega)]
      by_cases hl : less < f key
      · rw [if_pos hl, if_pos hl, S_cons, S_nil]; simp [nF]
      · rw [if_neg hl, if_neg hl, S_nil]; rfl
    · have e2 : S (nF key) (if less < f j then [((j : Int), f j - less, 0)] else []) = 0 := by
        split
        · rw [S_cons, S_nil]
          have : ¬ ((j : Int) = (key : Int)) := by omega
          simp [nF, this]
        · rfl
      rw [e2]
      by_cases h : key < j
      · rw [if_pos h, if_pos (show key < j + 1 by omega)]; omega
      · rw [if_neg h, if_neg (show ¬ key < j + 1 by omega)]; rfl
theorem inv_lst {K k : Nat} {gs : List G} (h : Inv K k gs) (hk : k ≤ 40) (ho : ∀ g ∈ gs, g.2.2 = 0) : lstOk (K : Int) gs = true := by
  rw [lstOk, Bool.and_eq_true, decide_eq_true_eq]
  refine ⟨by have := h.few; omega, lstB_yes fun j hj => ⟨?_, fun h1 => h.rise (j - 1) j (by omega) hj⟩⟩
  have h1 := h.all _ (gth_mem hj)
  have h2 := ho _ (gth_mem hj)
  simp [cOk]
  omega
end Go.Proofs.Ytdlbahoenhhkdaa
