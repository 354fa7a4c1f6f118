/-
  Plain lemmas on falling lists: sorted by insertion, or by mergeSort and turned: the same list.
-/
import Derived.Test.YtmpdalcdkibgpaaW6
namespace Go.Proofs.Ytmpdalcdkibgpaa

def ins (v : Int) (l : List Int) : List Int := l.takeWhile (fun x => decide (v ≤ x)) ++ v :: l.dropWhile (fun x => decide (v ≤ x))
def fallR (xs : List Int) : List Int := xs.foldl (fun acc v => ins v acc) []

def Desc (l : List Int) : Prop := l.Pairwise fun a b => b ≤ a

theorem ins_perm (v : Int) (l : List Int) : (ins v l).Perm (v :: l) := by
  unfold ins
  refine List.perm_middle.trans (List.Perm.cons v ?_)
  rw [List.takeWhile_append_dropWhile]

theorem desc_ins {v : Int} {l : List Int} (h : Desc l) : Desc (ins v l) := by
  induction l with
  | nil => simp [ins, Desc]
  | cons a l ih =>
    rw [Desc, List.pairwise_cons] at h
    by_cases hv : v ≤ a
    · have e : ins v (a :: l) = a :: ins v l := by simp [ins, hv]
      rw [e, Desc, List.pairwise_cons]
      refine ⟨fun b hb => ?_, ih h.2⟩
      rcases List.mem_cons.1 ((ins_perm v l).mem_iff.1 hb) with rfl | hb
      · exact hv
      · exact h.1 b hb
    · have e : ins v (a :: l) = v :: a :: l := by simp [ins, hv]
      rw [e, Desc, List.pairwise_cons, List.pairwise_cons]
      refine ⟨fun b hb => ?_, h⟩
      rcases List.mem_cons.1 hb with rfl | hb
      · omega
      · have := h.1 b hb; omega

theorem fold_ins (xs : List Int) : ∀ acc, Desc acc → Desc (xs.foldl (fun acc v => ins v acc) acc) ∧ (xs.foldl (fun acc v => ins v acc) acc).Perm (acc ++ xs) := by
  induction xs with
  | nil => intro acc h; exact ⟨h, by simp⟩
  | cons x xs ih =>
    intro acc h
    have := ih (ins x acc) (desc_ins h)
    refine ⟨this.1, this.2.trans ?_⟩
    have h2 := (ins_perm x acc).append_right xs
    exact h2.trans (by simpa using (List.perm_middle (a := x) (l₁ := acc) (l₂ := xs)).symm)

theorem fallR_desc (xs : List Int) : Desc (fallR xs) := (fold_ins xs [] (by simp [Desc])).1
theorem fallR_perm (xs : List Int) : (fallR xs).Perm xs := by simpa [fallR] using (fold_ins xs [] (by simp [Desc])).2

theorem desc_unique : ∀ {l m : List Int}, Desc l → Desc m → l.Perm m → l = m := by
  intro l
  induction l with
  | nil => intro m _ _ h; exact h.nil_eq
  | cons a l ih =>
    intro m hl hm h
    cases m with
    | nil => exact absurd h.symm (by simp)
    | cons b m =>
      have h1 : a ∈ b :: m := h.mem_iff.1 (by simp)
      have h2 : b ∈ a :: l := h.mem_iff.2 (by simp)
      rw [Desc, List.pairwise_cons] at hl hm
      have e : a = b := by
        rcases List.mem_cons.1 h1 with e | h1
        · exact e
        · rcases List.mem_cons.1 h2 with e | h2
          · exact e.symm
          · have := hm.1 a h1; have := hl.1 b h2; omega
      subst e
      rw [ih hl.2 hm.2 (List.Perm.cons_inv h)]

theorem fallS_desc (xs : List Int) : Desc (fallS xs) := by
  unfold fallS Desc
  rw [List.pairwise_reverse]
  have := List.pairwise_mergeSort (le := fun x y : Int => decide (x ≤ y)) (by intro a b c h1 h2; simp at *; omega) (by intro a b; simp; omega) xs
  exact this.imp (by intro a b h; simpa using h)
theorem fallS_perm (xs : List Int) : (fallS xs).Perm xs := by
  unfold fallS
  exact (List.reverse_perm _).trans (List.mergeSort_perm _ _)
theorem fallS_eq (xs : List Int) : fallS xs = fallR xs := desc_unique (fallS_desc xs) (fallR_desc xs) ((fallS_perm xs).trans (fallR_perm xs).symm)
end Go.Proofs.Ytmpdalcdkibgpaa
