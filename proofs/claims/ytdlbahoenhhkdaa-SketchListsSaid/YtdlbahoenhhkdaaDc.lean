import Derived.Test.YtdlbahoenhhkdaaDb
/-
  What the list keeps: it rises, has at most K keys, and its numbers are small.
-/
namespace Go.Proofs.Ytdlbahoenhhkdaa
open Go.RowKit

theorem gth_get {gs : List G} {i : Nat} (h : i < gs.length) : gth gs i = gs[i] := by simp [gth, List.getD, h]
theorem rise_iff (gs : List G) : Rise gs ↔ gs.Pairwise fun a b => a.1 < b.1 := by
  rw [List.pairwise_iff_getElem]
  constructor
  · intro h i j hi hj hij
    have := h i j hij hj
    rwa [gth_get hi, gth_get hj] at this
  · intro h i j hij hj
    rw [gth_get (by omega), gth_get hj]
    exact h i j (by omega) hj hij
theorem mem_gth {gs : List G} {g : G} (h : g ∈ gs) : ∃ i, i < gs.length ∧ g = gth gs i := by
  obtain ⟨i, hi, rfl⟩ := List.mem_iff_getElem.1 h
  exact ⟨i, hi, (gth_get hi).symm⟩
theorem rise_bump {gs : List G} (h : Rise gs) (p : Nat) : Rise (bump gs p) := by
  intro i j hij hj
  unfold bump at hj ⊢
  rw [List.length_set] at hj
  by_cases hp : p < gs.length
  · rw [gth_set _ _ _ _ hp, gth_set _ _ _ _ hp]
    have := h i j hij hj
    split <;> split
    · omega
    · rename_i e _; rw [e] at this; exact this
    · rename_i _ e; rw [e] at this; exact this
    · exact this
  · rw [List.set_eq_of_length_le (by omega)]; exact h i j hij hj
theorem take_mem {gs : List G} {p : Nat} {g : G} (h : g ∈ gs.take p) : ∃ i, i < p ∧ i < gs.length ∧ g = gth gs i := by
  obtain ⟨i, hi, rfl⟩ := List.mem_iff_getElem.1 h
  rw [List.length_take] at hi
  refine ⟨i, by omega, by omega, ?_⟩
  rw [List.getElem_take, gth_get (by omega)]
theorem drop_mem {gs : List G} {p : Nat} {g : G} (h : g ∈ gs.drop p) : ∃ i, p ≤ i ∧ i < gs.length ∧ g = gth gs i := by
  obtain ⟨i, hi, rfl⟩ := List.mem_iff_getElem.1 h
  rw [List.length_drop] at hi
  refine ⟨p + i, by omega, by omega, ?_⟩
  rw [List.getElem_drop, gth_get (by omega)]
theorem rise_ins {gs : List G} (h : Rise gs) {key : Int} {p : Nat} (hp : At gs key p) (hon : onB gs key p = false) (v o : Int) : Rise (ins gs p (key, v, o)) := by
  rw [rise_iff] at h ⊢
  unfold ins
  have hi : ∀ i, p ≤ i → i < gs.length → key < (gth gs i).1 := by
    intro i h1 h2
    have h3 := hp.hi i h1 h2
    have h4 := hp.hi p (Nat.le_refl _) (by omega)
    have h5 : (gth gs p).1 ≠ key := by
      intro e
      simp [onB, e, show p < gs.length by omega] at hon
    rcases Nat.lt_or_ge p i with h6 | h6
    · have := (rise_iff gs).2 h p i h6 h2; omega
    · rw [show i = p by omega] at h3 ⊢; omega
  rw [List.append_assoc, List.pairwise_append]
  refine ⟨h.sublist (List.take_sublist _ _), ?_, ?_⟩
  · rw [List.singleton_append, List.pairwise_cons]
    refine ⟨fun g hg => ?_, h.sublist (List.drop_sublist _ _)⟩
    obtain ⟨i, h1, h2, rfl⟩ := drop_mem hg
    exact hi i h1 h2
  · intro a ha b hb
    obtain ⟨i, h1, h2, rfl⟩ := take_mem ha
    have ha' := hp.lo i h1
    rw [List.singleton_append, List.mem_cons] at hb
    rcases hb with rfl | hb
    · exact ha'
    · obtain ⟨j, h3, h4, rfl⟩ := drop_mem hb
      have := hi j h3 h4
      omega
theorem rise_less {gs : List G} (h : Rise gs) : Rise (nz (gs.map dec)) := by
  rw [rise_iff] at h ⊢
  unfold nz
  apply List.Pairwise.filter
  rw [List.pairwise_map]
  exact h
theorem ins_length {gs : List G} {p : Nat} (h : p ≤ gs.length) (g : G) : (ins gs p g).length = gs.length + 1 := by
  simp [ins]; omega
theorem ins_mem {gs : List G} {p : Nat} {g x : G} (h : x ∈ ins gs p g) : x ∈ gs ∨ x = g := by
  unfold ins at h
  simp only [List.mem_append, List.mem_singleton] at h
  rcases h with (h | h) | h
  · exact .inl (List.mem_of_mem_take h)
  · exact .inr h
  · exact .inl (List.mem_of_mem_drop h)

/-- What holds of the list behind k keys. -/
structure Inv (K k : Nat) (gs : List G) : Prop where
  rise : Rise gs
  few : gs.length ≤ K
  all : ∀ g ∈ gs, 0 ≤ g.1 ∧ g.1 ≤ 15 ∧ 1 ≤ g.2.1 ∧ g.2.1 ≤ k
theorem Inv.nil (K : Nat) : Inv K 0 [] := ⟨fun i j h1 h2 => by simp at h2, Nat.zero_le _, fun g h => by simp at h⟩
theorem Inv.add {K k : Nat} {gs : List G} (h : Inv K k gs) (sh : Bool) (hK : 0 < K) {key : Int} (hk : 0 ≤ key ∧ key ≤ 15) : Inv K (k + 1) (addL sh K gs key) := by
  have hp := pos_at h.rise key
  unfold addL
  cases hon : onB gs key (pos gs key) with
  | true =>
    rw [if_pos rfl]
    have hpl : pos gs key < gs.length := by simp [onB] at hon; exact hon.1
    refine ⟨rise_bump h.rise _, by unfold bump; rw [List.length_set]; exact h.few, fun g hg => ?_⟩
    obtain ⟨i, hi, rfl⟩ := mem_gth hg
    unfold bump at hi ⊢
    rw [List.length_set] at hi
    rw [gth_set _ _ _ _ hpl]
    split
    · have := h.all _ (gth_mem hpl); simp only; omega
    · have := h.all _ (gth_mem hi); omega
  | false =>
    rw [if_neg (by simp)]
    by_cases hlt : gs.length < K
    · rw [if_pos hlt]
      refine ⟨rise_ins h.rise hp hon _ _, by rw [ins_length hp.le]; omega, fun g hg => ?_⟩
      rcases ins_mem hg with hg | rfl
      · have := h.all _ hg; omega
      · simp only; omega
    · rw [if_neg hlt]
      cases sh with
      | true =>
        rw [if_pos rfl]
        refine ⟨rise_less h.rise, Nat.le_trans (List.length_filter_le _ _) (by rw [List.length_map]; exact h.few), fun g hg => ?_⟩
        unfold nz at hg
        rw [List.mem_filter, List.mem_map] at hg
        obtain ⟨⟨x, hx, rfl⟩, hz⟩ := hg
        have := h.all _ hx
        have hz2 : ¬ (x.2.1 - 1 = 0) := by
          intro e
          rw [show (dec x).2.1 = x.2.1 - 1 from rfl, e] at hz
          simp at hz
        simp only [dec]; omega
      | false =>
        rw [if_neg (by simp)]
        have hm := leastTo_lt (gs := gs) gs.length (by omega)
        have hr1 := rise_del h.rise _ hm
        have hp1 := pos_at hr1 key
        unfold repl
        have hon1 : onB (gs.take (leastTo gs gs.length) ++ gs.drop (leastTo gs gs.length + 1)) key (pos (gs.take (leastTo gs gs.length) ++ gs.drop (leastTo gs gs.length + 1)) key) = false := by
          cases e : onB (gs.take (leastTo gs gs.length) ++ gs.drop (leastTo gs gs.length + 1)) key (pos (gs.take (leastTo gs gs.length) ++ gs.drop (leastTo gs gs.length + 1)) key) with
          | false => rfl
          | true =>
            exfalso
            simp only [onB, Bool.and_eq_true, decide_eq_true_eq] at e
            obtain ⟨e1, e2⟩ := e
            have hmem := gth_mem e1
            rw [List.mem_append] at hmem
            have : ∃ i, i < gs.length ∧ (gth gs i).1 = key := by
              rcases hmem with hm1 | hm1
              · obtain ⟨i, _, h2, h3⟩ := take_mem hm1; exact ⟨i, h2, by rw [← h3]; exact e2⟩
              · obtain ⟨i, _, h2, h3⟩ := drop_mem hm1; exact ⟨i, h2, by rw [← h3]; exact e2⟩
            obtain ⟨i, h2, h3⟩ := this
            have hpi : pos gs key = i := by
              apply At.uniq hp
              refine ⟨by omega, fun x hx => ?_, fun x hx hx2 => ?_⟩
              · have := h.rise x i hx h2; omega
              · rcases Nat.lt_or_ge i x with h5 | h5
                · have := h.rise i x h5 hx2; omega
                · rw [show x = i by omega]; omega
            rw [hpi] at hon
            simp [onB, h2, h3] at hon
        refine ⟨rise_ins hr1 hp1 hon1 _ _, ?_, fun g hg => ?_⟩
        · rw [ins_length hp1.le]
          simp only [List.length_append, List.length_take, List.length_drop]
          have := h.few; omega
        · have hmm := h.all _ (gth_mem hm)
          rcases ins_mem hg with hg | rfl
          · rw [List.mem_append] at hg
            have hx : g ∈ gs := by rcases hg with h1 | h1; exact List.mem_of_mem_take h1; exact List.mem_of_mem_drop h1
            have := h.all _ hx; omega
          · simp only; omega
def lstL (sh : Bool) (K : Nat) (xs : List Int) : Nat → List G
  | 0 => []
  | k + 1 => addL sh K (lstL sh K xs k) (nth xs k)
theorem lstL_inv (sh : Bool) {K : Nat} (hK : 0 < K) {xs : List Int} (hx : ∀ j, j < xs.length → 0 ≤ nth xs j ∧ nth xs j ≤ 15) : ∀ k, k ≤ xs.length → Inv K k (lstL sh K xs k) := by
  intro k; induction k with
  | zero => intro _; exact Inv.nil K
  | succ k ih => intro h; exact (ih (by omega)).add sh hK (hx k (by omega))
end Go.Proofs.Ytdlbahoenhhkdaa
