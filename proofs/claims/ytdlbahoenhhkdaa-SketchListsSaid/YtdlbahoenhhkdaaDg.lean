import Derived.Test.YtdlbahoenhhkdaaDf
/-
  The full list: how far a number on it may be from how often its key comes.
-/
namespace Go.Proofs.Ytdlbahoenhhkdaa
open Go.RowKit

theorem leastTo_le {gs : List G} : ∀ k i, i < k → (gth gs (leastTo gs k)).2.1 ≤ (gth gs i).2.1 := by
  intro k; induction k with
  | zero => intro i h; omega
  | succ k ih =>
    intro i h
    simp only [leastTo]
    split
    · rcases Nat.lt_or_ge i k with h1 | h1
      · have := ih i h1; omega
      · rw [show i = k by omega]; omega
    · rcases Nat.lt_or_ge i k with h1 | h1
      · exact ih i h1
      · rw [show i = k by omega]; omega
theorem mem_ins_of {gs : List G} {p : Nat} {g x : G} (h : x ∈ gs) : x ∈ ins gs p g := by
  rw [← List.take_append_drop p gs, List.mem_append] at h
  unfold ins
  simp only [List.mem_append, List.mem_singleton]
  rcases h with h | h
  · exact .inl (.inl h)
  · exact .inr h
theorem mem_ins_self {gs : List G} {p : Nat} {g : G} : g ∈ ins gs p g := by simp [ins]
theorem rise_key {gs : List G} (h : Rise gs) {a b : G} (ha : a ∈ gs) (hb : b ∈ gs) (e : a.1 = b.1) : a = b := by
  obtain ⟨i, hi, rfl⟩ := mem_gth ha
  obtain ⟨j, hj, rfl⟩ := mem_gth hb
  rcases Nat.lt_trichotomy i j with h1 | h1 | h1
  · have := h i j h1 hj; omega
  · rw [h1]
  · have := h j i h1 hi; omega
theorem S_del (f : G → Int) (gs : List G) (m : Nat) (hm : m < gs.length) : S f (gs.take m ++ gs.drop (m + 1)) = S f gs - f (gth gs m) := by
  have h := S_app f (gs.take m) (gs.drop m)
  rw [List.take_append_drop, List.drop_eq_getElem_cons hm, S_cons, ← gth_get hm] at h
  rw [S_app]; omega

/-- The full list behind k keys. -/
structure Fu (K : Nat) (xs : List Int) (k : Nat) (gs : List G) : Prop where
  tot : S (fun g => g.2.1) gs = k
  on : ∀ g ∈ gs, cntTo xs g.1 k ≤ g.2.1 ∧ g.2.1 - g.2.2 ≤ cntTo xs g.1 k ∧ 0 ≤ g.2.2 ∧ g.2.2 ≤ g.2.1
  off : ∀ key, (∀ g ∈ gs, g.1 ≠ key) → cntTo xs key k = 0 ∨ (gs.length = K ∧ ∀ g ∈ gs, cntTo xs key k ≤ g.2.1)
theorem Fu.nil (K : Nat) (xs : List Int) : Fu K xs 0 [] := ⟨rfl, fun g h => by simp at h, fun key _ => .inl rfl⟩
theorem Fu.add {K k : Nat} {xs : List Int} {gs : List G} (h : Fu K xs k gs) (hi : Inv K k gs) (hK : 0 < K) : Fu K xs (k + 1) (addL false K gs (nth xs k)) := by
  obtain ⟨x, hx⟩ : ∃ x, nth xs k = x := ⟨_, rfl⟩
  have hc := fun key => cntTo_succ xs key k
  rw [hx] at hc ⊢
  have hc1 : cntTo xs x (k + 1) = cntTo xs x k + 1 := by rw [hc]; simp [oF]
  have hc2 : ∀ key, key ≠ x → cntTo xs key (k + 1) = cntTo xs key k := fun key hk => by rw [hc]; simp [oF, hk.symm]
  have hp := pos_at hi.rise x
  unfold addL
  cases hon : onB gs x (pos gs x) with
  | true =>
    rw [if_pos rfl]
    have ho : pos gs x < gs.length ∧ (gth gs (pos gs x)).1 = x := by simpa [onB] using hon
    obtain ⟨p, hpe⟩ : ∃ p, pos gs x = p := ⟨_, rfl⟩
    rw [hpe] at ho ⊢
    have hmem : ∀ g ∈ bump gs p, (g ∈ gs ∧ g.1 ≠ x) ∨ g = (x, (gth gs p).2.1 + 1, (gth gs p).2.2) := by
      intro g hg
      unfold bump at hg
      obtain ⟨i, hil, rfl⟩ := mem_gth hg
      rw [List.length_set] at hil
      rw [gth_set _ _ _ _ ho.1]
      split
      · right; rw [ho.2]
      · rename_i hne
        refine .inl ⟨gth_mem hil, fun e => hne ?_⟩
        rcases Nat.lt_trichotomy i p with h1 | h1 | h1
        · have := hi.rise i p h1 ho.1; omega
        · exact h1
        · have := hi.rise p i h1 hil; omega
    have hxo := h.on _ (gth_mem ho.1)
    rw [ho.2] at hxo
    refine ⟨?_, fun g hg => ?_, fun key hk => ?_⟩
    · unfold bump
      rw [S_set _ _ _ _ ho.1]
      have := h.tot
      simp only
      push_cast
      omega
    · rcases hmem g hg with ⟨h1, h2⟩ | rfl
      · rw [hc2 _ h2]; exact h.on g h1
      · simp only; rw [hc1]; omega
    · have hkx : key ≠ x := by
        intro e
        have h1 : gth (bump gs p) p ∈ bump gs p := gth_mem (by unfold bump; rw [List.length_set]; exact ho.1)
        apply hk _ h1
        unfold bump
        rw [gth_set _ _ _ _ ho.1, if_pos rfl, e]; exact ho.2
      have hk2 : ∀ g ∈ gs, g.1 ≠ key := by
        intro g hg e
        obtain ⟨i, hil, rfl⟩ := mem_gth hg
        have h1 : gth (bump gs p) i ∈ bump gs p := gth_mem (by unfold bump; rw [List.length_set]; exact hil)
        apply hk _ h1
        unfold bump
        rw [gth_set _ _ _ _ ho.1]
        split
        · rename_i e2; rw [e2] at e; exact e
        · exact e
      rw [hc2 _ hkx]
      rcases h.off key hk2 with h1 | ⟨h1, h2⟩
      · exact .inl h1
      · refine .inr ⟨by unfold bump; rw [List.length_set]; exact h1, fun g hg => ?_⟩
        rcases hmem g hg with ⟨h3, _⟩ | rfl
        · exact h2 g h3
        · have := h2 _ (gth_mem ho.1); simp only; omega
  | false =>
    rw [if_neg (by simp)]
    have hno := off_list hi.rise hon
    by_cases hlt : gs.length < K
    · rw [if_pos hlt]
      have hx0 : cntTo xs x k = 0 := by
        rcases h.off x hno with h1 | ⟨h1, _⟩
        · exact h1
        · omega
      refine ⟨?_, fun g hg => ?_, fun key hk => ?_⟩
      · rw [S_ins]
        have := h.tot
        push_cast
        omega
      · rcases ins_mem hg with hg | rfl
        · rw [hc2 _ (hno g hg)]; exact h.on g hg
        · simp only; rw [hc1, hx0]; omega
      · have hkx : key ≠ x := fun e => hk _ mem_ins_self e.symm
        rw [hc2 _ hkx]
        rcases h.off key (fun g hg => hk g (mem_ins_of hg)) with h1 | ⟨h1, _⟩
        · exact .inl h1
        · omega
    · rw [if_neg hlt, if_neg (by simp)]
      have hK2 : gs.length = K := by have := hi.few; omega
      have hm := leastTo_lt (gs := gs) gs.length (by omega)
      have hmin := fun i hi => leastTo_le (gs := gs) gs.length i hi
      unfold repl
      obtain ⟨m, hme⟩ : ∃ m, leastTo gs gs.length = m := ⟨_, rfl⟩
      rw [hme] at hm hmin
      simp only [hme]
      obtain ⟨v, hv⟩ : ∃ v, (gth gs m).2.1 = v := ⟨_, rfl⟩
      rw [hv] at hmin ⊢
      have hmin2 : ∀ g ∈ gs, v ≤ g.2.1 := fun g hg => by obtain ⟨i, hil, rfl⟩ := mem_gth hg; exact hmin i hil
      have hv1 : 1 ≤ v := by rw [← hv]; exact (hi.all _ (gth_mem hm)).2.2.1
      have hxv : cntTo xs x k ≤ v := by
        rcases h.off x hno with h1 | ⟨_, h1⟩
        · omega
        · rw [← hv]; exact h1 _ (gth_mem hm)
      have hx0 := (cntTo_bd xs x k).1
      have hsub : ∀ g ∈ gs.take m ++ gs.drop (m + 1), g ∈ gs := fun g hg => by
        rw [List.mem_append] at hg
        rcases hg with h1 | h1
        · exact List.mem_of_mem_take h1
        · exact List.mem_of_mem_drop h1
      have hback : ∀ g ∈ gs, g ≠ gth gs m → g ∈ gs.take m ++ gs.drop (m + 1) := fun g hg hne => by
        rw [← List.take_append_drop m gs, List.mem_append, List.drop_eq_getElem_cons hm, List.mem_cons, ← gth_get hm] at hg
        rw [List.mem_append]
        rcases hg with h1 | h1 | h1
        · exact .inl h1
        · exact absurd h1 hne
        · exact .inr h1
      have hr1 := rise_del hi.rise _ hm
      refine ⟨?_, fun g hg => ?_, fun key hk => ?_⟩
      · rw [S_ins, S_del _ _ _ hm]
        have := h.tot
        simp only
        rw [hv]
        push_cast
        omega
      · rcases ins_mem hg with hg | rfl
        · rw [hc2 _ (hno g (hsub g hg))]; exact h.on g (hsub g hg)
        · simp only; rw [hc1]; omega
      · have hkx : key ≠ x := fun e => hk _ mem_ins_self e.symm
        rw [hc2 _ hkx]
        have hkv : cntTo xs key k ≤ v := by
          by_cases e : (gth gs m).1 = key
          · have := (h.on _ (gth_mem hm)).1
            rw [e, hv] at this; exact this
          · have hk2 : ∀ g ∈ gs, g.1 ≠ key := fun g hg e2 => by
              by_cases e3 : g = gth gs m
              · rw [e3] at e2; exact e e2
              · exact hk g (mem_ins_of (hback g hg e3)) e2
            rcases h.off key hk2 with h1 | ⟨_, h1⟩
            · omega
            · rw [← hv]; exact h1 _ (gth_mem hm)
        refine .inr ⟨?_, fun g hg => ?_⟩
        · rw [ins_length (pos_at hr1 x).le]
          simp only [List.length_append, List.length_take, List.length_drop]
          omega
        · rcases ins_mem hg with hg | rfl
          · have := hmin2 g (hsub g hg); omega
          · simp only; omega
theorem lstL_fu {K : Nat} (hK : 0 < K) {xs : List Int} (hx : ∀ j, j < xs.length → 0 ≤ nth xs j ∧ nth xs j ≤ 15) : ∀ k, k ≤ xs.length → Fu K xs k (lstL false K xs k) := by
  intro k; induction k with
  | zero => intro _; exact Fu.nil K xs
  | succ k ih => intro h; exact (ih (by omega)).add (lstL_inv false hK hx k (by omega)) hK
/-- The least number, or the start. -/
def minTo (s : Int) (gs : List G) : Nat → Int
  | 0 => s
  | k + 1 => min (minTo s gs k) (gth gs k).2.1
theorem minTo_ge {s t : Int} {gs : List G} (hs : t ≤ s) : ∀ k, (∀ i, i < k → t ≤ (gth gs i).2.1) → t ≤ minTo s gs k := by
  intro k; induction k with
  | zero => intro _; exact hs
  | succ k ih => intro h; simp only [minTo]; have := ih fun i hi => h i (by omega); have := h k (by omega); omega
theorem minTo_bd {s : Int} {gs : List G} : ∀ k, minTo s gs k ≤ s := by
  intro k; induction k with
  | zero => exact Int.le_refl _
  | succ k ih => simp only [minTo]; omega
theorem S_take_succ (f : G → Int) (gs : List G) (k : Nat) (h : k < gs.length) : S f (gs.take (k + 1)) = S f (gs.take k) + f (gth gs k) := by
  rw [gtake gs k h, S_app, S_cons, S_nil]; omega
end Go.Proofs.Ytdlbahoenhhkdaa
