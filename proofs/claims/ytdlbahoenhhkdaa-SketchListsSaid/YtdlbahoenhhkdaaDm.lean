import Derived.Test.YtdlbahoenhhkdaaDk
import Derived.Test.YtdlbahoenhhkdaaDg
/-
  The program's list and the reference's hold the same entries.
-/
namespace Go.Proofs.Ytdlbahoenhhkdaa
open Go.RowKit

/-- a is before b: by number, then by key. -/
def bef (a b : G) : Prop := a.2.1 < b.2.1 ∨ (a.2.1 = b.2.1 ∧ a.1 ≤ b.1)
theorem leastTo_bef {gs : List G} (h : Rise gs) : ∀ k, k ≤ gs.length → ∀ i, i < k → bef (gth gs (leastTo gs k)) (gth gs i) := by
  intro k; induction k with
  | zero => intro _ i h; omega
  | succ k ih =>
    intro hk i hi
    simp only [leastTo]
    rcases Nat.eq_zero_or_pos k with h0 | h0
    · subst h0
      obtain rfl : i = 0 := by omega
      simp [leastTo, bef]
    · have hl := leastTo_lt (gs := gs) k h0
      split
      · rename_i hc
        rcases Nat.lt_or_ge i k with h1 | h1
        · rcases ih (by omega) i h1 with h2 | ⟨h2, _⟩
          · exact .inl (by omega)
          · exact .inl (by omega)
        · obtain rfl : i = k := by omega
          exact .inr ⟨rfl, Int.le_refl _⟩
      · rename_i hc
        rcases Nat.lt_or_ge i k with h1 | h1
        · exact ih (by omega) i h1
        · obtain rfl : i = k := by omega
          have := h (leastTo gs i) i hl (by omega)
          unfold bef
          omega
theorem leastR_lt {gs : List G} : ∀ k, 0 < k → leastR gs k < k := by
  intro k; induction k with
  | zero => intro h; omega
  | succ k ih =>
    intro _
    simp only [leastR]
    split
    · omega
    · rcases Nat.eq_zero_or_pos k with h | h
      · subst h; simp [leastR]
      · have := ih h; omega
theorem leastR_bef {gs : List G} : ∀ k, ∀ i, i < k → bef (gth gs (leastR gs k)) (gth gs i) := by
  intro k; induction k with
  | zero => intro i h; omega
  | succ k ih =>
    intro i hi
    simp only [leastR]
    split
    · rename_i hc
      rcases Nat.lt_or_ge i k with h1 | h1
      · have h2 := ih i h1
        unfold bef at h2 ⊢
        omega
      · obtain rfl : i = k := by omega
        exact .inr ⟨rfl, Int.le_refl _⟩
    · rename_i hc
      rcases Nat.lt_or_ge i k with h1 | h1
      · exact ih i h1
      · obtain rfl : i = k := by omega
        unfold bef
        omega
theorem same_step {K k : Nat} {gs rs : List G} (hp : gs.Perm rs) (hi : Inv K k gs) (sh : Bool) (hK : 0 < K) (x : Int) : (addL sh K gs x).Perm (addR sh K rs x) := by
  have hlen := hp.length_eq
  unfold addL addR
  cases hon : onB gs x (pos gs x) with
  | true =>
    have ho : pos gs x < gs.length ∧ (gth gs (pos gs x)).1 = x := by simpa [onB] using hon
    obtain ⟨p, hpe⟩ : ∃ p, pos gs x = p := ⟨_, rfl⟩
    rw [hpe] at ho ⊢
    have hix : ix rs x < rs.length := by
      rcases Nat.lt_or_ge (ix rs x) rs.length with h1 | h1
      · exact h1
      · exfalso
        obtain ⟨j, hj, e⟩ := mem_gth (hp.mem_iff.1 (gth_mem ho.1))
        exact ix_lo (gs := rs) (key := x) j (by omega) (by rw [← e]; exact ho.2)
    rw [if_pos rfl, if_pos hix]
    have he : gth gs p = gth rs (ix rs x) := rise_key hi.rise (gth_mem ho.1) (hp.mem_iff.2 (gth_mem hix)) (by rw [ho.2, ix_hi hix])
    have hrest : (gs.eraseIdx p).Perm (rs.eraseIdx (ix rs x)) := by
      have h1 := (self_perm ho.1).symm.trans (hp.trans (self_perm hix))
      rw [he] at h1
      exact h1.cons_inv
    unfold bump
    rw [he]
    exact (set_perm ho.1 _).trans ((hrest.cons _).trans (set_perm hix _).symm)
  | false =>
    have hno := off_list hi.rise hon
    have hix : ¬ ix rs x < rs.length := fun h => hno _ (hp.mem_iff.2 (gth_mem h)) (ix_hi h)
    rw [if_neg (by simp), if_neg hix, ← hlen]
    by_cases hlt : gs.length < K
    · rw [if_pos hlt, if_pos hlt]
      exact (ins_perm _ _ _).trans ((hp.cons _).trans (List.perm_append_singleton _ _).symm)
    · rw [if_neg hlt, if_neg hlt]
      cases sh with
      | true =>
        rw [if_pos rfl, if_pos rfl]
        exact (hp.map _).filter _
      | false =>
        rw [if_neg (by simp), if_neg (by simp)]
        have hg0 : 0 < gs.length := by omega
        have hm := leastTo_lt (gs := gs) gs.length hg0
        have hm2 := leastR_lt (gs := rs) gs.length hg0
        have he : gth gs (leastTo gs gs.length) = gth rs (leastR rs gs.length) := by
          have ma := gth_mem hm
          have mb : gth rs (leastR rs gs.length) ∈ rs := gth_mem (by omega)
          have h1 : bef (gth gs (leastTo gs gs.length)) (gth rs (leastR rs gs.length)) := by
            obtain ⟨j, hj, e⟩ := mem_gth (hp.mem_iff.2 mb)
            rw [e]; exact leastTo_bef hi.rise _ (Nat.le_refl _) j hj
          have h2 : bef (gth rs (leastR rs gs.length)) (gth gs (leastTo gs gs.length)) := by
            obtain ⟨j, hj, e⟩ := mem_gth (hp.mem_iff.1 ma)
            rw [e]; exact leastR_bef _ j (by omega)
          apply rise_key hi.rise ma (hp.mem_iff.2 mb)
          unfold bef at h1 h2
          omega
        have hrest : (gs.eraseIdx (leastTo gs gs.length)).Perm (rs.eraseIdx (leastR rs gs.length)) := by
          have h1 := (self_perm hm).symm.trans (hp.trans (self_perm (gs := rs) (p := leastR rs gs.length) (by omega)))
          rw [he] at h1
          exact h1.cons_inv
        unfold repl
        simp only
        rw [he]
        refine (ins_perm _ _ _).trans (List.Perm.trans ?_ (set_perm (gs := rs) (p := leastR rs gs.length) (by omega) _).symm)
        rw [← List.eraseIdx_eq_take_drop_succ]
        exact hrest.cons _
theorem same_lst (sh : Bool) {K : Nat} (hK : 0 < K) {xs : List Int} (hx : ∀ j, j < xs.length → 0 ≤ nth xs j ∧ nth xs j ≤ 15) : ∀ k, k ≤ xs.length → (lstL sh K xs k).Perm (lstR sh K xs k) := by
  intro k; induction k with
  | zero => intro _; exact List.Perm.refl _
  | succ k ih => intro h; exact same_step (ih (by omega)) (lstL_inv sh hK hx k (by omega)) sh hK _
end Go.Proofs.Ytdlbahoenhhkdaa
