import Derived.Test.YtdlbahoenhhkdaaDm
/-
  The reference's list put in order is the program's; the reference's Short.
-/
namespace Go.Proofs.Ytdlbahoenhhkdaa
open Go.RowKit

theorem ent_same {gs rs : List G} (hp : gs.Perm rs) (hR : Rise gs) (key : Int) : ent rs key = ent gs key := by
  obtain ⟨m, a1, a2, a3⟩ := firstK gs key
  obtain ⟨m', b1, b2, b3⟩ := firstK rs key
  by_cases h : m < gs.length
  · have h' : m' < rs.length := by
      rcases Nat.lt_or_ge m' rs.length with h1 | h1
      · exact h1
      · exfalso
        obtain ⟨j, hj, e⟩ := mem_gth (hp.mem_iff.1 (gth_mem h))
        exact b2 j (by omega) (by rw [← e]; exact a3 h)
    rw [ent_yes h a2 (a3 h), ent_yes h' b2 (b3 h'), rise_key hR (gth_mem h) (hp.mem_iff.2 (gth_mem h')) (by rw [a3 h, b3 h'])]
  · have h' : ¬ m' < rs.length := fun h1 => by
      obtain ⟨j, hj, e⟩ := mem_gth (hp.mem_iff.2 (gth_mem h1))
      exact a2 j (by omega) (by rw [← e]; exact b3 h1)
    rw [ent_no (fun j hj => a2 j (by omega)), ent_no (fun j hj => b2 j (by omega))]
theorem fl_nil {l : List G} {j : Int} (h : ∀ g ∈ l, ¬ g.1 < j) : l.filter (fun g => decide (g.1 < j)) = [] := by
  rw [List.filter_eq_nil_iff]
  intro g hg
  simpa using h g hg
theorem fl_succ {gs : List G} (h : Rise gs) (j : Nat) : gs.filter (fun g => decide (g.1 < ((j + 1 : Nat) : Int))) = gs.filter (fun g => decide (g.1 < (j : Int))) ++ ent gs j := by
  rw [rise_iff] at h
  induction gs with
  | nil => rfl
  | cons g l ih =>
    rw [List.pairwise_cons] at h
    rcases Int.lt_trichotomy g.1 j with h1 | h1 | h1
    · have e1 : ent (g :: l) j = ent l j := by
        have : ¬ g.1 = j := by omega
        simp [ent, List.find?_cons, this]
      rw [List.filter_cons, List.filter_cons, if_pos (by simp; omega), if_pos (by simp; omega), ih h.2, e1, List.cons_append]
    · have e1 : ent (g :: l) j = [g] := by simp [ent, h1]
      rw [List.filter_cons, List.filter_cons, if_pos (by simp; omega), if_neg (by simp; omega), e1, fl_nil fun x hx => by have := h.1 x hx; omega, fl_nil fun x hx => by have := h.1 x hx; omega]
      rfl
    · have e1 : ent (g :: l) j = [] := ent_no fun i hi => by
        rcases i with _ | i
        · show g.1 ≠ j; omega
        · have : gth (g :: l) (i + 1) = gth l i := rfl
          rw [this]
          have := h.1 _ (gth_mem (show i < l.length by simpa using hi))
          omega
      rw [List.filter_cons, List.filter_cons, if_neg (by simp; omega), if_neg (by simp; omega), e1, fl_nil fun x hx => by have := h.1 x hx; omega, fl_nil fun x hx => by have := h.1 x hx; omega]
      rfl
theorem risL_fl {gs rs : List G} (hp : gs.Perm rs) (hR : Rise gs) (h0 : ∀ g ∈ gs, 0 ≤ g.1) : ∀ j : Nat, risL rs j = gs.filter fun g => decide (g.1 < (j : Int)) := by
  intro j; induction j with
  | zero =>
    rw [fl_nil fun g hg => by have := h0 g hg; omega]; rfl
  | succ j ih => rw [risL, ih, ent_same hp hR, ← fl_succ hR]
theorem risL_eq {gs rs : List G} (hp : gs.Perm rs) (hR : Rise gs) (h0 : ∀ g ∈ gs, 0 ≤ g.1 ∧ g.1 ≤ 15) : risL rs 16 = gs := by
  rw [risL_fl hp hR (fun g hg => (h0 g hg).1) 16, List.filter_eq_self]
  intro g hg
  have := (h0 g hg).2
  simp; omega
end Go.Proofs.Ytdlbahoenhhkdaa
