import Derived.Test.YtdlbahoenhhkdaaD4
/-
  Stores into a list of counts; lessen: less by one, and away with the zeros.
-/
namespace Go.Proofs.Ytdlbahoenhhkdaa
open Go.RowKit

theorem cells3_get (gs : List G) (j : Nat) (h : j < gs.length * 3) : (cells3_ gs)[j]? = some (.int .i64 (if j % 3 = 0 then (gth gs (j / 3)).1 else if j % 3 = 1 then (gth gs (j / 3)).2.1 else (gth gs (j / 3)).2.2)) := by
  obtain ⟨h1, h2, h3⟩ := cells3_at gs (j / 3) (by omega)
  by_cases e0 : j % 3 = 0
  · rw [if_pos e0, ← h1]; congr 1; omega
  · rw [if_neg e0]
    by_cases e1 : j % 3 = 1
    · rw [if_pos e1, ← h2]; congr 1; omega
    · rw [if_neg e1, ← h3]; congr 1; omega
theorem gth_set (gs : List G) (k j : Nat) (g : G) (hk : k < gs.length) : gth (gs.set k g) j = if j = k then g else gth gs j := by
  unfold gth
  simp only [List.getD, List.getElem?_set]
  by_cases e : k = j
  · subst e; simp [hk]
  · rw [if_neg e, if_neg (fun x => e x.symm)]
theorem cells3_ext {gs hs : List G} (hl : gs.length = hs.length) {l : List Value} (h : l = cells3_ hs) : l = cells3_ gs ↔ ∀ j, j < gs.length → gth gs j = gth hs j := by
  subst h
  constructor
  · intro he j hj
    obtain ⟨a1, a2, a3⟩ := cells3_at gs j hj
    obtain ⟨b1, b2, b3⟩ := cells3_at hs j (by omega)
    rw [← he, b1] at a1; rw [← he, b2] at a2; rw [← he, b3] at a3
    simp only [Option.some.injEq, Value.int.injEq, true_and] at a1 a2 a3
    exact Prod.ext a1.symm (Prod.ext a2.symm a3.symm)
  · intro hj
    congr 1
    apply List.ext_getElem hl.symm
    intro i h1 h2
    have := hj i h2
    simp only [gth, List.getD, List.getElem?_eq_getElem h1, List.getElem?_eq_getElem h2, Option.getD_some] at this
    exact this.symm
theorem cells3_set1 (gs : List G) (k : Nat) (f d o z : Int) (hk : k < gs.length) (hg : gth gs k = (f, d, o)) : (cells3_ gs).set (k * 3 + 1) (.int .i64 z) = cells3_ (gs.set k (f, z, o)) := by
  apply List.ext_getElem?
  intro j
  rw [List.getElem?_set]
  by_cases hj : j < gs.length * 3
  · rw [cells3_get (gs.set k (f, z, o)) j (by simpa using hj), cells3_get gs j hj, gth_set _ _ _ _ hk]
    by_cases e : k * 3 + 1 = j
    · have e1 : ¬ j % 3 = 0 := by omega
      have e2 : j % 3 = 1 := by omega
      have e3 : j / 3 = k := by omega
      rw [if_pos e, if_pos (by rw [cells3_length]; omega), if_neg e1, if_pos e2, if_pos e3]
    · rw [if_neg e]
      by_cases e3 : j / 3 = k
      · rw [if_pos e3, e3, hg]
        by_cases e0 : j % 3 = 0
        · rw [if_pos e0, if_pos e0]
        · rw [if_neg e0, if_neg e0, if_neg (by omega), if_neg (by omega)]
      · rw [if_neg e3]
  · rw [List.getElem?_eq_none (l := cells3_ gs) (by rw [cells3_length]; omega), List.getElem?_eq_none (l := cells3_ (gs.set k (f, z, o))) (by rw [cells3_length, List.length_set]; omega)]
    split
    · rw [if_neg (by rw [cells3_length]; omega)]
    · rfl
theorem cells3_set3 (gs : List G) (k : Nat) (f d o : Int) (hk : k < gs.length) : (((cells3_ gs).set (k * 3) (.int .i64 f)).set (k * 3 + 1) (.int .i64 d)).set (k * 3 + 2) (.int .i64 o) = cells3_ (gs.set k (f, d, o)) := by
  apply List.ext_getElem?
  intro j
  rw [List.getElem?_set, List.getElem?_set, List.getElem?_set]
  simp only [List.length_set, cells3_length]
  by_cases hj : j < gs.length * 3
  · rw [cells3_get (gs.set k (f, d, o)) j (by simpa using hj), cells3_get gs j hj, gth_set _ _ _ _ hk]
    by_cases e3 : j / 3 = k
    · rw [if_pos e3]
      by_cases e0 : j % 3 = 0
      · rw [if_neg (show ¬ k * 3 + 2 = j by omega), if_neg (show ¬ k * 3 + 1 = j by omega), if_pos (show k * 3 = j by omega), if_pos (show k * 3 < gs.length * 3 by omega), if_pos e0]
      · by_cases e1 : j % 3 = 1
        · rw [if_neg (show ¬ k * 3 + 2 = j by omega), if_pos (show k * 3 + 1 = j by omega), if_pos (show k * 3 + 1 < gs.length * 3 by omega), if_neg e0, if_pos e1]
        · rw [if_pos (show k * 3 + 2 = j by omega), if_pos (show k * 3 + 2 < gs.length * 3 by omega), if_neg e0, if_neg e1]
    · rw [if_neg (show ¬ k * 3 + 2 = j by omega), if_neg (show ¬ k * 3 + 1 = j by omega), if_neg (show ¬ k * 3 = j by omega), if_neg e3]
  · rw [List.getElem?_eq_none (l := cells3_ gs) (by rw [cells3_length]; omega), List.getElem?_eq_none (l := cells3_ (gs.set k (f, d, o))) (by rw [cells3_length, List.length_set]; omega)]
    rw [if_neg (show ¬ k * 3 + 2 = j by omega), if_neg (show ¬ k * 3 + 1 = j by omega), if_neg (show ¬ k * 3 = j by omega)]

theorem OwnedG.set1 {w : World} {base g n c k : Nat} {gs : List G} (h : OwnedG w base 68 (.slice (some ⟨g, 0, none⟩) n c) gs) (hk : k < n) {f d o : Int} (hg : gth gs k = (f, d, o)) (z : Int) :
    OwnedG (w.setCell ⟨g, k * 3 + 1, none⟩ (.int .i64 z)) base 68 (.slice (some ⟨g, 0, none⟩) n c) (gs.set k (f, z, o)) := by
  obtain ⟨cur, hB, hb, hl, hnc, hc, hs, ht⟩ := h.blk
  refine OwnedG.of_blk (hB.set_ _ _) hb (by rw [List.length_set]; exact hl.symm) hnc hc (by simpa using hs) ?_
  rw [Array.toList_setIfInBounds, List.take_set, ht, cells3_set1 _ _ _ _ _ _ (by omega) hg]
theorem OwnedG.set3 {w : World} {base g n c k : Nat} {gs : List G} (h : OwnedG w base 68 (.slice (some ⟨g, 0, none⟩) n c) gs) (hk : k < n) (f d o : Int) :
    OwnedG (((w.setCell ⟨g, k * 3, none⟩ (.int .i64 f)).setCell ⟨g, k * 3 + 1, none⟩ (.int .i64 d)).setCell ⟨g, k * 3 + 2, none⟩ (.int .i64 o)) base 68 (.slice (some ⟨g, 0, none⟩) n c) (gs.set k (f, d, o)) := by
  obtain ⟨cur, hB, hb, hl, hnc, hc, hs, ht⟩ := h.blk
  refine OwnedG.of_blk (((hB.set_ _ _).set_ _ _).set_ _ _) hb (by rw [List.length_set]; exact hl.symm) hnc hc (by simpa using hs) ?_
  rw [Array.toList_setIfInBounds, Array.toList_setIfInBounds, Array.toList_setIfInBounds, List.take_set, List.take_set, List.take_set, ht, cells3_set3 _ _ _ _ _ (by omega)]

theorem lz_any (f d o : Int) (w : World) : Calls Try.prog 76 #[.agg #[.int .i64 f, .int .i64 d, .int .i64 o]] w fun e w' => e = .returned (.bool (decide (d = 0))) ∧ Below w.heap.size w w' := by
  go_enter Try.func76, Try.ntmps76
  go_wp2
  go_ret
  exact ⟨rfl, (Below.refl _ _).alloc (Nat.le_refl _) _⟩
theorem lz_is (f d o : Int) (r : Bool) (w : World) (hr : Hid (decide (d = 0) = r)) : Calls Try.prog 76 #[.agg #[.int .i64 f, .int .i64 d, .int .i64 o]] w fun e w' => e = .returned (.bool r) ∧ Below w.heap.size w w' :=
  (lz_any f d o w).mono fun _ _ ⟨he, hb⟩ => ⟨by rw [he, hr.out], hb⟩
end Go.Proofs.Ytdlbahoenhhkdaa
