import Derived.Test.YtdlbahoenhhkdaaDj
/-
  The reference's lists, in the order of coming: the step; stores into a list of either type; the same entries as the program's.
-/
namespace Go.Proofs.Ytdlbahoenhhkdaa
open Go.RowKit

theorem OwnedG.of_blkE {w : World} {base g n cap : Nat} {e : TypeId} {cur : Array Value} {gs : List G} (hg : Blk w g e cur) (hb : base ≤ g) (hn : n = gs.length) (hnc : n ≤ cap) (hc : cap ≤ maxLen) (hs : cur.size = cap * 3) (ht : cur.toList.take (n * 3) = cells3_ gs) :
    OwnedG w base e (.slice (some ⟨g, 0, none⟩) n cap) gs := by
  subst hn
  exact ⟨cells3_length gs, .inr ⟨g, cap, cur, rfl, hb, hg, hnc, hc, hs, ht⟩⟩
theorem OwnedG.blkE {w : World} {base g n cap : Nat} {e : TypeId} {gs : List G} (h : OwnedG w base e (.slice (some ⟨g, 0, none⟩) n cap) gs) :
    ∃ cur, Blk w g e cur ∧ base ≤ g ∧ gs.length = n ∧ n ≤ cap ∧ cap ≤ maxLen ∧ cur.size = cap * 3 ∧ cur.toList.take (n * 3) = cells3_ gs := by
  obtain ⟨A, c, e1, _⟩ := h.gs
  simp only [Value.slice.injEq] at e1
  rcases h.2 with ⟨hx, _⟩ | ⟨g1, cap1, cur, hx, hb, hh, hn, hc, hs, ht⟩
  · cases hx
  · simp only [Value.slice.injEq, Option.some.injEq, Addr.mk.injEq] at hx
    obtain ⟨⟨rfl, _, _⟩, rfl, rfl⟩ := hx
    exact ⟨cur, hh, hb, rfl, hn, hc, hs, ht⟩
theorem OwnedG.set1E {w : World} {base g n c k : Nat} {e : TypeId} {gs : List G} (h : OwnedG w base e (.slice (some ⟨g, 0, none⟩) n c) gs) (hk : k < n) {f d o : Int} (hg : gth gs k = (f, d, o)) (z : Int) :
    OwnedG (w.setCell ⟨g, k * 3 + 1, none⟩ (.int .i64 z)) base e (.slice (some ⟨g, 0, none⟩) n c) (gs.set k (f, z, o)) := by
  obtain ⟨cur, hB, hb, hl, hnc, hc, hs, ht⟩ := h.blkE
  refine OwnedG.of_blkE (hB.set_ _ _) hb (by rw [List.length_set]; exact hl.symm) hnc hc (by simpa using hs) ?_
  rw [Array.toList_setIfInBounds, List.take_set, ht, cells3_set1 _ _ _ _ _ _ (by omega) hg]
theorem OwnedG.set3E {w : World} {base g n c k : Nat} {e : TypeId} {gs : List G} (h : OwnedG w base e (.slice (some ⟨g, 0, none⟩) n c) gs) (hk : k < n) (f d o : Int) :
    OwnedG (((w.setCell ⟨g, k * 3, none⟩ (.int .i64 f)).setCell ⟨g, k * 3 + 1, none⟩ (.int .i64 d)).setCell ⟨g, k * 3 + 2, none⟩ (.int .i64 o)) base e (.slice (some ⟨g, 0, none⟩) n c) (gs.set k (f, d, o)) := by
  obtain ⟨cur, hB, hb, hl, hnc, hc, hs, ht⟩ := h.blkE
  refine OwnedG.of_blkE (((hB.set_ _ _).set_ _ _).set_ _ _) hb (by rw [List.length_set]; exact hl.symm) hnc hc (by simpa using hs) ?_
  rw [Array.toList_setIfInBounds, Array.toList_setIfInBounds, Array.toList_setIfInBounds, List.take_set, List.take_set, List.take_set, ht, cells3_set3 _ _ _ _ _ (by omega)]

/-- Where a key is, or the end. -/
def ix (gs : List G) (key : Int) : Nat := gs.findIdx fun g => decide (g.1 = key)
theorem ix_le (gs : List G) (key : Int) : ix gs key ≤ gs.length := List.findIdx_le_length
theorem ix_lo {gs : List G} {key : Int} : ∀ j, j < ix gs key → (gth gs j).1 ≠ key := by
  intro j hj e
  have hl := ix_le gs key
  have := List.not_of_lt_findIdx hj
  rw [gth_get (by omega)] at e
  simp [e] at this
theorem ix_hi {gs : List G} {key : Int} (h : ix gs key < gs.length) : (gth gs (ix gs key)).1 = key := by
  have := List.findIdx_getElem (p := fun g : G => decide (g.1 = key)) (xs := gs) (w := h)
  rw [gth_get h]
  exact of_decide_eq_true this
/-- The least by number, then by key. -/
def leastR (gs : List G) : Nat → Nat
  | 0 => 0
  | k + 1 => if (gth gs k).2.1 < (gth gs (leastR gs k)).2.1 ∨ (gth gs k).2.1 = (gth gs (leastR gs k)).2.1 ∧ (gth gs k).1 < (gth gs (leastR gs k)).1 then k else leastR gs k
def addR (sh : Bool) (K : Nat) (gs : List G) (key : Int) : List G :=
  if ix gs key < gs.length then bump gs (ix gs key) else if gs.length < K then gs ++ [(key, 1, 0)] else if sh then nz (gs.map dec) else
    gs.set (leastR gs gs.length) (key, (gth gs (leastR gs gs.length)).2.1 + 1, (gth gs (leastR gs gs.length)).2.1)
def lstR (sh : Bool) (K : Nat) (xs : List Int) : Nat → List G
  | 0 => []
  | k + 1 => addR sh K (lstR sh K xs k) (nth xs k)

/-- A list set at one place has the same entries as the rest with the new one in front. -/
theorem set_perm {gs : List G} {p : Nat} (h : p < gs.length) (g : G) : (gs.set p g).Perm (g :: gs.eraseIdx p) := by
  rw [List.set_eq_take_append_cons_drop, if_pos h, List.eraseIdx_eq_take_drop_succ]
  exact List.perm_middle
theorem self_perm {gs : List G} {p : Nat} (h : p < gs.length) : gs.Perm (gth gs p :: gs.eraseIdx p) := by
  have := set_perm h (gth gs p)
  rw [gth_get h] at this ⊢
  rwa [List.set_getElem_self] at this
theorem ins_perm (gs : List G) (p : Nat) (g : G) : (ins gs p g).Perm (g :: gs) := by
  unfold ins
  rw [List.append_assoc, List.singleton_append]
  have := List.perm_middle (a := g) (l₁ := gs.take p) (l₂ := gs.drop p)
  rwa [List.take_append_drop] at this
end Go.Proofs.Ytdlbahoenhhkdaa
