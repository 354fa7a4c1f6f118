import Derived.Test.YtmpdalcdkibgpaaG6
import Derived.Test.YtmpdalcdkibgpaaN7
namespace Go.Proofs.Ytmpdalcdkibgpaa
open Go.RowKit Go.Sort

theorem ordSum_sm (a x : List Int) (n : Nat) (L : List (List Int)) : ∀ k, k ≤ L.length → ordSum a x n L k = sm (fun p => prodTo a x p n) (L.take k) := by
  intro k
  induction k with
  | zero => intro _; simp [ordSum, sm]
  | succ k ih =>
    intro h
    have e : L.take (k + 1) = L.take k ++ [row L k] := by rw [List.take_succ_eq_append_getElem (by omega)]; simp [row, List.getD, show k < L.length by omega]
    rw [ordSum, ih (by omega), e, sm_app]
    simp [sm]
theorem sm_filter {α : Type} (c : α → Bool) (f : α → Int) : ∀ l : List α, sm (fun e => if c e then 0 else f e) l = sm f (l.filter fun e => !c e) := by
  intro l
  induction l with
  | nil => rfl
  | cons x l ih =>
    rcases hc : c x
    · rw [List.filter_cons_of_pos (by simp [hc]), sm, sm, ih, hc]; simp
    · rw [List.filter_cons_of_neg (by simp [hc]), sm, ih, hc]; simp
theorem sm_sel {α : Type} (f : α → Int) : ∀ l : List α, sm f l = sm (fun s => f s.1) (sel l) := by
  intro l
  induction l with
  | nil => rfl
  | cons x l ih => simp only [sel, sm, sm_map, ih]
theorem sel_nodup : ∀ (l : List Nat), l.Nodup → ∀ s ∈ sel l, s.2 = l.filter fun e => !(e == s.1) := by
  intro l
  induction l with
  | nil => intro _ s h; simp [sel] at h
  | cons x l ih =>
    intro hn s h
    have hx := (List.nodup_cons.1 hn).1
    have hl := (List.nodup_cons.1 hn).2
    simp only [sel, List.mem_cons, List.mem_map] at h
    rcases h with rfl | ⟨t, ht, rfl⟩
    · rw [List.filter_cons_of_neg (by simp)]
      symm
      rw [List.filter_eq_self]
      intro e he
      have : e ≠ x := fun e2 => hx (e2 ▸ he)
      simp [this]
    · have hm : t.1 ∈ l := (sel_perm l t ht).subset (by simp)
      have hne : x ≠ t.1 := fun e2 => hx (e2 ▸ hm)
      rw [List.filter_cons_of_pos (by simp [hne]), ← ih hl t ht]
/-- What is not yet in o. -/
def rem (n : Nat) (o : List Int) : List Nat := (List.range n).filter fun e => !o.contains (e : Int)
theorem rem_nodup (n : Nat) (o : List Int) : (rem n o).Nodup := List.nodup_range.filter _
theorem rem_snoc (n : Nat) (o : List Int) (e : Nat) : rem n (o ++ [(e : Int)]) = (rem n o).filter fun k => !(k == e) := by
  unfold rem
  rw [List.filter_filter]
  apply List.filter_congr
  intro k _
  have h1 : (o ++ [(e : Int)]).contains (k : Int) = (o.contains (k : Int) || (k == e)) := by
    rw [List.contains_eq_any_beq, List.contains_eq_any_beq, List.any_append]
    congr 1
    simp only [List.any_cons, List.any_nil, Bool.or_false]
    rw [Bool.eq_iff_iff, beq_iff_eq, beq_iff_eq]
    omega
  rw [h1, Bool.not_or, Bool.and_comm]
theorem prodTo_app (a x o : List Int) (e : Int) : ∀ k, k ≤ o.length → prodTo a x (o ++ [e]) k = prodTo a x o k := by
  intro k
  induction k with
  | zero => intro _; rfl
  | succ k ih =>
    intro h
    rw [prodTo, prodTo, ih (by omega), nth_app (by omega)]
theorem nth_last (o : List Int) (e : Int) : nth (o ++ [e]) o.length = e := by simp [nth, List.getD]
theorem drop_nth (l : List Int) (k : Nat) (h : k < l.length) : l.drop k = nth l k :: l.drop (k + 1) := by
  rw [List.drop_eq_getElem_cons h]; simp [nth, List.getD, h]
theorem sm_ex (az x : List Int) (n : Nat) (ha : az.length = n) : ∀ (d : Nat) (o : List Int), o.length + d = n → sm (fun p => prodTo az x p n) (ex n d o) = prodTo az x o o.length * Pw ((rem n o).map (nth x)) (az.drop o.length) := by
  intro d
  induction d with
  | zero =>
    intro o h
    have h2 : o.length = n := by omega
    rw [ex, h2, List.drop_eq_nil_of_le (by omega)]
    cases hm : (rem n o).map (nth x) <;> simp [sm, Pw]
  | succ d ih =>
    intro o h
    have hk : o.length < az.length := by omega
    have e1 : ∀ e ∈ List.range n, sm (fun p => prodTo az x p n) (if o.contains (e : Int) then [] else ex n d (o ++ [(e : Int)])) = if o.contains (e : Int) then 0 else prodTo az x (o ++ [(e : Int)]) (o.length + 1) * Pw ((rem n (o ++ [(e : Int)])).map (nth x)) (az.drop (o.length + 1)) := by
      intro e _
      split
      · rfl
      · have := ih (o ++ [(e : Int)]) (by simp; omega)
        simpa using this
    rw [ex, sm_flat, sm_congr e1, sm_filter]
    change sm _ (rem n o) = _
    rw [sm_sel, drop_nth az o.length hk, Pw, sel_map, sm_map, ← sm_mul]
    refine sm_congr fun s hs => ?_
    have h2 := sel_nodup _ (rem_nodup n o) s hs
    rw [rem_snoc, ← h2, prodTo, prodTo_app _ _ _ _ _ (Nat.le_refl _), nth_last, Int.toNat_natCast, Int.mul_assoc]
theorem range_map (x : List Int) : (List.range x.length).map (nth x) = x := by
  apply List.ext_getElem (by simp)
  intro j h1 h2
  simp [nth, List.getD, h2]
/-- What Power hands back is the sum over all orders. -/
theorem powSum_Pw {xs az : List Int} (hl : az.length = xs.length) : powSum xs az = Pw xs az := by
  unfold powSum
  rw [ordSum_sm _ _ _ _ _ (Nat.le_refl _), List.take_length, sm_ex az xs xs.length hl xs.length [] (by simp)]
  have h : rem xs.length [] = List.range xs.length := by unfold rem; simp
  rw [h, range_map]
  simp [prodTo]
theorem isSh_perm {xs ys : List Int} (h : xs.Perm ys) : isSh xs = isSh ys := by
  unfold isSh allIn; rw [h.length_eq, h.all_eq]
theorem fal_of_desc {xs : List Int} (h : Desc xs) : isFal xs = true := by
  rw [isFal, decide_eq_true_eq]
  intro j hj h1
  exact desc_nth h (by omega) hj
/-- The sum of powers of shares is at least that of less uneven ones. -/
theorem powSum_le {xs ys az : List Int} (hx : fewB xs az = true) (hy : fewB ys az = true) (hu : unevS xs ys = true) : powSum ys az ≤ powSum xs az := by
  have fx := FewL.of hx; have fy := FewL.of hy
  have ha : ∀ a ∈ az, 1 ≤ a := fun a hm => by
    obtain ⟨j, hj, rfl⟩ := List.getElem_of_mem hm
    have := (fx.ba j hj).1
    simpa [nth, List.getD, hj] using this
  have sx : isSh xs = true := by simp only [fewB, Bool.and_eq_true] at hx; exact hx.1.1.1.1
  have sy : isSh ys = true := by simp only [fewB, Bool.and_eq_true] at hy; exact hy.1.1.1.1
  have px := fallS_perm xs; have py := fallS_perm ys
  have hs : areSh (fallS xs) (fallS ys) = true := by
    simp only [areSh, Bool.and_eq_true, decide_eq_true_eq]
    exact ⟨⟨by rw [isSh_perm px]; exact sx, by rw [isSh_perm py]; exact sy⟩, by rw [px.length_eq, py.length_eq, ← fx.same, ← fy.same]⟩
  have hI := Inv.of hs hu
  have hf : isFal (fallS ys) = true := fal_of_desc (fallS_desc ys)
  have key := Pw_inv hf (az := az) (by rw [px.length_eq]; exact fx.same) ha _ (fallS xs) (dif_le _ _ _) hI
  rw [powSum_Pw fx.same, powSum_Pw fy.same, Pw_perm az xs _ px.symm, Pw_perm az ys _ py.symm]
  exact key
end Go.Proofs.Ytmpdalcdkibgpaa
