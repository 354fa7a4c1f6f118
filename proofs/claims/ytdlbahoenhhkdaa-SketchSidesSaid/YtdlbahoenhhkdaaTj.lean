import Derived.Test.YtdlbahoenhhkdaaL7
/-
  Tables of streams: sums of rows, what is asked, two streams together: plain facts.
-/
namespace Go.Proofs.Ytdlbahoenhhkdaa
open Go.RowKit

theorem row_sum (xs : List Int) (m r : Nat) (hm : 0 < m) : ∀ j, sumK (fun i => tabTo xs m r i j) m = j := by
  intro j; induction j with
  | zero =>
    rw [sumK_congr (g := fun _ => 0) m (fun k _ => by simp [tabTo])]
    have : ∀ k, sumK (fun _ => (0 : Int)) k = 0 := by intro k; induction k with
      | zero => rfl
      | succ k ih => simp [sumK, ih]
    exact this m
  | succ j ih =>
    have e : ∀ i : Nat, tabTo xs m r i (j + 1) = tabTo xs m r i j + (if i = pl r (nth xs j).toNat m then 1 else 0) := by
      intro i
      rw [tabTo]
      by_cases h : pl r (nth xs j).toNat m = i
      · rw [if_pos h, if_pos h.symm]
      · rw [if_neg h, if_neg (fun e => h e.symm)]
    rw [sumK_congr m (fun k _ => e k), sumK_add, sumK_one, if_pos (pl_lt _ _ _ hm), ih]
    omega
theorem tab_sum {xs : List Int} (hs : isStr xs = true) (m r : Nat) (hm : 0 < m) : sumK (fun i => tabF xs m r i) m = xs.length := by
  rw [sumK_congr (g := fun i => tabTo xs m r i xs.length) m (fun k _ => progF_tab xs m r k hs)]
  exact row_sum xs m r hm xs.length
theorem tabF_nonneg (xs : List Int) (m r i : Nat) : 0 ≤ tabF xs m r i := progF_nonneg xs m 16 r i
theorem tabF_le {xs : List Int} (hs : isStr xs = true) (m r i : Nat) : tabF xs m r i ≤ xs.length := progF_le xs hs m 16 r i (Nat.le_refl _)
theorem sumTab_bd {xs : List Int} (hs : isStr xs = true) (m r : Nat) : ∀ k, 0 ≤ sumK (fun i => tabF xs m r i) k ∧ sumK (fun i => tabF xs m r i) k ≤ 40 * k := by
  intro k
  have hl := isStr_len hs
  induction k with
  | zero => simp [sumK]
  | succ k ih =>
    have h1 := tabF_nonneg xs m r k
    have h2 := tabF_le hs m r k
    simp only [sumK]; omega

theorem tab_row {d m : Nat} {F : Nat → Nat → Int} {r : Nat} (hr : r < d) : row (tabL d m F) r = (List.range m).map fun i => F r i := tabL_row hr
theorem isTab_tab {xs : List Int} (hs : isStr xs = true) {d m : Nat} (hz : sizeB (d : Int) (m : Int) = true) : isTab (tabL d m (tabF xs m)) = true := by
  obtain ⟨h1, h2, h3, h4⟩ := sizeB_bd hz
  have hl := isStr_len hs
  have h0 : (row (tabL d m (tabF xs m)) 0).length = m := by rw [tab_row (by omega)]; simp
  rw [isTab_yes (fun r hr => ?_), tabL_len, h0, hz, Bool.and_true, decide_eq_true_eq]
  · omega
  · rw [tabL_len] at hr
    rw [h0, tab_row hr, rowOk]
    simp only [List.length_map, List.length_range, decide_true, Bool.true_and]
    apply allIn_mem
    intro x hx
    simp only [List.mem_map, List.mem_range] at hx
    obtain ⟨i, _, rfl⟩ := hx
    have := tabF_nonneg xs m r i
    have := tabF_le hs m r i
    omega

theorem cnt_le_tab (xs : List Int) (m r key : Nat) (hs : ∀ j, j < xs.length → 0 ≤ nth xs j) : ∀ j, j ≤ xs.length → cntTo xs key j ≤ tabTo xs m r (pl r key m) j := by
  intro j; induction j with
  | zero => intro _; simp [cntTo, tabTo]
  | succ j ih =>
    intro hj
    have := ih (by omega)
    have h0 := hs j (by omega)
    simp only [cntTo, tabTo]
    by_cases e : nth xs j = key
    · rw [if_pos e, if_pos (by rw [e, Int.toNat_natCast])]; omega
    · rw [if_neg e]; split <;> omega
theorem often_le_tab {xs : List Int} (hs : isStr xs = true) (m r key : Nat) : often xs key ≤ tabF xs m r (pl r key m) := by
  rw [progF_tab xs m r _ hs]
  exact cnt_le_tab xs m r key (fun j hj => (isStr_bd hs j hj).1) xs.length (Nat.le_refl _)

theorem ask_tab {xs : List Int} (hs : isStr xs = true) {d m : Nat} (hz : sizeB (d : Int) (m : Int) = true) (key : Nat) : often xs key ≤ ask (tabL d m (tabF xs m)) key ∧ ask (tabL d m (tabF xs m)) key ≤ xs.length := by
  obtain ⟨h1, h2, h3, h4⟩ := sizeB_bd hz
  have hl := isStr_len hs
  have hb := often_bd (xs := xs) (key : Int)
  have hstep : ∀ r, r < d → nth (row (tabL d m (tabF xs m)) r) (pl r key (row (tabL d m (tabF xs m)) r).length) = tabF xs m r (pl r key m) := by
    intro r hr
    rw [tab_row hr]
    simp only [List.length_map, List.length_range]
    rw [range_nth (pl_lt r key m (by omega))]
  have lo : ∀ r, r ≤ d → often xs key ≤ askTo (tabL d m (tabF xs m)) key r := by
    intro r; induction r with
    | zero => intro _; simp only [askTo]; omega
    | succ r ih =>
      intro hr
      have a := ih (by omega)
      have b := often_le_tab hs m r key
      rw [askTo, hstep r (by omega)]
      omega
  have hi : ∀ r, 1 ≤ r → r ≤ d → askTo (tabL d m (tabF xs m)) key r ≤ xs.length := by
    intro r; cases r with
    | zero => intro h; omega
    | succ r =>
      intro _ hr
      have b := tabF_le hs m r (pl r key m)
      rw [askTo, hstep r (by omega)]
      omega
  unfold ask
  rw [tabL_len]
  exact ⟨lo d (Nat.le_refl _), hi d (by omega) (Nat.le_refl _)⟩

theorem nth_app_left {xs ys : List Int} {j : Nat} (h : j < xs.length) : nth (xs ++ ys) j = nth xs j := by simp [nth, List.getD, List.getElem?_append_left h]
theorem nth_app_right {xs ys : List Int} {j : Nat} : nth (xs ++ ys) (xs.length + j) = nth ys j := by simp [nth, List.getD, List.getElem?_append_right]
theorem tabTo_left (xs ys : List Int) (m r i : Nat) : ∀ j, j ≤ xs.length → tabTo (xs ++ ys) m r i j = tabTo xs m r i j := by
  intro j; induction j with
  | zero => intro _; rfl
  | succ j ih => intro hj; rw [tabTo, tabTo, ih (by omega), nth_app_left (by omega)]
theorem tabTo_right (xs ys : List Int) (m r i : Nat) : ∀ j, tabTo (xs ++ ys) m r i (xs.length + j) = tabTo xs m r i xs.length + tabTo ys m r i j := by
  intro j; induction j with
  | zero => rw [Nat.add_zero, tabTo_left xs ys m r i _ (Nat.le_refl _), tabTo]; omega
  | succ j ih => rw [← Nat.add_assoc, tabTo, ih, nth_app_right, tabTo]; omega
theorem isStr_app {xs ys : List Int} (h1 : isStr xs = true) (h2 : isStr ys = true) (h3 : xs.length + ys.length ≤ 40) : isStr (xs ++ ys) = true := by
  simp only [isStr, Bool.and_eq_true, decide_eq_true_eq, List.length_append] at *
  refine ⟨h3, ?_⟩
  simp only [allIn, List.all_append, Bool.and_eq_true] at *
  exact ⟨h1.2, h2.2⟩
theorem isStr_app_no {xs ys : List Int} (h3 : 40 < xs.length + ys.length) : isStr (xs ++ ys) = false := by
  simp [isStr]; omega
theorem tabF_app {xs ys : List Int} (h1 : isStr xs = true) (h2 : isStr ys = true) (h3 : xs.length + ys.length ≤ 40) (m r i : Nat) : tabF (xs ++ ys) m r i = tabF xs m r i + tabF ys m r i := by
  rw [progF_tab _ m r i (isStr_app h1 h2 h3), progF_tab xs m r i h1, progF_tab ys m r i h2, List.length_append, tabTo_right]

/-- The tables of two streams together. -/
theorem add_tabs {xs ys : List Int} (h1 : isStr xs = true) (h2 : isStr ys = true) {d m : Nat} (hz : sizeB (d : Int) (m : Int) = true) :
    addE (tabL d m (tabF xs m)) (tabL d m (tabF ys m)) = 0 ∧ (xs.length + ys.length ≤ 40 → addO (tabL d m (tabF xs m)) (tabL d m (tabF ys m)) = tabL d m (tabF (xs ++ ys) m)) := by
  obtain ⟨d1, d2, m1, m2⟩ := sizeB_bd hz
  have t1 := isTab_tab h1 hz; have t2 := isTab_tab h2 hz
  have l1 := isStr_len h1; have l2 := isStr_len h2
  have r1 : (row (tabL d m (tabF xs m)) 0).length = m := by rw [tab_row (by omega)]; simp
  have r2 : (row (tabL d m (tabF ys m)) 0).length = m := by rw [tab_row (by omega)]; simp
  have ok : okS (tabL d m (tabF xs m)) (tabL d m (tabF ys m)) = true := by rw [okS, t1, t2, tabL_len, tabL_len, r1, r2]; simp
  have hF : ∀ r i, r < d → i < m → addF (tabL d m (tabF xs m)) (tabL d m (tabF ys m)) r i = tabF xs m r i + tabF ys m r i := by
    intro r i hr hi
    unfold addF
    rw [tab_row hr, tab_row hr, range_nth hi, range_nth hi]
  have no : overB d m (addF (tabL d m (tabF xs m)) (tabL d m (tabF ys m))) = false := over_no ⟨fun r hr i hi => by
    rw [hF r i hr hi]
    have := tabF_le h1 m r i; have := tabF_le h2 m r i
    omega, fun i hi => by omega⟩
  refine ⟨by rw [addE, ok, if_pos rfl, tabL_len, r1, addErr, no]; rfl, fun h3 => ?_⟩
  rw [addO, ok, if_pos rfl, tabL_len, r1, addOut, no]
  simp only [Bool.false_eq_true, if_false]
  unfold tabL
  apply List.map_congr_left
  intro r hr
  apply List.map_congr_left
  intro i hi
  have := hF r i (List.mem_range.1 hr) (List.mem_range.1 hi)
  rw [tabF_app h1 h2 h3]
  exact this
end Go.Proofs.Ytdlbahoenhhkdaa
