/-
  Pictures, plain: the rows and the columns count the same squares; the columns' numbers, falling, are no more uneven than the rows' turned over.
-/
import Derived.Test.YtjhicbiacnkpaaaDoorX1
import Derived.Test.YtjhicbiacnkpaaaDoorWe
namespace Go.Proofs.YtjhicbiacnkpaaaDoor
open Go.RowKit

/-- How many squares of a set are filled. -/
def pc (y : Nat) : Int := (bl y).sum
/-- A square. -/
def bt (y r : Nat) : Int := ((y / 2 ^ r % 2 : Nat) : Int)
def sB (n : Nat) (f : Nat → Int) : Int := ((List.range n).map f).sum
theorem sB_succ (n : Nat) (f : Nat → Int) : sB (n + 1) f = sB n f + f n := by
  unfold sB
  rw [List.range_succ, List.map_append, List.sum_append]
  simp
theorem sB_congr {n : Nat} {f g : Nat → Int} (h : ∀ i, i < n → f i = g i) : sB n f = sB n g := by
  induction n with
  | zero => rfl
  | succ n ih => rw [sB_succ, sB_succ, ih fun i hi => h i (by omega), h n (by omega)]
theorem sB_le {n : Nat} {f g : Nat → Int} (h : ∀ i, i < n → f i ≤ g i) : sB n f ≤ sB n g := by
  induction n with
  | zero => exact Int.le_refl _
  | succ n ih => rw [sB_succ, sB_succ]; have := ih fun i hi => h i (by omega); have := h n (by omega); omega
theorem sB_add (n : Nat) (f g : Nat → Int) : sB n (fun i => f i + g i) = sB n f + sB n g := by
  induction n with
  | zero => rfl
  | succ n ih => rw [sB_succ, sB_succ, sB_succ, ih]; omega
theorem sB_zero (n : Nat) : sB n (fun _ => 0) = 0 := by
  induction n with
  | zero => rfl
  | succ n ih => rw [sB_succ, ih]; rfl
theorem sB_swap (n m : Nat) (f : Nat → Nat → Int) : sB n (fun i => sB m fun j => f i j) = sB m fun j => sB n fun i => f i j := by
  induction n with
  | zero => exact (sB_zero m).symm
  | succ n ih =>
    rw [sB_succ, ih, ← sB_add]
    exact sB_congr fun j _ => (sB_succ n fun i => f i j).symm
theorem sum_sB (xs : List Int) : xs.sum = sB xs.length (nth xs) := by
  unfold sB
  congr 1
  apply List.ext_getElem
  · simp
  · intro i h1 h2
    simp [nth, List.getD, h1]

theorem pc_bits : ∀ n, n < 6 → ∀ y, y < 2 ^ n → pc y = sB n (bt y) := by decide +kernel
theorem pc_or : ∀ k, k < 5 → ∀ a, a < 2 ^ k → ∀ b, b < 2 → pc (a ||| b * 2 ^ k) = pc a + (b : Int) := by decide +kernel
theorem pc_col (xs : List Int) (c : Nat) : ∀ k, k < 6 → pc (colT xs c k) = sB k fun r => bt (nth xs r).toNat c := by
  intro k
  induction k with
  | zero => intro _; rfl
  | succ k ih =>
    intro hk
    rw [sB_succ, ← ih (by omega)]
    exact pc_or k (by omega) _ (colT_lt xs c k) _ (Nat.mod_lt _ (by omega))
theorem nth_map {α : Type} (f : α → Int) (l : List α) (k : Nat) (h : k < l.length) : nth (l.map f) k = f l[k] := by simp [nth, List.getD, h]
theorem rowsP_sum {m : Nat} (hm : m < 6) {xs : List Int} (h : ∀ k, k < xs.length → (nth xs k).toNat < 2 ^ m) : smR (rowsP xs) = sB xs.length fun r => sB m fun c => bt (nth xs r).toNat c := by
  unfold smR rowsP
  rw [List.map_map, sum_sB, List.length_map]
  refine sB_congr fun r hr => ?_
  rw [nth_map _ _ _ hr]
  have e : xs[r] = nth xs r := by simp [nth, List.getD, hr]
  show pc (xs[r]).toNat = _
  rw [e]
  exact pc_bits m hm _ (h r hr)
theorem colsP_sum {m : Nat} {xs : List Int} (h5 : xs.length ≤ 5) : smR (colsP m xs) = sB m fun c => sB xs.length fun r => bt (nth xs r).toNat c := by
  unfold smR colsP
  rw [List.map_map, sum_sB, List.length_map, List.length_range]
  refine sB_congr fun c hc => ?_
  rw [nth_map _ _ _ (by simpa using hc), List.getElem_range]
  exact pc_col xs c _ (by omega)
/-- Rows and columns count the same squares. -/
theorem both_sums {m : Nat} (h1 : 1 ≤ m) (h2 : m ≤ 5) {xs : List Int} (h5 : xs.length ≤ 5) (h : ars m xs = true) : smR (colsP m xs) = smR (rowsP xs) := by
  have hb : ∀ k, k < xs.length → (nth xs k).toNat < 2 ^ m := fun k hk => by
    obtain ⟨y, e, hy⟩ := ars_at h1 h2 h hk
    rw [e]; simpa using hy
  rw [rowsP_sum (by omega) hb, colsP_sum h5, sB_swap]

/-- A list whose map is known up to order. -/
theorem perm_map {α β : Type} {f : α → β} {S T : List β} (h : S.Perm T) : ∀ L : List α, L.map f = T → ∃ L' : List α, L'.Perm L ∧ L'.map f = S := by
  induction h with
  | nil => intro L hL; exact ⟨L, .refl _, hL⟩
  | cons x _ ih =>
    intro L hL
    cases L with
    | nil => cases hL
    | cons a l =>
      simp only [List.map_cons, List.cons.injEq] at hL
      obtain ⟨L', hp, hm⟩ := ih l hL.2
      exact ⟨a :: L', hp.cons a, by rw [List.map_cons, hL.1, hm]⟩
  | swap x y l =>
    intro L hL
    match L, hL with
    | a :: b :: l', hL =>
      simp only [List.map_cons, List.cons.injEq] at hL
      exact ⟨b :: a :: l', List.Perm.swap a b l', by rw [List.map_cons, List.map_cons, hL.1, hL.2.1, hL.2.2]⟩
  | trans _ _ ih1 ih2 =>
    intro L hL
    obtain ⟨L1, p1, m1⟩ := ih2 L hL
    obtain ⟨L2, p2, m2⟩ := ih1 L1 m1
    exact ⟨L2, p2.trans p1, m2⟩

theorem perm_sum {a b : List Int} (h : a.Perm b) : a.sum = b.sum := by
  induction h with
  | nil => rfl
  | cons x _ ih => rw [List.sum_cons, List.sum_cons, ih]
  | swap x y l => simp only [List.sum_cons]; omega
  | trans _ _ ih1 ih2 => rw [ih1, ih2]
/-- How many sets of a list hold square r. -/
def cB (r : Nat) (l : List Nat) : Int := (l.map fun c => bt c r).sum
theorem bt_01 (c r : Nat) : 0 ≤ bt c r ∧ bt c r ≤ 1 := by unfold bt; omega
theorem cB_bd (r : Nat) : ∀ l : List Nat, 0 ≤ cB r l ∧ cB r l ≤ l.length := by
  intro l
  induction l with
  | nil => simp [cB]
  | cons a l ih =>
    have := bt_01 a r
    unfold cB at ih ⊢
    rw [List.map_cons, List.sum_cons, List.length_cons]
    omega
theorem cB_app (r : Nat) (a b : List Nat) : cB r (a ++ b) = cB r a + cB r b := by unfold cB; rw [List.map_append, List.sum_append]
theorem cB_take (r k : Nat) (l : List Nat) : cB r (l.take k) ≤ cB r l := by
  have h := cB_app r (l.take k) (l.drop k)
  rw [List.take_append_drop] at h
  have := (cB_bd r (l.drop k)).1
  omega
theorem cB_perm {r : Nat} {a b : List Nat} (h : a.Perm b) : cB r a = cB r b := perm_sum (h.map _)
theorem pc_sum {n : Nat} (hn : n < 6) : ∀ l : List Nat, (∀ c ∈ l, c < 2 ^ n) → (l.map pc).sum = sB n fun r => cB r l := by
  intro l
  induction l with
  | nil => intro _; simp [cB, sB_zero]
  | cons a l ih =>
    intro h
    rw [List.map_cons, List.sum_cons, ih fun c hc => h c (List.mem_cons_of_mem _ hc), pc_bits n hn a (h a (by simp)), ← sB_add]
    refine sB_congr fun r _ => ?_
    unfold cB
    rw [List.map_cons, List.sum_cons]
theorem mn_le {a b c : Int} (h1 : a ≤ b) (h2 : a ≤ c) : a ≤ min b c := by omega
/-- The numbers of k of the columns sum to at most the rows' numbers, each cut at k. -/
theorem top_le {n k : Nat} (hn : n < 6) (cols : List Nat) (hc : ∀ c ∈ cols, c < 2 ^ n) {S : List Int} (hS : S.Perm (cols.map pc)) : (S.take k).sum ≤ sB n fun r => min (k : Int) (cB r cols) := by
  obtain ⟨L, hp, hm⟩ := perm_map hS cols rfl
  rw [← hm, ← List.map_take, pc_sum hn _ fun c h => hc c (hp.subset (List.mem_of_mem_take h))]
  refine sB_le fun r _ => ?_
  have h1 := cB_take r k L
  have h2 := (cB_bd r (L.take k)).2
  have h3 := cB_perm (r := r) hp
  have h4 : ((L.take k).length : Int) ≤ k := by rw [List.length_take]; omega
  exact mn_le (by omega) (by omega)
theorem top_all {n : Nat} (hn : n < 6) (cols : List Nat) (hc : ∀ c ∈ cols, c < 2 ^ n) {S : List Int} (hS : S.Perm (cols.map pc)) : S.sum = sB n fun r => cB r cols := by
  rw [perm_sum hS, pc_sum hn cols hc]

theorem pre_take (xs : List Int) : ∀ k, pre xs k = (xs.take k).sum := by
  intro k
  induction k with
  | zero => simp [pre]
  | succ k ih =>
    show pre xs k + nth xs k = _
    rw [ih]
    rcases Nat.lt_or_ge k xs.length with h | h
    · exact (sum_snoc xs k h).symm
    · rw [List.take_of_length_le h, List.take_of_length_le (by omega)]
      simp [nth, List.getD, List.getElem?_eq_none h]
/-- What the first k of the turned parts sum to. -/
theorem cnt_sum (xs : List Int) (k : Nat) : ∀ L, (∀ r, r < L → 0 ≤ nth xs r) → sB k (fun i => cnt xs i L) = sB L fun r => min (k : Int) (nth xs r) := by
  intro L
  induction L with
  | zero => intro _; exact sB_zero k
  | succ L ih =>
    intro h
    have e : sB k (fun i => cnt xs i (L + 1)) = sB k (fun i => cnt xs i L + if (i : Int) < nth xs L then 1 else 0) := rfl
    rw [e, sB_add, ih fun r hr => h r (by omega), sB_succ]
    congr 1
    have h0 := h L (by omega)
    clear e ih h
    induction k with
    | zero => simp [sB]; omega
    | succ k ih =>
      rw [sB_succ, ih]
      split <;> omega
end Go.Proofs.YtjhicbiacnkpaaaDoor
