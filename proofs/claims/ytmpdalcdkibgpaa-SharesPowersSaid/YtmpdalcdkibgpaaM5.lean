/-
  Plain facts: at least as uneven, said by sums of what is above a number; gives; the gap.
-/
import Derived.Test.YtmpdalcdkibgpaaA4
namespace Go.Proofs.Ytmpdalcdkibgpaa

theorem sum_perm {x y : List Int} (h : x.Perm y) : x.sum = y.sum := by
  induction h with
  | nil => rfl
  | cons a _ ih => rw [List.sum_cons, List.sum_cons, ih]
  | swap a b l => simp only [List.sum_cons]; omega
  | trans _ _ h1 h2 => exact h1.trans h2
theorem half_le {d z : Int} (h1 : 1 ≤ d) (h2 : d ≤ z.tdiv 2) : 2 * d ≤ z := by
  rcases Int.le_total 0 z with h | h
  · rw [Int.tdiv_eq_ediv_of_nonneg h] at h2; omega
  · obtain ⟨w, rfl⟩ : ∃ w : Int, z = -w := ⟨-z, by omega⟩
    rw [Int.neg_tdiv, Int.tdiv_eq_ediv_of_nonneg (by omega)] at h2
    omega
/-- How much the numbers are above t, together. -/
def over (t : Int) (xs : List Int) : Int := (xs.map fun x => max (x - t) 0).sum
theorem over_perm {t : Int} {xs ys : List Int} (h : xs.Perm ys) : over t xs = over t ys := sum_perm (h.map _)
theorem over_cons (t a : Int) (l : List Int) : over t (a :: l) = max (a - t) 0 + over t l := by simp [over]
theorem over_nn (t : Int) (l : List Int) : 0 ≤ over t l := by
  induction l with
  | nil => simp [over]
  | cons a l ih => rw [over_cons]; omega
theorem pre_cons' (a : Int) (l : List Int) : ∀ k, pre (a :: l) (k + 1) = a + pre l k := by
  intro k
  induction k with
  | zero => simp [pre, nth, List.getD]
  | succ k ih =>
    have e : pre (a :: l) (k + 1 + 1) = pre (a :: l) (k + 1) + nth (a :: l) (k + 1) := rfl
    rw [e, ih]
    have e2 : nth (a :: l) (k + 1) = nth l k := by simp [nth, List.getD]
    rw [e2]
    simp only [pre]
    omega
/-- The first k numbers are above t by no more than all. -/
theorem pre_over (t : Int) : ∀ (l : List Int) (k : Nat), k ≤ l.length → pre l k - k * t ≤ over t l := by
  intro l
  induction l with
  | nil => intro k hk; simp at hk; subst hk; simp [pre, over]
  | cons a l ih =>
    intro k hk
    rcases k with _ | k
    · have := over_nn t (a :: l); simp [pre]; exact this
    · have h1 := ih k (by simpa using hk)
      rw [pre_cons', over_cons]
      have e : ((k + 1 : Nat) : Int) * t = k * t + t := by rw [Int.natCast_add, Int.add_mul]; simp
      rw [e]
      omega
/-- Of a falling list: where the numbers behind k are not above t and those before are not below, it is just that. -/
theorem pre_over_eq (t : Int) : ∀ (l : List Int) (k : Nat), k ≤ l.length → (∀ j, j < k → t ≤ nth l j) → (∀ j, k ≤ j → j < l.length → nth l j ≤ t) → over t l = pre l k - k * t := by
  intro l
  induction l with
  | nil => intro k hk _ _; simp at hk; subst hk; simp [pre, over]
  | cons a l ih =>
    intro k hk h1 h2
    rcases k with _ | k
    · have h0 : a ≤ t := by simpa [nth, List.getD] using h2 0 (Nat.le_refl _) (by simp)
      have h3 := ih 0 (by simp) (fun j hj => by omega) (fun j hj hjl => by simpa [nth, List.getD] using h2 (j + 1) (by omega) (by simpa using hjl))
      rw [over_cons, h3]
      simp [pre]
      omega
    · have h0 : t ≤ a := by simpa [nth, List.getD] using h1 0 (by omega)
      have h3 := ih k (by simpa using hk) (fun j hj => by simpa [nth, List.getD] using h1 (j + 1) (by omega)) (fun j hj hjl => by simpa [nth, List.getD] using h2 (j + 1) (by omega) (by simpa using hjl))
      rw [over_cons, h3, pre_cons']
      have e : ((k + 1 : Nat) : Int) * t = k * t + t := by rw [Int.natCast_add, Int.add_mul]; simp
      rw [e]
      omega
theorem desc_nth {l : List Int} (h : Desc l) {i j : Nat} (hij : i ≤ j) (hj : j < l.length) : nth l j ≤ nth l i := by
  rcases Nat.lt_or_ge i j with hlt | hge
  · have := List.pairwise_iff_getElem.1 h i j (by omega) hj hlt
    simpa [nth, List.getD, hj, show i < l.length by omega] using this
  · obtain rfl : i = j := by omega
    exact Int.le_refl _
theorem pre_sum (l : List Int) : pre l l.length = l.sum := by
  induction l with
  | nil => rfl
  | cons a l ih => rw [List.length_cons, pre_cons', ih, List.sum_cons]
/-- Majorization. -/
def Maj (xs ys : List Int) : Prop := xs.sum = ys.sum ∧ ∀ t, over t ys ≤ over t xs
theorem Maj.trans {a b c : List Int} (h : Maj a b) (k : Maj b c) : Maj a c := ⟨h.1.trans k.1, fun t => Int.le_trans (k.2 t) (h.2 t)⟩
theorem maj_of_dom {x y : List Int} (hy : Desc y) (hl : x.length = y.length) (hs : pre x x.length = pre y x.length) (hd : ∀ k, k < x.length → pre y (k + 1) ≤ pre x (k + 1)) : Maj x y := by
  refine ⟨by rw [← pre_sum, ← pre_sum, hs, hl], fun t => ?_⟩
  -- the numbers of y above t are the first k
  have hk : ∃ k, k ≤ y.length ∧ (∀ j, j < k → t ≤ nth y j) ∧ (∀ j, k ≤ j → j < y.length → nth y j ≤ t) := by
    have key : ∀ m, m ≤ y.length → ∃ k, k ≤ m ∧ (∀ j, j < k → t ≤ nth y j) ∧ (∀ j, k ≤ j → j < m → nth y j ≤ t) := by
      intro m
      induction m with
      | zero => intro _; exact ⟨0, Nat.le_refl _, fun j hj => by omega, fun j _ hj => by omega⟩
      | succ m ih =>
        intro hm
        obtain ⟨k, h1, h2, h3⟩ := ih (by omega)
        by_cases hc : nth y m ≤ t
        · refine ⟨k, by omega, h2, fun j hj hjm => ?_⟩
          rcases Nat.lt_or_ge j m with h | h
          · exact h3 j hj h
          · obtain rfl : j = m := by omega
            exact hc
        · refine ⟨m + 1, Nat.le_refl _, fun j hj => ?_, fun j h1 h2 => by omega⟩
          have := desc_nth hy (i := j) (j := m) (by omega) (by omega)
          omega
    exact key y.length (Nat.le_refl _)
  obtain ⟨k, h1, h2, h3⟩ := hk
  rw [pre_over_eq t y k h1 h2 h3]
  have h4 := pre_over t x k (by omega)
  rcases k with _ | k
  · simp [pre] at h4 ⊢; exact h4
  · have := hd k (by omega)
    omega
theorem dom_of_maj {x y : List Int} (hx : Desc x) (hl : x.length = y.length) (h : Maj x y) : pre x x.length = pre y x.length ∧ ∀ k, k < x.length → pre y (k + 1) ≤ pre x (k + 1) := by
  refine ⟨by rw [pre_sum, hl, pre_sum, h.1], fun k hk => ?_⟩
  have e := pre_over_eq (nth x k) x (k + 1) (by omega) (fun j hj => desc_nth hx (by omega) hk) (fun j h1 h2 => desc_nth hx (by omega) h2)
  have h1 := pre_over (nth x k) y (k + 1) (by omega)
  have h2 := h.2 (nth x k)
  omega
theorem fallS_sum (xs : List Int) : (fallS xs).sum = xs.sum := sum_perm (fallS_perm xs)
theorem unevS_maj {x y : List Int} (hl : x.length = y.length) : unevS x y = true ↔ Maj x y := by
  have l1 : (fallS x).length = (fallS y).length := by simp [fallS, hl]
  have hm : Maj (fallS x) (fallS y) ↔ Maj x y := by
    simp only [Maj, fallS_sum, over_perm (fallS_perm x), over_perm (fallS_perm y)]
  rw [← hm, unevS, domB, Bool.and_eq_true, decide_eq_true_eq, decide_eq_true_eq]
  refine ⟨fun ⟨a, b⟩ => maj_of_dom (fallS_desc y) l1 b a, fun h => ?_⟩
  have := dom_of_maj (fallS_desc x) l1 h
  exact ⟨this.2, this.1⟩

/-! ### Gives -/
abbrev G := Int × Int × Int
def canG (s : List Int) (g : G) : Bool := decide (0 ≤ g.1) && decide (g.1 < s.length) && decide (0 ≤ g.2.1) && decide (g.2.1 < s.length) && decide (1 ≤ g.2.2) && decide (g.2.2 ≤ (nth s g.1.toNat - nth s g.2.1.toNat).tdiv 2)
def doG (s : List Int) (g : G) : List Int := (s.set g.1.toNat (nth s g.1.toNat - g.2.2)).set g.2.1.toNat (nth s g.2.1.toNat + g.2.2)
def runG : List Int → List G → Option (List Int)
  | s, [] => some s
  | s, g :: l => if canG s g then runG (doG s g) l else none
theorem runG_snoc : ∀ (l : List G) (s : List Int) (g : G), runG s (l ++ [g]) = (runG s l).bind fun s' => if canG s' g then some (doG s' g) else none := by
  intro l
  induction l with
  | nil => intro s g; simp [runG]
  | cons a l ih =>
    intro s g
    simp only [List.cons_append, runG]
    split
    · exact ih _ _
    · rfl
theorem over_set (t : Int) : ∀ (l : List Int) (i : Nat) (z : Int), i < l.length → over t (l.set i z) = over t l - max (nth l i - t) 0 + max (z - t) 0 := by
  intro l
  induction l with
  | nil => intro i z h; simp at h
  | cons a l ih =>
    intro i z h
    rcases i with _ | i
    · simp [over_cons, nth, List.getD]; omega
    · have := ih i z (by simpa using h)
      have e : nth (a :: l) (i + 1) = nth l i := by simp [nth, List.getD]
      simp only [List.set_cons_succ, over_cons, this, e]
      omega
theorem sum_set : ∀ (l : List Int) (i : Nat) (z : Int), i < l.length → (l.set i z).sum = l.sum - nth l i + z := by
  intro l
  induction l with
  | nil => intro i z h; simp at h
  | cons a l ih =>
    intro i z h
    rcases i with _ | i
    · simp [nth, List.getD]; omega
    · have := ih i z (by simpa using h)
      have e : nth (a :: l) (i + 1) = nth l i := by simp [nth, List.getD]
      simp only [List.set_cons_succ, List.sum_cons, this, e]
      omega
theorem canG_ok {s : List Int} {g : G} (h : canG s g = true) : ∃ f t : Nat, g.1 = f ∧ g.2.1 = t ∧ f < s.length ∧ t < s.length ∧ f ≠ t ∧ 1 ≤ g.2.2 ∧ 2 * g.2.2 ≤ nth s f - nth s t := by
  simp only [canG, Bool.and_eq_true, decide_eq_true_eq] at h
  obtain ⟨⟨⟨⟨⟨h1, h2⟩, h3⟩, h4⟩, h5⟩, h6⟩ := h
  obtain ⟨f, hf⟩ : ∃ f : Nat, g.1 = f := ⟨g.1.toNat, by omega⟩
  obtain ⟨t, ht⟩ : ∃ t : Nat, g.2.1 = t := ⟨g.2.1.toNat, by omega⟩
  rw [hf, ht] at h6
  simp only [Int.toNat_natCast] at h6
  have h7 : 2 * g.2.2 ≤ nth s f - nth s t := half_le h5 h6
  refine ⟨f, t, hf, ht, by omega, by omega, fun e => ?_, h5, h7⟩
  subst e
  omega
theorem doG_maj {s : List Int} {g : G} (h : canG s g = true) : Maj s (doG s g) := by
  obtain ⟨f, t, hf, ht, h1, h2, hne, h3, h4⟩ := canG_ok h
  have e : doG s g = (s.set f (nth s f - g.2.2)).set t (nth s t + g.2.2) := by rw [doG, hf, ht]; simp
  have hn : nth (s.set f (nth s f - g.2.2)) t = nth s t := by simp [nth, List.getD, List.getElem?_set_ne hne]
  rw [e]
  refine ⟨?_, fun u => ?_⟩
  · rw [sum_set _ _ _ (by simpa using h2), sum_set _ _ _ h1, hn]; omega
  · rw [over_set _ _ _ _ (by simpa using h2), over_set _ _ _ _ h1, hn]; omega
theorem doG_length (s : List Int) (g : G) : (doG s g).length = s.length := by simp [doG]
theorem runG_maj : ∀ (l : List G) (s s' : List Int), runG s l = some s' → Maj s s' ∧ s'.length = s.length := by
  intro l
  induction l with
  | nil => intro s s' h; cases h; exact ⟨⟨rfl, fun t => Int.le_refl _⟩, rfl⟩
  | cons g l ih =>
    intro s s' h
    rw [runG] at h
    split at h
    · next hc =>
      have := ih _ _ h
      exact ⟨(doG_maj hc).trans this.1, by rw [this.2, doG_length]⟩
    · cases h

/-! ### The gap -/
def gapL : List Int → Int
  | [] => 0
  | a :: l => (l.map fun b => max (a - b) (b - a)).sum + gapL l
theorem gapL_perm {x y : List Int} (h : x.Perm y) : gapL x = gapL y := by
  induction h with
  | nil => rfl
  | cons a h ih => simp only [gapL, ih, sum_perm (h.map _)]
  | swap a b l => simp only [gapL, List.map_cons, List.sum_cons]; omega
  | trans _ _ h1 h2 => exact h1.trans h2
theorem gapIn_eq (xs : List Int) (v : Int) : ∀ j, j ≤ xs.length → gapIn xs v j = ((xs.take j).map fun b => max (v - b) (b - v)).sum := by
  intro j
  induction j with
  | zero => intro _; simp [gapIn]
  | succ j ih =>
    intro h
    rw [take_snoc xs j (by omega), gapIn, ih (by omega)]
    simp
theorem gapTo_eq (xs : List Int) : ∀ k, k ≤ xs.length → gapTo xs k = gapL (xs.take k) := by
  intro k
  induction k with
  | zero => intro _; simp [gapTo, gapL]
  | succ k ih =>
    intro h
    rw [take_snoc xs k (by omega), gapTo, ih (by omega), gapIn_eq xs _ k (by omega)]
    have p : (xs.take k ++ [nth xs k]).Perm (nth xs k :: xs.take k) := by simp
    rw [gapL_perm p, gapL]
    omega
theorem gap_eq (xs : List Int) : gap xs = gapL xs := by rw [gap, gapTo_eq xs xs.length (Nat.le_refl _), List.take_length]
/-- The sums of the first 1, 2, .. k numbers, together. -/
def acc (xs : List Int) : Nat → Int
  | 0 => 0
  | k + 1 => acc xs k + pre xs (k + 1)
theorem gapIn_desc {xs : List Int} (h : Desc xs) {k : Nat} (hk : k < xs.length) : ∀ j, j ≤ k → gapIn xs (nth xs k) j = pre xs j - j * nth xs k := by
  intro j
  induction j with
  | zero => intro _; simp [gapIn, pre]
  | succ j ih =>
    intro hj
    have h1 := desc_nth h (i := j) (j := k) (by omega) hk
    rw [gapIn, ih (by omega)]
    have e : ((j + 1 : Nat) : Int) * nth xs k = j * nth xs k + nth xs k := by rw [Int.natCast_add, Int.add_mul]; simp
    rw [e]
    simp only [pre]
    omega
theorem gap_desc {xs : List Int} (h : Desc xs) : ∀ k, k ≤ xs.length → gapTo xs k = 2 * acc xs k - (k + 1) * pre xs k := by
  intro k
  induction k with
  | zero => intro _; simp [gapTo, acc, pre]
  | succ k ih =>
    intro hk
    rw [gapTo, ih (by omega), gapIn_desc h (by omega) k (Nat.le_refl _)]
    simp only [acc, pre]
    have e1 : ((k : Int) + 1) * pre xs k = k * pre xs k + pre xs k := by rw [Int.add_mul]; simp
    have e2 : (((k + 1 : Nat) : Int) + 1) * (pre xs k + nth xs k) = k * pre xs k + k * nth xs k + (2 * pre xs k + 2 * nth xs k) := by
      rw [show ((k + 1 : Nat) : Int) + 1 = (k : Int) + 2 from by omega, Int.add_mul, Int.mul_add]; omega
    rw [e1, e2]
    omega
theorem acc_mono {x y : List Int} : ∀ k, (∀ j, j < k → pre y (j + 1) ≤ pre x (j + 1)) → acc y k ≤ acc x k := by
  intro k
  induction k with
  | zero => intro _; simp [acc]
  | succ k ih =>
    intro h
    have h1 := ih fun j hj => h j (by omega)
    have h2 := h k (by omega)
    simp only [acc]; omega
theorem gap_le {x y : List Int} (hl : x.length = y.length) (h : unevS x y = true) : gap y ≤ gap x := by
  have p1 : gap x = gap (fallS x) := by rw [gap_eq, gap_eq, gapL_perm (fallS_perm x)]
  have p2 : gap y = gap (fallS y) := by rw [gap_eq, gap_eq, gapL_perm (fallS_perm y)]
  have l1 : (fallS x).length = x.length := fallS_length x
  have l2 : (fallS y).length = x.length := by rw [fallS_length y, hl]
  rw [unevS, domB, Bool.and_eq_true, decide_eq_true_eq, decide_eq_true_eq, l1] at h
  rw [p1, p2, gap, gap, gap_desc (fallS_desc x) _ (Nat.le_refl _), gap_desc (fallS_desc y) _ (Nat.le_refl _), l1, l2, h.2]
  have := acc_mono (x := fallS x) (y := fallS y) x.length h.1
  omega
end Go.Proofs.Ytmpdalcdkibgpaa
