import Derived.Test.YtdlbahoenhhkdaaT2
/-
  Tables of a stream: plain numbers.
-/
namespace Go.Proofs.Ytdlbahoenhhkdaa

/-- Where a key counts in a row. -/
def pl (r key m : Nat) : Nat := (key * (r + 1) + key / (r + 2)) % m
/-- The sum of f over the numbers below x. -/
def sumK (f : Nat → Int) : Nat → Int
  | 0 => 0
  | x + 1 => sumK f x + f x
/-- The numbers of a table, after the keys below x. -/
def progF (xs : List Int) (m : Nat) (x r i : Nat) : Int := sumK (fun key => if pl r key m = i then often xs key else 0) x
/-- The numbers of a table, after the first j keys of the stream. -/
def tabTo (xs : List Int) (m r i : Nat) : Nat → Int
  | 0 => 0
  | j + 1 => tabTo xs m r i j + if pl r (nth xs j).toNat m = i then 1 else 0
def tabF (xs : List Int) (m r i : Nat) : Int := progF xs m 16 r i
def tabL (n m : Nat) (F : Nat → Nat → Int) : List (List Int) := (List.range n).map fun r => (List.range m).map fun i => F r i

theorem sumK_congr {f g : Nat → Int} : ∀ x, (∀ k, k < x → f k = g k) → sumK f x = sumK g x := by
  intro x; induction x with
  | zero => intros; rfl
  | succ x ih => intro h; rw [sumK, sumK, ih (fun k hk => h k (by omega)), h x (by omega)]
theorem sumK_add (f g : Nat → Int) : ∀ x, sumK (fun k => f k + g k) x = sumK f x + sumK g x := by
  intro x; induction x with
  | zero => rfl
  | succ x ih => simp only [sumK, ih]; omega
theorem sumK_one (k0 : Nat) (v : Int) : ∀ x, sumK (fun k => if k = k0 then v else 0) x = if k0 < x then v else 0 := by
  intro x; induction x with
  | zero => simp [sumK]
  | succ x ih =>
    rw [sumK, ih]
    by_cases h : k0 < x
    · rw [if_pos h, if_neg (by omega), if_pos (by omega)]; omega
    · by_cases h2 : x = k0
      · rw [if_neg h, if_pos h2, if_pos (by omega)]; omega
      · rw [if_neg h, if_neg h2, if_neg (by omega)]; rfl
theorem sumK_nonneg {f : Nat → Int} : ∀ x, (∀ k, k < x → 0 ≤ f k) → 0 ≤ sumK f x := by
  intro x; induction x with
  | zero => intros; simp [sumK]
  | succ x ih => intro h; have := ih (fun k hk => h k (by omega)); have := h x (by omega); simp only [sumK]; omega
theorem sumK_mono {f g : Nat → Int} : ∀ x, (∀ k, k < x → f k ≤ g k) → sumK f x ≤ sumK g x := by
  intro x; induction x with
  | zero => intros; simp [sumK]
  | succ x ih => intro h; have := ih (fun k hk => h k (by omega)); have := h x (by omega); simp only [sumK]; omega
theorem sumK_le {f : Nat → Int} (h : ∀ k, 0 ≤ f k) : ∀ x y, x ≤ y → sumK f x ≤ sumK f y := by
  intro x y; induction y with
  | zero => intro hx; rw [show x = 0 by omega]; omega
  | succ y ih =>
    intro hx
    by_cases e : x = y + 1
    · rw [e]; omega
    · have := ih (by omega); have := h y; simp only [sumK]; omega

theorem sumK_cnt (xs : List Int) (m r i : Nat) (hs : ∀ j, j < xs.length → 0 ≤ nth xs j ∧ nth xs j ≤ 15) : ∀ j, j ≤ xs.length → sumK (fun key => if pl r key m = i then cntTo xs key j else 0) 16 = tabTo xs m r i j := by
  intro j; induction j with
  | zero =>
    intro _
    rw [sumK_congr (g := fun _ => 0) 16 (fun k _ => by simp [cntTo]), tabTo]
    decide
  | succ j ih =>
    intro hj
    obtain ⟨h1, h2⟩ := hs j (by omega)
    obtain ⟨k0, hk0⟩ : ∃ k0 : Nat, nth xs j = k0 := ⟨(nth xs j).toNat, by omega⟩
    rw [tabTo, ← ih (by omega), hk0, Int.toNat_natCast]
    have e : ∀ key : Nat, (if pl r key m = i then cntTo xs key (j + 1) else 0) = (if pl r key m = i then cntTo xs key j else 0) + (if key = k0 then (if pl r k0 m = i then 1 else 0) else 0) := by
      intro key
      rw [cntTo, hk0]
      by_cases e1 : key = k0
      · subst e1; simp; split <;> omega
      · have : ¬ (k0 : Int) = key := by omega
        simp [this, e1]
    rw [sumK_congr 16 (fun k _ => e k), sumK_add, sumK_one, if_pos (by omega)]
theorem progF_tab (xs : List Int) (m r i : Nat) (hs : isStr xs = true) : tabF xs m r i = tabTo xs m r i xs.length :=
  sumK_cnt xs m r i (fun j hj => isStr_bd hs j hj) xs.length (Nat.le_refl _)

theorem pl_lt (r key m : Nat) (hm : 0 < m) : pl r key m < m := Nat.mod_lt _ hm
theorem progF_step (xs : List Int) (m x r i : Nat) : progF xs m (x + 1) r i = progF xs m x r i + if pl r x m = i then often xs x else 0 := rfl
theorem often_nonneg (xs : List Int) (key : Int) : 0 ≤ often xs key := (cntTo_bd xs key xs.length).1
theorem progF_nonneg (xs : List Int) (m x r i : Nat) : 0 ≤ progF xs m x r i := sumK_nonneg x fun k _ => by
  split
  · exact often_nonneg _ _
  · omega
/-- All keys together are the length. -/
theorem often_sum (xs : List Int) (hs : ∀ j, j < xs.length → 0 ≤ nth xs j ∧ nth xs j ≤ 15) : ∀ j, j ≤ xs.length → sumK (fun key => cntTo xs key j) 16 = j := by
  intro j; induction j with
  | zero => intro _; rw [sumK_congr (g := fun _ => 0) 16 (fun k _ => by simp [cntTo])]; decide
  | succ j ih =>
    intro hj
    obtain ⟨h1, h2⟩ := hs j (by omega)
    obtain ⟨k0, hk0⟩ : ∃ k0 : Nat, nth xs j = k0 := ⟨(nth xs j).toNat, by omega⟩
    have e : ∀ key : Nat, cntTo xs key (j + 1) = cntTo xs key j + (if key = k0 then 1 else 0) := by
      intro key
      rw [cntTo, hk0]
      by_cases e1 : key = k0
      · subst e1; simp
      · have : ¬ (k0 : Int) = key := by omega
        simp [this, e1]
    rw [sumK_congr 16 (fun k _ => e k), sumK_add, sumK_one, if_pos (by omega), ih (by omega)]
    omega
theorem progF_le (xs : List Int) (hs : isStr xs = true) (m x r i : Nat) (hx : x ≤ 16) : progF xs m x r i ≤ xs.length := by
  have h1 : progF xs m x r i ≤ progF xs m 16 r i := sumK_le (fun k => by split; exact often_nonneg _ _; omega) x 16 hx
  have h2 : progF xs m 16 r i ≤ sumK (fun key => often xs key) 16 := sumK_mono 16 fun k _ => by
    split
    · exact Int.le_refl _
    · exact often_nonneg _ _
  have h3 := often_sum xs (fun j hj => isStr_bd hs j hj) xs.length (Nat.le_refl _)
  simp only [often] at h2 h3 ⊢
  omega
end Go.Proofs.Ytdlbahoenhhkdaa
