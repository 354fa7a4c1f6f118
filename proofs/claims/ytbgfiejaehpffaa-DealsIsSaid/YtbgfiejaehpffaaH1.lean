/-
  Corners of the upper right edge: how one is added, what they keep.
-/
import Derived.Test.YtbgfiejaehpffaaBase
namespace Go.Proofs.Ytbgfiejaehpffaa

abbrev P2 := Int × Int
/-- What a point is worth at two weights. -/
def vl (a b : Int) (p : P2) : Int := a * p.1 + b * p.2
/-- m is not above the line from k to p. -/
def under (k p m : P2) : Bool := decide (vl (k.2 - p.2) (p.1 - k.1) m ≤ vl (k.2 - p.2) (p.1 - k.1) k)
def lexlt (a b : P2) : Prop := a.1 < b.1 ∨ (a.1 = b.1 ∧ a.2 < b.2)

/-- The last one of n corners is none any more with p. -/
def hidAt (f : Nat → P2) (p : P2) (n : Nat) : Bool :=
  decide (0 < n) && (decide ((f (n - 1)).2 ≤ p.2) || (decide (2 ≤ n) && under (f (n - 2)) p (f (n - 1))))
/-- How many of n corners stay with p. -/
def popN (f : Nat → P2) (p : P2) : Nat → Nat
  | 0 => 0
  | n + 1 => if hidAt f p (n + 1) then popN f p n else n + 1
def put (f : Nat → P2) (k : Nat) (p : P2) : Nat → P2 := fun i => if i < k then f i else p

def Rise (f : Nat → P2) (n : Nat) : Prop := ∀ i, i + 1 < n → (f i).1 < (f (i + 1)).1 ∧ (f (i + 1)).2 < (f i).2
def Turn (f : Nat → P2) (n : Nat) : Prop := ∀ i, i + 2 < n → under (f i) (f (i + 2)) (f (i + 1)) = false
/-- Whatever the weights, some corner is worth at least as much as q. -/
def SupQ (f : Nat → P2) (n : Nat) (q : P2) : Prop := ∀ a b : Int, 0 ≤ a → 0 ≤ b → ∃ j, j < n ∧ vl a b q ≤ vl a b (f j)

theorem popN_le (f : Nat → P2) (p : P2) : ∀ n, popN f p n ≤ n
  | 0 => Nat.le_refl _
  | n + 1 => by
    unfold popN
    split
    · have := popN_le f p n; omega
    · exact Nat.le_refl _
theorem popN_not (f : Nat → P2) (p : P2) : ∀ n, hidAt f p (popN f p n) = false
  | 0 => by simp [popN, hidAt]
  | n + 1 => by
    unfold popN
    split
    · exact popN_not f p n
    · rename_i h; simpa using h

/-- The hidden one is worth no more than one of those that hide it. -/
theorem under_vl {k p m : P2} (h1 : k.1 < m.1) (h2 : m.1 ≤ p.1) (h3 : lexlt m p) (hu : under k p m = true) {a b : Int} (ha : 0 ≤ a) (hb : 0 ≤ b) : vl a b m ≤ vl a b k ∨ vl a b m ≤ vl a b p := by
  simp only [under, vl, decide_eq_true_eq] at hu
  simp only [vl]
  by_cases hy : m.2 ≤ p.2
  · right
    have e1 := Int.mul_le_mul_of_nonneg_left h2 ha
    have e2 := Int.mul_le_mul_of_nonneg_left hy hb
    omega
  · have hx : m.1 < p.1 := by rcases h3 with h | h; exact h; omega
    rcases Int.lt_or_le (a * k.1 + b * k.2) (a * m.1 + b * m.2) with c1 | c1
    · rcases Int.lt_or_le (a * p.1 + b * p.2) (a * m.1 + b * m.2) with c2 | c2
      · exfalso
        -- a (m - k).1 + b (m - k).2 > 0 and a (p - m).1 + b (p - m).2 < 0
        have d1 : 0 < a * (m.1 - k.1) + b * (m.2 - k.2) := by rw [Int.mul_sub, Int.mul_sub]; omega
        have d2 : 0 < -(a * (p.1 - m.1) + b * (p.2 - m.2)) := by rw [Int.mul_sub, Int.mul_sub]; omega
        have e1 := Int.mul_pos d1 (show 0 < p.1 - m.1 by omega)
        have e2 := Int.mul_pos d2 (show 0 < m.1 - k.1 by omega)
        have hu' : (m.2 - k.2) * (p.1 - m.1) - (p.2 - m.2) * (m.1 - k.1) ≤ 0 := by
          clear d1 d2 e1 e2 c1 c2
          grind
        have e3 := Int.mul_nonneg hb (show 0 ≤ -((m.2 - k.2) * (p.1 - m.1) - (p.2 - m.2) * (m.1 - k.1)) by omega)
        grind
      · exact .inr c2
    · exact .inl c1

theorem pop_sup {f : Nat → P2} {p : P2} {a b : Int} (ha : 0 ≤ a) (hb : 0 ≤ b) : ∀ (n : Nat), Rise f n → (0 < n → lexlt (f (n - 1)) p) → ∀ q : P2, ((∃ j, j < n ∧ vl a b q ≤ vl a b (f j)) ∨ vl a b q ≤ vl a b p) →
    ((∃ j, j < popN f p n ∧ vl a b q ≤ vl a b (f j)) ∨ vl a b q ≤ vl a b p)
  | 0, _, _, _, h => h
  | n + 1, hr, hl, q, h => by
    unfold popN
    split
    · rename_i hh
      have hl1 : lexlt (f n) p := hl (by omega)
      refine pop_sup ha hb n (fun i hi => hr i (by omega)) (fun h0 => ?_) q ?_
      · obtain ⟨m, rfl⟩ : ∃ m, n = m + 1 := ⟨n - 1, by omega⟩
        have := (hr m (by omega)).1
        simp only [Nat.add_sub_cancel]
        left
        rcases hl1 with h1 | h1 <;> omega
      · rcases h with ⟨j, hj, hq⟩ | h
        · by_cases hjn : j < n
          · exact .inl ⟨j, hjn, hq⟩
          · obtain rfl : j = n := by omega
            have hx : (f j).1 ≤ p.1 := by rcases hl1 with h1 | h1 <;> omega
            simp only [hidAt, Nat.add_sub_cancel, Bool.and_eq_true, Bool.or_eq_true, decide_eq_true_eq] at hh
            rcases hh.2 with h2 | ⟨h2, h3⟩
            · right
              have e1 := Int.mul_le_mul_of_nonneg_left hx ha
              have e2 := Int.mul_le_mul_of_nonneg_left h2 hb
              simp only [vl] at hq ⊢
              omega
            · obtain ⟨m, rfl⟩ : ∃ m, j = m + 1 := ⟨j - 1, by omega⟩
              have h3' : under (f m) p (f (m + 1)) = true := h3
              rcases under_vl (hr m (by omega)).1 hx hl1 h3' ha hb with h4 | h4
              · exact .inl ⟨m, by omega, by omega⟩
              · exact .inr (by omega)
        · exact .inr h
    · exact h

theorem put_rise {f : Nat → P2} {p : P2} {n : Nat} (hr : Rise f n) (hl : 0 < n → lexlt (f (n - 1)) p) : Rise (put f (popN f p n) p) (popN f p n + 1) := by
  intro i hi
  have hle := popN_le f p n
  have hn := popN_not f p n
  generalize popN f p n = k at hi hle hn ⊢
  simp only [put]
  rw [if_pos (by omega)]
  by_cases h : i + 1 < k
  · rw [if_pos h]; exact hr i (by omega)
  · obtain rfl : k = i + 1 := by omega
    rw [if_neg (by omega)]
    simp only [hidAt, Nat.add_sub_cancel, Bool.and_eq_false_iff, Bool.or_eq_false_iff, decide_eq_false_iff_not] at hn
    have h2 : p.2 < (f i).2 := by rcases hn with hn | hn; omega; omega
    refine ⟨?_, h2⟩
    have hlx : lexlt (f (n - 1)) p := hl (by omega)
    have h3 : ∀ d, i + d < n → (f i).1 ≤ (f (i + d)).1 := by
      intro d
      induction d with
      | zero => intro _; simp
      | succ d ih => intro hd; have := ih (by omega); have := (hr (i + d) (by omega)).1; rw [← Nat.add_assoc]; omega
    have h4 := h3 (n - 1 - i) (by omega)
    rw [show i + (n - 1 - i) = n - 1 by omega] at h4
    by_cases he : i = n - 1
    · rw [← he] at hlx
      rcases hlx with h5 | h5 <;> omega
    · have h5 : (f i).1 < (f (i + 1)).1 := (hr i (by omega)).1
      have h6 : (f (i + 1)).1 ≤ (f (n - 1)).1 := by
        have h7 : ∀ d, i + 1 + d < n → (f (i + 1)).1 ≤ (f (i + 1 + d)).1 := by
          intro d
          induction d with
          | zero => intro _; simp
          | succ d ih => intro hd; have := ih (by omega); have := (hr (i + 1 + d) (by omega)).1; rw [← Nat.add_assoc]; omega
        have := h7 (n - 1 - (i + 1)) (by omega)
        rwa [show i + 1 + (n - 1 - (i + 1)) = n - 1 by omega] at this
      rcases hlx with h8 | h8 <;> omega
theorem put_turn {f : Nat → P2} {p : P2} {n : Nat} (ht : Turn f n) : Turn (put f (popN f p n) p) (popN f p n + 1) := by
  intro i hi
  have hle := popN_le f p n
  have hn := popN_not f p n
  generalize popN f p n = k at hi hle hn ⊢
  simp only [put]
  rw [if_pos (show i < k by omega), if_pos (show i + 1 < k by omega)]
  by_cases h : i + 2 < k
  · rw [if_pos h]; exact ht i (by omega)
  · obtain rfl : k = i + 2 := by omega
    rw [if_neg (by omega)]
    simp only [hidAt, Bool.and_eq_false_iff, Bool.or_eq_false_iff, decide_eq_false_iff_not] at hn
    rcases hn with hn | hn
    · omega
    · rcases hn.2 with h2 | h2
      · omega
      · exact h2
theorem put_sup {f : Nat → P2} {p : P2} {n : Nat} (hr : Rise f n) (hl : 0 < n → lexlt (f (n - 1)) p) {q : P2} (hq : SupQ f n q ∨ q = p) : SupQ (put f (popN f p n) p) (popN f p n + 1) q := by
  intro a b ha hb
  have h := pop_sup ha hb n hr hl q (by
    rcases hq with hq | rfl
    · exact .inl (hq a b ha hb)
    · exact .inr (Int.le_refl _))
  rcases h with ⟨j, hj, h⟩ | h
  · exact ⟨j, by omega, by simp only [put]; rw [if_pos hj]; exact h⟩
  · exact ⟨popN f p n, by omega, by simp only [put]; rw [if_neg (by omega)]; exact h⟩

/-! What the edges keep. -/
section
variable {f : Nat → P2} {n : Nat}
def eu (f : Nat → P2) (i : Nat) : Int := (f (i + 1)).1 - (f i).1
def ev (f : Nat → P2) (i : Nat) : Int := (f i).2 - (f (i + 1)).2
theorem Rise.u (h : Rise f n) {i : Nat} (hi : i + 1 < n) : 0 < eu f i ∧ 0 < ev f i := by have := h i hi; unfold eu ev; omega
theorem Turn.uv (h : Turn f n) {i : Nat} (hi : i + 2 < n) : ev f i * eu f (i + 1) < eu f i * ev f (i + 1) := by
  have := h i hi
  simp only [under, vl, decide_eq_false_iff_not, Int.not_le] at this
  unfold eu ev
  grind
theorem slope_trans {u1 v1 u2 v2 u3 v3 : Int} (p1 : 0 < u1) (p2 : 0 < u2) (p3 : 0 < u3) (q1 : 0 < v1) (q2 : 0 < v2) (q3 : 0 < v3) (h1 : v1 * u2 < u1 * v2) (h2 : v2 * u3 < u2 * v3) : v1 * u3 < u1 * v3 := by
  have e1 := Int.mul_lt_mul_of_pos_right h1 p3
  have e2 := Int.mul_lt_mul_of_pos_left h2 p1
  have e3 : u2 * (v1 * u3) < u2 * (u1 * v3) := by
    have a1 : u2 * (v1 * u3) = v1 * u2 * u3 := by grind
    have a2 : u2 * (u1 * v3) = u1 * (u2 * v3) := by grind
    have a3 : u1 * v2 * u3 = u1 * (v2 * u3) := by grind
    omega
  exact Int.lt_of_mul_lt_mul_left e3 (Int.le_of_lt p2)
theorem slopes (hr : Rise f n) (ht : Turn f n) (i : Nat) : ∀ d, i + d + 2 < n → ev f i * eu f (i + d + 1) < eu f i * ev f (i + d + 1)
  | 0, h => ht.uv h
  | d + 1, h => by
    have ih := slopes hr ht i d (by omega)
    have h1 := hr.u (i := i) (by omega)
    have h2 := hr.u (i := i + d + 1) (by omega)
    have h3 := hr.u (i := i + d + 2) (by omega)
    have h4 := ht.uv (i := i + d + 1) (by omega)
    exact slope_trans h1.1 h2.1 h3.1 h1.2 h2.2 h3.2 ih h4
theorem slopes' (hr : Rise f n) (ht : Turn f n) {i j : Nat} (hij : i < j) (hj : j + 1 < n) : ev f i * eu f j < eu f i * ev f j := by
  have := slopes hr ht i (j - i - 1) (by omega)
  rwa [show i + (j - i - 1) + 1 = j by omega] at this
/-- What edge i is worth at point q, less what it is worth at its ends. -/
def above (f : Nat → P2) (i : Nat) (q : P2) : Int := vl (ev f i) (eu f i) q - vl (ev f i) (eu f i) (f i)
theorem above_i (i : Nat) : above f i (f i) = 0 := by unfold above; omega
theorem above_i1 (i : Nat) : above f i (f (i + 1)) = 0 := by unfold above vl eu ev; grind
theorem above_step (i j : Nat) : above f i (f (j + 1)) = above f i (f j) + (ev f i * eu f j - eu f i * ev f j) := by unfold above vl eu ev; grind
theorem above_right (hr : Rise f n) (ht : Turn f n) (i : Nat) : ∀ d, i + d + 2 < n → above f i (f (i + d + 2)) < 0
  | 0, h => by
    have := slopes' hr ht (i := i) (j := i + 1) (by omega) (by omega)
    rw [above_step, above_i1]; omega
  | d + 1, h => by
    have ih := above_right hr ht i d (by omega)
    have := slopes' hr ht (i := i) (j := i + d + 2) (by omega) (by omega)
    have h2 := above_step (f := f) i (i + d + 2)
    rw [show i + (d + 1) + 2 = i + d + 2 + 1 by omega]; omega
theorem above_left (hr : Rise f n) (ht : Turn f n) (i : Nat) (hi : i + 1 < n) : ∀ d, d + 1 ≤ i → above f i (f (i - (d + 1))) < 0
  | 0, h => by
    have h1 := slopes' hr ht (i := i - 1) (j := i) (by omega) (by omega)
    have h2 := above_step (f := f) i (i - 1)
    rw [show i - 1 + 1 = i by omega, above_i] at h2
    have e1 : ev f i * eu f (i - 1) = eu f (i - 1) * ev f i := Int.mul_comm ..
    have e2 : eu f i * ev f (i - 1) = ev f (i - 1) * eu f i := Int.mul_comm ..
    simp only [Nat.zero_add]
    omega
  | d + 1, h => by
    have ih := above_left hr ht i hi d (by omega)
    have h1 := slopes' hr ht (i := i - (d + 2)) (j := i) (by omega) (by omega)
    have h2 := above_step (f := f) i (i - (d + 2))
    rw [show i - (d + 2) + 1 = i - (d + 1) by omega] at h2
    have e1 : ev f i * eu f (i - (d + 2)) = eu f (i - (d + 2)) * ev f i := Int.mul_comm ..
    have e2 : eu f i * ev f (i - (d + 2)) = ev f (i - (d + 2)) * eu f i := Int.mul_comm ..
    show above f i (f (i - (d + 2))) < 0
    omega
/-- No corner is above an edge; only its ends are on it. -/
theorem above_lt (hr : Rise f n) (ht : Turn f n) {i j : Nat} (hi : i + 1 < n) (hj : j < n) (h1 : j ≠ i) (h2 : j ≠ i + 1) : above f i (f j) < 0 := by
  by_cases h : j < i
  · have := above_left hr ht i hi (i - j - 1) (by omega)
    rwa [show i - (i - j - 1 + 1) = j by omega] at this
  · have := above_right hr ht i (j - i - 2) (by omega)
    rwa [show i + (j - i - 2) + 2 = j by omega] at this
theorem above_le (hr : Rise f n) (ht : Turn f n) {i j : Nat} (hi : i + 1 < n) (hj : j < n) : above f i (f j) ≤ 0 := by
  by_cases h1 : j = i
  · rw [h1, above_i]; exact Int.le_refl _
  · by_cases h2 : j = i + 1
    · rw [h2, above_i1]; exact Int.le_refl _
    · exact Int.le_of_lt (above_lt hr ht hi hj h1 h2)
/-- Nor is what they are worth as much as. -/
theorem SupQ.above (hr : Rise f n) (ht : Turn f n) {q : P2} (hs : SupQ f n q) {i : Nat} (hi : i + 1 < n) : above f i q ≤ 0 := by
  have hu := hr.u hi
  obtain ⟨j, hj, h⟩ := hs (ev f i) (eu f i) (by omega) (by omega)
  have := above_le hr ht hi hj
  unfold Go.Proofs.Ytbgfiejaehpffaa.above at *
  omega
theorem rise_x (hr : Rise f n) {i j : Nat} (hij : i < j) (hj : j < n) : (f i).1 < (f j).1 ∧ (f j).2 < (f i).2 := by
  obtain ⟨d, rfl⟩ : ∃ d, j = i + d + 1 := ⟨j - i - 1, by omega⟩
  clear hij
  induction d with
  | zero => exact hr i hj
  | succ d ih => have := ih (by omega); have := hr (i + d + 1) (by omega); rw [show i + (d + 1) + 1 = i + d + 1 + 1 by omega]; omega
theorem SupQ.top (hr : Rise f n) {q : P2} (hs : SupQ f n q) : q.2 ≤ (f 0).2 := by
  obtain ⟨j, hj, h⟩ := hs 0 1 (by omega) (by omega)
  simp only [vl, Int.zero_mul, Int.one_mul, Int.zero_add] at h
  rcases Nat.eq_zero_or_pos j with rfl | h0
  · exact h
  · have := (rise_x hr h0 hj).2; omega
theorem SupQ.right (hr : Rise f n) {q : P2} (hs : SupQ f n q) : q.1 ≤ (f (n - 1)).1 := by
  obtain ⟨j, hj, h⟩ := hs 1 0 (by omega) (by omega)
  simp only [vl, Int.zero_mul, Int.one_mul, Int.add_zero] at h
  by_cases h0 : j = n - 1
  · subst h0; exact h
  · have := (rise_x hr (show j < n - 1 by omega) (by omega)).1; omega

/-- Two neighbouring limits and weights between theirs. -/
theorem cone {u1 v1 u2 v2 a b X Y D cx cy : Int} (h1 : v1 * X + u1 * Y ≤ D * (v1 * cx + u1 * cy)) (h2 : v2 * X + u2 * Y ≤ D * (v2 * cx + u2 * cy)) (ha : 0 ≤ a * u1 - b * v1) (hb : 0 ≤ b * v2 - a * u2) (hk : 0 < u1 * v2 - u2 * v1) :
    a * X + b * Y ≤ D * (a * cx + b * cy) := by
  have e1 := Int.mul_le_mul_of_nonneg_left h1 hb
  have e2 := Int.mul_le_mul_of_nonneg_left h2 ha
  have e3 : (u1 * v2 - u2 * v1) * (a * X + b * Y) ≤ (u1 * v2 - u2 * v1) * (D * (a * cx + b * cy)) := by
    have a1 : (u1 * v2 - u2 * v1) * (a * X + b * Y) = (b * v2 - a * u2) * (v1 * X + u1 * Y) + (a * u1 - b * v1) * (v2 * X + u2 * Y) := by grind
    have a2 : (u1 * v2 - u2 * v1) * (D * (a * cx + b * cy)) = (b * v2 - a * u2) * (D * (v1 * cx + u1 * cy)) + (a * u1 - b * v1) * (D * (v2 * cx + u2 * cy)) := by grind
    omega
  exact Int.le_of_mul_le_mul_left e3 hk

/-- A point X / D, Y / D that keeps the edges, the top and the right one is worth no more than some corner, whatever the weights. -/
structure Keeps (f : Nat → P2) (n : Nat) (X Y D : Int) : Prop where
  top : Y ≤ D * (f 0).2
  right : X ≤ D * (f (n - 1)).1
  edge : ∀ i, i + 1 < n → ev f i * X + eu f i * Y ≤ D * vl (ev f i) (eu f i) (f i)
theorem Keeps.sup (hr : Rise f n) (ht : Turn f n) (hn : 0 < n) {X Y D : Int} (hk : Keeps f n X Y D) {a b : Int} (ha : 0 ≤ a) (hb : 0 ≤ b) : ∃ j, j < n ∧ a * X + b * Y ≤ D * vl a b (f j) := by
  -- the first corner behind which it falls
  have : ∃ j, j < n ∧ (j + 1 = n ∨ a * eu f j - b * ev f j ≤ 0) ∧ (j = 0 ∨ 0 ≤ a * eu f (j - 1) - b * ev f (j - 1)) := by
    have : ∀ m, m < n → (∃ j, j ≤ m ∧ (j + 1 = n ∨ a * eu f j - b * ev f j ≤ 0) ∧ (j = 0 ∨ 0 ≤ a * eu f (j - 1) - b * ev f (j - 1))) ∨ 0 ≤ a * eu f m - b * ev f m ∧ m + 1 < n := by
      intro m
      induction m with
      | zero =>
        intro h
        by_cases c : 1 = n ∨ a * eu f 0 - b * ev f 0 ≤ 0
        · exact .inl ⟨0, by omega, c, .inl rfl⟩
        · right; omega
      | succ m ih =>
        intro h
        rcases ih (by omega) with ⟨j, h1, h2⟩ | h1
        · exact .inl ⟨j, by omega, h2⟩
        · by_cases c : m + 1 + 1 = n ∨ a * eu f (m + 1) - b * ev f (m + 1) ≤ 0
          · exact .inl ⟨m + 1, by omega, c, .inr h1.1⟩
          · right; omega
    rcases this (n - 1) (by omega) with ⟨j, h1, h2⟩ | h1
    · exact ⟨j, by omega, h2⟩
    · omega
  obtain ⟨j, hj, hr1, hl1⟩ := this
  refine ⟨j, hj, ?_⟩
  unfold vl
  -- the limit to the left: (v1, u1); to the right: (v2, u2)
  have L : ∃ u1 v1, v1 * X + u1 * Y ≤ D * (v1 * (f j).1 + u1 * (f j).2) ∧ 0 ≤ a * u1 - b * v1 ∧ ((u1 = 1 ∧ v1 = 0) ∨ (0 < u1 ∧ 0 < v1 ∧ 0 < j ∧ u1 = eu f (j - 1) ∧ v1 = ev f (j - 1))) := by
    by_cases h0 : j = 0
    · subst h0
      exact ⟨1, 0, by have := hk.top; rw [Int.zero_mul, Int.zero_mul, Int.one_mul, Int.one_mul]; simpa using this, by omega, .inl ⟨rfl, rfl⟩⟩
    · have hl2 := hl1.resolve_left h0
      have he := hk.edge (j - 1) (by omega)
      have hv : vl (ev f (j - 1)) (eu f (j - 1)) (f (j - 1)) = vl (ev f (j - 1)) (eu f (j - 1)) (f j) := by
        have := above_i1 (f := f) (j - 1); rw [show j - 1 + 1 = j by omega] at this; unfold above at this; omega
      rw [hv] at he
      have := hr.u (i := j - 1) (by omega)
      exact ⟨_, _, he, hl2, .inr ⟨this.1, this.2, by omega, rfl, rfl⟩⟩
  have R : ∃ u2 v2, v2 * X + u2 * Y ≤ D * (v2 * (f j).1 + u2 * (f j).2) ∧ 0 ≤ b * v2 - a * u2 ∧ ((u2 = 0 ∧ v2 = 1) ∨ (0 < u2 ∧ 0 < v2 ∧ j + 1 < n ∧ u2 = eu f j ∧ v2 = ev f j)) := by
    by_cases h0 : j + 1 = n
    · exact ⟨0, 1, by have := hk.right; rw [show n - 1 = j by omega] at this; rw [Int.zero_mul, Int.zero_mul, Int.one_mul, Int.one_mul]; simpa using this, by omega, .inl ⟨rfl, rfl⟩⟩
    · have he := hk.edge j (by omega)
      have := hr.u (i := j) (by omega)
      exact ⟨_, _, he, by have := hr1.resolve_left h0; omega, .inr ⟨this.1, this.2, by omega, rfl, rfl⟩⟩
  obtain ⟨u1, v1, l1, l2, l3⟩ := L
  obtain ⟨u2, v2, r1, r2, r3⟩ := R
  refine cone l1 r1 l2 r2 ?_
  rcases l3 with ⟨rfl, rfl⟩ | ⟨p1, q1, hj0, e1, e2⟩
  · rcases r3 with ⟨rfl, rfl⟩ | ⟨p2, q2, _⟩ <;> omega
  · rcases r3 with ⟨rfl, rfl⟩ | ⟨p2, q2, hj1, e3, e4⟩
    · omega
    · have := ht.uv (i := j - 1) (by omega)
      rw [show j - 1 + 1 = j by omega, ← e1, ← e2, ← e3, ← e4] at this
      have : u2 * v1 = v1 * u2 := Int.mul_comm ..
      omega
end
end Go.Proofs.Ytbgfiejaehpffaa
