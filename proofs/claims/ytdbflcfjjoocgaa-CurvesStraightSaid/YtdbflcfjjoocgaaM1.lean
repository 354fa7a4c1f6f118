/-
  Basic curves over the rationals: the recursion by degrees, de Boor's steps, the sum.
-/
namespace Go.Proofs.Ytdbflcfjjoocgaa

/-- The part of the way from a to b that leads to t, 0 where there is no way. -/
def wt (a b t : Rat) : Rat := if a = b then 0 else (t - a) / (b - a)
/-- The basic curve i of degree d at t, which the piece p has. -/
def bas (k : Nat → Rat) (p : Nat) (t : Rat) : Nat → Nat → Rat
  | 0, i => if i = p then 1 else 0
  | d + 1, i => wt (k i) (k (i + (d + 1))) t * bas k p t d i + wt (k (i + (d + 1) + 1)) (k (i + 1)) t * bas k p t d (i + 1)
/-- One of de Boor's steps at degree r. -/
def dB (k : Nat → Rat) (r : Nat) (t : Rat) (c : Nat → Rat) (i : Nat) : Rat := c i + wt (k (i + 1)) (k (i + 1 + r)) t * (c (i + 1) - c i)
/-- The value by de Boor's steps: the poles from b on, of degree d. -/
def val : Nat → (Nat → Rat) → (Nat → Rat) → Nat → Rat → Rat
  | 0, _, c, b, _ => c b
  | d + 1, k, c, b, t => val d (fun i => k (i + 1)) (dB k (d + 1) t c) b t
/-- The sum of the first n. -/
def sumF (f : Nat → Rat) : Nat → Rat
  | 0 => 0
  | n + 1 => sumF f n + f n
/-- Knots that do not fall. -/
def Mono (k : Nat → Rat) : Prop := ∀ i j, i ≤ j → k i ≤ k j

theorem Mono.shift {k : Nat → Rat} (h : Mono k) : Mono fun i => k (i + 1) := fun i j hij => h _ _ (by omega)
theorem sumF_ext {f g : Nat → Rat} {n : Nat} (h : ∀ i, i < n → f i = g i) : sumF f n = sumF g n := by
  induction n with
  | zero => rfl
  | succ n ih => rw [sumF, sumF, ih (fun i hi => h i (by omega)), h n (by omega)]
theorem sumF_add (f g : Nat → Rat) (n : Nat) : sumF (fun i => f i + g i) n = sumF f n + sumF g n := by
  induction n with
  | zero => simp only [sumF]; grind
  | succ n ih => rw [sumF, sumF, sumF, ih]; grind
theorem sumF_mul (f : Nat → Rat) (a : Rat) (n : Nat) : sumF (fun i => a * f i) n = a * sumF f n := by
  induction n with
  | zero => simp [sumF]
  | succ n ih => rw [sumF, sumF, ih]; grind
theorem sumF_head (f : Nat → Rat) (n : Nat) : sumF f (n + 1) = f 0 + sumF (fun i => f (i + 1)) n := by
  induction n with
  | zero => simp only [sumF]; grind
  | succ n ih => rw [sumF, ih, sumF]; grind
theorem sumF_nonneg {f : Nat → Rat} {n : Nat} (h : ∀ i, i < n → 0 ≤ f i) : 0 ≤ sumF f n := by
  induction n with
  | zero => simp [sumF]
  | succ n ih => rw [sumF]; have := ih (fun i hi => h i (by omega)); have := h n (by omega); grind
theorem sumF_le {f g : Nat → Rat} {n : Nat} (h : ∀ i, i < n → f i ≤ g i) : sumF f n ≤ sumF g n := by
  induction n with
  | zero => simp [sumF]
  | succ n ih => rw [sumF, sumF]; have := ih (fun i hi => h i (by omega)); have := h n (by omega); grind
theorem sumF_one_le {f : Nat → Rat} {n : Nat} (h : ∀ i, i < n → 0 ≤ f i) (i : Nat) (hi : i < n) : f i ≤ sumF f n := by
  induction n with
  | zero => omega
  | succ n ih =>
    rw [sumF]
    have hs := sumF_nonneg (f := f) (n := n) (fun i hi => h i (by omega))
    have hn := h n (by omega)
    by_cases e : i = n
    · subst e; grind
    · have := ih (fun i hi => h i (by omega)) (by omega); grind

/-- Out of its pieces a basic curve is 0. -/
theorem bas_out (k : Nat → Rat) (p : Nat) (t : Rat) : ∀ d i, (i + d < p ∨ p < i) → bas k p t d i = 0 := by
  intro d
  induction d with
  | zero => intro i h; simp only [bas]; rw [if_neg (by omega)]
  | succ d ih =>
    intro i h
    simp only [bas]
    rw [ih (i + 1) (by omega)]
    by_cases hi : i + d < p ∨ p < i
    · rw [ih i hi]; grind
    · omega
theorem bas_shift (k : Nat → Rat) (p : Nat) (t : Rat) : ∀ d i, bas (fun j => k (j + 1)) p t d i = bas k (p + 1) t d (i + 1) := by
  intro d
  induction d with
  | zero => intro i; simp [bas]
  | succ d ih =>
    intro i
    simp only [bas]
    rw [ih i, ih (i + 1)]
    rw [show i + 1 + (d + 1) = i + (d + 1) + 1 from by omega]
theorem wt_turn {a b : Rat} (h : a ≠ b) (t : Rat) : wt b a t = 1 - wt a b t := by
  unfold wt
  rw [if_neg h, if_neg (Ne.symm h)]
  have h1 : b - a ≠ 0 := by grind
  have h2 : a - b ≠ 0 := by grind
  grind
theorem wt_bd {a b t : Rat} (h1 : a ≤ t) (h2 : t ≤ b) : 0 ≤ wt a b t ∧ wt a b t ≤ 1 := by
  unfold wt
  by_cases h : a = b
  · rw [if_pos h]; constructor <;> decide
  · rw [if_neg h]
    have hb : 0 < b - a := by grind
    obtain ⟨x, hx⟩ : ∃ x, (t - a) / (b - a) = x := ⟨_, rfl⟩
    have hm : x * (b - a) = t - a := by rw [← hx]; exact Rat.div_mul_cancel (by grind)
    rw [hx]
    constructor
    · refine Rat.le_of_mul_le_mul_right ?_ hb
      grind
    · refine Rat.le_of_mul_le_mul_right ?_ hb
      grind
/-- The piece p of the knots. -/
structure Piece (k : Nat → Rat) (p : Nat) (t : Rat) : Prop where
  mono : Mono k
  lt : k p < k (p + 1)
  le : k p ≤ t
  le' : t ≤ k (p + 1)
theorem Piece.shift {k : Nat → Rat} {p : Nat} {t : Rat} (h : Piece k (p + 1) t) : Piece (fun i => k (i + 1)) p t := ⟨h.mono.shift, h.lt, h.le, h.le'⟩
theorem Piece.apart {k : Nat → Rat} {p : Nat} {t : Rat} (h : Piece k p t) {i j : Nat} (hi : i ≤ p) (hj : p < j) : k i < k j := by
  have h1 := h.mono i p hi; have h2 := h.mono (p + 1) j hj; have := h.lt; grind
theorem Piece.wt {k : Nat → Rat} {p : Nat} {t : Rat} (h : Piece k p t) {i j : Nat} (hi : i ≤ p) (hj : p < j) : 0 ≤ wt (k i) (k j) t ∧ wt (k i) (k j) t ≤ 1 := by
  have h1 := h.mono i p hi; have h2 := h.mono (p + 1) j hj; have := h.le; have := h.le'
  exact wt_bd (by grind) (by grind)
theorem Piece.turn {k : Nat → Rat} {p : Nat} {t : Rat} (h : Piece k p t) {i j : Nat} (hi : i ≤ p) (hj : p < j) : Go.Proofs.Ytdbflcfjjoocgaa.wt (k j) (k i) t = 1 - Go.Proofs.Ytdbflcfjjoocgaa.wt (k i) (k j) t := by
  have := h.apart hi hj
  exact wt_turn (by grind) t

theorem bas_nonneg {k : Nat → Rat} {p : Nat} {t : Rat} (h : Piece k p t) : ∀ d i, 0 ≤ bas k p t d i := by
  intro d
  induction d with
  | zero => intro i; simp only [bas]; split <;> decide
  | succ d ih =>
    intro i
    simp only [bas]
    have e1 : 0 ≤ Go.Proofs.Ytdbflcfjjoocgaa.wt (k i) (k (i + (d + 1))) t * bas k p t d i := by
      by_cases hi : i + d < p ∨ p < i
      · rw [bas_out k p t d i hi]; grind
      · exact Rat.mul_nonneg (h.wt (by omega) (by omega)).1 (ih i)
    have e2 : 0 ≤ Go.Proofs.Ytdbflcfjjoocgaa.wt (k (i + (d + 1) + 1)) (k (i + 1)) t * bas k p t d (i + 1) := by
      by_cases hi : i + 1 + d < p ∨ p < i + 1
      · rw [bas_out k p t d (i + 1) hi]; grind
      · rw [h.turn (i := i + 1) (by omega) (by omega)]
        have := (h.wt (i := i + 1) (j := i + (d + 1) + 1) (by omega) (by omega)).2
        exact Rat.mul_nonneg (by grind) (ih (i + 1))
    grind

/-- The poles times the basic curves are what de Boor's steps give. -/
theorem sum_val : ∀ d (k c : Nat → Rat) (b n : Nat) (t : Rat), Piece k (b + d) t → b + d < n → sumF (fun i => c i * bas k (b + d) t d i) n = val d k c b t := by
  intro d
  induction d with
  | zero =>
    intro k c b n t h hn
    simp only [bas, val, Nat.add_zero]
    simp only [Nat.add_zero] at hn
    clear h
    induction n with
    | zero => omega
    | succ n ih =>
      rw [sumF]
      by_cases e : n = b
      · subst e
        rw [if_pos rfl, sumF_ext (g := fun _ => 0 * 0) (fun i hi => by rw [if_neg (by omega)]; grind), sumF_mul (fun _ => 0) 0]
        grind
      · rw [ih (by omega), if_neg e]; grind
  | succ d ih =>
    intro k c b n t h hn
    obtain ⟨m, rfl⟩ : ∃ m, n = m + 1 := ⟨n - 1, by omega⟩
    have e1 : sumF (fun i => c i * bas k (b + (d + 1)) t (d + 1) i) (m + 1) = sumF (fun i => c i * (wt (k i) (k (i + (d + 1))) t * bas k (b + (d + 1)) t d i)) (m + 1) + sumF (fun i => c i * (wt (k (i + (d + 1) + 1)) (k (i + 1)) t * bas k (b + (d + 1)) t d (i + 1))) (m + 1) := by
      rw [← sumF_add]; exact sumF_ext fun i _ => by simp only [bas]; grind
    rw [e1, sumF_head, sumF, bas_out k _ t d 0 (by omega), bas_out k _ t d (m + 1) (by omega)]
    have e2 : sumF (fun i => dB k (d + 1) t c i * bas (fun j => k (j + 1)) (b + d) t d i) m = sumF (fun i => c (i + 1) * (wt (k (i + 1)) (k (i + 1 + (d + 1))) t * bas k (b + (d + 1)) t d (i + 1)) + c i * (wt (k (i + (d + 1) + 1)) (k (i + 1)) t * bas k (b + (d + 1)) t d (i + 1))) m := by
      refine sumF_ext fun i hi => ?_
      rw [bas_shift, show b + d + 1 = b + (d + 1) from by omega]
      by_cases ho : i + 1 + d < b + (d + 1) ∨ b + (d + 1) < i + 1
      · rw [bas_out k _ t d (i + 1) ho]; grind
      · rw [h.turn (i := i + 1) (by omega) (by omega), dB, show i + 1 + (d + 1) = i + (d + 1) + 1 from by omega]; grind
    rw [val, ← ih (fun i => k (i + 1)) (dB k (d + 1) t c) b m t (Piece.shift h) (by omega), e2, sumF_add]
    grind

/-- The value is within the bounds of its poles. -/
theorem val_le : ∀ d (k c : Nat → Rat) (b : Nat) (t m : Rat), Piece k (b + d) t → (∀ i, b ≤ i → i ≤ b + d → c i ≤ m) → val d k c b t ≤ m := by
  intro d
  induction d with
  | zero => intro k c b t m _ h; exact h b (by omega) (by omega)
  | succ d ih =>
    intro k c b t m hp h
    rw [val]
    refine ih _ _ _ _ _ (Piece.shift hp) fun i h1 h2 => ?_
    have hw := hp.wt (i := i + 1) (j := i + 1 + (d + 1)) (by omega) (by omega)
    have a1 := h i (by omega) (by omega)
    have a2 := h (i + 1) (by omega) (by omega)
    rw [dB]
    obtain ⟨w, hw'⟩ : ∃ w, Go.Proofs.Ytdbflcfjjoocgaa.wt (k (i + 1)) (k (i + 1 + (d + 1))) t = w := ⟨_, rfl⟩
    rw [hw'] at hw ⊢
    have := Rat.mul_nonneg hw.1 (show 0 ≤ m - c (i + 1) by grind)
    have := Rat.mul_nonneg (show 0 ≤ 1 - w by grind) (show 0 ≤ m - c i by grind)
    grind
theorem dB_const (k : Nat → Rat) (r : Nat) (t x : Rat) : dB k r t (fun _ => x) = fun _ => x := by funext i; simp only [dB]; grind
theorem val_const : ∀ d (k : Nat → Rat) (b : Nat) (t x : Rat), val d k (fun _ => x) b t = x := by
  intro d
  induction d with
  | zero => intros; rfl
  | succ d ih => intro k b t x; rw [val, dB_const]; exact ih _ _ _ _
theorem bas_sum {k : Nat → Rat} {p : Nat} {t : Rat} (h : Piece k p t) (d n : Nat) (hd : d ≤ p) (hn : p < n) : sumF (fun i => bas k p t d i) n = 1 := by
  obtain ⟨b, rfl⟩ : ∃ b, p = b + d := ⟨p - d, by omega⟩
  have := sum_val d k (fun _ => 1) b n t h hn
  rw [val_const] at this
  rw [← this]
  exact sumF_ext fun i _ => by grind
theorem bas_le_one {k : Nat → Rat} {p : Nat} {t : Rat} (h : Piece k p t) (d n : Nat) (hd : d ≤ p) (hn : p < n) (i : Nat) (hi : i < n) : bas k p t d i ≤ 1 := by
  rw [← bas_sum h d n hd hn]
  exact sumF_one_le (f := fun i => bas k p t d i) (fun i _ => bas_nonneg h d i) i hi

theorem dB_add (k : Nat → Rat) (r : Nat) (t : Rat) (c e : Nat → Rat) : dB k r t (fun i => c i + e i) = fun i => dB k r t c i + dB k r t e i := by funext i; simp only [dB]; grind
theorem val_add : ∀ d (k c e : Nat → Rat) (b : Nat) (t : Rat), val d k (fun i => c i + e i) b t = val d k c b t + val d k e b t := by
  intro d
  induction d with
  | zero => intros; rfl
  | succ d ih => intro k c e b t; rw [val, dB_add, ih]; rfl

/-- The sum of r knots. -/
def knotSum (k : Nat → Rat) (i : Nat) : Nat → Rat
  | 0 => 0
  | r + 1 => knotSum k i r + k (i + r)
theorem knotSum_head (k : Nat → Rat) : ∀ r i, knotSum k i (r + 1) = k i + knotSum k (i + 1) r := by
  intro r
  induction r with
  | zero => intro i; simp only [knotSum]; grind
  | succ r ih => intro i; rw [knotSum, ih i, knotSum, show i + 1 + r = i + (r + 1) from by omega]; grind
theorem knotSum_shift (k : Nat → Rat) : ∀ r i, knotSum (fun j => k (j + 1)) i r = knotSum k (i + 1) r := by
  intro r
  induction r with
  | zero => intro i; rfl
  | succ r ih => intro i; rw [knotSum, knotSum, ih i, show i + 1 + r = i + r + 1 from by omega]
/-- The value sees only the poles from b to b + d and the knots behind b, up to b + 2 d. -/
theorem val_ext : ∀ d (k k' c c' : Nat → Rat) (b : Nat) (t : Rat), (∀ i, b < i → i ≤ b + d + d → k i = k' i) → (∀ i, b ≤ i → i ≤ b + d → c i = c' i) → val d k c b t = val d k' c' b t := by
  intro d
  induction d with
  | zero => intro k k' c c' b t _ h; exact h b (by omega) (by omega)
  | succ d ih =>
    intro k k' c c' b t hk hc
    rw [val, val]
    refine ih _ _ _ _ _ _ (fun i h1 h2 => hk (i + 1) (by omega) (by omega)) fun i h1 h2 => ?_
    simp only [dB]
    rw [hc i (by omega) (by omega), hc (i + 1) (by omega) (by omega), hk (i + 1) (by omega) (by omega), hk (i + 1 + (d + 1)) (by omega) (by omega)]
theorem wt_eq {a b : Rat} (h : a < b) (t : Rat) : wt a b t * (b - a) = t - a := by
  unfold wt
  rw [if_neg (by grind)]
  exact Rat.div_mul_cancel (by grind)
/-- Marsden: poles that are sums of knots. -/
theorem val_knots : ∀ d (k : Nat → Rat) (b : Nat) (t a x : Rat), Piece k (b + d) t → val d k (fun i => a * knotSum k (i + 1) d + x) b t = a * (d * t) + x := by
  intro d
  induction d with
  | zero => intro k b t a x _; simp only [val, knotSum]; grind
  | succ d ih =>
    intro k b t a x h
    have e : ∀ i, b ≤ i → i ≤ b + d → dB k (d + 1) t (fun i => a * knotSum k (i + 1) (d + 1) + x) i = a * knotSum (fun j => k (j + 1)) (i + 1) d + (a * t + x) := by
      intro i h1 h2
      have hm := wt_eq (h.apart (i := i + 1) (j := i + 1 + (d + 1)) (by omega) (by omega)) t
      simp only [dB]
      rw [knotSum_shift, knotSum_head k d (i + 1), knotSum, show i + 1 + 1 + d = i + 1 + (d + 1) from by omega]
      obtain ⟨w, hw⟩ : ∃ w, wt (k (i + 1)) (k (i + 1 + (d + 1))) t = w := ⟨_, rfl⟩
      rw [hw] at hm ⊢
      clear hw
      grind
    rw [val, val_ext d _ (fun j => k (j + 1)) _ (fun i => a * knotSum (fun j => k (j + 1)) (i + 1) d + (a * t + x)) b t (fun _ _ _ => rfl) e, ih _ _ _ _ _ (Piece.shift h)]
    have : ((d + 1 : Nat) : Rat) = (d : Rat) + 1 := by simp
    rw [this]; grind

/-- Two steps, in either order. -/
theorem dB_comm (k c : Nat → Rat) (r : Nat) (s t : Rat) (i : Nat) (h1 : k (i + 1) < k (i + 1 + (r + 1))) (h2 : k (i + 2) < k (i + 2 + (r + 1))) (h3 : k (i + 2) < k (i + 2 + r)) :
    dB (fun j => k (j + 1)) r s (dB k (r + 1) t c) i = dB (fun j => k (j + 1)) r t (dB k (r + 1) s c) i := by
  have a1 := wt_eq h1 t; have a2 := wt_eq h1 s
  have b1 := wt_eq h2 t; have b2 := wt_eq h2 s
  have c1 := wt_eq h3 t; have c2 := wt_eq h3 s
  rw [show i + 2 + r = i + 1 + (r + 1) from by omega] at h3 c1 c2
  simp only [dB]
  rw [show i + 1 + r + 1 = i + 1 + (r + 1) from by omega, show i + 1 + 1 + (r + 1) = i + 2 + (r + 1) from by omega, show i + 1 + 1 = i + 2 from rfl]
  obtain ⟨x1, e1⟩ : ∃ x, wt (k (i + 1)) (k (i + 1 + (r + 1))) t = x := ⟨_, rfl⟩
  obtain ⟨x2, e2⟩ : ∃ x, wt (k (i + 1)) (k (i + 1 + (r + 1))) s = x := ⟨_, rfl⟩
  obtain ⟨y1, f1⟩ : ∃ x, wt (k (i + 2)) (k (i + 2 + (r + 1))) t = x := ⟨_, rfl⟩
  obtain ⟨y2, f2⟩ : ∃ x, wt (k (i + 2)) (k (i + 2 + (r + 1))) s = x := ⟨_, rfl⟩
  obtain ⟨z1, g1⟩ : ∃ x, wt (k (i + 2)) (k (i + 1 + (r + 1))) t = x := ⟨_, rfl⟩
  obtain ⟨z2, g2⟩ : ∃ x, wt (k (i + 2)) (k (i + 1 + (r + 1))) s = x := ⟨_, rfl⟩
  rw [e1] at a1; rw [e2] at a2; rw [f1] at b1; rw [f2] at b2; rw [g1] at c1; rw [g2] at c2
  rw [e1, e2, f1, f2, g1, g2]
  clear e1 e2 f1 f2 g1 g2
  obtain ⟨p0, hp0⟩ : ∃ x, c i = x := ⟨_, rfl⟩
  obtain ⟨p1, hp1⟩ : ∃ x, c (i + 1) = x := ⟨_, rfl⟩
  obtain ⟨p2, hp2⟩ : ∃ x, c (i + 2) = x := ⟨_, rfl⟩
  obtain ⟨k1, hk1⟩ : ∃ x, k (i + 1) = x := ⟨_, rfl⟩
  obtain ⟨k2, hk2⟩ : ∃ x, k (i + 2) = x := ⟨_, rfl⟩
  obtain ⟨k3, hk3⟩ : ∃ x, k (i + 1 + (r + 1)) = x := ⟨_, rfl⟩
  obtain ⟨k4, hk4⟩ : ∃ x, k (i + 2 + (r + 1)) = x := ⟨_, rfl⟩
  rw [hp0, hp1, hp2]
  rw [hk1, hk3] at a1 a2 h1; rw [hk2, hk4] at b1 b2 h2; rw [hk2, hk3] at c1 c2 h3
  clear hp0 hp1 hp2 hk1 hk2 hk3 hk4
  have n1 : x1 = (t - k1) * (k3 - k1)⁻¹ := by have : k3 - k1 ≠ 0 := by grind
                                              grind
  have n2 : x2 = (s - k1) * (k3 - k1)⁻¹ := by have : k3 - k1 ≠ 0 := by grind
                                              grind
  have n3 : y1 = (t - k2) * (k4 - k2)⁻¹ := by have : k4 - k2 ≠ 0 := by grind
                                              grind
  have n4 : y2 = (s - k2) * (k4 - k2)⁻¹ := by have : k4 - k2 ≠ 0 := by grind
                                              grind
  have n5 : z1 = (t - k2) * (k3 - k2)⁻¹ := by have : k3 - k2 ≠ 0 := by grind
                                              grind
  have n6 : z2 = (s - k2) * (k3 - k2)⁻¹ := by have : k3 - k2 ≠ 0 := by grind
                                              grind
  have m1 : k3 - k1 ≠ 0 := by grind
  have m2 : k4 - k2 ≠ 0 := by grind
  have m3 : k3 - k2 ≠ 0 := by grind
  clear a1 a2 b1 b2 c1 c2 h1 h2 h3
  subst n1 n2 n3 n4 n5 n6
  grind
end Go.Proofs.Ytdbflcfjjoocgaa
