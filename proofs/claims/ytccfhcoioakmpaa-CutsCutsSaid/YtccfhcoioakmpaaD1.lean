/-
  Plane geometry of sides, in whole numbers: of all directions one side ends a plate; the greatest of a direction is reached where two sides meet (duality).
-/
import Derived.Test.YtccfhcoioakmpaaRp
namespace Go.Proofs.Ytccfhcoioakmpaa
open Go.RowKit
def cr (s t : G) : Int := s.1 * t.2.1 - s.2.1 * t.1
def Fz (p : List G) (x y w : Int) : Prop := ∀ s ∈ p, s.1 * x + s.2.1 * y ≤ s.2.2 * w
def Ends (p : List G) : Prop := ∀ u v : Int, ¬ (u = 0 ∧ v = 0) → ∃ s ∈ p, 0 < s.1 * u + s.2.1 * v

theorem mul_le_l {a b c : Int} (h : a ≤ b) (hc : 0 ≤ c) : c * a ≤ c * b := Int.mul_le_mul_of_nonneg_left h hc
theorem le_of_mul {a b c : Int} (h : c * a ≤ c * b) (hc : 0 < c) : a ≤ b := Int.le_of_mul_le_mul_left h hc
theorem lt_of_mul {a b c : Int} (h : c * a < c * b) (hc : 0 < c) : a < b := Int.lt_of_mul_lt_mul_left h (Int.le_of_lt hc)
theorem mul_lt_l {a b c : Int} (h : a < b) (hc : 0 < c) : c * a < c * b := Int.mul_lt_mul_of_pos_left h hc

theorem min_of {α : Type} (f g : α → Int) : ∀ (l : List α), l ≠ [] → (∀ x ∈ l, 0 < g x) → ∃ x ∈ l, ∀ y ∈ l, f x * g y ≤ f y * g x
  | [], h, _ => absurd rfl h
  | [a], _, _ => ⟨a, by simp, by simp⟩
  | a :: b :: l, _, hg => by
    obtain ⟨x, hx, hm⟩ := min_of f g (b :: l) (by simp) (fun y hy => hg y (List.mem_cons_of_mem _ hy))
    have gx := hg x (List.mem_cons_of_mem _ hx)
    have ga := hg a (by simp)
    by_cases h : f a * g x ≤ f x * g a
    · refine ⟨a, by simp, fun y hy => ?_⟩
      rcases List.mem_cons.1 hy with rfl | hy
      · exact Int.le_refl _
      · have gy := hg y (List.mem_cons_of_mem _ hy)
        have h2 := hm y hy
        have e1 := mul_le_l h (Int.le_of_lt gy)
        have e2 := mul_le_l h2 (Int.le_of_lt ga)
        refine le_of_mul (c := g x) ?_ gx
        grind
    · refine ⟨x, List.mem_cons_of_mem _ hx, fun y hy => ?_⟩
      rcases List.mem_cons.1 hy with rfl | hy
      · omega
      · exact hm y hy

theorem sq_nn (a : Int) : 0 ≤ a * a := by
  rcases Int.le_total 0 a with h | h
  · exact Int.mul_nonneg h h
  · exact Int.mul_nonneg_of_nonpos_of_nonpos h h

/-- A pair of sides whose directions hold d between them. -/
theorem pair_of {p : List G} (hE : Ends p) {a b : Int} (hd : ¬ (a = 0 ∧ b = 0)) (hg : ∀ s ∈ p, s.1 * b - s.2.1 * a ≠ 0) :
    ∃ s ∈ p, ∃ t ∈ p, 0 < cr s t ∧ 0 < s.1 * b - s.2.1 * a ∧ 0 < a * t.2.1 - b * t.1 := by
  have sq : 0 < a * a + b * b := by
    have h1 := sq_nn a
    have h2 := sq_nn b
    by_cases ha : a = 0
    · have hb : b ≠ 0 := fun e => hd ⟨ha, e⟩
      have := Int.mul_ne_zero hb hb
      omega
    · have := Int.mul_ne_zero ha ha
      omega
  obtain ⟨r, hr, hr2⟩ := hE b (-a) (by omega)
  have hne : p.filter (fun s => decide (0 < s.1 * b - s.2.1 * a)) ≠ [] := by
    intro e
    have : r ∈ p.filter (fun s => decide (0 < s.1 * b - s.2.1 * a)) := List.mem_filter.2 ⟨hr, by simp; grind⟩
    rw [e] at this; cases this
  obtain ⟨s, hs, hm⟩ := min_of (fun s : G => -(s.1 * a + s.2.1 * b)) (fun s => s.1 * b - s.2.1 * a) _ hne (fun x hx => by simpa using (List.mem_filter.1 hx).2)
  obtain ⟨hsp, hs0⟩ := List.mem_filter.1 hs
  have hs1 : 0 < s.1 * b - s.2.1 * a := by simpa using hs0
  have hsn : ¬ (-s.2.1 = 0 ∧ s.1 = 0) := by
    rintro ⟨h1, h2⟩
    have : s.2.1 = 0 := by omega
    rw [this, h2] at hs1; simp at hs1
  obtain ⟨t, ht, ht2⟩ := hE (-s.2.1) s.1 hsn
  refine ⟨s, hsp, t, ht, by unfold cr; grind, hs1, ?_⟩
  have hgt := hg t ht
  rcases Int.lt_trichotomy (t.1 * b - t.2.1 * a) 0 with h | h | h
  · grind
  · exact absurd h hgt
  · exfalso
    have h3 := hm t (List.mem_filter.2 ⟨ht, by simpa using h⟩)
    have h4 : (a * a + b * b) * (t.1 * -s.2.1 + t.2.1 * s.1) ≤ 0 := by grind
    have h5 := mul_lt_l ht2 sq
    omega

theorem feas {p : List G} {x y w : Int} (hw : 0 < w) (hf : Fz p x y w) {a b : Int} (hg : ∀ s ∈ p, s.1 * b - s.2.1 * a ≠ 0) {s t : G} (hs : s ∈ p) (ht : t ∈ p) (hD : 0 < cr s t) (h1 : 0 < s.1 * b - s.2.1 * a) (h2 : 0 < a * t.2.1 - b * t.1)
    (hm : ∀ s' ∈ p, ∀ t' ∈ p, 0 < cr s' t' → 0 < s'.1 * b - s'.2.1 * a → 0 < a * t'.2.1 - b * t'.1 →
      ((a * t.2.1 - b * t.1) * s.2.2 + (s.1 * b - s.2.1 * a) * t.2.2) * cr s' t' ≤ ((a * t'.2.1 - b * t'.1) * s'.2.2 + (s'.1 * b - s'.2.1 * a) * t'.2.2) * cr s t) :
    ∀ u ∈ p, cr u t * s.2.2 + cr s u * t.2.2 ≤ u.2.2 * cr s t := by
  intro u hu
  have fs := hf s hs; have ft := hf t ht; have fu := hf u hu
  have gu := hg u hu
  refine Int.not_lt.1 fun hv => ?_
  have idx : cr s t * u.1 = cr u t * s.1 + cr s u * t.1 := by unfold cr; grind
  have idy : cr s t * u.2.1 = cr u t * s.2.1 + cr s u * t.2.1 := by unfold cr; grind
  by_cases hσ : cr u t ≤ 0 ∧ cr s u ≤ 0
  · have e1 := mul_le_l fs (show 0 ≤ -cr u t by omega)
    have e2 := mul_le_l ft (show 0 ≤ -cr s u by omega)
    have e3 := mul_le_l fu (Int.le_of_lt hD)
    have e4 := mul_lt_l hv hw
    have e5 : cr s t * (u.1 * x + u.2.1 * y) = cr u t * (s.1 * x + s.2.1 * y) + cr s u * (t.1 * x + t.2.1 * y) := by
      have := congrArg (· * x) idx; have := congrArg (· * y) idy; grind
    grind
  · have key : cr s t * (u.1 * b - u.2.1 * a) = cr u t * (s.1 * b - s.2.1 * a) - cr s u * (a * t.2.1 - b * t.1) := by
      have := congrArg (· * b) idx; have := congrArg (· * a) idy; grind
    by_cases hc : 0 < u.1 * b - u.2.1 * a
    · -- s leaves: (u, t)
      have hut : 0 < cr u t := by
        refine Int.not_le.1 fun h => ?_
        have hsu : 0 < cr s u := by omega
        have e1 := Int.mul_pos hD hc
        have e2 := Int.mul_pos hsu h2
        have e3 := Int.mul_nonneg (show 0 ≤ -cr u t by omega) (Int.le_of_lt h1)
        grind
      have h3 := hm u hu t ht hut hc h2
      have e1 := mul_lt_l hv h2
      have e2 := mul_le_l h3 (Int.le_of_lt hD)
      have k2 := congrArg (· * t.2.2) key
      have e3 : cr u t * ((a * t.2.1 - b * t.1) * s.2.2 + (s.1 * b - s.2.1 * a) * t.2.2) < cr u t * ((a * t.2.1 - b * t.1) * s.2.2 + (s.1 * b - s.2.1 * a) * t.2.2) := by
        refine lt_of_mul (c := cr s t) ?_ hD
        grind
      omega
    · have hc' : 0 < a * u.2.1 - b * u.1 := by grind
      have hsu : 0 < cr s u := by
        refine Int.not_le.1 fun h => ?_
        have hut : 0 < cr u t := by omega
        have e1 := Int.mul_pos hD hc'
        have e2 := Int.mul_pos hut h1
        have e3 := Int.mul_nonneg (show 0 ≤ -cr s u by omega) (Int.le_of_lt h2)
        grind
      have h3 := hm s hs u hu hsu h1 hc'
      have e1 := mul_lt_l hv h1
      have e2 := mul_le_l h3 (Int.le_of_lt hD)
      have k2 := congrArg (· * s.2.2) key
      have e3 : cr s u * ((a * t.2.1 - b * t.1) * s.2.2 + (s.1 * b - s.2.1 * a) * t.2.2) < cr s u * ((a * t.2.1 - b * t.1) * s.2.2 + (s.1 * b - s.2.1 * a) * t.2.2) := by
        refine lt_of_mul (c := cr s t) ?_ hD
        grind
      omega

theorem big_of (p : List G) (a b : Int) : ∃ N : Int, 0 < N ∧ ∀ s ∈ p, s.1 * a + s.2.1 * b < N ∧ -(s.1 * a + s.2.1 * b) < N := by
  induction p with
  | nil => exact ⟨1, by omega, fun s hs => by cases hs⟩
  | cons t p ih =>
    obtain ⟨N, h0, h⟩ := ih
    refine ⟨N + (if 0 ≤ t.1 * a + t.2.1 * b then t.1 * a + t.2.1 * b else -(t.1 * a + t.2.1 * b)), by split <;> omega, fun s hs => ?_⟩
    rcases List.mem_cons.1 hs with rfl | hs
    · split <;> omega
    · have := h s hs; split <;> omega

/-- The point at which two sides meet keeps all. -/
def Cor (p : List G) (s t : G) : Prop := ∀ u ∈ p, cr u t * s.2.2 + cr s u * t.2.2 ≤ u.2.2 * cr s t

theorem dual {p : List G} (hE : Ends p) (hS : ∀ s ∈ p, ¬ (s.1 = 0 ∧ s.2.1 = 0)) {x y w : Int} (hw : 0 < w) (hf : Fz p x y w) {a b : Int} (hd : ¬ (a = 0 ∧ b = 0)) :
    ∃ s ∈ p, ∃ t ∈ p, 0 < cr s t ∧ 0 ≤ s.1 * b - s.2.1 * a ∧ 0 ≤ a * t.2.1 - b * t.1 ∧ Cor p s t := by
  obtain ⟨N, hN, hb⟩ := big_of p a b
  have low : ∀ c : Int, c ≤ -1 → N * c ≤ -N := fun c hc => by have := mul_le_l hc (Int.le_of_lt hN); omega
  have high : ∀ c : Int, 1 ≤ c → N ≤ N * c := fun c hc => by have := mul_le_l hc (Int.le_of_lt hN); omega
  have cx : ∀ s : G, s.1 * (N * b + a) - s.2.1 * (N * a - b) = N * (s.1 * b - s.2.1 * a) + (s.1 * a + s.2.1 * b) := fun s => by grind
  have hd' : ¬ (N * a - b = 0 ∧ N * b + a = 0) := by
    rintro ⟨h1, h2⟩
    have e1 : (N * N + 1) * a = 0 := by grind
    have e2 : (N * N + 1) * b = 0 := by grind
    have h3 := sq_nn N
    rcases Int.mul_eq_zero.1 e1 with h | h
    · omega
    · rcases Int.mul_eq_zero.1 e2 with h' | h'
      · omega
      · exact hd ⟨h, h'⟩
  have hg : ∀ s ∈ p, s.1 * (N * b + a) - s.2.1 * (N * a - b) ≠ 0 := by
    intro s hs
    rw [cx]
    have hbs := hb s hs
    rcases Int.lt_trichotomy (s.1 * b - s.2.1 * a) 0 with h | h | h
    · have := low _ (show s.1 * b - s.2.1 * a ≤ -1 by omega); omega
    · rw [h]
      have hn := hS s hs
      intro e
      have e1 : s.1 * a + s.2.1 * b = 0 := by omega
      have e2 : (a * a + b * b) * s.1 = 0 := by grind
      have e3 : (a * a + b * b) * s.2.1 = 0 := by grind
      have sa := sq_nn a; have sb := sq_nn b
      have h0 : a * a + b * b ≠ 0 := by
        intro h0
        have ha : a * a = 0 := by omega
        have hbb : b * b = 0 := by omega
        exact hd ⟨(Int.mul_eq_zero.1 ha).elim id id, (Int.mul_eq_zero.1 hbb).elim id id⟩
      rcases Int.mul_eq_zero.1 e2 with h | h
      · exact h0 h
      · rcases Int.mul_eq_zero.1 e3 with h' | h'
        · exact h0 h'
        · exact hn ⟨h, h'⟩
    · have := high _ (show 1 ≤ s.1 * b - s.2.1 * a by omega); omega
  obtain ⟨s0, hs0, t0, ht0, q1, q2, q3⟩ := pair_of hE hd' hg
  let L := (p.flatMap fun s => p.map fun t => (s, t)).filter fun q => decide (0 < cr q.1 q.2) && decide (0 < q.1.1 * (N * b + a) - q.1.2.1 * (N * a - b)) && decide (0 < (N * a - b) * q.2.2.1 - (N * b + a) * q.2.1)
  have hL : ∀ q, q ∈ L ↔ (q.1 ∈ p ∧ q.2 ∈ p) ∧ (0 < cr q.1 q.2 ∧ 0 < q.1.1 * (N * b + a) - q.1.2.1 * (N * a - b)) ∧ 0 < (N * a - b) * q.2.2.1 - (N * b + a) * q.2.1 := by
    rintro ⟨s, t⟩
    simp only [L, List.mem_filter, List.mem_flatMap, List.mem_map, Bool.and_eq_true, decide_eq_true_eq, Prod.mk.injEq, and_congr_left_iff]
    intro _
    constructor
    · rintro ⟨a, ha, b, hb, rfl, rfl⟩; exact ⟨ha, hb⟩
    · rintro ⟨ha, hb⟩; exact ⟨s, ha, t, hb, rfl, rfl⟩
  have hne : L ≠ [] := fun e => by
    have := (hL (s0, t0)).2 ⟨⟨hs0, ht0⟩, ⟨q1, q2⟩, q3⟩
    rw [e] at this; cases this
  obtain ⟨⟨s, t⟩, hq, hm⟩ := min_of (fun q : G × G => ((N * a - b) * q.2.2.1 - (N * b + a) * q.2.1) * q.1.2.2 + (q.1.1 * (N * b + a) - q.1.2.1 * (N * a - b)) * q.2.2.2) (fun q => cr q.1 q.2) L hne (fun q hq => ((hL q).1 hq).2.1.1)
  obtain ⟨⟨hs, ht⟩, ⟨h1, h2⟩, h3⟩ := (hL (s, t)).1 hq
  have hcor : Cor p s t := feas hw hf hg hs ht h1 h2 h3 fun s' hs' t' ht' g1 g2 g3 => hm (s', t') ((hL (s', t')).2 ⟨⟨hs', ht'⟩, ⟨g1, g2⟩, g3⟩)
  refine ⟨s, hs, t, ht, h1, ?_, ?_, hcor⟩
  · refine Int.not_lt.1 fun h => ?_
    have := low _ (show s.1 * b - s.2.1 * a ≤ -1 by omega)
    have := hb s hs
    simp only at h2
    rw [cx] at h2; omega
  · refine Int.not_lt.1 fun h => ?_
    have := low _ (show a * t.2.1 - b * t.1 ≤ -1 by omega)
    have := hb t ht
    have e : (N * a - b) * t.2.1 - (N * b + a) * t.1 = N * (a * t.2.1 - b * t.1) - (t.1 * a + t.2.1 * b) := by grind
    simp only at h3
    rw [e] at h3; omega

/-- No point has more of a direction than the corner of its two sides. -/
theorem weak {p : List G} {s t : G} (hs : s ∈ p) (ht : t ∈ p) {a b : Int} (h1 : 0 ≤ s.1 * b - s.2.1 * a) (h2 : 0 ≤ a * t.2.1 - b * t.1) {x y w : Int} (hf : Fz p x y w) :
    cr s t * (a * x + b * y) ≤ ((a * t.2.1 - b * t.1) * s.2.2 + (s.1 * b - s.2.1 * a) * t.2.2) * w := by
  have e1 := mul_le_l (hf s hs) h2
  have e2 := mul_le_l (hf t ht) h1
  have e : cr s t * (a * x + b * y) = (a * t.2.1 - b * t.1) * (s.1 * x + s.2.1 * y) + (s.1 * b - s.2.1 * a) * (t.1 * x + t.2.1 * y) := by unfold cr; grind
  grind

/-! A plate has an end: what the program asks, and what the reference asks, is one. -/
theorem ends_of {gs : List G} (hne : gs ≠ []) (h : hasE gs = true) : Ends gs := by
  intro u v hd
  refine Classical.byContradiction fun hc => ?_
  have hall : ∀ t ∈ gs, t.1 * u + t.2.1 * v ≤ 0 := fun t ht => Int.not_lt.1 fun h1 => hc ⟨t, ht, h1⟩
  have sq : 0 < u * u + v * v := by
    have h1 := sq_nn u
    have h2 := sq_nn v
    by_cases ha : u = 0
    · have hb : v ≠ 0 := fun e => hd ⟨ha, e⟩
      have := Int.mul_ne_zero hb hb
      omega
    · have := Int.mul_ne_zero ha ha
      omega
  have key : ∀ t ∈ gs, (∀ t' ∈ gs, (u * t'.2.1 - v * t'.1) * -(t.1 * u + t.2.1 * v) ≤ -(t'.1 * u + t'.2.1 * v) * (u * t.2.1 - v * t.1)) → False := by
    intro t ht hk
    have h1 := List.all_eq_true.1 h t ht
    simp only [Bool.not_eq_true', Bool.eq_false_iff] at h1
    refine h1 (List.all_eq_true.2 fun t' ht' => ?_)
    simp only [decide_eq_true_eq]
    have h2 := hk t' ht'
    refine le_of_mul (c := u * u + v * v) ?_ sq
    grind
  by_cases hA : ∃ t ∈ gs, t.1 * u + t.2.1 * v = 0 ∧ 0 < u * t.2.1 - v * t.1
  · obtain ⟨t, ht, h1, h2⟩ := hA
    refine key t ht fun t' ht' => ?_
    rw [h1]
    have := Int.mul_nonneg (show 0 ≤ -(t'.1 * u + t'.2.1 * v) by have := hall t' ht'; omega) (Int.le_of_lt h2)
    omega
  · by_cases hB : gs.filter (fun t => decide (0 < -(t.1 * u + t.2.1 * v))) = []
    · obtain ⟨t, ht⟩ := List.exists_mem_of_ne_nil _ hne
      have zero : ∀ t ∈ gs, t.1 * u + t.2.1 * v = 0 := by
        intro t ht
        have h1 := hall t ht
        have h2 : ¬ 0 < -(t.1 * u + t.2.1 * v) := fun h => by
          have : t ∈ gs.filter (fun t => decide (0 < -(t.1 * u + t.2.1 * v))) := List.mem_filter.2 ⟨ht, by simpa using h⟩
          rw [hB] at this; cases this
        omega
      refine key t ht fun t' ht' => ?_
      rw [zero t ht, zero t' ht']; simp
    · obtain ⟨t, ht, hm⟩ := min_of (fun t : G => -(u * t.2.1 - v * t.1)) (fun t => -(t.1 * u + t.2.1 * v)) _ hB (fun x hx => by simpa using (List.mem_filter.1 hx).2)
      obtain ⟨htp, ht0⟩ := List.mem_filter.1 ht
      have ht1 : 0 < -(t.1 * u + t.2.1 * v) := by simpa using ht0
      refine key t htp fun t' ht' => ?_
      by_cases h0 : 0 < -(t'.1 * u + t'.2.1 * v)
      · have := hm t' (List.mem_filter.2 ⟨ht', by simpa using h0⟩)
        grind
      · have h1 : t'.1 * u + t'.2.1 * v = 0 := by have := hall t' ht'; omega
        have h2 : ¬ 0 < u * t'.2.1 - v * t'.1 := fun h => hA ⟨t', ht', h1, h⟩
        rw [h1]
        have := Int.mul_nonneg (show 0 ≤ -(u * t'.2.1 - v * t'.1) by omega) (Int.le_of_lt ht1)
        grind

theorem onF_neg (s : G) (gs : List G) : onF (-1) s gs = endless s.2.1 (-s.1) gs := by
  unfold onF endless
  congr 1; funext t
  congr 1
  apply propext
  constructor <;> intro h <;> grind
theorem onF_no {gs : List G} (hE : Ends gs) {s : G} (hs : ¬ (s.1 = 0 ∧ s.2.1 = 0)) : onF 1 s gs = false := by
  rw [Bool.eq_false_iff]; intro hc
  obtain ⟨t, ht, h1⟩ := hE (-s.2.1) s.1 (by omega)
  have h2 := List.all_eq_true.1 hc t ht
  simp only [decide_eq_true_eq] at h2
  grind
theorem hasE_eq {gs : List G} (hne : gs ≠ []) (ho : OkAll gs) : gs.all (endR gs) = hasE gs := by
  rcases h : hasE gs
  · rw [Bool.eq_false_iff]; intro hc
    rw [Bool.eq_false_iff] at h
    refine h (List.all_eq_true.2 fun s hs => ?_)
    have := List.all_eq_true.1 hc s hs
    rw [endR, onF_neg] at this
    simp only [Bool.and_eq_true] at this
    exact this.1
  · have hE := ends_of hne h
    refine List.all_eq_true.2 fun s hs => ?_
    rw [endR, onF_neg, onF_no hE ((okS_iff s).1 (ho s hs)).2.2.1]
    simpa using List.all_eq_true.1 h s hs
/-- The reference's plates are the program's. -/
theorem plR_eq (gs : List G) : plR gs = plF gs := by
  unfold plR plF
  by_cases h3 : 3 ≤ gs.length
  · by_cases ho : gs.all okS = true
    · rw [hasE_eq (by intro e; rw [e] at h3; simp at h3) (List.all_eq_true.1 ho)]
    · simp [ho]
  · simp [h3]
theorem plF_ends {gs : List G} (h : plF gs = true) : Ends gs := by
  simp only [plF, Bool.and_eq_true, decide_eq_true_eq] at h
  exact ends_of (by intro e; rw [e] at h; simp at h) h.2
theorem plF_len {gs : List G} (h : plF gs = true) : 3 ≤ gs.length ∧ gs.length ≤ 6 := by
  simp only [plF, Bool.and_eq_true, decide_eq_true_eq] at h
  exact h.1.1
end Go.Proofs.Ytccfhcoioakmpaa
