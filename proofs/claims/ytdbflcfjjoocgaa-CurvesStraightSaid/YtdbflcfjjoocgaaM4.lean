/-
  What stands below the basic curves: all divide one number.
-/
import Derived.Test.YtdbflcfjjoocgaaG5
import Derived.Test.YtdbflcfjjoocgaaM2
namespace Go.Proofs.Ytdbflcfjjoocgaa
open Go.RowKit

/-- The product of the first n. -/
def prodF (f : Nat → Nat) : Nat → Nat
  | 0 => 1
  | n + 1 => prodF f n * f n
theorem prodF_dvd (f : Nat → Nat) : ∀ n i, i < n → f i ∣ prodF f n := by
  intro n
  induction n with
  | zero => intro i h; omega
  | succ n ih =>
    intro i h
    rw [prodF]
    by_cases e : i = n
    · subst e; exact Nat.dvd_mul_left _ _
    · exact Nat.dvd_trans (ih i (by omega)) (Nat.dvd_mul_right _ _)
theorem prodF_le (f : Nat → Nat) (M : Nat) : ∀ n, (∀ i, i < n → f i ≤ M) → prodF f n ≤ M ^ n := by
  intro n
  induction n with
  | zero => intro _; exact Nat.le_refl _
  | succ n ih => intro h; rw [prodF, Nat.pow_succ]; exact Nat.mul_le_mul (ih fun i hi => h i (by omega)) (h n (by omega))
theorem prodF_pos (f : Nat → Nat) : ∀ n, (∀ i, i < n → 0 < f i) → 0 < prodF f n := by
  intro n
  induction n with
  | zero => intro _; exact Nat.one_pos
  | succ n ih => intro h; rw [prodF]; exact Nat.mul_pos (ih fun i hi => h i (by omega)) (h n (by omega))
/-- The differences of knots around the piece p that degree d + 1 divides by. -/
def difF (kn : Nat → Int) (p d j : Nat) : Nat := (kn (p - d + j + (d + 1)) - kn (p - d + j)).toNat
/-- What stands below the basic curves of degree d divides this. -/
def DD (kn : Nat → Int) (p td : Nat) : Nat → Nat
  | 0 => 1
  | d + 1 => DD kn p td d * (td * prodF (difF kn p d) (d + 1))

theorem Sm.unit {D M : Nat} {p : Rat} (h : Sm D M p) (h0 : 0 ≤ p) (h1 : p ≤ 1) : Sm D D p := by
  obtain ⟨z, e, _⟩ := h
  refine ⟨z, e, ?_⟩
  have hD : (0 : Rat) ≤ (D : Rat) := Rat.natCast_nonneg
  have z0 : 0 ≤ z := by rw [← Rat.intCast_nonneg, ← e]; exact Rat.mul_nonneg h0 hD
  have z1 : z ≤ (D : Int) := by
    rw [← Rat.intCast_le_intCast, ← e, Rat.intCast_natCast]
    have := Rat.mul_le_mul_of_nonneg_right h1 hD
    rwa [Rat.one_mul] at this
  omega
theorem Sm.dvd {D E M : Nat} {p : Rat} (h : Sm D M p) (hd : D ∣ E) : ∃ M', Sm E M' p := by
  obtain ⟨e, rfl⟩ := hd; exact ⟨_, h.scale e⟩

section
variable {kn : Nat → Int} {p td : Nat} {t : Rat} {tn : Int}
/-- The part of a way between whole numbers, at tn / td. -/
theorem Sm.wt {a b : Int} (ht : t * (td : Rat) = (tn : Rat)) (M : Nat) (hM : (tn - a * td).natAbs ≤ M) : Sm (td * (b - a).natAbs) M (Go.Proofs.Ytdbflcfjjoocgaa.wt (a : Rat) (b : Rat) t) := by
  by_cases h : a = b
  · subst h
    unfold Go.Proofs.Ytdbflcfjjoocgaa.wt
    rw [if_pos rfl]
    exact Sm.zero _ _
  · have hne : (b : Rat) - (a : Rat) ≠ 0 := by rw [← Rat.intCast_sub]; intro e; rw [Rat.intCast_eq_zero_iff] at e; omega
    have hw : Go.Proofs.Ytdbflcfjjoocgaa.wt (a : Rat) (b : Rat) t * ((b : Rat) - a) = t - a := by
      unfold Go.Proofs.Ytdbflcfjjoocgaa.wt
      rw [if_neg (by rw [Rat.intCast_inj]; exact h)]
      exact Rat.div_mul_cancel hne
    obtain ⟨x, hx⟩ : ∃ x, Go.Proofs.Ytdbflcfjjoocgaa.wt (a : Rat) (b : Rat) t = x := ⟨_, rfl⟩
    rw [hx] at hw ⊢
    have key : x * (((td : Int) * (b - a) : Int) : Rat) = ((tn - a * td : Int) : Rat) := by
      rw [Rat.intCast_mul, Rat.intCast_sub, Rat.intCast_sub, Rat.intCast_mul, ← ht, Rat.intCast_natCast]
      have : x * ((td : Rat) * ((b : Rat) - a)) = (x * ((b : Rat) - a)) * td := by grind
      rw [this, hw]; grind
    by_cases hab : a ≤ b
    · refine ⟨tn - a * td, ?_, hM⟩
      rw [← key, ← Rat.intCast_natCast, Int.natCast_mul, Int.natAbs_of_nonneg (by omega)]
    · refine ⟨-(tn - a * td), ?_, by omega⟩
      rw [Rat.intCast_neg, ← key, ← Rat.intCast_natCast, Int.natCast_mul, show ((b - a).natAbs : Int) = -(b - a) by omega, Int.mul_neg, Rat.intCast_neg]
      grind

theorem DD_step (hm : ∀ i j, i ≤ j → kn i ≤ kn j) (d i : Nat) (hd : d ≤ p) (h1 : i ≤ p) (h2 : p ≤ i + d) : td * (kn (i + (d + 1)) - kn i).natAbs ∣ td * prodF (difF kn p d) (d + 1) := by
  refine Nat.mul_dvd_mul_left _ ?_
  have := prodF_dvd (difF kn p d) (d + 1) (i - (p - d)) (by omega)
  unfold difF at this ⊢
  rw [show p - d + (i - (p - d)) = i from by omega] at this
  have e : (kn (i + (d + 1)) - kn i).toNat = (kn (i + (d + 1)) - kn i).natAbs := by have := hm i (i + (d + 1)) (by omega); omega
  rw [e] at this
  exact this
/-- The two parts that a basic curve is summed of. -/
theorem rise_sm (ht : t * (td : Rat) = (tn : Rat)) (hm : ∀ i j, i ≤ j → kn i ≤ kn j) (hp : Piece (fun i => ((kn i : Int) : Rat)) p t) (d : Nat) (hd : d ≤ p) (i : Nat) (hb : Sm (DD kn p td d) (DD kn p td d) (bas (fun i => ((kn i : Int) : Rat)) p t d i)) (hb1 : bas (fun i => ((kn i : Int) : Rat)) p t d i ≤ 1) :
    Sm (DD kn p td (d + 1)) (DD kn p td (d + 1)) (wt (kn i : Rat) (kn (i + (d + 1)) : Rat) t * bas (fun i => ((kn i : Int) : Rat)) p t d i) := by
  by_cases ho : i + d < p ∨ p < i
  · rw [bas_out _ p t d i ho, Rat.mul_zero]; exact Sm.zero _ _
  · have hw := hp.wt (i := i) (j := i + (d + 1)) (by omega) (by omega)
    have h0 := bas_nonneg hp d i
    obtain ⟨M, hM⟩ := (hb.mul (Sm.wt (a := kn i) (b := kn (i + (d + 1))) ht _ (Nat.le_refl _))).dvd (Nat.mul_dvd_mul_left (DD kn p td d) (DD_step hm d i hd (by omega) (by omega)))
    rw [Rat.mul_comm] at hM
    refine Sm.unit hM (Rat.mul_nonneg hw.1 h0) ?_
    have h1 := Rat.mul_le_mul_of_nonneg_right hw.2 h0
    rw [Rat.one_mul] at h1
    exact Rat.le_trans h1 hb1
theorem fall_sm (ht : t * (td : Rat) = (tn : Rat)) (hm : ∀ i j, i ≤ j → kn i ≤ kn j) (hp : Piece (fun i => ((kn i : Int) : Rat)) p t) (d : Nat) (hd : d ≤ p) (i : Nat) (hb : Sm (DD kn p td d) (DD kn p td d) (bas (fun i => ((kn i : Int) : Rat)) p t d i)) (hb1 : bas (fun i => ((kn i : Int) : Rat)) p t d i ≤ 1) :
    Sm (DD kn p td (d + 1)) (DD kn p td (d + 1)) (wt (kn (i + (d + 1)) : Rat) (kn i : Rat) t * bas (fun i => ((kn i : Int) : Rat)) p t d i) := by
  by_cases ho : i + d < p ∨ p < i
  · rw [bas_out _ p t d i ho, Rat.mul_zero]; exact Sm.zero _ _
  · have hw := hp.wt (i := i) (j := i + (d + 1)) (by omega) (by omega)
    have htu := hp.turn (i := i) (j := i + (d + 1)) (by omega) (by omega)
    have h0 := bas_nonneg hp d i
    have e : (kn i - kn (i + (d + 1))).natAbs = (kn (i + (d + 1)) - kn i).natAbs := by omega
    have hs := Sm.wt (a := kn (i + (d + 1))) (b := kn i) (td := td) ht _ (Nat.le_refl _)
    rw [e] at hs
    obtain ⟨M, hM⟩ := (hb.mul hs).dvd (Nat.mul_dvd_mul_left (DD kn p td d) (DD_step hm d i hd (by omega) (by omega)))
    rw [Rat.mul_comm] at hM
    have hw0 : 0 ≤ wt (kn (i + (d + 1)) : Rat) (kn i : Rat) t ∧ wt (kn (i + (d + 1)) : Rat) (kn i : Rat) t ≤ 1 := by
      constructor <;> grind
    refine Sm.unit hM (Rat.mul_nonneg hw0.1 h0) ?_
    have h1 := Rat.mul_le_mul_of_nonneg_right hw0.2 h0
    rw [Rat.one_mul] at h1
    exact Rat.le_trans h1 hb1
theorem bas_one (hp : Piece (fun i => ((kn i : Int) : Rat)) p t) (d : Nat) (hd : d ≤ p) (i : Nat) : bas (fun i => ((kn i : Int) : Rat)) p t d i ≤ 1 := bas_le_one hp d (p + 1 + i + 1) hd (by omega) i (by omega)
theorem bas_sm (ht : t * (td : Rat) = (tn : Rat)) (hm : ∀ i j, i ≤ j → kn i ≤ kn j) (hp : Piece (fun i => ((kn i : Int) : Rat)) p t) : ∀ d, d ≤ p → ∀ i, Sm (DD kn p td d) (DD kn p td d) (bas (fun i => ((kn i : Int) : Rat)) p t d i) := by
  intro d
  induction d with
  | zero =>
    intro _ i
    simp only [bas, DD]
    by_cases e : i = p
    · rw [if_pos e]; exact ⟨1, by simp, by decide⟩
    · rw [if_neg e]; exact Sm.zero _ _
  | succ d ih =>
    intro hd i
    have h1 := rise_sm ht hm hp d (by omega) i (ih (by omega) i) (bas_one hp d (by omega) i)
    have h2 := fall_sm ht hm hp d (by omega) (i + 1) (ih (by omega) (i + 1)) (bas_one hp d (by omega) (i + 1))
    have h3 := h1.add h2
    rw [show i + 1 + (d + 1) = i + (d + 1) + 1 from by omega] at h3
    exact Sm.unit h3 (bas_nonneg hp (d + 1) i) (bas_one hp (d + 1) hd i)
theorem DD_pos (hp : Piece (fun i => ((kn i : Int) : Rat)) p t) (htd : 0 < td) : ∀ d, d ≤ p → 0 < DD kn p td d := by
  intro d
  induction d with
  | zero => intro _; exact Nat.one_pos
  | succ d ih =>
    intro hd
    refine Nat.mul_pos (ih (by omega)) (Nat.mul_pos htd (prodF_pos _ _ fun j hj => ?_))
    have := hp.apart (i := p - d + j) (j := p - d + j + (d + 1)) (by omega) (by omega)
    simp only [Rat.intCast_lt_intCast] at this
    unfold difF; omega
theorem DD_le (hkn : ∀ i, 0 ≤ kn i ∧ kn i ≤ 12) (htd : td ≤ 12) : ∀ d, d ≤ 3 → DD kn p td d ≤ 5159780352 := by
  have hj : ∀ d j, difF kn p d j ≤ 12 := fun d j => by
    have h1 := hkn (p - d + j + (d + 1)); have h2 := hkn (p - d + j)
    unfold difF; omega
  have hq : ∀ d, prodF (difF kn p d) (d + 1) ≤ 12 ^ (d + 1) := fun d => prodF_le _ 12 _ fun i _ => hj d i
  have h1 : DD kn p td 1 ≤ 12 ^ 2 := by
    show 1 * (td * prodF (difF kn p 0) 1) ≤ _
    rw [Nat.one_mul]; exact Nat.mul_le_mul htd (hq 0)
  have h2 : DD kn p td 2 ≤ 12 ^ 2 * (12 * 12 ^ 2) := Nat.mul_le_mul h1 (Nat.mul_le_mul htd (hq 1))
  have h3 : DD kn p td 3 ≤ 12 ^ 2 * (12 * 12 ^ 2) * (12 * 12 ^ 3) := Nat.mul_le_mul h2 (Nat.mul_le_mul htd (hq 2))
  intro d hd
  match d, hd with
  | 0, _ => show 1 ≤ _; decide
  | 1, _ => exact Nat.le_trans h1 (by decide)
  | 2, _ => exact Nat.le_trans h2 (by decide)
  | 3, _ => exact Nat.le_trans h3 (by decide)
end

/-- The knots, and 12 behind them. -/
def kn (ks : List Int) (i : Nat) : Int := if i < ks.length then nth ks i else 12
theorem kn_at {ks : List Int} {i : Nat} (h : i < ks.length) : kn ks i = nth ks i := if_pos h
theorem OkC.kn_bd {d : Nat} {ks ps : List Int} (h : OkC d ks ps) (i : Nat) : 0 ≤ kn ks i ∧ kn ks i ≤ 12 := by
  unfold kn; split
  · exact h.knot i (by assumption)
  · omega
theorem OkC.kn_mono {d : Nat} {ks ps : List Int} (h : OkC d ks ps) : ∀ i j, i ≤ j → kn ks i ≤ kn ks j := by
  intro i j hij
  by_cases hj : j < ks.length
  · rw [kn_at hj, kn_at (by omega)]; 
    have key : ∀ j, i ≤ j → j < ks.length → nth ks i ≤ nth ks j := by
      intro j
      induction j with
      | zero => intro hij _; rw [Nat.le_zero.1 hij]; exact Int.le_refl _
      | succ j ih =>
        intro hij hj
        by_cases e : i = j + 1
        · subst e; exact Int.le_refl _
        · have := ih (by omega) (by omega); have := h.rise j hj; omega
    exact key j hij hj
  · have := h.kn_bd i
    unfold kn at this ⊢; rw [if_neg hj]; omega
end Go.Proofs.Ytdbflcfjjoocgaa
