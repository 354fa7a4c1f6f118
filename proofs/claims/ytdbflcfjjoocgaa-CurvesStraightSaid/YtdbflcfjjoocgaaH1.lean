/-
  basics of the program: plain facts.
-/
import Derived.Test.YtdbflcfjjoocgaaG6
namespace Go.Proofs.Ytdbflcfjjoocgaa
open Go.RowKit

/-- The knots as rational numbers. -/
def KQ (ks : List Int) (i : Nat) : Rat := ((kn ks i : Int) : Rat)
theorem KQ_mono {d : Nat} {ks ps : List Int} (h : OkC d ks ps) : Mono (KQ ks) := fun i j hij => by unfold KQ; rw [Rat.intCast_le_intCast]; exact h.kn_mono i j hij
theorem Fr.mul {t : Rat} {a b : Int} (h : Fr t a b) : t * ((b.toNat : Nat) : Rat) = (a : Rat) := by
  have hb := h.pos
  have e : ((b.toNat : Nat) : Rat) = (b : Rat) := by rw [← Rat.intCast_natCast, Int.toNat_of_nonneg (by omega)]
  rw [e, h.eq, Rat.divInt_eq_div]
  exact Rat.div_mul_cancel (by intro e; rw [Rat.intCast_eq_zero_iff] at e; omega)
/-- An order of fractions, in whole numbers. -/
theorem Fr.le_iff {t : Rat} {a b : Int} (h : Fr t a b) (k : Int) : (k : Rat) ≤ t ↔ k * b ≤ a := by
  have hb := h.pos
  have e := h.mul
  have hb2 : (0 : Rat) < ((b.toNat : Nat) : Rat) := by rw [Rat.natCast_pos]; omega
  have e2 : ((k * b : Int) : Rat) = (k : Rat) * ((b.toNat : Nat) : Rat) := by
    rw [Rat.intCast_mul]; congr 1; rw [← Rat.intCast_natCast, Int.toNat_of_nonneg (by omega)]
  rw [← Rat.intCast_le_intCast, e2, ← e]
  constructor
  · intro h; exact Rat.mul_le_mul_of_nonneg_right h (Rat.le_of_lt hb2)
  · intro h; exact Rat.le_of_mul_le_mul_right h hb2
theorem Fr.ge_iff {t : Rat} {a b : Int} (h : Fr t a b) (k : Int) : t ≤ (k : Rat) ↔ a ≤ k * b := by
  have hb := h.pos
  have e := h.mul
  have hb2 : (0 : Rat) < ((b.toNat : Nat) : Rat) := by rw [Rat.natCast_pos]; omega
  have e2 : ((k * b : Int) : Rat) = (k : Rat) * ((b.toNat : Nat) : Rat) := by
    rw [Rat.intCast_mul]; congr 1; rw [← Rat.intCast_natCast, Int.toNat_of_nonneg (by omega)]
  rw [← Rat.intCast_le_intCast, e2, ← e]
  constructor
  · intro h; exact Rat.mul_le_mul_of_nonneg_right h (Rat.le_of_lt hb2)
  · intro h; exact Rat.le_of_mul_le_mul_right h hb2
theorem Pl.top {ks : List Int} {n : Nat} {tn td : Int} {p : Nat} (h : Pl ks n tn td p) (hn : tn ≤ nth ks n * td) : ∀ m, p + 1 + m = n → tn ≤ nth ks (p + 1) * td := by
  have key : ∀ m i, p < i → i + m = n → tn ≤ nth ks i * td := by
    intro m
    induction m with
    | zero => intro i _ e; rw [show i = n by omega]; exact hn
    | succ m ih =>
      intro i hi e
      rcases h.last i hi (by omega) with a | a
      · rw [a]; exact ih (i + 1) (by omega) (by omega)
      · omega
  exact fun m e => key m (p + 1) (by omega) e
theorem Pl.piece {d : Nat} {ks ps : List Int} {tn td : Int} {t : Rat} {p : Nat} (hC : OkC d ks ps) (hT : Fr t tn td) (h : Pl ks ps.length tn td p) (hn : tn ≤ nth ks ps.length * td) : Piece (KQ ks) p t := by
  have hl := hC.len; have hp := h.lt
  have e0 : kn ks p = nth ks p := kn_at (by omega)
  have e1 : kn ks (p + 1) = nth ks (p + 1) := kn_at (by omega)
  refine ⟨KQ_mono hC, ?_, ?_, ?_⟩
  · unfold KQ; rw [Rat.intCast_lt_intCast, e0, e1]
    have := hC.rise p (by omega); have := h.ne; omega
  · unfold KQ; rw [e0, hT.le_iff]; exact h.le
  · unfold KQ; rw [e1, hT.ge_iff]; exact h.top hn (ps.length - (p + 1)) (by omega)

/-- What is known of a curve and a point of it. -/
structure At (d : Nat) (ks ps : List Int) (tn td : Int) (t : Rat) (p : Nat) : Prop where
  ok : OkC d ks ps
  fr : Fr t tn td
  td12 : td ≤ 12
  pl : Pl ks ps.length tn td p
  dp : d ≤ p
  top : tn ≤ nth ks ps.length * td
  bot : nth ks d * td ≤ tn
namespace At
variable {d : Nat} {ks ps : List Int} {tn td : Int} {t : Rat} {p : Nat}
theorem piece (h : At d ks ps tn td t p) : Piece (KQ ks) p t := Pl.piece h.ok h.fr h.pl h.top
theorem tn_bd (h : At d ks ps tn td t p) : 0 ≤ tn ∧ tn ≤ 144 := by
  have h0 := h.fr.pos; have h1 := h.td12
  have k0 := h.ok.knot d (by have := h.ok.len; have := h.ok.dn; omega)
  have k1 := h.ok.knot ps.length (by have := h.ok.len; omega)
  have b1 := Int.mul_nonneg k0.1 (show 0 ≤ td by omega)
  have b2 := Int.mul_le_mul k1.2 h1 (by omega) (by omega)
  have := h.top; have := h.bot; omega
theorem sm (h : At d ks ps tn td t p) (e i : Nat) (he : e ≤ d) : Sm (DD (kn ks) p td.toNat e) (DD (kn ks) p td.toNat e) (bas (KQ ks) p t e i) :=
  bas_sm (kn := kn ks) h.fr.mul h.ok.kn_mono h.piece e (by have := h.dp; omega) i
theorem one (h : At d ks ps tn td t p) (e i : Nat) (he : e ≤ d) : bas (KQ ks) p t e i ≤ 1 := bas_one (kn := kn ks) h.piece e (by have := h.dp; omega) i
theorem rise (h : At d ks ps tn td t p) (e i : Nat) (he : e < d) : Sm (DD (kn ks) p td.toNat (e + 1)) (DD (kn ks) p td.toNat (e + 1)) (wt (KQ ks i) (KQ ks (i + (e + 1))) t * bas (KQ ks) p t e i) :=
  rise_sm (kn := kn ks) h.fr.mul h.ok.kn_mono h.piece e (by have := h.dp; omega) i (h.sm e i (by omega)) (h.one e i (by omega))
theorem fall (h : At d ks ps tn td t p) (e i : Nat) (he : e < d) : Sm (DD (kn ks) p td.toNat (e + 1)) (DD (kn ks) p td.toNat (e + 1)) (wt (KQ ks (i + (e + 1) + 1)) (KQ ks (i + 1)) t * bas (KQ ks) p t e (i + 1)) := by
  have := fall_sm (kn := kn ks) h.fr.mul h.ok.kn_mono h.piece e (by have := h.dp; omega) (i + 1) (h.sm e (i + 1) (by omega)) (h.one e (i + 1) (by omega))
  rw [show i + 1 + (e + 1) = i + (e + 1) + 1 from by omega] at this
  exact this
theorem dpos (h : At d ks ps tn td t p) (e : Nat) (he : e ≤ d) : 0 < DD (kn ks) p td.toNat e ∧ DD (kn ks) p td.toNat e ≤ 5159780352 :=
  ⟨DD_pos (kn := kn ks) h.piece (by have := h.fr.pos; omega) e (by have := h.dp; omega), DD_le h.ok.kn_bd (by have := h.td12; omega) e (by have := h.ok.d3; omega)⟩
/-- The part of a way between two knots. -/
theorem wt_sm (h : At d ks ps tn td t p) (i j : Nat) : ∃ D : Nat, 0 < D ∧ D ≤ 144 ∧ Sm D 144 (wt (KQ ks i) (KQ ks j) t) := by
  have hb1 := h.ok.kn_bd i; have hb2 := h.ok.kn_bd j
  have h0 := h.fr.pos; have h1 := h.td12; have h2 := h.tn_bd
  by_cases e : kn ks i = kn ks j
  · refine ⟨1, by omega, by omega, ?_⟩
    unfold KQ wt
    rw [e, if_pos rfl]
    exact Sm.zero _ _
  · refine ⟨td.toNat * (kn ks j - kn ks i).natAbs, Nat.mul_pos (by omega) (by omega), ?_, Sm.wt h.fr.mul 144 ?_⟩
    · exact Nat.mul_le_mul (show td.toNat ≤ 12 by omega) (show (kn ks j - kn ks i).natAbs ≤ 12 by omega)
    · have e2 : ((td.toNat : Nat) : Int) = td := by omega
      rw [e2]
      have := Int.mul_nonneg hb1.1 (show 0 ≤ td by omega)
      have := Int.mul_le_mul hb1.2 h1 (by omega) (by omega)
      omega
end At
theorem KQ_int {ks : List Int} {i : Nat} {x : Int} (h : i < ks.length) (hx : nth ks i = x) : KQ ks i = (x : Rat) := by unfold KQ; rw [kn_at h, hx]
theorem exists_fr (q : Rat) : ∃ n m, Fr q n m := ⟨_, _, rfl, rfl⟩
end Go.Proofs.Ytdbflcfjjoocgaa
