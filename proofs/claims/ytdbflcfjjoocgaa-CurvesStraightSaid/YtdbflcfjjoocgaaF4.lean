/-
  The fractions' contracts, said of rational numbers.
-/
import Derived.Test.YtdbflcfjjoocgaaF3
namespace Go.Proofs.Ytdbflcfjjoocgaa
open Go.RowKit

/-- D times p is a whole number, at most M. -/
def Sm (D M : Nat) (p : Rat) : Prop := ∃ z : Int, p * (D : Rat) = (z : Rat) ∧ z.natAbs ≤ M
theorem Sm.mono {D M M' : Nat} {p : Rat} (h : Sm D M p) (hM : M ≤ M') : Sm D M' p := by
  obtain ⟨z, h1, h2⟩ := h; exact ⟨z, h1, by omega⟩
theorem Sm.add {D M M' : Nat} {p q : Rat} (h : Sm D M p) (k : Sm D M' q) : Sm D (M + M') (p + q) := by
  obtain ⟨z, h1, h2⟩ := h; obtain ⟨y, k1, k2⟩ := k
  exact ⟨z + y, by rw [Rat.intCast_add, ← h1, ← k1]; grind, by omega⟩
theorem Sm.mul {D E M M' : Nat} {p q : Rat} (h : Sm D M p) (k : Sm E M' q) : Sm (D * E) (M * M') (p * q) := by
  obtain ⟨z, h1, h2⟩ := h; obtain ⟨y, k1, k2⟩ := k
  refine ⟨z * y, by rw [Rat.intCast_mul, ← h1, ← k1, Rat.natCast_mul]; grind, ?_⟩
  rw [Int.natAbs_mul]; exact Nat.mul_le_mul h2 k2
theorem Sm.scale {D M : Nat} {p : Rat} (h : Sm D M p) (e : Nat) : Sm (D * e) (M * e) p := by
  obtain ⟨z, h1, h2⟩ := h
  refine ⟨z * e, by rw [Rat.intCast_mul, ← h1, Rat.natCast_mul]; simp only [Rat.intCast_natCast]; grind, ?_⟩
  rw [Int.natAbs_mul]; exact Nat.mul_le_mul h2 (by omega)
theorem Sm.zero (D M : Nat) : Sm D M 0 := ⟨0, by simp [Rat.zero_mul], by omega⟩
theorem Sm.int (z : Int) : Sm 1 z.natAbs (z : Rat) := ⟨z, by simp [Rat.mul_one], Nat.le_refl _⟩
/-- What stands below divides D, and what stands above is at most M. -/
theorem Sm.parts {D M : Nat} {p : Rat} (h : Sm D M p) (hD : 0 < D) : p.den ∣ D ∧ p.num * ((D / p.den : Nat) : Int) = (p * (D : Rat)).num ∧ (p.num * ((D / p.den : Nat) : Int)).natAbs ≤ M := by
  obtain ⟨z, h1, h2⟩ := h
  have hp := Rat.num_divInt_den p
  have hd := p.den_pos
  have e : p.num * D = z * p.den := by
    have h3 : Rat.divInt (p.num * D) p.den = Rat.divInt z 1 := by
      rw [Rat.divInt_eq_div, Rat.divInt_eq_div, Rat.intCast_mul, ← h1]
      have : p = (p.num : Rat) / ((p.den : Int) : Rat) := by rw [← Rat.divInt_eq_div]; exact hp.symm
      conv => rhs; rw [this]
      simp only [Rat.intCast_natCast, Rat.div_def]
      have : ((1 : Int) : Rat)⁻¹ = 1 := by decide +kernel
      rw [this]; grind
    have := (Rat.divInt_eq_divInt_iff (by omega) (by omega)).1 h3
    omega
  have hdvd : p.den ∣ D := by
    have h4 : (p.den : Int) ∣ p.num * D := ⟨z, by rw [e, Int.mul_comm]⟩
    have h5 : p.den ∣ p.num.natAbs * D := by have := Int.natAbs_dvd_natAbs.2 h4; simpa [Int.natAbs_mul] using this
    exact Nat.Coprime.dvd_of_dvd_mul_left (Nat.Coprime.symm p.reduced) h5
  obtain ⟨k, hk⟩ := hdvd
  have hk2 : D / p.den = k := by rw [hk]; exact Nat.mul_div_cancel_left _ hd
  have e2 : p.num * (k : Int) = z := by
    have h6 : p.num * ((p.den : Int) * k) = z * p.den := by rw [← e, hk, Int.natCast_mul]
    have h7 : (p.num * k) * (p.den : Int) = z * p.den := by rw [← h6]; grind
    exact Int.eq_of_mul_eq_mul_right (by omega) h7
  refine ⟨⟨k, hk⟩, ?_, ?_⟩
  · rw [hk2, e2, h1, Rat.num_intCast]
  · rw [hk2, e2]; exact h2
theorem Sm.num_le {D M : Nat} {p : Rat} (h : Sm D M p) (hD : 0 < D) : p.num.natAbs ≤ M := by
  obtain ⟨h1, _, h3⟩ := h.parts hD
  rw [Int.natAbs_mul, Int.natAbs_natCast] at h3
  have : 0 < D / p.den := Nat.div_pos (Nat.le_of_dvd hD h1) p.den_pos
  exact Nat.le_trans (Nat.le_mul_of_pos_right _ this) h3
theorem Sm.den_le {D M : Nat} {p : Rat} (h : Sm D M p) (hD : 0 < D) : p.den ≤ D := Nat.le_of_dvd hD (h.parts hD).1

theorem divInt_same {p q : Rat} {A B L : Int} (hp : p = Rat.divInt A L) (hq : q = Rat.divInt B L) : p + q = Rat.divInt (A + B) L := by
  rw [hp, hq, Rat.divInt_eq_div, Rat.divInt_eq_div, Rat.divInt_eq_div, Rat.intCast_add, Rat.div_def, Rat.div_def, Rat.div_def]
  generalize ((L : Int) : Rat)⁻¹ = x
  grind
/-- What a sum is reckoned with. -/
theorem plus_facts {p q : Rat} {D M : Nat} {a b c d : Int} (hp : Fr p a b) (hq : Fr q c d) (sp : Sm D M p) (sq : Sm D M q) (hD : 0 < D) :
    ∃ g x y z l u v : Int, ((Nat.gcd b.natAbs d.natAbs : Nat) : Int) = g ∧ 1 ≤ g ∧ b.tdiv g = x ∧ x * d = l ∧ l.tdiv b = y ∧ l.tdiv d = z ∧ a * y = u ∧ c * z = v ∧
      (1 ≤ x ∧ x ≤ D) ∧ (1 ≤ l ∧ l ≤ D) ∧ (1 ≤ y ∧ y ≤ D) ∧ (1 ≤ z ∧ z ≤ D) ∧ (-(M : Int) ≤ u ∧ u ≤ M) ∧ (-(M : Int) ≤ v ∧ v ≤ M) ∧ Rat.divInt (u + v) l = p + q := by
  obtain ⟨p1, p2, p3⟩ := sp.parts hD
  obtain ⟨q1, q2, q3⟩ := sq.parts hD
  obtain ⟨rfl, rfl⟩ := hp
  obtain ⟨rfl, rfl⟩ := hq
  have hb := p.den_pos; have hd := q.den_pos
  have hg := Nat.gcd_pos_of_pos_left q.den hb
  obtain ⟨x, hx⟩ := Nat.gcd_dvd_left p.den q.den
  obtain ⟨z', hz'⟩ := Nat.gcd_dvd_right p.den q.den
  obtain ⟨g, hgg⟩ : ∃ g, Nat.gcd p.den q.den = g := ⟨_, rfl⟩
  rw [hgg] at hx hz' hg
  have hx0 : 0 < x := by rcases Nat.eq_zero_or_pos x with h | h; (subst h; omega); exact h
  have hz0 : 0 < z' := by rcases Nat.eq_zero_or_pos z' with h | h; (subst h; omega); exact h
  have hl : x * q.den = Nat.lcm p.den q.den := by
    unfold Nat.lcm; rw [hgg, hx, Nat.mul_assoc, Nat.mul_div_cancel_left _ hg]
  have hl2 : z' * p.den = x * q.den := by
    rw [hx, hz']; grind
  have hlD : x * q.den ∣ D := by rw [hl]; exact Nat.lcm_dvd p1 q1
  have hlp : 0 < x * q.den := Nat.mul_pos hx0 hd
  have hle := Nat.le_of_dvd hD hlD
  have hzx : z' ≤ x * q.den := by rw [← hl2]; exact Nat.le_mul_of_pos_right _ hb
  have hxx : x ≤ x * q.den := Nat.le_mul_of_pos_right _ hd
  obtain ⟨e, he⟩ := hlD
  have he0 : 0 < e := by rcases Nat.eq_zero_or_pos e with h | h; (subst h; omega); exact h
  have b1 : (p.num * (z' : Int)).natAbs ≤ M := by
    have e1 : D / p.den = z' * e := by rw [he, ← hl2, Nat.mul_comm z', Nat.mul_assoc]; exact Nat.mul_div_cancel_left _ hb
    rw [e1, Int.natAbs_mul, Int.natAbs_natCast, ← Nat.mul_assoc] at p3
    rw [Int.natAbs_mul, Int.natAbs_natCast]
    exact Nat.le_trans (Nat.le_mul_of_pos_right _ he0) p3
  have b2 : (q.num * (x : Int)).natAbs ≤ M := by
    have e1 : D / q.den = x * e := by rw [he, Nat.mul_comm x, Nat.mul_assoc]; exact Nat.mul_div_cancel_left _ hd
    rw [e1, Int.natAbs_mul, Int.natAbs_natCast, ← Nat.mul_assoc] at q3
    rw [Int.natAbs_mul, Int.natAbs_natCast]
    exact Nat.le_trans (Nat.le_mul_of_pos_right _ he0) q3
  refine ⟨g, x, z', x, (x * q.den : Nat), p.num * z', q.num * x, ?_, by omega, ?_, Int.natCast_mul .., ?_, ?_, rfl, rfl, ⟨by omega, by omega⟩, ⟨by omega, by omega⟩, ⟨by omega, by omega⟩, ⟨by omega, by omega⟩, ⟨by omega, by omega⟩, ⟨by omega, by omega⟩, ?_⟩
  · rw [Int.natAbs_natCast, Int.natAbs_natCast, hgg]
  · rw [hx, Int.natCast_mul]; exact Int.mul_tdiv_cancel_left _ (by omega)
  · rw [← hl2, Int.natCast_mul]; exact Int.mul_tdiv_cancel _ (by omega)
  · rw [Int.natCast_mul]; exact Int.mul_tdiv_cancel _ (by omega)
  · have hlz : ((x * q.den : Nat) : Int) ≠ 0 := by omega
    have hpe : p = Rat.divInt (p.num * z') (x * q.den : Nat) := by
      conv => lhs; rw [← Rat.num_divInt_den p]
      rw [Rat.divInt_eq_divInt_iff (by omega) hlz, ← hl2, Int.natCast_mul]; grind
    have hqe : q = Rat.divInt (q.num * x) (x * q.den : Nat) := by
      conv => lhs; rw [← Rat.num_divInt_den q]
      rw [Rat.divInt_eq_divInt_iff (by omega) hlz, Int.natCast_mul]; grind
    exact (divInt_same hpe hqe).symm

theorem plus_q {p q r : Rat} {D M : Nat} {a b c d n m : Int} (w : World) (hp : Hid (Fr p a b)) (hq : Hid (Fr q c d)) (sp : Hid (Sm D M p)) (sq : Hid (Sm D M q)) (hD : Hid (0 < D ∧ D ≤ 9000000000000000000 ∧ M ≤ 4000000000000000000)) (hr : Hid (p + q = r)) (hf : Hid (Fr r n m)) :
    Calls Try.prog 53 #[.agg #[.int .i64 a, .int .i64 b], .agg #[.int .i64 c, .int .i64 d]] w fun e w' => e = .returned (.agg #[.int .i64 n, .int .i64 m]) ∧ Below w.heap.size w w' := by
  obtain ⟨d1, d2, d3⟩ := hD.out
  obtain ⟨g, x, y, z, l, u, v, hg, hg1, hx, hl, hy, hz, hu, hv, hxb, hlb, hyb, hzb, hub, hvb, hs⟩ := plus_facts hp.out hq.out sp.out sq.out d1
  have hb := hp.out.pos; have hd := hq.out.pos
  have hbD := sp.out.den_le d1; have hdD := sq.out.den_le d1
  rw [← Int.ofNat_le] at hbD hdD
  rw [hp.out.2] at hbD; rw [hq.out.2] at hdD
  exact plus_any a b c d w ⟨by omega, by omega⟩ ⟨by omega, by omega⟩ g x y z l u v (u + v) (hide hg) hg1 hx hl hy hz hu hv rfl ⟨by omega, by omega⟩ ⟨by omega, by omega⟩ ⟨by omega, by omega⟩ ⟨by omega, by omega⟩ ⟨by omega, by omega⟩ ⟨by omega, by omega⟩ n m (hide (by rw [hs, hr.out]; exact hf.out))
theorem RPlus_q {p q r : Rat} {D M : Nat} {a b c d n m : Int} (w : World) (hp : Hid (Fr p a b)) (hq : Hid (Fr q c d)) (sp : Hid (Sm D M p)) (sq : Hid (Sm D M q)) (hD : Hid (0 < D ∧ D ≤ 9000000000000000000 ∧ M ≤ 4000000000000000000)) (hr : Hid (p + q = r)) (hf : Hid (Fr r n m)) :
    Calls Try.prog 57 #[.agg #[.int .i64 a, .int .i64 b], .agg #[.int .i64 c, .int .i64 d]] w fun e w' => e = .returned (.agg #[.int .i64 n, .int .i64 m]) ∧ Below w.heap.size w w' := by
  obtain ⟨d1, d2, d3⟩ := hD.out
  obtain ⟨g, x, y, z, l, u, v, hg, hg1, hx, hl, hy, hz, hu, hv, hxb, hlb, hyb, hzb, hub, hvb, hs⟩ := plus_facts hp.out hq.out sp.out sq.out d1
  have hb := hp.out.pos; have hd := hq.out.pos
  have hbD := sp.out.den_le d1; have hdD := sq.out.den_le d1
  rw [← Int.ofNat_le] at hbD hdD
  rw [hp.out.2] at hbD; rw [hq.out.2] at hdD
  exact RPlus_any a b c d w ⟨by omega, by omega⟩ ⟨by omega, by omega⟩ g x y z l u v (u + v) (hide hg) hg1 hx hl hy hz hu hv rfl ⟨by omega, by omega⟩ ⟨by omega, by omega⟩ ⟨by omega, by omega⟩ ⟨by omega, by omega⟩ ⟨by omega, by omega⟩ ⟨by omega, by omega⟩ n m (hide (by rw [hs, hr.out]; exact hf.out))

theorem mulZ {D E : Nat} {p q : Rat} {a b c d : Int} {M M' : Nat} (hp : Fr p a b) (hq : Fr q c d) (sp : Sm D M p) (sq : Sm E M' q) (hD : 0 < D) (hE : 0 < E) (h1 : D * E ≤ 9000000000000000000) (h2 : M * M' ≤ 9000000000000000000) :
    (-9000000000000000000 ≤ a * c ∧ a * c ≤ 9000000000000000000) ∧ (1 ≤ b * d ∧ b * d ≤ 9000000000000000000) ∧ Rat.divInt (a * c) (b * d) = p * q := by
  have hb := hp.pos; have hd := hq.pos
  have n1 := sp.num_le hD; have n2 := sq.num_le hE
  have m1 := sp.den_le hD; have m2 := sq.den_le hE
  rw [hp.1] at n1; rw [hq.1] at n2
  have b2 : b = p.den := hp.2.symm
  have d2 : d = q.den := hq.2.symm
  have k1 : (a * c).natAbs ≤ M * M' := by rw [Int.natAbs_mul]; exact Nat.mul_le_mul n1 n2
  have k2 : p.den * q.den ≤ D * E := Nat.mul_le_mul m1 m2
  have k3 : 0 < p.den * q.den := Nat.mul_pos p.den_pos q.den_pos
  have k4 : b * d = ((p.den * q.den : Nat) : Int) := by rw [b2, d2, Int.natCast_mul]
  refine ⟨⟨by omega, by omega⟩, ⟨by omega, by omega⟩, ?_⟩
  rw [← Rat.divInt_mul_divInt, ← hp.eq, ← hq.eq]
theorem times_q {p q r : Rat} {D E M M' : Nat} {a b c d n m : Int} (w : World) (hp : Hid (Fr p a b)) (hq : Hid (Fr q c d)) (sp : Hid (Sm D M p)) (sq : Hid (Sm E M' q)) (hD : Hid (0 < D ∧ 0 < E ∧ D * E ≤ 9000000000000000000 ∧ M * M' ≤ 9000000000000000000)) (hr : Hid (p * q = r)) (hf : Hid (Fr r n m)) :
    Calls Try.prog 54 #[.agg #[.int .i64 a, .int .i64 b], .agg #[.int .i64 c, .int .i64 d]] w fun e w' => e = .returned (.agg #[.int .i64 n, .int .i64 m]) ∧ Below w.heap.size w w' := by
  obtain ⟨d1, d2, d3, d4⟩ := hD.out
  obtain ⟨h1, h2, h3⟩ := mulZ hp.out hq.out sp.out sq.out d1 d2 d3 d4
  exact times_any a b c d w h1 ⟨by omega, by omega⟩ (by omega) n m (hide (by rw [h3, hr.out]; exact hf.out))
theorem RTimes_q {p q r : Rat} {D E M M' : Nat} {a b c d n m : Int} (w : World) (hp : Hid (Fr p a b)) (hq : Hid (Fr q c d)) (sp : Hid (Sm D M p)) (sq : Hid (Sm E M' q)) (hD : Hid (0 < D ∧ 0 < E ∧ D * E ≤ 9000000000000000000 ∧ M * M' ≤ 9000000000000000000)) (hr : Hid (p * q = r)) (hf : Hid (Fr r n m)) :
    Calls Try.prog 58 #[.agg #[.int .i64 a, .int .i64 b], .agg #[.int .i64 c, .int .i64 d]] w fun e w' => e = .returned (.agg #[.int .i64 n, .int .i64 m]) ∧ Below w.heap.size w w' := by
  obtain ⟨d1, d2, d3, d4⟩ := hD.out
  obtain ⟨h1, h2, h3⟩ := mulZ hp.out hq.out sp.out sq.out d1 d2 d3 d4
  exact RTimes_any a b c d w h1 h2 n m (hide (by rw [h3, hr.out]; exact hf.out))

/-- The part of a way between whole numbers. -/
theorem part_q {p r : Rat} {a b f t n m : Int} (w : World) (hp : Hid (Fr p a b)) (hab : -1000 ≤ a ∧ a ≤ 1000) (hb : b ≤ 1000) (hf : -1000 ≤ f ∧ f ≤ 1000) (ht : -1000 ≤ t ∧ t ≤ 1000) (hr : Hid (wt (f : Rat) (t : Rat) p = r)) (hn : Hid (Fr r n m)) :
    Calls Try.prog 71 #[.agg #[.int .i64 a, .int .i64 b], .int .i64 f, .int .i64 t] w fun e w' => e = .returned (.agg #[.int .i64 n, .int .i64 m]) ∧ Below w.heap.size w w' := by
  by_cases h : f = t
  · subst h
    have e : r = 0 := by rw [← hr.out, wt, if_pos rfl]
    have h1 := hn.out.1; have h2 := hn.out.2
    rw [e] at h1 h2
    have e1 : n = 0 := by rw [← h1]; rfl
    have e2 : m = 1 := by rw [← h2]; rfl
    subst e1 e2
    exact part_none a b f w
  · have hb0 := hp.out.pos
    have k1 := mul_bd (M := 1000) (N := 1000) hf (show -1000 ≤ b ∧ b ≤ 1000 by omega)
    have k2 := mul_bd (M := 1000) (N := 2000) (show -1000 ≤ b ∧ b ≤ 1000 by omega) (show -2000 ≤ t - f ∧ t - f ≤ 2000 by omega)
    have hv0 : b * (t - f) ≠ 0 := by
      intro e
      rcases Int.mul_eq_zero.1 e with e | e <;> omega
    refine part_some a b f t w h _ _ _ _ rfl rfl rfl rfl (by omega) (by omega) (by omega) (by omega) hv0 n m (hide ?_)
    have e : Rat.divInt (a - f * b) (b * (t - f)) = r := by
      rw [← hr.out, wt, if_neg (by rw [Rat.intCast_inj]; exact h)]
      have hpe : p = (a : Rat) * (b : Rat)⁻¹ := by rw [hp.out.eq, Rat.divInt_eq_div, Rat.div_def]
      have hbn : (b : Rat) ≠ 0 := by intro e; rw [Rat.intCast_eq_zero_iff] at e; omega
      have hdn : (t : Rat) - (f : Rat) ≠ 0 := by rw [← Rat.intCast_sub]; intro e; rw [Rat.intCast_eq_zero_iff] at e; omega
      rw [Rat.divInt_eq_div, Rat.intCast_sub, Rat.intCast_mul, Rat.intCast_mul, Rat.intCast_sub, hpe, Rat.div_def, Rat.div_def]
      grind
    rw [e]; exact hn.out
end Go.Proofs.Ytdbflcfjjoocgaa
