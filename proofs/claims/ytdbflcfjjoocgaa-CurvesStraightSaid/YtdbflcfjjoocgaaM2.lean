/-
  Knots put in: the poles that keep the value at each point.
-/
import Derived.Test.YtdbflcfjjoocgaaM1
namespace Go.Proofs.Ytdbflcfjjoocgaa

/-- The knots with s behind that of index p. -/
def ins (k : Nat → Rat) (p : Nat) (s : Rat) (j : Nat) : Rat := if j ≤ p then k j else if j = p + 1 then s else k (j - 1)
/-- The poles with s as a knot more. -/
def insC (d : Nat) (k : Nat → Rat) (p : Nat) (s : Rat) (c : Nat → Rat) (i : Nat) : Rat := if i + d ≤ p then c i else if i ≤ p then dB k d s c (i - 1) else c (i - 1)

theorem ins_mono {k : Nat → Rat} {p : Nat} {s : Rat} (h : Mono k) (h1 : k p ≤ s) (h2 : s ≤ k (p + 1)) : Mono (ins k p s) := by
  intro i j hij
  unfold ins
  have m1 := fun h' : i ≤ p => h i p h'
  have m2 := fun h' : p + 1 ≤ j - 1 => h (p + 1) (j - 1) h'
  have m3 := h i j hij
  have m4 := fun h' : i - 1 ≤ j - 1 => h (i - 1) (j - 1) h'
  have m5 := fun h' : i ≤ j - 1 => h i (j - 1) h'
  by_cases a1 : i ≤ p
  · rw [if_pos a1]
    by_cases b1 : j ≤ p
    · rw [if_pos b1]; exact m3
    · rw [if_neg b1]
      by_cases b2 : j = p + 1
      · rw [if_pos b2]; have := m1 a1; grind
      · rw [if_neg b2]; exact m5 (by omega)
  · rw [if_neg a1, if_neg (show ¬ j ≤ p by omega)]
    by_cases a2 : i = p + 1
    · rw [if_pos a2]
      by_cases b2 : j = p + 1
      · rw [if_pos b2]; grind
      · rw [if_neg b2]; have := m2 (by omega); grind
    · rw [if_neg a2, if_neg (show ¬ j = p + 1 by omega)]; exact m4 (by omega)
theorem ins_shift (k : Nat → Rat) (p : Nat) (s : Rat) : (fun j => ins k (p + 1) s (j + 1)) = ins (fun j => k (j + 1)) p s := by
  funext j
  unfold ins
  by_cases a1 : j ≤ p
  · rw [if_pos a1, if_pos (by omega)]
  · rw [if_neg a1, if_neg (by omega)]
    by_cases a2 : j = p + 1
    · rw [if_pos a2, if_pos (by omega)]
    · rw [if_neg a2, if_neg (by omega), show j + 1 - 1 = j - 1 + 1 from by omega]
theorem ins_lo {k : Nat → Rat} {p j : Nat} {s : Rat} (h : j ≤ p) : ins k p s j = k j := by unfold ins; rw [if_pos h]
theorem ins_at {k : Nat → Rat} {p : Nat} {s : Rat} : ins k p s (p + 1) = s := by unfold ins; rw [if_neg (by omega), if_pos rfl]
theorem ins_hi {k : Nat → Rat} {p j : Nat} {s : Rat} (h : p + 1 ≤ j) : ins k p s (j + 1) = k j := by unfold ins; rw [if_neg (by omega), if_neg (by omega), Nat.add_sub_cancel]

theorem insC_lo {d p i : Nat} {k c : Nat → Rat} {s : Rat} (h : i + d ≤ p) : insC d k p s c i = c i := by unfold insC; rw [if_pos h]
theorem insC_mid {d p i : Nat} {k c : Nat → Rat} {s : Rat} (h : p < i + 1 + d) (h2 : i + 1 ≤ p) : insC d k p s c (i + 1) = dB k d s c i := by unfold insC; rw [if_neg (by omega), if_pos h2, Nat.add_sub_cancel]
theorem insC_hi {d p i : Nat} {k c : Nat → Rat} {s : Rat} (h : p < i + 1) : insC d k p s c (i + 1) = c i := by unfold insC; rw [if_neg (by omega), if_neg (by omega), Nat.add_sub_cancel]
theorem dB_def (k : Nat → Rat) (r : Nat) (t : Rat) (c : Nat → Rat) (i : Nat) : dB k r t c i = c i + wt (k (i + 1)) (k (i + 1 + r)) t * (c (i + 1) - c i) := rfl

theorem three_step {a s K t c0 c1 : Rat} (h1 : a < K) (h2 : s < K) : (c0 + wt a K s * (c1 - c0)) + wt s K t * (c1 - (c0 + wt a K s * (c1 - c0))) = c0 + wt a K t * (c1 - c0) := by
  have e1 := wt_eq h1 s; have e2 := wt_eq h2 t; have e3 := wt_eq h1 t
  obtain ⟨x, hx⟩ : ∃ x, wt a K s = x := ⟨_, rfl⟩
  obtain ⟨y, hy⟩ : ∃ x, wt s K t = x := ⟨_, rfl⟩
  obtain ⟨z, hz⟩ : ∃ x, wt a K t = x := ⟨_, rfl⟩
  rw [hx] at e1; rw [hy] at e2; rw [hz] at e3
  rw [hx, hy, hz]
  have m1 : K - a ≠ 0 := by grind
  have m2 : K - s ≠ 0 := by grind
  have n1 : x = (s - a) * (K - a)⁻¹ := by grind
  have n2 : y = (t - s) * (K - s)⁻¹ := by grind
  have n3 : z = (t - a) * (K - a)⁻¹ := by grind
  subst n1 n2 n3
  grind
theorem three_step' {a s K t c0 c1 : Rat} (h1 : a < K) (h2 : a < s) : c0 + wt a s t * ((c0 + wt a K s * (c1 - c0)) - c0) = c0 + wt a K t * (c1 - c0) := by
  have e1 := wt_eq h1 s; have e2 := wt_eq h2 t; have e3 := wt_eq h1 t
  obtain ⟨x, hx⟩ : ∃ x, wt a K s = x := ⟨_, rfl⟩
  obtain ⟨y, hy⟩ : ∃ x, wt a s t = x := ⟨_, rfl⟩
  obtain ⟨z, hz⟩ : ∃ x, wt a K t = x := ⟨_, rfl⟩
  rw [hx] at e1; rw [hy] at e2; rw [hz] at e3
  rw [hx, hy, hz]
  have m1 : K - a ≠ 0 := by grind
  have m2 : s - a ≠ 0 := by grind
  have n1 : x = (s - a) * (K - a)⁻¹ := by grind
  have n2 : y = (t - a) * (s - a)⁻¹ := by grind
  have n3 : z = (t - a) * (K - a)⁻¹ := by grind
  subst n1 n2 n3
  grind

/-- At or behind the new knot the value stays. -/
theorem val_ins_right : ∀ d (k c : Nat → Rat) (p b : Nat) (s t : Rat), Mono k → k p ≤ s → s < k (p + 1) → d ≤ p → p ≤ b + d →
    val d (ins k p s) (insC d k p s c) (b + 1) t = val d k c b t := by
  intro d
  induction d with
  | zero =>
    intro k c p b s t _ _ _ _ hb
    simp only [val, insC, Nat.add_zero]
    rw [if_neg (by omega), if_neg (by omega), Nat.add_sub_cancel]
  | succ d ih =>
    intro k c p b s t hm h1 h2 hd hb
    obtain ⟨p', rfl⟩ : ∃ p', p = p' + 1 := ⟨p - 1, by omega⟩
    rw [val, val, ins_shift, ← ih (fun i => k (i + 1)) (dB k (d + 1) t c) p' b s t hm.shift h1 h2 (by omega) (by omega)]
    refine val_ext d _ _ _ _ _ _ (fun _ _ _ => rfl) fun i hi1 hi2 => ?_
    obtain ⟨i, rfl⟩ : ∃ j, i = j + 1 := ⟨i - 1, by omega⟩
    have hlt : ∀ a b, a ≤ p' + 1 → p' + 2 ≤ b → k a < k b := fun a b ha hb => by have := hm a _ ha; have := hm _ b hb; grind
    by_cases a1 : i + 1 ≤ p'
    · rw [insC_mid (d := d) (by omega) a1, dB_def (ins k (p' + 1) s), insC_mid (d := d + 1) (by omega) (by omega), insC_mid (d := d + 1) (by omega) (by omega)]
      rw [ins_lo (by omega), show i + 1 + 1 + (d + 1) = (i + 1 + 1 + d) + 1 from by omega, ins_hi (by omega)]
      rw [dB_comm k c d s t i (hlt _ _ (by omega) (by omega)) (hlt _ _ (by omega) (by omega)) (hlt _ _ (by omega) (by omega))]
      rw [dB_def (fun j => k (j + 1)) d t, show i + 1 + 1 + d = i + 1 + d + 1 from by omega]
    · by_cases a2 : i = p'
      · subst a2
        rw [insC_hi (d := d) (by omega), dB_def (ins k (i + 1) s), insC_mid (d := d + 1) (by omega) (by omega), insC_hi (d := d + 1) (by omega)]
        rw [ins_at, show i + 1 + 1 + (d + 1) = (i + 1 + (d + 1)) + 1 from by omega, ins_hi (by omega)]
        simp only [dB]
        have := hm (i + 2) (i + 1 + (d + 1)) (by omega)
        exact three_step (hlt _ _ (by omega) (by omega)) (by grind)
      · rw [insC_hi (d := d) (by omega), dB_def (ins k (p' + 1) s), insC_hi (d := d + 1) (by omega), insC_hi (d := d + 1) (by omega)]
        rw [show i + 1 + 1 + (d + 1) = (i + 1 + (d + 1)) + 1 from by omega, ins_hi (by omega), ins_hi (by omega)]
        simp only [dB]
/-- Before the new knot the value stays. -/
theorem val_ins_left : ∀ d (k c : Nat → Rat) (p b : Nat) (s t : Rat), Mono k → k p ≤ s → s < k (p + 1) → b + d ≤ p → k (b + d) < s → k (b + d) < k (b + d + 1) →
    val d (ins k p s) (insC d k p s c) b t = val d k c b t := by
  intro d
  induction d with
  | zero =>
    intro k c p b s t _ _ _ hb _ _
    simp only [val, insC, Nat.add_zero]
    simp only [Nat.add_zero] at hb
    rw [if_pos hb]
  | succ d ih =>
    intro k c p b s t hm h1 h2 hb hq hq2
    obtain ⟨p', rfl⟩ : ∃ p', p = p' + 1 := ⟨p - 1, by omega⟩
    rw [val, val, ins_shift, ← ih (fun i => k (i + 1)) (dB k (d + 1) t c) p' b s t hm.shift h1 h2 (by omega) hq hq2]
    refine val_ext d _ _ _ _ _ _ (fun _ _ _ => rfl) fun i hi1 hi2 => ?_
    have hlt : ∀ a e, a ≤ b + d + 1 → b + d + 2 ≤ e → k a < k e := fun a e ha he => by have := hm a _ ha; have := hm _ e he; grind
    have hls : ∀ a, a ≤ b + d + 1 → k a < s := fun a ha => by have := hm a _ ha; grind
    by_cases a1 : i + d ≤ p'
    · rw [insC_lo a1, dB_def (ins k (p' + 1) s), insC_lo (d := d + 1) (by omega)]
      by_cases a2 : i + d = p'
      · subst a2
        rw [insC_mid (d := d + 1) (by omega) (by omega), ins_lo (by omega), show i + 1 + (d + 1) = i + d + 1 + 1 from by omega, ins_at]
        simp only [dB]
        rw [three_step' (hlt _ _ (by omega) (by omega)) (hls _ (by omega))]
      · rw [insC_lo (d := d + 1) (by omega), ins_lo (by omega), ins_lo (by omega)]; rfl
    · obtain ⟨i, rfl⟩ : ∃ j, i = j + 1 := ⟨i - 1, by omega⟩
      rw [insC_mid (d := d) (by omega) (by omega), dB_def (ins k (p' + 1) s), insC_mid (d := d + 1) (by omega) (by omega), insC_mid (d := d + 1) (by omega) (by omega), ins_lo (by omega), show i + 1 + 1 + (d + 1) = (i + 1 + 1 + d) + 1 from by omega, ins_hi (by omega)]
      rw [dB_comm k c d s t i (hlt _ _ (by omega) (by omega)) (hlt _ _ (by omega) (by omega)) (hlt _ _ (by omega) (by omega))]
      rw [dB_def (fun j => k (j + 1)) d t, show i + 1 + 1 + d = i + 1 + d + 1 from by omega]
end Go.Proofs.Ytdbflcfjjoocgaa
