/-
  What is got in steps.
-/
import Derived.Test.YtbgfiejaehpffaaBase
namespace Go.Proofs.Ytbgfiejaehpffaa

/-- What the one who offers first gets in n steps, when r is left of it at each. -/
def stp (r : Rat) : Nat → Rat
  | 0 => 1
  | n + 1 => 1 - r * stp r n
theorem stp_bd {r : Rat} (h0 : 0 ≤ r) (h1 : r ≤ 1) : ∀ n, 0 ≤ stp r n ∧ stp r n ≤ 1
  | 0 => by unfold stp; grind
  | n + 1 => by
    obtain ⟨a, b⟩ := stp_bd h0 h1 n
    have e1 := Rat.mul_nonneg h0 a
    have e2 := Rat.mul_nonneg h0 (show 0 ≤ 1 - stp r n by grind)
    unfold stp
    constructor <;> grind
theorem stp_alt {r F : Rat} (hF : F = 1 - r * F) (h0 : 0 ≤ r) (hF1 : F ≤ 1) : ∀ n, (n % 2 = 0 → F ≤ stp r n) ∧ (n % 2 = 1 → stp r n ≤ F)
  | 0 => ⟨fun _ => hF1, fun h => by omega⟩
  | n + 1 => by
    have ih := stp_alt hF h0 hF1 n
    constructor
    · intro h
      have e1 := ih.2 (by omega)
      have e2 := Rat.mul_nonneg h0 (show 0 ≤ F - stp r n by grind)
      unfold stp; grind
    · intro h
      have e1 := ih.1 (by omega)
      have e2 := Rat.mul_nonneg h0 (show 0 ≤ stp r n - F by grind)
      unfold stp; grind
theorem stp_two {r F : Rat} (hF : F = 1 - r * F) (h0 : 0 ≤ r) (h1 : r ≤ 1) (n : Nat) : (F ≤ stp r n → stp r (n + 2) ≤ stp r n) ∧ (stp r n ≤ F → stp r n ≤ stp r (n + 2)) := by
  have e : stp r (n + 2) = 1 - r * (1 - r * stp r n) := rfl
  have k := Rat.mul_nonneg (show 0 ≤ 1 - r by grind) (show 0 ≤ 1 + r by grind)
  have i : ∀ s : Rat, (1 - r) * (1 + r) * (s - F) = s - (1 - r * (1 - r * s)) := by
    intro s
    have a1 : (1 - r) * (1 + r) * (s - F) = (1 - r) * ((1 + r) * s - (F + r * F)) := by grind
    rw [a1, show F + r * F = 1 by grind]; grind
  have i2 : ∀ s : Rat, (1 - r) * (1 + r) * (F - s) = (1 - r * (1 - r * s)) - s := by
    intro s
    have a1 : (1 - r) * (1 + r) * (F - s) = (1 - r) * ((F + r * F) - (1 + r) * s) := by grind
    rw [a1, show F + r * F = 1 by grind]; grind
  constructor
  · intro h
    have e2 := Rat.mul_nonneg k (show 0 ≤ stp r n - F by grind)
    rw [i] at e2
    rw [e]; grind
  · intro h
    have e2 := Rat.mul_nonneg k (show 0 ≤ F - stp r n by grind)
    rw [i2] at e2
    rw [e]; grind
end Go.Proofs.Ytbgfiejaehpffaa
