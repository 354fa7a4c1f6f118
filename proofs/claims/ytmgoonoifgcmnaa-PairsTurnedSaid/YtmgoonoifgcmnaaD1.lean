/-
  Sets of numbers as one number: their bits.
-/
import Derived.Test.YtmgoonoifgcmnaaW5
import Derived.Laws.Bits64b
import Derived.IntWalk
namespace Go.Proofs.Ytmgoonoifgcmnaa
open Go.RowKit

theorem and_n (a b : Nat) (ha : a ≤ 4611686018427387904) (hb : b ≤ 4611686018427387904) : bits BinOp.and IntKind.i64 (a : Int) (b : Int) = ((a &&& b : Nat) : Int) := by
  have hx : a &&& b ≤ a := Nat.and_le_left
  have h1 : (BitVec.ofInt 64 (a : Int)).toNat = a := by
    rw [BitVec.ofInt_natCast, BitVec.toNat_ofNat]; exact Nat.mod_eq_of_lt (by omega)
  have h2 : (BitVec.ofInt 64 (b : Int)).toNat = b := by
    rw [BitVec.ofInt_natCast, BitVec.toNat_ofNat]; exact Nat.mod_eq_of_lt (by omega)
  show IntKind.i64.wrap ((BitVec.ofInt 64 (a : Int) &&& BitVec.ofInt 64 (b : Int)).toNat : Int) = _
  rw [BitVec.toNat_and, h1, h2, IntKind.wrap_i64]
  omega
theorem or_lt {a b : Nat} (ha : a < 4611686018427387904) (hb : b < 4611686018427387904) : a ||| b < 4611686018427387904 :=
  Nat.or_lt_two_pow (n := 62) ha hb
theorem or_n (a b : Nat) (ha : a < 4611686018427387904) (hb : b < 4611686018427387904) : bits BinOp.or IntKind.i64 (a : Int) (b : Int) = ((a ||| b : Nat) : Int) := by
  have hx := or_lt ha hb
  have h1 : (BitVec.ofInt 64 (a : Int)).toNat = a := by
    rw [BitVec.ofInt_natCast, BitVec.toNat_ofNat]; exact Nat.mod_eq_of_lt (by omega)
  have h2 : (BitVec.ofInt 64 (b : Int)).toNat = b := by
    rw [BitVec.ofInt_natCast, BitVec.toNat_ofNat]; exact Nat.mod_eq_of_lt (by omega)
  show IntKind.i64.wrap ((BitVec.ofInt 64 (a : Int) ||| BitVec.ofInt 64 (b : Int)).toNat : Int) = _
  rw [BitVec.toNat_or, h1, h2, IntKind.wrap_i64]
  omega
theorem pow_lt {y : Nat} (h : y ≤ 20) : 2 ^ y ≤ 1048576 := by
  have : (2 : Nat) ^ y ≤ 2 ^ 20 := Nat.pow_le_pow_right (by omega) h
  exact this
/-- What 'met >> y & 1' and 'met | 1 << y' are. -/
theorem bit_step (M y : Nat) (hM : M < 2097152) (hy : y ≤ 20) : ∃ e r q : Nat, (M : Int) / 2 ^ y = (e : Int) ∧ bits BinOp.and IntKind.i64 (e : Int) 1 = (r : Int) ∧ Hid (r = if M.testBit y then 1 else 0) ∧ ((2 : Int) ^ y = (q : Int)) ∧ q ≤ 1048576 ∧ bits BinOp.or IntKind.i64 (M : Int) (q : Int) = ((M ||| q : Nat) : Int) ∧ Hid (q = 2 ^ y) ∧ r ≤ 1 ∧ e < 2097152 := by
  have h1 := pow_lt hy
  have he : M / 2 ^ y < 2097152 := Nat.lt_of_le_of_lt (Nat.div_le_self _ _) hM
  refine ⟨M / 2 ^ y, M / 2 ^ y % 2, 2 ^ y, by simp, ?_, hide ?_, by simp, h1, ?_, hide rfl, by omega, he⟩
  · have := and_n (M / 2 ^ y) 1 (by omega) (by omega)
    rw [Nat.and_one_is_mod] at this
    exact this
  · rw [Nat.testBit_eq_decide_div_mod_eq]
    have := Nat.mod_lt (M / 2 ^ y) (show 0 < 2 by omega)
    by_cases h : M / 2 ^ y % 2 = 1
    · simp [h]
    · rw [if_neg (by simpa using h)]; omega
  · exact or_n M (2 ^ y) (by omega) (by omega)
theorem or_small {M q : Nat} (hM : M < 2097152) (hq : q ≤ 1048576) : M ||| q < 2097152 := Nat.or_lt_two_pow (n := 21) hM (by omega)
end Go.Proofs.Ytmgoonoifgcmnaa
