/-
  Sets of squares as numbers: their bits; what a line settles, plain: as the program reckons it, and as the reference does.
-/
import Derived.Test.YtjhicbiacnkpaaaDoorM1
import Derived.Laws.Bits64b
import Derived.IntWalk
namespace Go.Proofs.YtjhicbiacnkpaaaDoor
open Go.RowKit

/-- a without b. -/
def ndn (a b : Nat) : Nat := a ^^^ (a &&& b)
theorem ndn_bit (a b i : Nat) : (ndn a b).testBit i = (a.testBit i && !b.testBit i) := by
  unfold ndn
  rw [Nat.testBit_xor, Nat.testBit_and]
  cases a.testBit i <;> cases b.testBit i <;> rfl
theorem le_of_bits {a b : Nat} (h : a &&& b = a) : a ≤ b := by rw [← h]; exact Nat.and_le_right
theorem ndn_and (a b : Nat) : ndn a b &&& a = ndn a b := by
  apply Nat.eq_of_testBit_eq; intro i
  rw [Nat.testBit_and, ndn_bit]
  cases a.testBit i <;> cases b.testBit i <;> rfl
theorem ndn_le (a b : Nat) : ndn a b ≤ a := le_of_bits (ndn_and a b)
theorem and_n (a b : Nat) (ha : a ≤ 4611686018427387904) (hb : b ≤ 4611686018427387904) : bits BinOp.and IntKind.i64 (a : Int) (b : Int) = ((a &&& b : Nat) : Int) := by
  have hx : a &&& b ≤ a := Nat.and_le_left
  have h1 : (BitVec.ofInt 64 (a : Int)).toNat = a := by
    rw [BitVec.ofInt_natCast, BitVec.toNat_ofNat]; exact Nat.mod_eq_of_lt (by omega)
  have h2 : (BitVec.ofInt 64 (b : Int)).toNat = b := by
    rw [BitVec.ofInt_natCast, BitVec.toNat_ofNat]; exact Nat.mod_eq_of_lt (by omega)
  show IntKind.i64.wrap ((BitVec.ofInt 64 (a : Int) &&& BitVec.ofInt 64 (b : Int)).toNat : Int) = _
  rw [BitVec.toNat_and, h1, h2, IntKind.wrap_i64]
  omega
theorem or_lt {a b : Nat} (ha : a < 4611686018427387904) (hb : b < 4611686018427387904) : a ||| b < 4611686018427387904 :=
  Nat.or_lt_two_pow (n := 62) ha hb
theorem or_n (a b : Nat) (ha : a < 4611686018427387904) (hb : b < 4611686018427387904) : bits BinOp.or IntKind.i64 (a : Int) (b : Int) = ((a ||| b : Nat) : Int) := by
  have hx := or_lt ha hb
  have h1 : (BitVec.ofInt 64 (a : Int)).toNat = a := by
    rw [BitVec.ofInt_natCast, BitVec.toNat_ofNat]; exact Nat.mod_eq_of_lt (by omega)
  have h2 : (BitVec.ofInt 64 (b : Int)).toNat = b := by
    rw [BitVec.ofInt_natCast, BitVec.toNat_ofNat]; exact Nat.mod_eq_of_lt (by omega)
  show IntKind.i64.wrap ((BitVec.ofInt 64 (a : Int) ||| BitVec.ofInt 64 (b : Int)).toNat : Int) = _
  rw [BitVec.toNat_or, h1, h2, IntKind.wrap_i64]
  omega
theorem andNot_n (a b : Nat) (ha : a ≤ 4611686018427387904) (hb : b ≤ 4611686018427387904) : bits BinOp.andNot IntKind.i64 (a : Int) (b : Int) = ((ndn a b : Nat) : Int) := by
  have hx := ndn_le a b
  have h1 : (BitVec.ofInt 64 (a : Int)) = BitVec.ofNat 64 a := by rw [BitVec.ofInt_natCast]
  have h2 : (BitVec.ofInt 64 (b : Int)) = BitVec.ofNat 64 b := by rw [BitVec.ofInt_natCast]
  show IntKind.i64.wrap ((BitVec.ofInt 64 (a : Int) &&& ~~~ BitVec.ofInt 64 (b : Int)).toNat : Int) = _
  have e : (BitVec.ofInt 64 (a : Int) &&& ~~~ BitVec.ofInt 64 (b : Int)).toNat = ndn a b := by
    apply Nat.eq_of_testBit_eq; intro i
    rw [h1, h2, BitVec.testBit_toNat, BitVec.getLsbD_and, BitVec.getLsbD_not, BitVec.getLsbD_ofNat, BitVec.getLsbD_ofNat, ndn_bit]
    rcases Nat.lt_or_ge i 64 with hi | hi
    · simp [hi]
    · have : a.testBit i = false := Nat.testBit_lt_two_pow (Nat.lt_of_lt_of_le (by omega : a < 2 ^ 64) (Nat.pow_le_pow_right (by omega) hi))
      simp [this]
  rw [e, IntKind.wrap_i64]
  omega

/-- A way agrees with what is known. -/
def agB (f e s y : Nat) : Bool := decide (y &&& e = 0) && decide (ndn s y &&& f = 0)
/-- What the first k ways settle: what is filled in all, what is empty in all, and whether there is one. -/
def stT (s f e : Nat) (xs : List Int) : Nat → Nat × Nat × Bool
  | 0 => (s, s, false)
  | k + 1 => if agB f e s (nth xs k).toNat then ((stT s f e xs k).1 &&& (nth xs k).toNat, ndn (stT s f e xs k).2.1 (nth xs k).toNat, true) else stT s f e xs k
theorem stT_yes {s f e : Nat} {xs : List Int} {k : Nat} (h : agB f e s (nth xs k).toNat = true) : stT s f e xs (k + 1) = ((stT s f e xs k).1 &&& (nth xs k).toNat, ndn (stT s f e xs k).2.1 (nth xs k).toNat, true) := by
  show (if _ then _ else _) = _
  rw [if_pos h]
theorem stT_no {s f e : Nat} {xs : List Int} {k : Nat} (h : agB f e s (nth xs k).toNat = false) : stT s f e xs (k + 1) = stT s f e xs k := by
  show (if _ then _ else _) = _
  rw [if_neg (by rw [h]; decide)]
theorem stT_le (s f e : Nat) (xs : List Int) : ∀ k, (stT s f e xs k).1 ≤ s ∧ (stT s f e xs k).2.1 ≤ s := by
  intro k
  induction k with
  | zero => exact ⟨Nat.le_refl _, Nat.le_refl _⟩
  | succ k ih =>
    cases h : agB f e s (nth xs k).toNat with
    | true => rw [stT_yes h]; exact ⟨Nat.le_trans Nat.and_le_left ih.1, Nat.le_trans (ndn_le _ _) ih.2⟩
    | false => rw [stT_no h]; exact ih
end Go.Proofs.YtjhicbiacnkpaaaDoor
