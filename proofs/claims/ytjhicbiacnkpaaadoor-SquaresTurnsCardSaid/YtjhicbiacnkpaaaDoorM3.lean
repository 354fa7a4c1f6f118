/-
  What a line settles, the reference's way; it is the program's.
-/
import Derived.Test.YtjhicbiacnkpaaaDoorM2
import Derived.Test.YtjhicbiacnkpaaaDoorW8
namespace Go.Proofs.YtjhicbiacnkpaaaDoor
open Go.RowKit

def agR (f e y : Nat) : Bool := decide (y &&& f = f) && decide (y &&& e = 0)
def rtT (s f e : Nat) (xs : List Int) : Nat → Nat × Nat × Bool
  | 0 => (s, s, false)
  | k + 1 => if agR f e (nth xs k).toNat then ((rtT s f e xs k).1 &&& (nth xs k).toNat, (rtT s f e xs k).2.1 &&& ndn s (nth xs k).toNat, true) else rtT s f e xs k
theorem rtT_yes {s f e : Nat} {xs : List Int} {k : Nat} (h : agR f e (nth xs k).toNat = true) : rtT s f e xs (k + 1) = ((rtT s f e xs k).1 &&& (nth xs k).toNat, (rtT s f e xs k).2.1 &&& ndn s (nth xs k).toNat, true) := by
  show (if _ then _ else _) = _
  rw [if_pos h]
theorem rtT_no {s f e : Nat} {xs : List Int} {k : Nat} (h : agR f e (nth xs k).toNat = false) : rtT s f e xs (k + 1) = rtT s f e xs k := by
  show (if _ then _ else _) = _
  rw [if_neg (by rw [h]; decide)]
def rtR (s f e : Nat) (xs : List Int) (n : Nat) : Nat × Nat × Bool :=
  if (rtT s f e xs n).2.2 = true then ((rtT s f e xs n).1, (rtT s f e xs n).2.1, true) else (0, 0, false)

/-- a is part of b. -/
def sub_ (a b : Nat) : Prop := ∀ i, a.testBit i = true → b.testBit i = true
theorem sub_and {a b : Nat} (h : sub_ a b) : b &&& a = a := by
  apply Nat.eq_of_testBit_eq; intro i
  have := h i
  rw [Nat.testBit_and]
  cases ha : a.testBit i with
  | false => simp
  | true => rw [this ha]; rfl
theorem sub_of {a b : Nat} (h : b &&& a = a) : sub_ a b := fun i hi => by
  rw [← h, Nat.testBit_and, Bool.and_eq_true] at hi
  exact hi.1
theorem zero_bits {a : Nat} (h : a = 0) (i : Nat) : a.testBit i = false := by rw [h]; exact Nat.zero_testBit i
theorem bits_zero {a : Nat} (h : ∀ i, a.testBit i = false) : a = 0 := Nat.eq_of_testBit_eq fun i => by rw [h i, Nat.zero_testBit]
theorem agR_eq {s f e y : Nat} (hf : sub_ f s) : agB f e s y = agR f e y := by
  unfold agB agR
  rw [Bool.and_comm]
  congr 1
  rw [decide_eq_decide]
  constructor
  · intro h
    refine sub_and fun i hi => ?_
    have := zero_bits h i
    rw [Nat.testBit_and, ndn_bit, hf i hi, hi] at this
    simpa using this
  · intro h
    refine bits_zero fun i => ?_
    rw [Nat.testBit_and, ndn_bit]
    cases hi : f.testBit i with
    | false => simp
    | true => rw [sub_of h i hi]; simp
theorem ndn_sub {b s y : Nat} (h : sub_ b s) : ndn b y = b &&& ndn s y := by
  apply Nat.eq_of_testBit_eq; intro i
  rw [Nat.testBit_and, ndn_bit, ndn_bit]
  cases hb : b.testBit i with
  | false => simp
  | true => rw [h i hb]; rfl
theorem or_sub {a f : Nat} (h : sub_ f a) : f ||| a = a := by
  apply Nat.eq_of_testBit_eq; intro i
  rw [Nat.testBit_or]
  cases hf : f.testBit i with
  | false => simp
  | true => rw [h i hf]; rfl
theorem ndn_part {b y s : Nat} (h : sub_ b s) : sub_ (ndn b y) s := fun i hi => by
  rw [ndn_bit, Bool.and_eq_true] at hi
  exact h i hi.1
theorem rt_st {s f e : Nat} {xs : List Int} (hf : sub_ f s) : ∀ k, rtT s f e xs k = stT s f e xs k ∧ sub_ (stT s f e xs k).2.1 s := by
  intro k
  induction k with
  | zero => exact ⟨rfl, fun i h => h⟩
  | succ k ih =>
    obtain ⟨h1, h2⟩ := ih
    cases h : agB f e s (nth xs k).toNat with
    | true =>
      rw [stT_yes h, rtT_yes (by rw [← agR_eq hf]; exact h), h1, ndn_sub h2]
      exact ⟨rfl, by rw [← ndn_sub h2]; exact ndn_part h2⟩
    | false => rw [stT_no h, rtT_no (by rw [← agR_eq hf]; exact h)]; exact ⟨h1, h2⟩
theorem st_sub {s f e : Nat} {xs : List Int} (hf : sub_ f s) (he : sub_ e s) : ∀ k, sub_ f (stT s f e xs k).1 ∧ sub_ e (stT s f e xs k).2.1 := by
  intro k
  induction k with
  | zero => exact ⟨hf, he⟩
  | succ k ih =>
    obtain ⟨h1, h2⟩ := ih
    cases h : agB f e s (nth xs k).toNat with
    | true =>
      rw [stT_yes h]
      have h' := h
      unfold agB at h
      rw [Bool.and_eq_true, decide_eq_true_eq, decide_eq_true_eq] at h
      rw [agR_eq hf] at h'
      unfold agR at h'
      rw [Bool.and_eq_true, decide_eq_true_eq, decide_eq_true_eq] at h'
      refine ⟨fun i hi => ?_, fun i hi => ?_⟩
      · rw [Nat.testBit_and, h1 i hi, sub_of h'.1 i hi]; rfl
      · have := zero_bits h.1 i
        rw [Nat.testBit_and, hi] at this
        rw [ndn_bit, h2 i hi]
        simpa using this
    | false => rw [stT_no h]; exact ⟨h1, h2⟩
theorem rtR_eq {s f e : Nat} {xs : List Int} (hf : sub_ f s) (he : sub_ e s) (n : Nat) : stR s f e xs n = rtR s f e xs n := by
  unfold stR rtR
  rw [(rt_st hf n).1]
  split
  · rw [or_sub (st_sub hf he n).1, or_sub (st_sub hf he n).2]
  · rfl
theorem sub_set {m s f : Nat} (hs : s + 1 = 2 ^ m) (hf : f < 2 ^ m) : sub_ f s := by
  obtain rfl : s = 2 ^ m - 1 := by omega
  refine sub_of ?_
  rw [Nat.and_comm, Nat.and_two_pow_sub_one_eq_mod, Nat.mod_eq_of_lt hf]
end Go.Proofs.YtjhicbiacnkpaaaDoor
