/-
  What a line settles, asked again.
-/
import Derived.Test.YtjhicbiacnkpaaaDoorM3
namespace Go.Proofs.YtjhicbiacnkpaaaDoor
open Go.RowKit

theorem st_mono {s f e : Nat} {xs : List Int} (k : Nat) : sub_ (stT s f e xs (k + 1)).1 (stT s f e xs k).1 ∧ sub_ (stT s f e xs (k + 1)).2.1 (stT s f e xs k).2.1 := by
  cases h : agB f e s (nth xs k).toNat with
  | true =>
    rw [stT_yes h]
    refine ⟨fun i hi => ?_, fun i hi => ?_⟩
    · rw [Nat.testBit_and, Bool.and_eq_true] at hi; exact hi.1
    · rw [ndn_bit, Bool.and_eq_true] at hi; exact hi.1
  | false => rw [stT_no h]; exact ⟨fun i h => h, fun i h => h⟩
theorem st_all {s f e : Nat} {xs : List Int} : ∀ k, ∀ j, j < k → agB f e s (nth xs j).toNat = true → sub_ (stT s f e xs k).1 (nth xs j).toNat ∧ ∀ i, (stT s f e xs k).2.1.testBit i = true → (nth xs j).toNat.testBit i = false := by
  intro k
  induction k with
  | zero => intro j hj; omega
  | succ k ih =>
    intro j hj h
    rcases Nat.lt_or_ge j k with h1 | h1
    · obtain ⟨a, b⟩ := ih j h1 h
      obtain ⟨c, d⟩ := st_mono (s := s) (f := f) (e := e) (xs := xs) k
      exact ⟨fun i hi => a i (c i hi), fun i hi => b i (d i hi)⟩
    · obtain rfl : j = k := by omega
      rw [stT_yes h]
      refine ⟨fun i hi => ?_, fun i hi => ?_⟩
      · rw [Nat.testBit_and, Bool.and_eq_true] at hi; exact hi.2
      · rw [ndn_bit, Bool.and_eq_true] at hi; simpa using hi.2
theorem st_apart {s f e : Nat} {xs : List Int} : ∀ k, (stT s f e xs k).2.2 = true → (stT s f e xs k).1 &&& (stT s f e xs k).2.1 = 0 := by
  intro k
  induction k with
  | zero => intro h; cases h
  | succ k ih =>
    intro hk
    cases h : agB f e s (nth xs k).toNat with
    | true =>
      rw [stT_yes h]
      refine bits_zero fun i => ?_
      rw [Nat.testBit_and, Nat.testBit_and, ndn_bit]
      cases (nth xs k).toNat.testBit i <;> simp
    | false => rw [stT_no h] at hk ⊢; exact ih hk
/-- The ways that agree are the same ones, and so is what they settle. -/
theorem st_again {s f e n a b : Nat} {o : Bool} {xs : List Int} (hf : sub_ f s) (he : sub_ e s) (hn : stT s f e xs n = (a, b, o)) : ∀ k, k ≤ n → stT s a b xs k = stT s f e xs k := by
  have hsub := st_sub (xs := xs) hf he n
  have hrt := (rt_st (e := e) (xs := xs) hf n).2
  rw [hn] at hsub
  have has : sub_ a s := by
    have : ∀ k, sub_ (stT s f e xs k).1 s := by
      intro k
      induction k with
      | zero => exact fun i h => h
      | succ k ih => exact fun i h => ih i ((st_mono k).1 i h)
    have := this n
    rwa [hn] at this
  intro k
  induction k with
  | zero => intro _; rfl
  | succ k ih =>
    intro hk
    have hall := st_all (s := s) (f := f) (e := e) (xs := xs) n k (by omega)
    rw [hn] at hall
    cases h : agB f e s (nth xs k).toNat with
    | true =>
      obtain ⟨h1, h2⟩ := hall h
      have h' : agB a b s (nth xs k).toNat = true := by
        rw [agR_eq has]
        unfold agR
        rw [Bool.and_eq_true, decide_eq_true_eq, decide_eq_true_eq]
        refine ⟨sub_and h1, bits_zero fun i => ?_⟩
        rw [Nat.testBit_and]
        cases hb : b.testBit i with
        | false => simp
        | true => rw [h2 i hb]; rfl
      rw [stT_yes h, stT_yes h', ih (by omega)]
    | false =>
      have h' : agB a b s (nth xs k).toNat = false := by
        cases h3 : agB a b s (nth xs k).toNat with
        | false => rfl
        | true =>
          rw [agR_eq has] at h3
          unfold agR at h3
          rw [Bool.and_eq_true, decide_eq_true_eq, decide_eq_true_eq] at h3
          have : agB f e s (nth xs k).toNat = true := by
            rw [agR_eq hf]
            unfold agR
            rw [Bool.and_eq_true, decide_eq_true_eq, decide_eq_true_eq]
            refine ⟨sub_and fun i hi => sub_of h3.1 i (hsub.1 i hi), bits_zero fun i => ?_⟩
            rw [Nat.testBit_and]
            cases hb : e.testBit i with
            | false => simp
            | true =>
              have := zero_bits h3.2 i
              rw [Nat.testBit_and, hsub.2 i hb] at this
              simpa using this
          rw [this] at h; cases h
      rw [stT_no h, stT_no h', ih (by omega)]
theorem ndn_zero {f a : Nat} (h : sub_ f a) : ndn f a = 0 := bits_zero fun i => by
  rw [ndn_bit]
  cases hf : f.testBit i with
  | false => rfl
  | true => rw [h i hf]; rfl
/-- All that the law of Tell asks, where some line agrees. -/
theorem tell_again {s f e n a b : Nat} {xs : List Int} (hf : sub_ f s) (he : sub_ e s) (hn : stT s f e xs n = (a, b, true)) :
    stR s f e xs n = (a, b, true) ∧ stR s a b xs n = (a, b, true) ∧ a &&& b = 0 ∧ ndn f a = 0 ∧ ndn e b = 0 ∧ a ≤ s ∧ b ≤ s := by
  have h1 := st_sub (xs := xs) hf he n
  have h2 := st_apart (s := s) (f := f) (e := e) (xs := xs) n
  have h3 := stT_le s f e xs n
  have h4 := st_again hf he hn n (Nat.le_refl _)
  rw [hn] at h1 h2 h3
  refine ⟨?_, ?_, h2 rfl, ndn_zero h1.1, ndn_zero h1.2, h3.1, h3.2⟩
  · unfold stR; rw [hn]; simp only [if_true]; rw [or_sub h1.1, or_sub h1.2]
  · unfold stR; rw [h4, hn]; simp only [if_true]; rw [or_sub fun i h => h, or_sub fun i h => h]
theorem tell_none {s f e n a b : Nat} {xs : List Int} (hn : stT s f e xs n = (a, b, false)) : stR s f e xs n = (0, 0, false) := by
  unfold stR; rw [hn]; simp
end Go.Proofs.YtjhicbiacnkpaaaDoor
