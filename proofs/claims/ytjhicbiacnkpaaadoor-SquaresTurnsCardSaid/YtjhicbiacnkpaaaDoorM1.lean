/-
  The blocks of a set of squares, plain: as the program finds them, and as the reference does; lines with given blocks; clues.
-/
import Derived.Test.YtjhicbiacnkpaaaDoorBase
import Derived.Lib.TrailingZeros
namespace Go.Proofs.YtjhicbiacnkpaaaDoor
open Go.RowKit

/-- Zeros cut off at the low end. -/
def c1 (l : Nat) : Nat := l >>> Lib.ctz 64 l
/-- The first block behind them. -/
def c2 (l : Nat) : Nat := Lib.ctz 64 (18446744073709551615 - c1 l)
/-- What is left. -/
def c3 (l : Nat) : Nat := c1 l >>> c2 l
def blF : Nat → Nat → List Int
  | 0, _ => []
  | f + 1, l => if l = 0 then [] else (c2 l : Int) :: blF f (c3 l)
def bl (l : Nat) : List Int := blF 5 l

theorem bl_zero : bl 0 = [] := rfl
set_option maxRecDepth 100000 in
theorem bl_step : ∀ l, l < 32 → l ≠ 0 → Lib.ctz 64 l < 5 ∧ c1 l < 32 ∧ c2 l < 6 ∧ c3 l < l ∧ bl l = (c2 l : Int) :: bl (c3 l) := by decide +kernel
theorem bl_len : ∀ l, l < 32 → (bl l).length ≤ 3 := by decide +kernel

/-- The reference's way: a run that is still open, and the blocks behind it. -/
def rbS (l : Nat) (s : List Int × Nat) (i : Nat) : List Int × Nat :=
  if l / 2 ^ i % 2 = 1 then (s.1, s.2 + 1) else (if 0 < s.2 then s.1 ++ [(s.2 : Int)] else s.1, 0)
def rbT (l : Nat) : Nat → List Int × Nat
  | 0 => ([], 0)
  | k + 1 => rbS l (rbT l k) k
theorem rb_all : ∀ n, n < 6 → ∀ l, l < 2 ^ n → (rbT l (n + 1)).1 = bl l := by decide +kernel
theorem rb_bd (l : Nat) : ∀ k, (rbT l k).2 ≤ k ∧ (rbT l k).1.length ≤ k := by
  intro k
  induction k with
  | zero => exact ⟨Nat.le_refl _, Nat.le_refl _⟩
  | succ k ih =>
    obtain ⟨h1, h2⟩ := ih
    unfold rbT rbS
    split
    · exact ⟨by simp; omega, by simp; omega⟩
    · split
      · exact ⟨by simp, by simp; omega⟩
      · exact ⟨by simp, by simp; omega⟩

/-- All lines below j whose blocks are xs, rising. -/
def lnT (xs : List Int) (j : Nat) : List Int := ((List.range j).filter (fun l => decide (bl l = xs))).map Int.ofNat
def lnL (n : Nat) (xs : List Int) : List Int := lnT xs (2 ^ n)
theorem lnT_zero (xs : List Int) : lnT xs 0 = [] := rfl
theorem lnT_yes {xs : List Int} {j : Nat} (h : bl j = xs) : lnT xs (j + 1) = lnT xs j ++ [(j : Int)] := by
  unfold lnT
  rw [List.range_succ, List.filter_append, List.map_append]
  simp [List.filter_cons, h]
theorem lnT_no {xs : List Int} {j : Nat} (h : ¬ bl j = xs) : lnT xs (j + 1) = lnT xs j := by
  unfold lnT
  rw [List.range_succ, List.filter_append, List.map_append]
  simp [List.filter_cons, h]
theorem lnT_len (xs : List Int) (j : Nat) : (lnT xs j).length ≤ j := by
  unfold lnT
  rw [List.length_map]
  exact Nat.le_trans (List.length_filter_le _ _) (by simp)
theorem mem_lnT {xs : List Int} {j : Nat} {z : Int} : z ∈ lnT xs j ↔ ∃ l : Nat, l < j ∧ bl l = xs ∧ z = (l : Int) := by
  unfold lnT
  simp only [List.mem_map, List.mem_filter, List.mem_range, decide_eq_true_eq]
  constructor
  · rintro ⟨l, ⟨h1, h2⟩, rfl⟩; exact ⟨l, h1, h2, rfl⟩
  · rintro ⟨l, h1, h2, rfl⟩; exact ⟨l, ⟨h1, h2⟩, rfl⟩

/-- A number of squares. -/
def sz (x : Int) : Bool := decide (1 ≤ x) && decide (x ≤ 5)
theorem sz_iff {x : Int} : sz x = true ↔ 1 ≤ x ∧ x ≤ 5 := by simp [sz]
theorem sz_no {x : Int} (h : ¬ (1 ≤ x ∧ x ≤ 5)) : sz x = false := by
  cases e : sz x with
  | false => rfl
  | true => exact absurd (sz_iff.1 e) h
theorem sz_nat {x : Int} (h : sz x = true) : ∃ n : Nat, x = (n : Int) ∧ 1 ≤ n ∧ n ≤ 5 := by
  obtain ⟨h1, h2⟩ := sz_iff.1 h
  exact ⟨x.toNat, by omega, by omega, by omega⟩
/-- What is left, and the blocks that still come. -/
def clA : Int → List Int → Bool
  | _, [] => true
  | z, b :: r => decide (1 ≤ b) && (decide (b < z) && clA (z - (b + 1)) r)
def clB (x : Int) (xs : List Int) : Bool := sz x && clA (x + 1) xs

/-- All that clA lets pass. -/
def gen : Nat → Nat → List (List Int)
  | 0, _ => [[]]
  | f + 1, z => [] :: (List.range z).flatMap fun b => if b = 0 then [] else (gen f (z - (b + 1))).map ((b : Int) :: ·)
theorem mem_gen : ∀ (f z : Nat) (ys : List Int), z ≤ f → clA z ys = true → ys ∈ gen f z := by
  intro f
  induction f with
  | zero =>
    intro z ys hz h
    cases ys with
    | nil => simp [gen]
    | cons b r =>
      simp only [clA, Bool.and_eq_true, decide_eq_true_eq] at h
      omega
  | succ f ih =>
    intro z ys hz h
    cases ys with
    | nil => simp [gen]
    | cons b r =>
      simp only [clA, Bool.and_eq_true, decide_eq_true_eq] at h
      obtain ⟨h1, h2, h3⟩ := h
      have e : (z : Int) - (b + 1) = ((z - (b.toNat + 1) : Nat) : Int) := by omega
      rw [e] at h3
      have h4 := ih _ _ (by omega) h3
      unfold gen
      refine List.mem_cons_of_mem _ (List.mem_flatMap.2 ⟨b.toNat, List.mem_range.2 (by omega), ?_⟩)
      rw [if_neg (by omega)]
      refine List.mem_map.2 ⟨r, h4, ?_⟩
      congr 1
      omega
theorem gen_bl : ∀ n : Nat, n < 6 → ∀ ys ∈ gen 6 (n + 1), ∃ l, l < 2 ^ n ∧ bl l = ys := by decide +kernel
theorem bl_cl : ∀ n : Nat, n < 6 → ∀ l, l < 2 ^ n → clA ((n : Int) + 1) (bl l) = true := by decide +kernel
theorem cl_iff {n : Nat} (hn : n < 6) (ys : List Int) : clA ((n : Int) + 1) ys = true ↔ ∃ l, l < 2 ^ n ∧ bl l = ys := by
  constructor
  · intro h
    exact gen_bl n hn ys (mem_gen 6 (n + 1) ys (by omega) (by exact_mod_cast h))
  · rintro ⟨l, hl, rfl⟩
    exact bl_cl n hn l hl
theorem pow_le {n : Nat} (hn : n < 6) : 2 ^ n ≤ 32 := Nat.pow_le_pow_right (by omega) (by omega : n ≤ 5)
theorem cl_lnL {n : Nat} (hn : n < 6) (xs : List Int) : clA ((n : Int) + 1) xs = decide (0 < (lnL n xs).length) := by
  rw [Bool.eq_iff_iff, cl_iff hn, decide_eq_true_eq, List.length_pos_iff_exists_mem]
  constructor
  · rintro ⟨l, h1, h2⟩; exact ⟨l, mem_lnT.2 ⟨l, h1, h2, rfl⟩⟩
  · rintro ⟨z, hz⟩; obtain ⟨l, h1, h2, _⟩ := mem_lnT.1 hz; exact ⟨l, h1, h2⟩
theorem cl_len {n : Nat} (hn : n < 6) {xs : List Int} (h : clA ((n : Int) + 1) xs = true) : xs.length ≤ 3 := by
  obtain ⟨l, h1, h2⟩ := (cl_iff hn xs).1 h
  rw [← h2]
  exact bl_len l (by have := pow_le hn; omega)
/-- Cutting what is longer than any clue changes nothing. -/
theorem cl_take {n : Nat} (hn : n < 6) (xs : List Int) : clA ((n : Int) + 1) (xs.take 8) = clA ((n : Int) + 1) xs := by
  rcases Nat.lt_or_ge 8 xs.length with h | h
  · have a : clA ((n : Int) + 1) (xs.take 8) = false := by
      cases e : clA ((n : Int) + 1) (xs.take 8) with
      | false => rfl
      | true => have := cl_len hn e; rw [List.length_take] at this; omega
    have b : clA ((n : Int) + 1) xs = false := by
      cases e : clA ((n : Int) + 1) xs with
      | false => rfl
      | true => have := cl_len hn e; omega
    rw [a, b]
  · rw [List.take_of_length_le h]
theorem clB_take (x : Int) (xs : List Int) : clB x (xs.take 8) = clB x xs := by
  unfold clB
  cases e : sz x with
  | false => rfl
  | true =>
    obtain ⟨n, rfl, h1, h2⟩ := sz_nat e
    rw [cl_take (by omega)]
theorem take_cl {x : Int} {xs : List Int} (h : clB x xs = true) : xs.take 8 = xs := by
  unfold clB at h
  rw [Bool.and_eq_true] at h
  obtain ⟨n, rfl, h1, h2⟩ := sz_nat h.1
  exact List.take_of_length_le (by have := cl_len (n := n) (by omega) h.2; omega)

/-- A set of squares. -/
def setB (x l : Int) : Bool := sz x && (decide (0 ≤ l) && decide (l < 2 ^ x.toNat))
theorem setB_iff {n : Nat} (h1 : 1 ≤ n) (h2 : n ≤ 5) (l : Int) : setB n l = true ↔ ∃ k : Nat, l = (k : Int) ∧ k < 2 ^ n := by
  have hz : sz n = true := sz_iff.2 ⟨by omega, by omega⟩
  unfold setB
  rw [hz, Bool.true_and, Bool.and_eq_true, decide_eq_true_eq, decide_eq_true_eq, Int.toNat_natCast]
  constructor
  · rintro ⟨a, b⟩
    exact ⟨l.toNat, by omega, by have : ((l.toNat : Nat) : Int) < ((2 ^ n : Nat) : Int) := by rw [Int.toNat_of_nonneg a]; exact_mod_cast b
                                 exact_mod_cast this⟩
  · rintro ⟨k, rfl, hk⟩
    exact ⟨by omega, by exact_mod_cast hk⟩
end Go.Proofs.YtjhicbiacnkpaaaDoor
