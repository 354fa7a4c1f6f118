/-
  How far a table is from what is due: plain numbers.
-/
import Derived.Test.YtabgifpenegofaaY3
import Derived.Test.YtabgifpenegofaaX7
namespace Go.Proofs.Ytabgifpenegofaa
open Go.RowKit

def prF (f : Nat → Int) : Nat → Int
  | 0 => 1
  | k + 1 => prF f k * f k
def dD (K : Nat → Nat → Int) (n m : Nat) : Int := tot K * prF (rS K) n * prF (cS K) m
def eE (K : Nat → Nat → Int) (i j : Nat) : Int := tot K * (rS K i * cS K j)
def lk (K : Nat → Nat → Int) (i j : Nat) : Int := tot K * K i j - rS K i * cS K j
def tT (K : Nat → Nat → Int) (n m i j : Nat) : Int := (dD K n m).tdiv (eE K i j) * lk K i j * lk K i j
def zR (K : Nat → Nat → Int) (n m i : Nat) : Nat → Int
  | 0 => 0
  | k + 1 => zR K n m i k + tT K n m i k
def zT (K : Nat → Nat → Int) (n m : Nat) : Nat → Int
  | 0 => 0
  | i + 1 => zT K n m i + zR K n m i m
/-- A table none of whose sums is 0. -/
structure Pz (K : Nat → Nat → Int) (n m : Nat) : Prop where
  n1 : 1 ≤ n
  n3 : n ≤ 3
  m1 : 1 ≤ m
  m3 : m ≤ 3
  k : ∀ i j, 0 ≤ K i j ∧ K i j ≤ 16
  r : ∀ i, i < n → 1 ≤ rS K i ∧ rS K i ≤ 16
  c : ∀ j, j < m → 1 ≤ cS K j ∧ cS K j ≤ 16
  s : 1 ≤ tot K ∧ tot K ≤ 16
theorem prF_bd {f : Nat → Int} {n : Nat} (h : ∀ i, i < n → 1 ≤ f i ∧ f i ≤ 16) : ∀ k, k ≤ n → 1 ≤ prF f k ∧ prF f k ≤ 16 ^ k
  | 0, _ => by simp [prF]
  | k + 1, hk => by
    obtain ⟨h1, h2⟩ := prF_bd h k (by omega)
    obtain ⟨h3, h4⟩ := h k (by omega)
    have e1 := Int.mul_le_mul h2 h4 (by omega) (by omega)
    have e2 := Int.mul_pos (show 0 < prF f k by omega) (show 0 < f k by omega)
    simp only [prF, Int.pow_succ]
    exact ⟨by omega, e1⟩
theorem prF_bd3 {f : Nat → Int} {n : Nat} (hn : n ≤ 3) (h : ∀ i, i < n → 1 ≤ f i ∧ f i ≤ 16) : 1 ≤ prF f n ∧ prF f n ≤ 4096 := by
  have := prF_bd h n (Nat.le_refl _)
  rcases (show n = 0 ∨ n = 1 ∨ n = 2 ∨ n = 3 by omega) with rfl | rfl | rfl | rfl <;> omega
theorem prF_dvd (f : Nat → Int) : ∀ n i, i < n → f i ∣ prF f n
  | n + 1, i, h => by
    by_cases e : i = n
    · subst e; exact ⟨prF f i, by rw [prF, Int.mul_comm]⟩
    · obtain ⟨x, hx⟩ := prF_dvd f n i (by omega)
      exact ⟨x * f n, by rw [prF, hx, Int.mul_assoc]⟩
namespace Pz
variable {K : Nat → Nat → Int} {n m : Nat}
theorem d_bd (h : Pz K n m) : 1 ≤ dD K n m ∧ dD K n m ≤ 268435456 := by
  obtain ⟨a1, a2⟩ := prF_bd3 h.n3 h.r
  obtain ⟨b1, b2⟩ := prF_bd3 h.m3 h.c
  obtain ⟨s1, s2⟩ := h.s
  have e1 := Int.mul_le_mul s2 a2 (by omega) (by omega)
  have e2 := Int.mul_pos (show 0 < tot K by omega) (show 0 < prF (rS K) n by omega)
  have e3 := Int.mul_le_mul e1 b2 (by omega) (by omega)
  have e4 := Int.mul_pos e2 (show 0 < prF (cS K) m by omega)
  unfold dD
  omega
theorem rc_bd (h : Pz K n m) {i j : Nat} (hi : i < n) (hj : j < m) : 1 ≤ rS K i * cS K j ∧ rS K i * cS K j ≤ 256 := by
  obtain ⟨a1, a2⟩ := h.r i hi
  obtain ⟨b1, b2⟩ := h.c j hj
  have e1 := Int.mul_le_mul a2 b2 (by omega) (by omega)
  have e2 := Int.mul_pos (show 0 < rS K i by omega) (show 0 < cS K j by omega)
  omega
theorem e_bd (h : Pz K n m) {i j : Nat} (hi : i < n) (hj : j < m) : 1 ≤ eE K i j ∧ eE K i j ≤ 4096 := by
  obtain ⟨a1, a2⟩ := h.rc_bd hi hj
  obtain ⟨s1, s2⟩ := h.s
  have e1 := Int.mul_le_mul s2 a2 (by omega) (by omega)
  have e2 := Int.mul_pos (show 0 < tot K by omega) (show 0 < rS K i * cS K j by omega)
  unfold eE
  omega
theorem sk_bd (h : Pz K n m) (i j : Nat) : 0 ≤ tot K * K i j ∧ tot K * K i j ≤ 256 := by
  obtain ⟨a1, a2⟩ := h.k i j
  obtain ⟨s1, s2⟩ := h.s
  have e1 := Int.mul_le_mul s2 a2 (by omega) (by omega)
  have e2 := Int.mul_nonneg (show 0 ≤ tot K by omega) a1
  omega
theorem l_bd (h : Pz K n m) {i j : Nat} (hi : i < n) (hj : j < m) : -256 ≤ lk K i j ∧ lk K i j ≤ 256 := by
  have := h.rc_bd hi hj; have := h.sk_bd i j
  unfold lk; omega
theorem l2_bd (h : Pz K n m) {i j : Nat} (hi : i < n) (hj : j < m) : 0 ≤ lk K i j * lk K i j ∧ lk K i j * lk K i j ≤ 65536 := by
  have e := mul_bd (M := 256) (N := 256) (h.l_bd hi hj) (h.l_bd hi hj)
  refine ⟨?_, by omega⟩
  rcases Int.le_total 0 (lk K i j) with h1 | h1
  · exact Int.mul_nonneg h1 h1
  · exact Int.mul_nonneg_of_nonpos_of_nonpos h1 h1
theorem e_dvd (_ : Pz K n m) {i j : Nat} (hi : i < n) (hj : j < m) : eE K i j ∣ dD K n m := by
  obtain ⟨x, hx⟩ := prF_dvd (rS K) n i hi
  obtain ⟨y, hy⟩ := prF_dvd (cS K) m j hj
  refine ⟨x * y, ?_⟩
  unfold dD eE
  rw [hx, hy]
  grind
theorem q_bd (h : Pz K n m) {i j : Nat} (hi : i < n) (hj : j < m) : (1 ≤ (dD K n m).tdiv (eE K i j) ∧ (dD K n m).tdiv (eE K i j) ≤ 268435456) ∧ eE K i j * (dD K n m).tdiv (eE K i j) = dD K n m := by
  have e := Int.mul_tdiv_cancel' (h.e_dvd hi hj)
  have hd := h.d_bd; have he := h.e_bd hi hj
  refine ⟨⟨?_, ?_⟩, e⟩
  · rcases Int.lt_or_le 0 ((dD K n m).tdiv (eE K i j)) with h1 | h1
    · omega
    · have := Int.mul_nonpos_of_nonneg_of_nonpos (show 0 ≤ eE K i j by omega) h1
      omega
  · have := Int.natAbs_tdiv_le_natAbs (dD K n m) (eE K i j)
    omega
theorem t_bd (h : Pz K n m) {i j : Nat} (hi : i < n) (hj : j < m) : 0 ≤ tT K n m i j ∧ tT K n m i j ≤ 17592186044416 := by
  obtain ⟨⟨q1, q2⟩, _⟩ := h.q_bd hi hj
  obtain ⟨l1, l2⟩ := h.l2_bd hi hj
  unfold tT
  rw [Int.mul_assoc]
  have e1 := Int.mul_le_mul q2 l2 l1 (by omega)
  have e2 := Int.mul_nonneg (show 0 ≤ (dD K n m).tdiv (eE K i j) by omega) l1
  omega
theorem zR_bd (h : Pz K n m) {i : Nat} (hi : i < n) : ∀ k, k ≤ m → 0 ≤ zR K n m i k ∧ zR K n m i k ≤ 17592186044416 * (k : Int)
  | 0, _ => by simp [zR]
  | k + 1, hk => by
    have := h.zR_bd hi k (by omega); have := h.t_bd hi (show k < m by omega)
    simp only [zR]; omega
theorem zT_bd (h : Pz K n m) : ∀ i, i ≤ n → 0 ≤ zT K n m i ∧ zT K n m i ≤ 52776558133248 * (i : Int)
  | 0, _ => by simp [zT]
  | i + 1, hi => by
    have := h.zT_bd i (by omega); have := h.zR_bd (show i < n by omega) m (Nat.le_refl _); have := h.m3
    simp only [zT]; omega
theorem z_bd (h : Pz K n m) {i k : Nat} (hi : i < n) (hk : k ≤ m) : 0 ≤ zT K n m i + zR K n m i k ∧ zT K n m i + zR K n m i k ≤ 158329674399744 := by
  have := h.zT_bd i (by omega); have := h.zR_bd hi k hk; have := h.n3; have := h.m3
  have : zT K n m i + zR K n m i k ≤ 158329674399744 := by
    have h1 : (i : Int) ≤ 2 := by omega
    have h2 : (k : Int) ≤ 3 := by omega
    omega
  omega
theorem step (h : Pz K n m) {i j : Nat} (hi : i < n) (hj : j < m) (Z : Int) : Rat.divInt Z (dD K n m) + Rat.divInt (lk K i j * lk K i j) (eE K i j) = Rat.divInt (Z + tT K n m i j) (dD K n m) := by
  obtain ⟨_, e⟩ := h.q_bd hi hj
  have hd := h.d_bd; have he := h.e_bd hi hj
  have e2 : Rat.divInt (lk K i j * lk K i j) (eE K i j) = Rat.divInt (tT K n m i j) (dD K n m) := by
    rw [Rat.divInt_eq_divInt_iff (by omega) (by omega)]
    conv => lhs; rw [← e]
    unfold tT
    grind
  rw [e2, divInt_same]
end Pz
theorem zB_pz {t : List (List Int)} {n m : Nat} (ht : Tb t n m) (h1 : ∀ i, i < n → rS (at2 t) i ≠ 0) (h2 : ∀ j, j < m → cS (at2 t) j ≠ 0) : Pz (at2 t) n m := by
  have hr : ∀ i, 0 ≤ rS (at2 t) i := fun i => by have := ht.nn i 0; have := ht.nn i 1; have := ht.nn i 2; unfold rS; omega
  have hc : ∀ j, 0 ≤ cS (at2 t) j := fun j => by have := ht.nn 0 j; have := ht.nn 1 j; have := ht.nn 2 j; unfold cS; omega
  have ht16 : tot (at2 t) ≤ 16 := ht.total
  have a0 := hr 0; have a1 := hr 1; have a2 := hr 2
  have zr : ∀ i, 3 ≤ i → rS (at2 t) i = 0 := fun i hi => by unfold rS; rw [ht.zero_row i 0 (by have := ht.n3; omega), ht.zero_row i 1 (by have := ht.n3; omega), ht.zero_row i 2 (by have := ht.n3; omega)]; rfl
  have hrl : ∀ i, rS (at2 t) i ≤ 16 := fun i => by
    unfold tot at ht16
    rcases (show i = 0 ∨ i = 1 ∨ i = 2 ∨ 3 ≤ i by omega) with rfl | rfl | rfl | hi
    · omega
    · omega
    · omega
    · rw [zr i hi]; omega
  have hcl : ∀ j, cS (at2 t) j ≤ 16 := fun j => by
    have e := ht.nn
    have x00 := e 0 0; have x01 := e 0 1; have x02 := e 0 2; have x10 := e 1 0; have x11 := e 1 1; have x12 := e 1 2; have x20 := e 2 0; have x21 := e 2 1; have x22 := e 2 2
    unfold tot rS at ht16
    unfold cS
    rcases (show j = 0 ∨ j = 1 ∨ j = 2 ∨ 3 ≤ j by omega) with rfl | rfl | rfl | hj
    · omega
    · omega
    · omega
    · rw [ht.zero_col 0 j (by have := ht.m3; omega), ht.zero_col 1 j (by have := ht.m3; omega), ht.zero_col 2 j (by have := ht.m3; omega)]; omega
  refine ⟨ht.n1, ht.n3, ht.m1, ht.m3, fun i j => ⟨ht.nn i j, ht.le i j⟩, fun i hi => ⟨by have := hr i; have := h1 i hi; omega, hrl i⟩, fun j hj => ⟨by have := hc j; have := h2 j hj; omega, hcl j⟩, ?_, ht16⟩
  have := h1 0 ht.n1
  unfold tot
  omega
theorem rowsL_nth {t : List (List Int)} {n m : Nat} (ht : Tb t n m) (i : Nat) : nth (rowsL t) i = rS (at2 t) i := by
  unfold rowsL
  rw [ht.len]
  rcases Nat.lt_or_ge i n with hi | hi
  · simp [nth, List.getD, hi]
  · rw [nth_out (by simpa using hi)]
    unfold rS; rw [ht.zero_row i 0 hi, ht.zero_row i 1 hi, ht.zero_row i 2 hi]; rfl
theorem colsL_nth {t : List (List Int)} {n m : Nat} (ht : Tb t n m) (j : Nat) : nth (colsL t) j = cS (at2 t) j := by
  unfold colsL
  rw [ht.rows 0 ht.n1]
  rcases Nat.lt_or_ge j m with hj | hj
  · simp [nth, List.getD, hj]
  · rw [nth_out (by simpa using hj)]
    unfold cS; rw [ht.zero_col 0 j hj, ht.zero_col 1 j hj, ht.zero_col 2 j hj]; rfl
def zrB (t : List (List Int)) : Bool := decide ((0 : Int) ∈ rowsL t)
def zcB (t : List (List Int)) : Bool := decide ((0 : Int) ∈ colsL t)
theorem pz_of {t : List (List Int)} {n m : Nat} (ht : Tb t n m) (h1 : zrB t = false) (h2 : zcB t = false) : Pz (at2 t) n m := by
  unfold zrB at h1; unfold zcB at h2
  rw [decide_eq_false_iff_not] at h1 h2
  refine zB_pz ht (fun i hi e => h1 ?_) (fun j hj e => h2 ?_)
  · rw [← e, ← rowsL_nth ht]
    exact nth_mem (by unfold rowsL; rw [ht.len]; simpa using hi)
  · rw [← e, ← colsL_nth ht]
    exact nth_mem (by unfold colsL; rw [ht.rows 0 ht.n1]; simpa using hj)
/-- What Off answers. -/
def ofQ (t : List (List Int)) : Rat := Rat.divInt (zT (at2 t) t.length (row t 0).length t.length) (dD (at2 t) t.length (row t 0).length)
def ofOk (t : List (List Int)) : Bool := isT t && !(zrB t || zcB t)
def ofN (t : List (List Int)) : Int := if ofOk t then (ofQ t).num else 0
def ofD (t : List (List Int)) : Int := if ofOk t then (ofQ t).den else 0
def ofE (t : List (List Int)) : Int := if isT t then (if zrB t || zcB t then 5 else 0) else 2
end Go.Proofs.Ytabgifpenegofaa
