/-
  How large Off answers, and when it answers 0.
-/
import Derived.Test.YtabgifpenegofaaY4
import Derived.Test.YtabgifpenegofaaY3
import Derived.Test.YtabgifpenegofaaX6
namespace Go.Proofs.Ytabgifpenegofaa
open Go.RowKit

theorem s3_full {f : Nat → Int} {m : Nat} (hm : m ≤ 3) (hz : ∀ j, m ≤ j → f j = 0) : s3 f m = f 0 + f 1 + f 2 := by
  rcases (show m = 0 ∨ m = 1 ∨ m = 2 ∨ m = 3 by omega) with rfl | rfl | rfl | rfl
  · simp [s3, hz 0 (by omega), hz 1 (by omega), hz 2 (by omega)]
  · simp [s3, hz 1 (by omega), hz 2 (by omega)]
  · simp [s3, hz 2 (by omega)]
  · simp [s3]
theorem s3_same {f : Nat → Int} {Q : Int} : ∀ m : Nat, (∀ j, j < m → f j = Q) → s3 f m = m * Q
  | 0, _ => by simp [s3]
  | m + 1, h => by
    have e1 := s3_same m (fun j hj => h j (by omega))
    have e2 := h m (by omega)
    rw [s3, e1, e2]
    push_cast
    rw [Int.add_mul]; omega
def pR (K : Nat → Nat → Int) (n i : Nat) : Int := (prF (rS K) n).tdiv (rS K i)
def pC (K : Nat → Nat → Int) (m j : Nat) : Int := (prF (cS K) m).tdiv (cS K j)
theorem poly1 (p q S k r c : Int) : p * q * (S * k - r * c) * (S * k - r * c) = S * S * (p * q) * (k * k) - 2 * S * (r * p) * (c * q) * k + (r * p) * (c * q) * (r * c) := by grind
theorem poly2 (p q S k c Q : Int) (h : c * q = Q) : S * S * (p * q) * (c * k) = S * S * p * Q * k := by subst h; grind
theorem poly3 (p q S k c P r : Int) (h : r * p = P) : S * S * (p * q) * (r * k) = S * S * P * (q * k) := by subst h; grind
namespace Pz
variable {K : Nat → Nat → Int} {n m : Nat}
theorem pR_is (h : Pz K n m) {i : Nat} (hi : i < n) : rS K i * pR K n i = prF (rS K) n ∧ 0 ≤ pR K n i := by
  have := h.r i hi; have := prF_bd3 h.n3 h.r
  exact ⟨Int.mul_tdiv_cancel' (prF_dvd _ _ _ hi), Int.tdiv_nonneg (by omega) (by omega)⟩
theorem pC_is (h : Pz K n m) {j : Nat} (hj : j < m) : cS K j * pC K m j = prF (cS K) m ∧ 0 ≤ pC K m j := by
  have := h.c j hj; have := prF_bd3 h.m3 h.c
  exact ⟨Int.mul_tdiv_cancel' (prF_dvd _ _ _ hj), Int.tdiv_nonneg (by omega) (by omega)⟩
theorem t_form (h : Pz K n m) {i j : Nat} (hi : i < n) (hj : j < m) : tT K n m i j = pR K n i * pC K m j * lk K i j * lk K i j := by
  have he := h.e_bd hi hj
  have hq : (dD K n m).tdiv (eE K i j) = pR K n i * pC K m j := by
    refine Int.eq_of_mul_eq_mul_left (a := eE K i j) (by omega) ?_
    rw [(h.q_bd hi hj).2]
    unfold eE dD
    rw [← (h.pR_is hi).1, ← (h.pC_is hj).1]
    grind
  unfold tT; rw [hq]
theorem le_c (h : Pz K n m) (i j : Nat) (hz : ∀ i j, n ≤ i → K i j = 0) : K i j ≤ cS K j := by
  have a := h.k 0 j; have b := h.k 1 j; have c := h.k 2 j; have := h.n3
  unfold cS
  rcases (show i = 0 ∨ i = 1 ∨ i = 2 ∨ 3 ≤ i by omega) with rfl | rfl | rfl | hi
  · omega
  · omega
  · omega
  · rw [hz i j (by omega)]; omega
theorem le_r (h : Pz K n m) (i j : Nat) (hz : ∀ i j, m ≤ j → K i j = 0) : K i j ≤ rS K i := by
  have a := h.k i 0; have b := h.k i 1; have c := h.k i 2; have := h.m3
  unfold rS
  rcases (show j = 0 ∨ j = 1 ∨ j = 2 ∨ 3 ≤ j by omega) with rfl | rfl | rfl | hi
  · omega
  · omega
  · omega
  · rw [hz i j (by omega)]; omega
theorem t_row (h : Pz K n m) (hk : KB K n m) {i j : Nat} (hi : i < n) (hj : j < m) : tT K n m i j ≤ tot K * tot K * pR K n i * prF (cS K) m * K i j - 2 * tot K * prF (rS K) n * prF (cS K) m * K i j + prF (rS K) n * prF (cS K) m * (rS K i * cS K j) := by
  obtain ⟨p1, p2⟩ := h.pR_is hi
  obtain ⟨q1, q2⟩ := h.pC_is hj
  have hK := Int.mul_le_mul_of_nonneg_right (h.le_c i j hk.zr) (h.k i j).1
  have e1 := Int.mul_le_mul_of_nonneg_left hK (Int.mul_nonneg (Int.mul_nonneg (show 0 ≤ tot K by have := h.s; omega) (show 0 ≤ tot K by have := h.s; omega)) (Int.mul_nonneg p2 q2))
  rw [poly2 _ _ _ _ _ _ q1] at e1
  rw [h.t_form hi hj, lk, poly1, p1, q1]
  omega
theorem t_col (h : Pz K n m) (hk : KB K n m) {i j : Nat} (hi : i < n) (hj : j < m) : tT K n m i j ≤ tot K * tot K * prF (rS K) n * (pC K m j * K i j) - 2 * tot K * prF (rS K) n * prF (cS K) m * K i j + prF (rS K) n * prF (cS K) m * (rS K i * cS K j) := by
  obtain ⟨p1, p2⟩ := h.pR_is hi
  obtain ⟨q1, q2⟩ := h.pC_is hj
  have hK := Int.mul_le_mul_of_nonneg_right (h.le_r i j hk.zc) (h.k i j).1
  have e1 := Int.mul_le_mul_of_nonneg_left hK (Int.mul_nonneg (Int.mul_nonneg (show 0 ≤ tot K by have := h.s; omega) (show 0 ≤ tot K by have := h.s; omega)) (Int.mul_nonneg p2 q2))
  rw [poly3 _ _ _ _ 0 _ _ p1] at e1
  rw [h.t_form hi hj, lk, poly1, p1, q1]
  omega
theorem zR_row (h : Pz K n m) (hk : KB K n m) {i : Nat} (hi : i < n) : ∀ k, k ≤ m → zR K n m i k ≤ tot K * tot K * pR K n i * prF (cS K) m * s3 (K i) k - 2 * tot K * prF (rS K) n * prF (cS K) m * s3 (K i) k + prF (rS K) n * prF (cS K) m * (rS K i * s3 (cS K) k)
  | 0, _ => by simp [zR, s3]
  | k + 1, hk2 => by
    have e1 := h.zR_row hk hi k (by omega)
    have e2 := h.t_row hk hi (show k < m by omega)
    simp only [zR, s3, Int.mul_add]
    omega
theorem zR_col (h : Pz K n m) (hk : KB K n m) {i : Nat} (hi : i < n) : ∀ k, k ≤ m → zR K n m i k ≤ tot K * tot K * prF (rS K) n * s3 (fun j => pC K m j * K i j) k - 2 * tot K * prF (rS K) n * prF (cS K) m * s3 (K i) k + prF (rS K) n * prF (cS K) m * (rS K i * s3 (cS K) k)
  | 0, _ => by simp [zR, s3]
  | k + 1, hk2 => by
    have e1 := h.zR_col hk hi k (by omega)
    have e2 := h.t_col hk hi (show k < m by omega)
    simp only [zR, s3, Int.mul_add]
    omega
theorem cS_all (h : Pz K n m) (hk : KB K n m) : s3 (cS K) m = tot K := by
  rw [s3_full h.m3 (fun j hj => by unfold cS; rw [hk.zc 0 j hj, hk.zc 1 j hj, hk.zc 2 j hj]; rfl)]
  unfold cS tot rS; omega
theorem rS_all (h : Pz K n m) (hk : KB K n m) : s3 (rS K) n = tot K := by
  rw [s3_full h.n3 (fun j hj => by unfold rS; rw [hk.zr j 0 hj, hk.zr j 1 hj, hk.zr j 2 hj]; rfl)]
  rfl
theorem K_all (h : Pz K n m) (hk : KB K n m) (i : Nat) : s3 (K i) m = rS K i := by
  rw [s3_full h.m3 (fun j hj => hk.zc i j hj)]
  rfl
theorem zR_row' (h : Pz K n m) (hk : KB K n m) {i : Nat} (hi : i < n) : zR K n m i m ≤ tot K * tot K * (prF (rS K) n * prF (cS K) m) - tot K * (prF (rS K) n * prF (cS K) m) * rS K i := by
  have e := h.zR_row hk hi m (Nat.le_refl _)
  rw [h.K_all hk, h.cS_all hk] at e
  have e2 : tot K * tot K * pR K n i * prF (cS K) m * rS K i = tot K * tot K * (prF (rS K) n * prF (cS K) m) := by rw [← (h.pR_is hi).1]; grind
  have e3 : prF (rS K) n * prF (cS K) m * (rS K i * tot K) = tot K * (prF (rS K) n * prF (cS K) m) * rS K i := by grind
  have e4 : 2 * tot K * prF (rS K) n * prF (cS K) m * rS K i = 2 * (tot K * (prF (rS K) n * prF (cS K) m) * rS K i) := by grind
  omega
theorem zR_col' (h : Pz K n m) (hk : KB K n m) {i : Nat} (hi : i < n) : zR K n m i m ≤ tot K * tot K * prF (rS K) n * s3 (fun j => pC K m j * K i j) m - tot K * (prF (rS K) n * prF (cS K) m) * rS K i := by
  have e := h.zR_col hk hi m (Nat.le_refl _)
  rw [h.K_all hk, h.cS_all hk] at e
  have e3 : prF (rS K) n * prF (cS K) m * (rS K i * tot K) = tot K * (prF (rS K) n * prF (cS K) m) * rS K i := by grind
  have e4 : 2 * tot K * prF (rS K) n * prF (cS K) m * rS K i = 2 * (tot K * (prF (rS K) n * prF (cS K) m) * rS K i) := by grind
  omega
theorem zT_row (h : Pz K n m) (hk : KB K n m) : ∀ i, i ≤ n → zT K n m i ≤ i * (tot K * tot K * (prF (rS K) n * prF (cS K) m)) - tot K * (prF (rS K) n * prF (cS K) m) * s3 (rS K) i
  | 0, _ => by simp [zT, s3]
  | i + 1, hi => by
    have e1 := h.zT_row hk i (by omega)
    have e2 := h.zR_row' hk (show i < n by omega)
    simp only [zT, s3, Int.mul_add]
    push_cast
    rw [Int.add_mul]
    omega
theorem zT_col (h : Pz K n m) (hk : KB K n m) : ∀ i, i ≤ n → zT K n m i ≤ tot K * tot K * prF (rS K) n * s3 (fun i => s3 (fun j => pC K m j * K i j) m) i - tot K * (prF (rS K) n * prF (cS K) m) * s3 (rS K) i
  | 0, _ => by simp [zT, s3]
  | i + 1, hi => by
    have e1 := h.zT_col hk i (by omega)
    have e2 := h.zR_col' hk (show i < n by omega)
    simp only [zT, s3, Int.mul_add]
    omega
theorem all_col (h : Pz K n m) (hk : KB K n m) : s3 (fun i => s3 (fun j => pC K m j * K i j) m) n = m * prF (cS K) m := by
  have e1 : ∀ i, s3 (fun j => pC K m j * K i j) m = pC K m 0 * K i 0 + pC K m 1 * K i 1 + pC K m 2 * K i 2 := fun i =>
    s3_full h.m3 (fun j hj => by rw [hk.zc i j hj, Int.mul_zero])
  rw [s3_full h.n3 (fun i hi => by rw [e1 i, hk.zr i 0 hi, hk.zr i 1 hi, hk.zr i 2 hi]; simp), e1, e1, e1]
  rw [← s3_same (f := fun j => pC K m j * cS K j) m (fun j hj => by rw [Int.mul_comm]; exact (h.pC_is hj).1)]
  rw [s3_full h.m3 (fun j hj => by show pC K m j * cS K j = 0; unfold cS; rw [hk.zc 0 j hj, hk.zc 1 j hj, hk.zc 2 j hj]; simp)]
  unfold cS
  grind
/-- At most the sum, times one less than the rows; the columns likewise. -/
theorem z_le (h : Pz K n m) (hk : KB K n m) : zT K n m n ≤ tot K * ((n : Int) - 1) * dD K n m ∧ zT K n m n ≤ tot K * ((m : Int) - 1) * dD K n m := by
  have a := h.zT_row hk n (Nat.le_refl _)
  have b := h.zT_col hk n (Nat.le_refl _)
  rw [h.rS_all hk] at a b
  rw [h.all_col hk] at b
  have e1 : tot K * ((n : Int) - 1) * dD K n m = n * (tot K * tot K * (prF (rS K) n * prF (cS K) m)) - tot K * (prF (rS K) n * prF (cS K) m) * tot K := by unfold dD; grind
  have e2 : tot K * ((m : Int) - 1) * dD K n m = tot K * tot K * prF (rS K) n * (m * prF (cS K) m) - tot K * (prF (rS K) n * prF (cS K) m) * tot K := by unfold dD; grind
  rw [e1, e2]
  exact ⟨a, b⟩
theorem t_zero (h : Pz K n m) {i j : Nat} (hi : i < n) (hj : j < m) : tT K n m i j = 0 ↔ K i j * tot K = rS K i * cS K j := by
  obtain ⟨⟨q1, _⟩, _⟩ := h.q_bd hi hj
  have e : lk K i j = 0 ↔ K i j * tot K = rS K i * cS K j := by
    unfold lk; rw [Int.mul_comm (K i j)]; omega
  rw [← e]
  unfold tT
  constructor
  · intro hz
    rcases Int.mul_eq_zero.1 hz with h1 | h1
    · rcases Int.mul_eq_zero.1 h1 with h2 | h2
      · omega
      · exact h2
    · exact h1
  · intro hz; rw [hz]; simp
theorem zero_step (h : Pz K n m) {i j : Nat} (hi : i < n) (hj : j < m) (b : Bool) (hb : b = true ↔ zT K n m i + zR K n m i j = 0) : (b && decide (K i j * tot K = rS K i * cS K j)) = true ↔ zT K n m i + zR K n m i (j + 1) = 0 := by
  have h1 := h.z_bd hi (show j ≤ m by omega)
  have h2 := h.t_bd hi hj
  rw [Bool.and_eq_true, hb, decide_eq_true_eq, ← h.t_zero hi hj]
  simp only [zR]
  omega
theorem fr (h : Pz K n m) (hk : KB K n m) {a b : Int} (hf : Fr (Rat.divInt (zT K n m n) (dD K n m)) a b) : (0 ≤ a ∧ a ≤ 158329674399744) ∧ (1 ≤ b ∧ b ≤ 268435456) ∧ (a = 0 ↔ zT K n m n = 0) ∧ a ≤ tot K * ((n : Int) - 1) * b ∧ a ≤ tot K * ((m : Int) - 1) * b := by
  have hd := h.d_bd
  have hz := h.zT_bd n (Nat.le_refl _)
  have := h.n3
  have hbd := fr_bd hf hz.1 (by omega)
  have e := hf.eq
  rw [Rat.divInt_eq_divInt_iff (by omega) (by omega)] at e
  obtain ⟨l1, l2⟩ := h.z_le hk
  have up : ∀ B : Int, zT K n m n ≤ B * dD K n m → a ≤ B * b := fun B hB => by
    refine Int.le_of_mul_le_mul_right (a := dD K n m) ?_ (by omega)
    rw [← e]
    have := Int.mul_le_mul_of_nonneg_right hB (show 0 ≤ b by omega)
    have e2 : B * dD K n m * b = B * b * dD K n m := by grind
    omega
  refine ⟨⟨hbd.1.1, by omega⟩, ⟨hbd.2.1, by omega⟩, ?_, up _ l1, up _ l2⟩
  constructor
  · intro ha
    rw [ha, Int.zero_mul] at e
    rcases Int.mul_eq_zero.1 e with h1 | h1
    · exact h1
    · omega
  · intro hz0
    rw [hz0, Int.zero_mul] at e
    rcases Int.mul_eq_zero.1 e.symm with h1 | h1
    · exact h1
    · omega
end Pz
end Go.Proofs.Ytabgifpenegofaa
