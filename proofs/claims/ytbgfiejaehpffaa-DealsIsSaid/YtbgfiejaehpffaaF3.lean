/-
  Sums and differences of fractions, comparing them; the same by the rational numbers that they stand for.
-/
import Derived.Test.YtbgfiejaehpffaaF2
namespace Go.Proofs.Ytbgfiejaehpffaa
open Go.RowKit

set_option maxRecDepth 4000 in
set_option maxHeartbeats 3200000 in
theorem plus_any (a b c d : Int) (w : World) (h1 : -4000000000000000000 ≤ a * d ∧ a * d ≤ 4000000000000000000) (h2 : -4000000000000000000 ≤ c * b ∧ c * b ≤ 4000000000000000000) (h3 : 1 ≤ b * d ∧ b * d ≤ 9000000000000000000) (n m : Int) (hf : Hid (Fr (Rat.divInt (a * d + c * b) (b * d)) n m)) :
    Calls Try.prog 58 #[.agg #[.int .i64 a, .int .i64 b], .agg #[.int .i64 c, .int .i64 d]] w fun e w' => e = .returned (.agg #[.int .i64 n, .int .i64 m]) ∧ Below w.heap.size w w' := by
  obtain ⟨W0, hW0⟩ : ∃ W0, W0 = lay2 w 32 a b c d := ⟨_, rfl⟩
  have HB0 := hide (show Below w.heap.size w W0 from by rw [hW0]; exact lay2_below w 32 a b c d)
  have hr := hide (show W0.heap[w.heap.size + 1 + 1]? = some (.cells #[.int .i64 0, .int .i64 0] 32 (0, 0)) from by rw [hW0]; exact lay2_2 w 32 a b c d)
  obtain ⟨x0, x1⟩ := two_at (show W0.heap[w.heap.size]? = some (.cells #[.int .i64 a, .int .i64 b] 32 (0, 0)) from by rw [hW0]; exact lay2_0 w 32 a b c d)
  obtain ⟨y0, y1⟩ := two_at (show W0.heap[w.heap.size + 1]? = some (.cells #[.int .i64 c, .int .i64 d] 32 (0, 0)) from by rw [hW0]; exact lay2_1 w 32 a b c d)
  have hW1 : ((w.alloc (.cells #[.int .i64 a, .int .i64 b] 32)).alloc (.cells #[.int .i64 c, .int .i64 d] 32)).alloc (.cells #[.int .i64 0, .int .i64 0] 32) = W0 := hW0.symm
  clear hW0
  revert h1 h2 h3 hf
  obtain ⟨p, hp⟩ : ∃ p, a * d = p := ⟨_, rfl⟩
  obtain ⟨p2, hp2⟩ : ∃ p, c * b = p := ⟨_, rfl⟩
  obtain ⟨q, hq⟩ : ∃ p, b * d = p := ⟨_, rfl⟩
  rw [hp, hp2, hq]
  rintro ⟨h11, h12⟩ ⟨h21, h22⟩ ⟨h31, h32⟩ hf
  have HC := hide (fun W => quotient_any (p + p2) q W ⟨by omega, by omega⟩ ⟨h31, h32⟩ n m hf)
  go_enter Try.func58, Try.ntmps58
  go_upto_region 1 with fail
  clear hW1
  go_wp2_with fail
  refine ((unhide HC) W0).mono ?_
  rintro e w1 ⟨rfl, b1⟩
  have hr1 := (b1.block _ (Array.getElem?_eq_some_iff.1 (unhide hr)).1).trans (unhide hr)
  have HB1 := hide ((unhide HB0).trans (b1.mono (unhide HB0).size))
  clear b1 x0 x1 y0 y1
  have f0 := free_at hr1 0; have f1 := free_at hr1 1
  obtain ⟨q0, q1⟩ := two_at hr1
  have HPq := hide (put2 hr1 (.int .i64 n) (.int .i64 m))
  have HBq := hide (below_put2 (unhide HB1) (b := w.heap.size + 1 + 1) (by omega) (.int .i64 n) (.int .i64 m))
  clear hr1
  go_wp2_with fail
  obtain ⟨s0, s1⟩ := two_at (unhide HPq)
  exact bodyPost_ret (v := .agg #[.int .i64 n, .int .i64 m]) (by simp [results, Try.results58, go_sem, s0, s1]) rfl ⟨rfl, unhide HBq⟩

set_option maxRecDepth 4000 in
set_option maxHeartbeats 3200000 in
theorem RMinus_any (a b c d : Int) (w : World) (h1 : -4000000000000000000 ≤ a * d ∧ a * d ≤ 4000000000000000000) (h2 : -4000000000000000000 ≤ c * b ∧ c * b ≤ 4000000000000000000) (h3 : 1 ≤ b * d ∧ b * d ≤ 9000000000000000000) (n m : Int) (hf : Hid (Fr (Rat.divInt (a * d - c * b) (b * d)) n m)) :
    Calls Try.prog 62 #[.agg #[.int .i64 a, .int .i64 b], .agg #[.int .i64 c, .int .i64 d]] w fun e w' => e = .returned (.agg #[.int .i64 n, .int .i64 m]) ∧ Below w.heap.size w w' := by
  obtain ⟨W0, hW0⟩ : ∃ W0, W0 = lay2 w 32 a b c d := ⟨_, rfl⟩
  have HB0 := hide (show Below w.heap.size w W0 from by rw [hW0]; exact lay2_below w 32 a b c d)
  have hr := hide (show W0.heap[w.heap.size + 1 + 1]? = some (.cells #[.int .i64 0, .int .i64 0] 32 (0, 0)) from by rw [hW0]; exact lay2_2 w 32 a b c d)
  obtain ⟨x0, x1⟩ := two_at (show W0.heap[w.heap.size]? = some (.cells #[.int .i64 a, .int .i64 b] 32 (0, 0)) from by rw [hW0]; exact lay2_0 w 32 a b c d)
  obtain ⟨y0, y1⟩ := two_at (show W0.heap[w.heap.size + 1]? = some (.cells #[.int .i64 c, .int .i64 d] 32 (0, 0)) from by rw [hW0]; exact lay2_1 w 32 a b c d)
  have hW1 : ((w.alloc (.cells #[.int .i64 a, .int .i64 b] 32)).alloc (.cells #[.int .i64 c, .int .i64 d] 32)).alloc (.cells #[.int .i64 0, .int .i64 0] 32) = W0 := hW0.symm
  clear hW0
  revert h1 h2 h3 hf
  obtain ⟨p, hp⟩ : ∃ p, a * d = p := ⟨_, rfl⟩
  obtain ⟨p2, hp2⟩ : ∃ p, c * b = p := ⟨_, rfl⟩
  obtain ⟨q, hq⟩ : ∃ p, b * d = p := ⟨_, rfl⟩
  rw [hp, hp2, hq]
  rintro ⟨h11, h12⟩ ⟨h21, h22⟩ ⟨h31, h32⟩ hf
  have HC := hide (fun W => RFrac_any (p - p2) q W ⟨by omega, by omega⟩ ⟨h31, h32⟩ n m hf)
  go_enter Try.func62, Try.ntmps62
  go_upto_region 1 with fail
  clear hW1
  go_wp2_with fail
  refine ((unhide HC) W0).mono ?_
  rintro e w1 ⟨rfl, b1⟩
  have hr1 := (b1.block _ (Array.getElem?_eq_some_iff.1 (unhide hr)).1).trans (unhide hr)
  have HB1 := hide ((unhide HB0).trans (b1.mono (unhide HB0).size))
  clear b1 x0 x1 y0 y1
  have f0 := free_at hr1 0; have f1 := free_at hr1 1
  obtain ⟨q0, q1⟩ := two_at hr1
  have HPq := hide (put2 hr1 (.int .i64 n) (.int .i64 m))
  have HBq := hide (below_put2 (unhide HB1) (b := w.heap.size + 1 + 1) (by omega) (.int .i64 n) (.int .i64 m))
  clear hr1
  go_wp2_with fail
  obtain ⟨s0, s1⟩ := two_at (unhide HPq)
  exact bodyPost_ret (v := .agg #[.int .i64 n, .int .i64 m]) (by simp [results, Try.results62, go_sem, s0, s1]) rfl ⟨rfl, unhide HBq⟩

set_option maxRecDepth 4000 in
set_option maxHeartbeats 3200000 in
theorem compare_any (a b c d : Int) (w : World) (h1 : -4000000000000000000 ≤ a * d ∧ a * d ≤ 4000000000000000000) (h2 : -4000000000000000000 ≤ c * b ∧ c * b ≤ 4000000000000000000) :
    Calls Try.prog 95 #[.agg #[.int .i64 a, .int .i64 b], .agg #[.int .i64 c, .int .i64 d]] w fun e w' => e = .returned (.int .i64 (a * d - c * b)) ∧ Below w.heap.size w w' := by
  obtain ⟨W0, hW0⟩ : ∃ W0, W0 = (w.alloc (.cells #[.int .i64 a, .int .i64 b] 32)).alloc (.cells #[.int .i64 c, .int .i64 d] 32) := ⟨_, rfl⟩
  have HB0 := hide (show Below w.heap.size w W0 from by rw [hW0]; exact ((Below.refl _ w).alloc (Nat.le_refl _) _).alloc (by simp) _)
  obtain ⟨x0, x1⟩ := two_at (show W0.heap[w.heap.size]? = some (.cells #[.int .i64 a, .int .i64 b] 32 (0, 0)) from by rw [hW0, Below.heap_alloc _ _ _ (by simp)]; exact heap_new_ w _)
  obtain ⟨y0, y1⟩ := two_at (show W0.heap[w.heap.size + 1]? = some (.cells #[.int .i64 c, .int .i64 d] 32 (0, 0)) from by
    rw [hW0]
    have := heap_new_ (w.alloc (.cells #[.int .i64 a, .int .i64 b] 32)) (.cells #[.int .i64 c, .int .i64 d] 32)
    rwa [World.size_alloc] at this)
  have hW1 : (w.alloc (.cells #[.int .i64 a, .int .i64 b] 32)).alloc (.cells #[.int .i64 c, .int .i64 d] 32) = W0 := hW0.symm
  clear hW0
  revert h1 h2
  obtain ⟨p, hp⟩ : ∃ p, a * d = p := ⟨_, rfl⟩
  obtain ⟨p2, hp2⟩ : ∃ p, c * b = p := ⟨_, rfl⟩
  rw [hp, hp2]
  rintro ⟨h11, h12⟩ ⟨h21, h22⟩
  obtain ⟨r, hr⟩ : ∃ r, p - p2 = r := ⟨_, rfl⟩
  rw [hr]
  go_enter Try.func95, Try.ntmps95
  go_upto_region 1 with fail
  clear hW1
  go_wp2_with fail
  go_ret
  exact ⟨ret_int rfl, unhide HB0⟩

set_option maxRecDepth 4000 in
set_option maxHeartbeats 3200000 in
theorem RLess_any (a b c d : Int) (w : World) (h1 : -4000000000000000000 ≤ a * d ∧ a * d ≤ 4000000000000000000) (h2 : -4000000000000000000 ≤ c * b ∧ c * b ≤ 4000000000000000000) :
    Calls Try.prog 46 #[.agg #[.int .i64 a, .int .i64 b], .agg #[.int .i64 c, .int .i64 d]] w fun e w' => e = .returned (.bool (decide (a * d < c * b))) ∧ Below w.heap.size w w' := by
  obtain ⟨W0, hW0⟩ : ∃ W0, W0 = (w.alloc (.cells #[.int .i64 a, .int .i64 b] 32)).alloc (.cells #[.int .i64 c, .int .i64 d] 32) := ⟨_, rfl⟩
  have HB0 := hide (show Below w.heap.size w W0 from by rw [hW0]; exact ((Below.refl _ w).alloc (Nat.le_refl _) _).alloc (by simp) _)
  obtain ⟨x0, x1⟩ := two_at (show W0.heap[w.heap.size]? = some (.cells #[.int .i64 a, .int .i64 b] 32 (0, 0)) from by rw [hW0, Below.heap_alloc _ _ _ (by simp)]; exact heap_new_ w _)
  obtain ⟨y0, y1⟩ := two_at (show W0.heap[w.heap.size + 1]? = some (.cells #[.int .i64 c, .int .i64 d] 32 (0, 0)) from by
    rw [hW0]
    have := heap_new_ (w.alloc (.cells #[.int .i64 a, .int .i64 b] 32)) (.cells #[.int .i64 c, .int .i64 d] 32)
    rwa [World.size_alloc] at this)
  have hW1 : (w.alloc (.cells #[.int .i64 a, .int .i64 b] 32)).alloc (.cells #[.int .i64 c, .int .i64 d] 32) = W0 := hW0.symm
  clear hW0
  revert h1 h2
  obtain ⟨p, hp⟩ : ∃ p, a * d = p := ⟨_, rfl⟩
  obtain ⟨p2, hp2⟩ : ∃ p, c * b = p := ⟨_, rfl⟩
  rw [hp, hp2]
  rintro ⟨h11, h12⟩ ⟨h21, h22⟩
  obtain ⟨r, hr⟩ : ∃ r, decide (p < p2) = r := ⟨_, rfl⟩
  rw [hr]
  go_enter Try.func46, Try.ntmps46
  go_upto_region 1 with fail
  clear hW1
  go_wp2_with fail
  go_ret
  exact ⟨ret_bool rfl, unhide HB0⟩

/-- A rational number with at most N above and D below. -/
def Bd (N D : Nat) (q : Rat) : Prop := q.num.natAbs ≤ N ∧ q.den ≤ D
theorem Bd.mono {N D N' D' : Nat} {q : Rat} (h : Bd N D q) (h1 : N ≤ N') (h2 : D ≤ D') : Bd N' D' q := ⟨Nat.le_trans h.1 h1, Nat.le_trans h.2 h2⟩
theorem bd_divInt {a b : Int} (hb : 0 < b) : Bd a.natAbs b.natAbs (Rat.divInt a b) := by
  have h := fr_of (a := a) hb
  refine ⟨?_, ?_⟩
  · rw [h.1]; exact Int.natAbs_tdiv_le_natAbs _ _
  · have := Int.natAbs_tdiv_le_natAbs b (Nat.gcd a.natAbs b.natAbs : Nat)
    rw [← h.2] at this
    omega
theorem Bd.int (k : Int) : Bd k.natAbs 1 (k : Rat) := ⟨by rw [Rat.num_intCast]; exact Nat.le_refl _, by rw [Rat.den_intCast]; exact Nat.le_refl _⟩
theorem divInt_add {p q : Rat} : Rat.divInt (p.num * (q.den : Int) + q.num * (p.den : Int)) ((p.den : Int) * (q.den : Int)) = p + q := by
  have h1 : (p.den : Int) ≠ 0 := by have := p.den_pos; omega
  have h2 : (q.den : Int) ≠ 0 := by have := q.den_pos; omega
  rw [← Rat.divInt_add_divInt _ _ h1 h2, Rat.num_divInt_den, Rat.num_divInt_den]
theorem divInt_sub {p q : Rat} : Rat.divInt (p.num * (q.den : Int) - q.num * (p.den : Int)) ((p.den : Int) * (q.den : Int)) = p - q := by
  have h1 : (p.den : Int) ≠ 0 := by have := p.den_pos; omega
  have h2 : (q.den : Int) ≠ 0 := by have := q.den_pos; omega
  rw [← Rat.divInt_sub_divInt _ _ h1 h2, Rat.num_divInt_den, Rat.num_divInt_den]
theorem divInt_mul {p q : Rat} : Rat.divInt (p.num * q.num) ((p.den : Int) * (q.den : Int)) = p * q := by
  rw [← Rat.divInt_mul_divInt, Rat.num_divInt_den, Rat.num_divInt_den]
theorem nb1 {p q : Rat} {N1 D1 N2 D2 : Nat} (hp : Bd N1 D1 p) (hq : Bd N2 D2 q) : (p.num * (q.den : Int)).natAbs ≤ N1 * D2 := by
  rw [Int.natAbs_mul, Int.natAbs_natCast]; exact Nat.mul_le_mul hp.1 hq.2
theorem nb2 {p q : Rat} {N1 D1 N2 D2 : Nat} (hp : Bd N1 D1 p) (hq : Bd N2 D2 q) : 1 ≤ (p.den : Int) * (q.den : Int) ∧ (p.den : Int) * (q.den : Int) ≤ ((D1 * D2 : Nat) : Int) ∧ ((p.den : Int) * (q.den : Int)).natAbs ≤ D1 * D2 := by
  have h1 : 0 < p.den * q.den := Nat.mul_pos p.den_pos q.den_pos
  have h2 := Nat.mul_le_mul hp.2 hq.2
  rw [← Int.natCast_mul]
  omega
theorem Bd.add {p q : Rat} {N1 D1 N2 D2 : Nat} (hp : Bd N1 D1 p) (hq : Bd N2 D2 q) : Bd (N1 * D2 + N2 * D1) (D1 * D2) (p + q) := by
  have hb := nb2 hp hq
  have := bd_divInt (a := p.num * (q.den : Int) + q.num * (p.den : Int)) (b := (p.den : Int) * (q.den : Int)) (by omega)
  rw [divInt_add] at this
  have n1 := nb1 hp hq; have n2 := nb1 hq hp
  exact this.mono (by omega) hb.2.2
theorem Bd.sub {p q : Rat} {N1 D1 N2 D2 : Nat} (hp : Bd N1 D1 p) (hq : Bd N2 D2 q) : Bd (N1 * D2 + N2 * D1) (D1 * D2) (p - q) := by
  have hb := nb2 hp hq
  have := bd_divInt (a := p.num * (q.den : Int) - q.num * (p.den : Int)) (b := (p.den : Int) * (q.den : Int)) (by omega)
  rw [divInt_sub] at this
  have n1 := nb1 hp hq; have n2 := nb1 hq hp
  exact this.mono (by omega) hb.2.2
theorem Bd.mul {p q : Rat} {N1 D1 N2 D2 : Nat} (hp : Bd N1 D1 p) (hq : Bd N2 D2 q) : Bd (N1 * N2) (D1 * D2) (p * q) := by
  have hb := nb2 hp hq
  have := bd_divInt (a := p.num * q.num) (b := (p.den : Int) * (q.den : Int)) (by omega)
  rw [divInt_mul] at this
  refine this.mono ?_ hb.2.2
  rw [Int.natAbs_mul]; exact Nat.mul_le_mul hp.1 hq.1
theorem exists_fr (q : Rat) : ∃ n d, Fr q n d := ⟨_, _, rfl, rfl⟩
theorem fr_int (k : Int) : Fr (k : Rat) k 1 := ⟨by rw [Rat.num_intCast], by rw [Rat.den_intCast]; rfl⟩

section
variable {p q r : Rat} {a b c d n m : Int} {N1 D1 N2 D2 : Nat}
theorem plus_q (w : World) (hp : Hid (Fr p a b)) (hq : Hid (Fr q c d)) (bp : Hid (Bd N1 D1 p)) (bq : Hid (Bd N2 D2 q)) (hD : Hid (N1 * D2 ≤ 4000000000000000000 ∧ N2 * D1 ≤ 4000000000000000000 ∧ D1 * D2 ≤ 9000000000000000000)) (hr : Hid (p + q = r)) (hf : Hid (Fr r n m)) :
    Calls Try.prog 58 #[.agg #[.int .i64 a, .int .i64 b], .agg #[.int .i64 c, .int .i64 d]] w fun e w' => e = .returned (.agg #[.int .i64 n, .int .i64 m]) ∧ Below w.heap.size w w' := by
  obtain ⟨rfl, rfl⟩ := hp.out
  obtain ⟨rfl, rfl⟩ := hq.out
  obtain ⟨h1, h2, h3⟩ := hD.out
  have n1 := nb1 bp.out bq.out; have n2 := nb1 bq.out bp.out; have n3 := nb2 bp.out bq.out
  exact plus_any _ _ _ _ w ⟨by omega, by omega⟩ ⟨by omega, by omega⟩ ⟨by omega, by omega⟩ n m (hide (by rw [divInt_add, hr.out]; exact hf.out))
theorem RMinus_q (w : World) (hp : Hid (Fr p a b)) (hq : Hid (Fr q c d)) (bp : Hid (Bd N1 D1 p)) (bq : Hid (Bd N2 D2 q)) (hD : Hid (N1 * D2 ≤ 4000000000000000000 ∧ N2 * D1 ≤ 4000000000000000000 ∧ D1 * D2 ≤ 9000000000000000000)) (hr : Hid (p - q = r)) (hf : Hid (Fr r n m)) :
    Calls Try.prog 62 #[.agg #[.int .i64 a, .int .i64 b], .agg #[.int .i64 c, .int .i64 d]] w fun e w' => e = .returned (.agg #[.int .i64 n, .int .i64 m]) ∧ Below w.heap.size w w' := by
  obtain ⟨rfl, rfl⟩ := hp.out
  obtain ⟨rfl, rfl⟩ := hq.out
  obtain ⟨h1, h2, h3⟩ := hD.out
  have n1 := nb1 bp.out bq.out; have n2 := nb1 bq.out bp.out; have n3 := nb2 bp.out bq.out
  exact RMinus_any _ _ _ _ w ⟨by omega, by omega⟩ ⟨by omega, by omega⟩ ⟨by omega, by omega⟩ n m (hide (by rw [divInt_sub, hr.out]; exact hf.out))
theorem times_q (w : World) (hp : Hid (Fr p a b)) (hq : Hid (Fr q c d)) (bp : Hid (Bd N1 D1 p)) (bq : Hid (Bd N2 D2 q)) (hD : Hid (N1 * N2 ≤ 9000000000000000000 ∧ D1 * D2 ≤ 9000000000000000000)) (hr : Hid (p * q = r)) (hf : Hid (Fr r n m)) :
    Calls Try.prog 59 #[.agg #[.int .i64 a, .int .i64 b], .agg #[.int .i64 c, .int .i64 d]] w fun e w' => e = .returned (.agg #[.int .i64 n, .int .i64 m]) ∧ Below w.heap.size w w' := by
  obtain ⟨rfl, rfl⟩ := hp.out
  obtain ⟨rfl, rfl⟩ := hq.out
  obtain ⟨h1, h2⟩ := hD.out
  have n1 : (p.num * q.num).natAbs ≤ N1 * N2 := by rw [Int.natAbs_mul]; exact Nat.mul_le_mul bp.out.1 bq.out.1
  have n3 := nb2 bp.out bq.out
  exact times_any _ _ _ _ w ⟨by omega, by omega⟩ ⟨by omega, by omega⟩ n m (hide (by rw [divInt_mul, hr.out]; exact hf.out))
theorem RTimes_q (w : World) (hp : Hid (Fr p a b)) (hq : Hid (Fr q c d)) (bp : Hid (Bd N1 D1 p)) (bq : Hid (Bd N2 D2 q)) (hD : Hid (N1 * N2 ≤ 9000000000000000000 ∧ D1 * D2 ≤ 9000000000000000000)) (hr : Hid (p * q = r)) (hf : Hid (Fr r n m)) :
    Calls Try.prog 63 #[.agg #[.int .i64 a, .int .i64 b], .agg #[.int .i64 c, .int .i64 d]] w fun e w' => e = .returned (.agg #[.int .i64 n, .int .i64 m]) ∧ Below w.heap.size w w' := by
  obtain ⟨rfl, rfl⟩ := hp.out
  obtain ⟨rfl, rfl⟩ := hq.out
  obtain ⟨h1, h2⟩ := hD.out
  have n1 : (p.num * q.num).natAbs ≤ N1 * N2 := by rw [Int.natAbs_mul]; exact Nat.mul_le_mul bp.out.1 bq.out.1
  have n3 := nb2 bp.out bq.out
  exact RTimes_any _ _ _ _ w ⟨by omega, by omega⟩ ⟨by omega, by omega⟩ n m (hide (by rw [divInt_mul, hr.out]; exact hf.out))
theorem fr_lt (hp : Fr p a b) (hq : Fr q c d) : a * d < c * b ↔ p < q := by
  obtain ⟨rfl, rfl⟩ := hp
  obtain ⟨rfl, rfl⟩ := hq
  exact (Rat.lt_iff p q).symm
theorem RLess_q (w : World) (hp : Hid (Fr p a b)) (hq : Hid (Fr q c d)) (bp : Hid (Bd N1 D1 p)) (bq : Hid (Bd N2 D2 q)) (hD : Hid (N1 * D2 ≤ 4000000000000000000 ∧ N2 * D1 ≤ 4000000000000000000)) (z : Bool) (hz : Hid (decide (p < q) = z)) :
    Calls Try.prog 46 #[.agg #[.int .i64 a, .int .i64 b], .agg #[.int .i64 c, .int .i64 d]] w fun e w' => e = .returned (.bool z) ∧ Below w.heap.size w w' := by
  have e : decide (a * d < c * b) = z := by rw [← hz.out]; exact decide_eq_decide.2 (fr_lt hp.out hq.out)
  obtain ⟨rfl, rfl⟩ := hp.out
  obtain ⟨rfl, rfl⟩ := hq.out
  obtain ⟨h1, h2⟩ := hD.out
  have n1 := nb1 bp.out bq.out; have n2 := nb1 bq.out bp.out
  rw [← e]
  exact RLess_any _ _ _ _ w ⟨by omega, by omega⟩ ⟨by omega, by omega⟩
end
end Go.Proofs.Ytbgfiejaehpffaa
