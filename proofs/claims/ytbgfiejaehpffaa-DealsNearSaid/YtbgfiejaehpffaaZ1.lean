/-
  Steps and Forever, of the program and of the reference.
-/
import Derived.Test.YtbgfiejaehpffaaF3
import Derived.Test.YtbgfiejaehpffaaH2
namespace Go.Proofs.Ytbgfiejaehpffaa
open Go.RowKit

/-- What is left of it: numbers that are valid. -/
def partB (p q : Int) : Bool := decide (1 ≤ q) && decide (q ≤ 12) && decide (0 ≤ p) && decide (p < q)
theorem partB_iff (p q : Int) : partB p q = true ↔ (1 ≤ q ∧ q ≤ 12) ∧ 0 ≤ p ∧ p < q := by unfold partB; simp; omega
theorem allIn_1' (lo hi x : Int) : allIn lo hi [x] = (decide (lo ≤ x) && decide (x ≤ hi)) := allIn_1 lo hi x

set_option maxRecDepth 100000 in
set_option maxHeartbeats 2000000 in
theorem isLeft_any (p q : Int) (w : World) (b : Bool) (hb : Hid (partB p q = b)) :
    Calls Try.prog 56 #[.int .i64 p, .int .i64 q] w fun e w' => e = .returned (.bool b) ∧ Below w.heap.size w w' := by
  have HI1 := hide (ints_one w q)
  have HB0 := hide ((Below.refl w.heap.size w).alloc (Nat.le_refl _) (.cells #[.int .i64 q] 3))
  cases hq : (decide (1 ≤ q) && decide (q ≤ 12)) with
  | false =>
    have HF := hide (show false = b from by rw [← hb.out]; unfold partB; rw [hq]; rfl)
    have HC := hide (within_any _ _ _ _ 1 12 (w.alloc (.cells #[.int .i64 q] 3)) _ (unhide HI1) (by simp) false (hide (by rw [allIn_1, hq])))
    clear hq
    go_enter Try.func56, Try.ntmps56
    go_wp2_with fail
    refine (unhide HC).mono ?_
    rintro e w1 ⟨rfl, b1⟩
    have HB1 := hide ((unhide HB0).trans (b1.mono (unhide HB0).size)); clear b1
    go_wp2_with fail
    go_ret
    exact ⟨ret_bool HF.out, unhide HB1⟩
  | true =>
    have HC := hide (within_any _ _ _ _ 1 12 (w.alloc (.cells #[.int .i64 q] 3)) _ (unhide HI1) (by simp) true (hide (by rw [allIn_1, hq])))
    have hq2 : 1 ≤ q ∧ q ≤ 12 := by simp at hq; omega
    obtain ⟨q1, q2⟩ := hq2
    have HF := hide (show (decide (0 ≤ p) && decide (p ≤ q - 1)) = b from by rw [← hb.out]; unfold partB; rw [hq]; simp; by_cases h : p < q <;> simp [h] <;> omega)
    clear hq
    go_enter Try.func56, Try.ntmps56
    go_wp2_with fail
    refine (unhide HC).mono ?_
    rintro e w1 ⟨rfl, b1⟩
    have HB1 := hide ((unhide HB0).trans (b1.mono (unhide HB0).size)); clear b1
    have HB2 := hide ((unhide HB1).alloc (unhide HB1).size (.cells #[.int .i64 p] 3))
    have HC2 := hide (within_any _ _ _ _ 0 (q - 1) (w1.alloc (.cells #[.int .i64 p] 3)) _ (ints_one w1 p) (by simp) b (hide (by rw [allIn_1, HF.out])))
    go_wp2_with fail
    refine (unhide HC2).mono ?_
    rintro e w2 ⟨rfl, b2⟩
    have HB3 := hide ((unhide HB2).trans (b2.mono (unhide HB2).size)); clear b2
    go_wp2_with fail
    go_ret
    exact ⟨rfl, unhide HB3⟩

set_option maxHeartbeats 1000000 in
theorem Part_any (p q : Int) (w : World) (b : Bool) (hb : Hid (partB p q = b)) :
    Calls Try.prog 27 #[.int .i64 p, .int .i64 q] w fun e w' => e = .returned (.bool b) ∧ w = w' := by
  have hz := hb.out
  unfold partB at hz
  by_cases h1 : 1 ≤ q
  · by_cases h2 : q ≤ 12
    · by_cases h3 : 0 ≤ p
      · by_cases h4 : p < q
        · have HF := hide (show true = b from by rw [← hz]; simp [h1, h2, h3, h4])
          clear hz
          go_enter Try.func27, Try.ntmps27
          go_wp2_with fail
          go_ret
          exact ⟨ret_bool HF.out, rfl⟩
        · have HF := hide (show false = b from by rw [← hz]; simp [h1, h2, h3, h4])
          clear hz
          go_enter Try.func27, Try.ntmps27
          go_wp2_with fail
          go_ret
          exact ⟨ret_bool HF.out, rfl⟩
      · have HF := hide (show false = b from by rw [← hz]; simp [h1, h2, h3])
        clear hz
        go_enter Try.func27, Try.ntmps27
        go_wp2_with fail
        go_ret
        exact ⟨ret_bool HF.out, rfl⟩
    · have HF := hide (show false = b from by rw [← hz]; simp [h1, h2])
      clear hz
      go_enter Try.func27, Try.ntmps27
      go_wp2_with fail
      go_ret
      exact ⟨ret_bool HF.out, rfl⟩
  · have HF := hide (show false = b from by rw [← hz]; simp [h1])
    clear hz
    go_enter Try.func27, Try.ntmps27
    go_wp2_with fail
    go_ret
    exact ⟨ret_bool HF.out, rfl⟩

set_option maxHeartbeats 1000000 in
theorem none_any (a b : Int) (w : World) (z : Bool) (hz : Hid (decide (((a, b) : F) = (0, 0)) = z)) :
    Calls Try.prog 28 #[.agg #[.int .i64 a, .int .i64 b]] w fun e w' => e = .returned (.bool z) ∧ Below w.heap.size w w' := by
  obtain ⟨W0, hW0⟩ : ∃ W0, W0 = w.alloc (.cells #[.int .i64 a, .int .i64 b] 32) := ⟨_, rfl⟩
  have HB0 := hide (show Below w.heap.size w W0 from by rw [hW0]; exact (Below.refl _ w).alloc (Nat.le_refl _) _)
  obtain ⟨x0, x1⟩ := two_at (show W0.heap[w.heap.size]? = some (.cells #[.int .i64 a, .int .i64 b] 32 (0, 0)) from by rw [hW0]; exact heap_new_ _ _)
  have he := eql32 a b 0 0
  rw [hz.out] at he
  have hW : w.alloc (.cells #[.int .i64 a, .int .i64 b] 32) = W0 := hW0.symm
  clear hW0
  go_enter Try.func28, Try.ntmps28
  go_upto_region 1 with fail
  clear hW
  go_wp2_with fail
  go_ret
  exact ⟨rfl, unhide HB0⟩

/-- What is left, as a rational number; what is got for ever. -/
def rq (p q : Int) : Rat := Rat.divInt p q
def fq (p q : Int) : Rat := Rat.divInt q (q + p)
theorem rq_bd {p q : Int} (h : (1 ≤ q ∧ q ≤ 12) ∧ 0 ≤ p ∧ p < q) : 0 ≤ rq p q ∧ rq p q ≤ 1 := by
  have hq : q ≠ 0 := by omega
  unfold rq
  refine ⟨Rat.divInt_nonneg h.2.1 (by omega), ?_⟩
  rw [Rat.le_iff_sub_nonneg, ← Rat.divInt_self' hq, Rat.divInt_sub_divInt _ _ hq hq]
  refine Rat.divInt_nonneg ?_ (Int.mul_nonneg (by omega) (by omega))
  have := Int.mul_le_mul_of_nonneg_right (show p ≤ q by omega) (show 0 ≤ q by omega)
  omega
theorem fq_bd {p q : Int} (h : (1 ≤ q ∧ q ≤ 12) ∧ 0 ≤ p ∧ p < q) : 0 ≤ fq p q ∧ fq p q ≤ 1 := by
  have hq : q + p ≠ 0 := by omega
  unfold fq
  refine ⟨Rat.divInt_nonneg (by omega) (by omega), ?_⟩
  rw [Rat.le_iff_sub_nonneg, ← Rat.divInt_self' hq, Rat.divInt_sub_divInt _ _ hq hq]
  refine Rat.divInt_nonneg ?_ (Int.mul_nonneg (by omega) (by omega))
  have := Int.mul_le_mul_of_nonneg_right (show q ≤ q + p by omega) (show 0 ≤ q + p by omega)
  omega
theorem fq_eq {p q : Int} (h : (1 ≤ q ∧ q ≤ 12) ∧ 0 ≤ p ∧ p < q) : fq p q = 1 - rq p q * fq p q := by
  unfold fq rq
  have hq : (q : Rat) ≠ 0 := by intro e; rw [Rat.intCast_eq_zero_iff] at e; omega
  have hs : ((q + p : Int) : Rat) ≠ 0 := by intro e; rw [Rat.intCast_eq_zero_iff] at e; omega
  rw [Rat.divInt_eq_div, Rat.divInt_eq_div, Rat.div_def, Rat.div_def]
  have e1 := Rat.mul_inv_cancel _ hq
  have e2 := Rat.mul_inv_cancel _ hs
  rw [Rat.intCast_add] at *
  grind
theorem bd_rq {p q : Int} (h : (1 ≤ q ∧ q ≤ 12) ∧ 0 ≤ p ∧ p < q) : Bd 12 12 (rq p q) := (bd_divInt (a := p) (b := q) (by omega)).mono (by omega) (by omega)
theorem num_le_den {x : Rat} (h0 : 0 ≤ x) (h1 : x ≤ 1) : x.num.natAbs ≤ x.den := by
  have a := Rat.num_nonneg.2 h0
  have b := (Rat.le_iff x 1).1 h1
  simp at b
  omega
theorem bd_stp {p q : Int} (h : (1 ≤ q ∧ q ≤ 12) ∧ 0 ≤ p ∧ p < q) : ∀ k, Bd (12 ^ k) (12 ^ k) (stp (rq p q) k)
  | 0 => (show Bd 1 1 (1 : Rat) from ⟨by decide, by decide⟩)
  | k + 1 => by
    have ih := bd_stp h k
    have hb := stp_bd (rq_bd h).1 (rq_bd h).2 (k + 1)
    have h1 : Bd 1 1 (1 : Rat) := ⟨by decide, by decide⟩
    have h2 := h1.sub ((bd_rq h).mul ih)
    have hd : (stp (rq p q) (k + 1)).den ≤ 12 ^ (k + 1) := by
      have := h2.2
      rw [Nat.one_mul, Nat.mul_comm] at this
      exact this
    exact ⟨Nat.le_trans (num_le_den hb.1 hb.2) hd, hd⟩

theorem neg_rq (p q : Int) : Rat.divInt (-p) q = -(rq p q) := by unfold rq; rw [Rat.neg_divInt]

set_option maxRecDepth 100000 in
set_option maxHeartbeats 2000000 in
theorem Forever_no (p q : Int) (w : World) (hb : Hid (partB p q = false)) :
    Calls Try.prog 26 #[.int .i64 p, .int .i64 q] w fun e w' => e = .returned (.tuple #[.agg #[.int .i64 0, .int .i64 0], .int .i64 2]) ∧ Below w.heap.size w w' := by
  obtain ⟨W0, hW0⟩ : ∃ W0, W0 = w.alloc (.cells #[.int .i64 0, .int .i64 0] 32) := ⟨_, rfl⟩
  have HB0 := hide (show Below w.heap.size w W0 from by rw [hW0]; exact (Below.refl _ w).alloc (Nat.le_refl _) _)
  have HR0 := hide (show W0.heap[w.heap.size]? = some (.cells #[.int .i64 0, .int .i64 0] 32 (0, 0)) from by rw [hW0]; exact heap_new_ w _)
  have hW : w.alloc (.cells #[.int .i64 0, .int .i64 0] 32) = W0 := hW0.symm
  clear hW0
  have HL := hide (isLeft_any p q W0 false hb)
  go_enter Try.func26, Try.ntmps26
  go_wp2_with fail
  refine (unhide HL).mono ?_
  rintro e w1 ⟨rfl, b1⟩
  clear hW
  have hr := (b1.block _ (Array.getElem?_eq_some_iff.1 (unhide HR0)).1).trans (unhide HR0)
  have HB1 := hide ((unhide HB0).trans (b1.mono (unhide HB0).size))
  clear b1
  have f0 := free_at hr 0; have f1 := free_at hr 1
  obtain ⟨q0, q1⟩ := two_at hr
  have HP := hide (put2 hr (.int .i64 0) (.int .i64 0))
  have HBz := hide (below_put2 (unhide HB1) (Nat.le_refl w.heap.size) (.int .i64 0) (.int .i64 0))
  clear hr
  go_wp2_with fail
  obtain ⟨s0, s1⟩ := two_at (unhide HP)
  exact bodyPost_ret (v := .tuple #[.agg #[.int .i64 0, .int .i64 0], .int .i64 2]) (by simp [results, Try.results26, go_sem, s0, s1]) rfl ⟨rfl, unhide HBz⟩
set_option maxRecDepth 100000 in
set_option maxHeartbeats 2000000 in
theorem Forever_ok (p q : Int) (w : World) (hb : Hid (partB p q = true)) (n d : Int) (hf : Hid (Fr (fq p q) n d)) :
    Calls Try.prog 26 #[.int .i64 p, .int .i64 q] w fun e w' => e = .returned (.tuple #[.agg #[.int .i64 n, .int .i64 d], .int .i64 0]) ∧ Below w.heap.size w w' := by
  obtain ⟨⟨k1, k2⟩, k3, k4⟩ := (partB_iff p q).1 hb.out
  obtain ⟨W0, hW0⟩ : ∃ W0, W0 = w.alloc (.cells #[.int .i64 0, .int .i64 0] 32) := ⟨_, rfl⟩
  have HB0 := hide (show Below w.heap.size w W0 from by rw [hW0]; exact (Below.refl _ w).alloc (Nat.le_refl _) _)
  have HR0 := hide (show W0.heap[w.heap.size]? = some (.cells #[.int .i64 0, .int .i64 0] 32 (0, 0)) from by rw [hW0]; exact heap_new_ w _)
  have hW : w.alloc (.cells #[.int .i64 0, .int .i64 0] 32) = W0 := hW0.symm
  clear hW0
  have HL := hide (isLeft_any p q W0 true hb)
  have HQ := hide (fun W => quotient_any q (q + p) W (by omega) (by omega) n d hf)
  go_enter Try.func26, Try.ntmps26
  go_wp2_with fail
  refine (unhide HL).mono ?_
  rintro e w1 ⟨rfl, b1⟩
  clear hW
  have hr := (b1.block _ (Array.getElem?_eq_some_iff.1 (unhide HR0)).1).trans (unhide HR0)
  have HB1 := hide ((unhide HB0).trans (b1.mono (unhide HB0).size))
  clear b1
  go_wp2_with fail
  refine ((unhide HQ) w1).mono ?_
  rintro e w2 ⟨rfl, b2⟩
  have hr2 := (b2.block _ (Array.getElem?_eq_some_iff.1 hr).1).trans hr
  have HB2 := hide ((unhide HB1).trans (b2.mono (unhide HB1).size))
  clear b2 hr
  have f0 := free_at hr2 0; have f1 := free_at hr2 1
  obtain ⟨q0, q1⟩ := two_at hr2
  have HP := hide (put2 hr2 (.int .i64 n) (.int .i64 d))
  have HBz := hide (below_put2 (unhide HB2) (Nat.le_refl w.heap.size) (.int .i64 n) (.int .i64 d))
  clear hr2
  go_wp2_with fail
  obtain ⟨s0, s1⟩ := two_at (unhide HP)
  exact bodyPost_ret (v := .tuple #[.agg #[.int .i64 n, .int .i64 d], .int .i64 0]) (by simp [results, Try.results26, go_sem, s0, s1]) rfl ⟨rfl, unhide HBz⟩
set_option maxRecDepth 100000 in
set_option maxHeartbeats 2000000 in
theorem RForever_any (p q : Int) (w : World) (hb : Hid (partB p q = true)) (n d : Int) (hf : Hid (Fr (fq p q) n d)) :
    Calls Try.prog 29 #[.int .i64 p, .int .i64 q] w fun e w' => e = .returned (.agg #[.int .i64 n, .int .i64 d]) ∧ Below w.heap.size w w' := by
  obtain ⟨⟨k1, k2⟩, k3, k4⟩ := (partB_iff p q).1 hb.out
  obtain ⟨W0, hW0⟩ : ∃ W0, W0 = w.alloc (.cells #[.int .i64 0, .int .i64 0] 32) := ⟨_, rfl⟩
  have HB0 := hide (show Below w.heap.size w W0 from by rw [hW0]; exact (Below.refl _ w).alloc (Nat.le_refl _) _)
  have HR0 := hide (show W0.heap[w.heap.size]? = some (.cells #[.int .i64 0, .int .i64 0] 32 (0, 0)) from by rw [hW0]; exact heap_new_ w _)
  have hW : w.alloc (.cells #[.int .i64 0, .int .i64 0] 32) = W0 := hW0.symm
  clear hW0
  have HQ := hide (RFrac_any q (q + p) W0 (by omega) (by omega) n d hf)
  go_enter Try.func29, Try.ntmps29
  go_wp2_with fail
  refine (unhide HQ).mono ?_
  rintro e w2 ⟨rfl, b2⟩
  clear hW
  have hr2 := (b2.block _ (Array.getElem?_eq_some_iff.1 (unhide HR0)).1).trans (unhide HR0)
  have HB2 := hide ((unhide HB0).trans (b2.mono (unhide HB0).size))
  clear b2
  have f0 := free_at hr2 0; have f1 := free_at hr2 1
  obtain ⟨q0, q1⟩ := two_at hr2
  have HP := hide (put2 hr2 (.int .i64 n) (.int .i64 d))
  have HBz := hide (below_put2 (unhide HB2) (Nat.le_refl w.heap.size) (.int .i64 n) (.int .i64 d))
  clear hr2
  go_wp2_with fail
  obtain ⟨s0, s1⟩ := two_at (unhide HP)
  exact bodyPost_ret (v := .agg #[.int .i64 n, .int .i64 d]) (by simp [results, Try.results29, go_sem, s0, s1]) rfl ⟨rfl, unhide HBz⟩
end Go.Proofs.Ytbgfiejaehpffaa
