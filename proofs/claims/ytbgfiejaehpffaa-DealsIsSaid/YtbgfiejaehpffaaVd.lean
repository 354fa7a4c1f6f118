/-
  The reference's limits keep the same points as the program's.
-/
import Derived.Test.YtbgfiejaehpffaaVa
import Derived.Test.YtbgfiejaehpffaaVb
namespace Go.Proofs.Ytbgfiejaehpffaa
open Go.RowKit

theorem bey_iff (xn xd yn yd : Int) (l : G) : beyB xn xd yn yd l = false ↔ l.1 * (xn * yd) + l.2.1 * (yn * xd) ≤ (xd * yd) * l.2.2 := by
  unfold beyB
  rw [decide_eq_false_iff_not, Int.not_lt]
  have e1 : l.1 * xn * yd = l.1 * (xn * yd) := Int.mul_assoc _ _ _
  have e2 : l.2.1 * yn * xd = l.2.1 * (yn * xd) := Int.mul_assoc _ _ _
  have e3 : l.2.2 * xd * yd = (xd * yd) * l.2.2 := by rw [Int.mul_assoc, Int.mul_comm]
  rw [e1, e2, e3]
theorem mem_rLims {fs : List F} {m : G} : m ∈ rLims fs ↔ m ∈ mayL fs fs.length ∧ ∀ q, q ∈ fs → m.1 * q.1 + m.2.1 * q.2 ≤ m.2.2 := by
  unfold rLims okM
  rw [List.mem_filter, List.all_eq_true]
  simp
theorem lims_sub {fs L : List F} (hC : Cor fs (fth L) L.length) {l : G} (hl : l ∈ limsF L) : l ∈ rLims fs := by
  rw [mem_rLims]
  have hpos := hC.pos
  unfold limsF lim2 at hl
  rcases List.mem_append.1 hl with hl | hl
  · simp only [List.mem_cons, List.not_mem_nil, or_false] at hl
    rcases hl with rfl | rfl
    · obtain ⟨i, hi, e⟩ := mem_pth (hC.mem 0 hpos)
      rw [pth_fth] at e
      refine ⟨mem_mayL hi (.inr (.inl (by rw [e]))), fun q hq => ?_⟩
      have := SupQ.top hC.rise (hC.sup q hq)
      simp only; omega
    · obtain ⟨i, hi, e⟩ := mem_pth (hC.mem (L.length - 1) (by omega))
      rw [pth_fth] at e
      refine ⟨mem_mayL hi (.inl (by rw [e])), fun q hq => ?_⟩
      have := SupQ.right hC.rise (hC.sup q hq)
      simp only; omega
  · obtain ⟨k, hk, rfl⟩ := edgL_mem hl
    obtain ⟨i, hi, e⟩ := mem_pth (hC.mem k (by omega))
    obtain ⟨j, hj, e2⟩ := mem_pth (hC.mem (k + 1) (by omega))
    rw [pth_fth] at e e2
    have hr := hC.rise k (by omega)
    refine ⟨mem_mayL hi (.inr (.inr ⟨j, hj, ?_, by rw [e, e2]⟩)), fun q hq => ?_⟩
    · rw [← e, ← e2]; unfold below2; simp; omega
    · have := SupQ.above hC.rise hC.turn (hC.sup q hq) (i := k) (by omega)
      unfold above vl ev eu at this
      simp only [lim, thA, thB, thC]
      omega
theorem lims_same {fs L : List F} (hO : Off fs) (hC : Cor fs (fth L) L.length) {xn xd yn yd : Int} (hx : plOk xn xd) (hy : plOk yn yd) : (rLims fs).any (beyB xn xd yn yd) = (limsF L).any (beyB xn xd yn yd) := by
  have key : (rLims fs).any (beyB xn xd yn yd) = false ↔ (limsF L).any (beyB xn xd yn yd) = false := by
    rw [List.any_eq_false, List.any_eq_false]
    constructor
    · intro h l hl
      exact h l (lims_sub hC hl)
    · intro h m hm
      rw [Bool.not_eq_true, bey_iff]
      have hk : Keeps (fth L) L.length (xn * yd) (yn * xd) (xd * yd) := by
        have hD : 0 < xd * yd := Int.mul_pos (by have := hx.2; omega) (by have := hy.2; omega)
        have hq : ∀ l, l ∈ limsF L → l.1 * (xn * yd) + l.2.1 * (yn * xd) ≤ (xd * yd) * l.2.2 := fun l hl => (bey_iff xn xd yn yd l).1 (by simpa using h l hl)
        refine ⟨?_, ?_, fun i hi => ?_⟩
        · have := hq (0, 1, (fth L 0).2) (List.mem_append_left _ (by simp [lim2]))
          simp only at this; omega
        · have := hq (1, 0, (fth L (L.length - 1)).1) (List.mem_append_left _ (by simp [lim2]))
          simp only at this; omega
        · have := hq _ (List.mem_append_right _ (mem_edgL (fs := L) (k := i) (m := L.length - 1) (by omega)))
          simp only [lim, thA, thB, thC] at this
          unfold ev eu vl; exact this
      obtain ⟨hmm, hall⟩ := mem_rLims.1 hm
      have hok := okL_may hO hmm
      obtain ⟨j, hj, hle⟩ := hk.sup hC.rise hC.turn hC.pos hok.1.1 hok.2.1.1
      have hD : 0 < xd * yd := Int.mul_pos (by have := hx.2; omega) (by have := hy.2; omega)
      have h2 := hall _ (hC.mem j hj)
      have h3 : (xd * yd) * vl m.1 m.2.1 (fth L j) ≤ (xd * yd) * m.2.2 := Int.mul_le_mul_of_nonneg_left (by unfold vl; exact h2) (by omega)
      omega
  cases h1 : (rLims fs).any (beyB xn xd yn yd) with
  | false => rw [key.1 h1]
  | true =>
    cases h2 : (limsF L).any (beyB xn xd yn yd) with
    | true => rfl
    | false => rw [key.2 h2] at h1; cases h1
end Go.Proofs.Ytbgfiejaehpffaa
