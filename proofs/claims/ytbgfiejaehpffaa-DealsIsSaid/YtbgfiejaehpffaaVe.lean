/-
  Is of the reference.
-/
import Derived.Test.YtbgfiejaehpffaaVc
import Derived.Test.YtbgfiejaehpffaaVd
namespace Go.Proofs.Ytbgfiejaehpffaa
open Go.RowKit

set_option maxRecDepth 100000 in
set_option maxHeartbeats 16000000 in
theorem RIs_any (A : Option Addr) (n c : Nat) (fs : List F) (xn xd yn yd : Int) (w : World) (h : Fs w w.heap.size A n c fs) (hO : Hid (Off fs)) (hx : Hid (plOk xn xd)) (hy : Hid (plOk yn yd)) (z : Bool) (hz : Hid ((rLims fs).any (beyB xn xd yn yd) = !z)) :
    Calls Try.prog 24 #[.slice A n c, .agg #[.int .i64 xn, .int .i64 xd, .int .i64 yn, .int .i64 yd]] w fun e w' => e = .returned (.bool z) ∧ Below w.heap.size w w' := by
  have hm := h.most; have hcap := h.cap
  have HL := hide h.len
  obtain ⟨W0, hW0⟩ : ∃ W0, W0 = w.alloc (.cells #[.int .i64 xn, .int .i64 xd, .int .i64 yn, .int .i64 yd] 34) := ⟨_, rfl⟩
  have HB0 := hide (show Below w.heap.size w W0 from by rw [hW0]; exact (Below.refl _ w).alloc (Nat.le_refl _) _)
  have HV0 := hide (show W0.heap[w.heap.size]? = some (.cells #[.int .i64 xn, .int .i64 xd, .int .i64 yn, .int .i64 yd] 34 (0, 0)) from by rw [hW0]; exact heap_new_ w _)
  have HI0 := hide ((h.below (unhide HB0)).more (unhide HB0).size)
  have hW : w.alloc (.cells #[.int .i64 xn, .int .i64 xd, .int .i64 yn, .int .i64 yd] 34) = W0 := hW0.symm
  clear hW0 h
  have HC := hide (RLimits_any A n c fs W0 (unhide HI0) hO)
  have HMk := hide (show ∀ m, m ∈ rLims fs → okL m from fun m hm => okL_may hO.out (mem_rLims.1 hm).1)
  generalize rLims fs = M at HC HMk hz
  go_enter Try.func24, Try.ntmps24
  go_upto_region 1 with fail
  clear hW
  go_wp2_with fail
  refine (unhide HC).mono ?_
  rintro e w1 ⟨v1, rfl, ho1, b1⟩
  obtain ⟨A1, n1, c1, rfl, hg1⟩ := ho1.to
  have HB1 := hide ((unhide HB0).trans (b1.mono (unhide HB0).size))
  have HV1 := hide ((b1.block _ (Array.getElem?_eq_some_iff.1 (unhide HV0)).1).trans (unhide HV0))
  have hm1 := hg1.most; have hcap1 := hg1.cap
  have HG1 := hide hg1
  have HLM := hide hg1.len
  clear b1 ho1 hg1
  go_wp2_with fail
  go_loopw [6, 10] (fun _ i wr => ∃ l : Nat, l ≤ n1 ∧ i = .int .i64 l ∧ Hid ((M.take l).any (beyB xn xd yn yd) = false) ∧ Hid (Below w1.heap.size w1 wr)) (fun _ i _ => n1 - (intOf i).toNat)
  case atStart => exact ⟨0, Nat.zero_le _, rfl, hide (by simp), hide (Below.refl _ _)⟩
  case round =>
    obtain ⟨l, hl, rfl, HK, HB⟩ := hrel
    by_cases hln : l < n1
    · obtain ⟨b3, off3, rfl, _, hg1, hg2, hg3⟩ := ((unhide HG1).below (unhide HB)).at_ l hln
      have HLL := hide (show l < M.length from by rw [HLM.out]; exact hln)
      have hok := HMk.out _ (mem_gth HLL.out)
      have hmem := mem_gth HLL.out
      have htk := gtake M l HLL.out
      obtain ⟨r, hr⟩ : ∃ r, gth M l = r := ⟨_, rfl⟩
      rw [hr] at hg1 hg2 hg3 hok htk hmem
      clear hr
      obtain ⟨p, q, e⟩ := r
      simp only at hg1 hg2 hg3
      have HMem := hide hmem
      have HTK := hide (show (M.take (l + 1)).any (beyB xn xd yn yd) = beyB xn xd yn yd (p, q, e) from by rw [htk, List.any_append, HK.out]; simp)
      simp only [okL] at hok
      clear htk hmem
      obtain ⟨⟨p1, p2⟩, ⟨q1, q2⟩, r1, r2⟩ := hok
      obtain ⟨⟨xn1, xn2⟩, xd1, xd2⟩ := hx.out
      obtain ⟨⟨yn1, yn2⟩, yd1, yd2⟩ := hy.out
      obtain ⟨W1, hW1⟩ : ∃ W1, W1 = wr.alloc (.cells #[.int .i64 p, .int .i64 q, .int .i64 e] 79) := ⟨_, rfl⟩
      have hB1 : Below wr.heap.size wr W1 := by rw [hW1]; exact (Below.refl _ _).alloc (Nat.le_refl _) _
      obtain ⟨l0, l1, l2⟩ := three_at (show W1.heap[wr.heap.size]? = some (.cells #[.int .i64 p, .int .i64 q, .int .i64 e] 79 (0, 0)) from by rw [hW1]; exact heap_new_ _ _)
      have HBW := hide ((unhide HB).trans (hB1.mono (unhide HB).size))
      have HBz := hide ((unhide HB1).trans ((unhide HBW).mono (unhide HB1).size))
      obtain ⟨c0, c1, c2, c3⟩ := four_at (((unhide HBW).block _ (Array.getElem?_eq_some_iff.1 (unhide HV1)).1).trans (unhide HV1))
      have hW : wr.alloc (.cells #[.int .i64 p, .int .i64 q, .int .i64 e] 79) = W1 := hW1.symm
      clear hW1 hB1
      have e1 := mul_bd (M := 60) (N := 30000000) (a := p) (b := xn) (by omega) (by omega)
      obtain ⟨m1, hm1'⟩ : ∃ m1, p * xn = m1 := ⟨_, rfl⟩
      rw [hm1'] at e1
      have e2 := mul_bd (M := 60 * 30000000) (N := 1000000) (a := m1) (b := yd) (by omega) (by omega)
      obtain ⟨m2, hm2⟩ : ∃ m2, m1 * yd = m2 := ⟨_, rfl⟩
      rw [hm2] at e2
      have e3 := mul_bd (M := 60) (N := 30000000) (a := q) (b := yn) (by omega) (by omega)
      obtain ⟨m3, hm3⟩ : ∃ m3, q * yn = m3 := ⟨_, rfl⟩
      rw [hm3] at e3
      have e4 := mul_bd (M := 60 * 30000000) (N := 1000000) (a := m3) (b := xd) (by omega) (by omega)
      obtain ⟨m4, hm4⟩ : ∃ m4, m3 * xd = m4 := ⟨_, rfl⟩
      rw [hm4] at e4
      have e5 := mul_bd (M := 4000) (N := 1000000) (a := e) (b := xd) (by omega) (by omega)
      obtain ⟨m5, hm5⟩ : ∃ m5, e * xd = m5 := ⟨_, rfl⟩
      rw [hm5] at e5
      have e6 := mul_bd (M := 4000 * 1000000) (N := 1000000) (a := m5) (b := yd) (by omega) (by omega)
      obtain ⟨m6, hm6⟩ : ∃ m6, m5 * yd = m6 := ⟨_, rfl⟩
      rw [hm6] at e6
      have HF := hide (show beyB xn xd yn yd (p, q, e) = decide (m6 < m2 + m4) from by unfold beyB; simp only [hm1', hm2, hm3, hm4, hm5, hm6])
      clear p1 p2 q1 q2 r1 r2 xn1 xn2 yn1 yn2
      by_cases hle : m6 < m2 + m4
      · have HZ := hide (show false = z from by
          have h1 : M.any (beyB xn xd yn yd) = true := by
            rw [List.any_eq_true]; exact ⟨_, HMem.out, by rw [HF.out, decide_eq_true hle]⟩
          have h2 := hz.out
          rw [h1] at h2
          cases z
          · first | rfl | exact absurd h2 (by decide)
          · first | rfl | exact absurd h2 (by decide))
        go_upto_region 4 with fail
        clear hW hg1 hg2 hg3
        go_wp2_with fail
        go_ret
        exact ⟨ret_bool HZ.out, unhide HBz⟩
      · have HN := hide (show (M.take (l + 1)).any (beyB xn xd yn yd) = false from by rw [HTK.out, HF.out, decide_eq_false hle])
        go_upto_region 4 with fail
        clear hW hg1 hg2 hg3
        go_wp2_with fail
        go_roundw
        case rel => exact ⟨l + 1, by omega, by go_num, HN, HBW⟩
        case measure => simp [intOf]; omega
    · have HZ := hide (show true = z from by
        have h1 := HK.out
        rw [List.take_of_length_le (by rw [HLM.out]; omega)] at h1
        have h2 := hz.out
        rw [h1] at h2
        cases z
        · first | rfl | exact absurd h2 (by decide)
        · first | rfl | exact absurd h2 (by decide))
      have HBz := hide ((unhide HB1).trans ((unhide HB).mono (unhide HB1).size))
      go_wp2_with fail
      go_ret
      exact ⟨ret_bool HZ.out, unhide HBz⟩
end Go.Proofs.Ytbgfiejaehpffaa
