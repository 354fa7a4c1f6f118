/-
  last of the reference.
-/
import Derived.Test.YtbgfiejaehpffaaY4
import Derived.Deep.CutRange
namespace Go.Proofs.Ytbgfiejaehpffaa
open Go.RowKit

/-- The first test of last, and its second. -/
def t1B (a o : F) : Bool := decide (a ≠ o) && decide (o.1 ≤ a.1) && decide (o.2 ≤ a.2)
def t2B (a o b : F) : Bool := decide (a.1 < o.1) && decide (o.1 < b.1) && decide ((o.2 - a.2) * (b.1 - a.1) < (b.2 - a.2) * (o.1 - a.1))
theorem lastB_t (L : List F) (o : F) : lastB L o = L.all fun a => !(t1B a o) && L.all fun b => !(t2B a o b) := rfl
theorem lastB_no1 {L : List F} {o : F} {k : Nat} (hk : k < L.length) (h : t1B (fth L k) o = true) : lastB L o = false := by
  rw [Bool.eq_false_iff]; intro hc
  rw [lastB_t, List.all_eq_true] at hc
  have := hc _ (mem_fth hk)
  rw [h] at this; simp at this
theorem lastB_no2 {L : List F} {o : F} {k j : Nat} (hk : k < L.length) (hj : j < L.length) (h : t2B (fth L k) o (fth L j) = true) : lastB L o = false := by
  rw [Bool.eq_false_iff]; intro hc
  rw [lastB_t, List.all_eq_true] at hc
  have := hc _ (mem_fth hk)
  rw [Bool.and_eq_true, List.all_eq_true] at this
  have := this.2 _ (mem_fth hj)
  rw [h] at this; simp at this
theorem lastB_yes {L : List F} {o : F} (h : ∀ k, k < L.length → t1B (fth L k) o = false ∧ ∀ j, j < L.length → t2B (fth L k) o (fth L j) = false) : lastB L o = true := by
  rw [lastB_t, List.all_eq_true]
  intro a ha
  obtain ⟨k, hk, rfl⟩ := mem_pth ha
  have h1 := h k hk
  rw [Bool.and_eq_true, List.all_eq_true]
  refine ⟨by rw [pth_fth, h1.1]; rfl, fun b hb => ?_⟩
  obtain ⟨j, hj, rfl⟩ := mem_pth hb
  rw [pth_fth, h1.2 j hj]; rfl

set_option maxRecDepth 100000 in
set_option maxHeartbeats 16000000 in
theorem last_any (A : Option Addr) (n c : Nat) (fs : List F) (x y : Int) (w : World) (h : Fs w w.heap.size A n c fs) (hs : Hid (∀ q, q ∈ fs → smallP 1000 q)) (hp : Hid (smallP 1000 (x, y))) (b : Bool) (hb : Hid (lastB fs (x, y) = b)) :
    Calls Try.prog 49 #[.slice A n c, .agg #[.int .i64 x, .int .i64 y]] w fun e w' => e = .returned (.bool b) ∧ Below w.heap.size w w' := by
  have hm := h.most; have hcap := h.cap
  obtain ⟨W0, hW0⟩ : ∃ W0, W0 = w.alloc (.cells #[.int .i64 x, .int .i64 y] 30) := ⟨_, rfl⟩
  have HB0 := hide (show Below w.heap.size w W0 from by rw [hW0]; exact (Below.refl _ w).alloc (Nat.le_refl _) _)
  have HV0 := hide (show W0.heap[w.heap.size]? = some (.cells #[.int .i64 x, .int .i64 y] 30 (0, 0)) from by rw [hW0]; exact heap_new_ w _)
  have HI := hide ((h.below (unhide HB0)).more (unhide HB0).size)
  have HL := hide h.len
  clear h
  have hW : w.alloc (.cells #[.int .i64 x, .int .i64 y] 30) = W0 := hW0.symm
  clear hW0
  go_enter Try.func49, Try.ntmps49
  go_upto_region 1 with fail
  clear hW
  go_wp2_with fail
  go_loopw [6, 8, 11] (fun _ _ i wr => ∃ k : Nat, k ≤ n ∧ i = .int .i64 k ∧ Hid (∀ i, i < k → t1B (fth fs i) (x, y) = false ∧ ∀ j, j < n → t2B (fth fs i) (x, y) (fth fs j) = false) ∧ Hid (Below W0.heap.size W0 wr)) (fun _ _ i _ => n - (intOf i).toNat)
  case atStart => exact ⟨0, Nat.zero_le _, rfl, hide (fun i hi => absurd hi (by omega)), hide (Below.refl _ _)⟩
  case round =>
    obtain ⟨k, hk, rfl, HK, HB⟩ := hrel
    obtain ⟨wo, ewo⟩ : ∃ wo : World, wo = wr := ⟨_, rfl⟩
    subst ewo
    by_cases hlt : k < n
    · have HI1 := hide (((unhide HI).below (unhide HB)).more (unhide HB).size)
      obtain ⟨bb, off, rfl, hbb, hc1, hc2⟩ := (unhide HI1).at_ k hlt
      have HKL := hide (show k < fs.length from by rw [HL.out]; exact hlt)
      have hsp := hs.out _ (mem_fth HKL.out)
      obtain ⟨p, hpk⟩ : ∃ p, fth fs k = p := ⟨_, rfl⟩
      rw [hpk] at hc1 hc2 hsp
      have HFK := hide hpk
      clear hpk
      obtain ⟨u, v⟩ := p
      simp only at hc1 hc2
      have HSP := hide hsp
      clear hsp
      obtain ⟨W1, hW1⟩ : ∃ W1, W1 = wo.alloc (.cells #[.int .i64 u, .int .i64 v] 30) := ⟨_, rfl⟩
      have hB1 : Below wo.heap.size wo W1 := by rw [hW1]; exact (Below.refl _ _).alloc (Nat.le_refl _) _
      have hx1 : W1.heap[wo.heap.size]? = some (.cells #[.int .i64 u, .int .i64 v] 30 (0, 0)) := by rw [hW1]; exact heap_new_ _ _
      have HX1 := hide hx1
      have HB1 := hide ((unhide HB).trans (hB1.mono (unhide HB).size))
      have HI2 := hide (((unhide HI1).below hB1).more hB1.size)
      have HV1 := hide (((unhide HB1).block _ (Array.getElem?_eq_some_iff.1 (unhide HV0)).1).trans (unhide HV0))
      have hW : wo.alloc (.cells #[.int .i64 u, .int .i64 v] 30) = W1 := hW1.symm
      clear hW1 hB1 hx1
      go_upto_region 4 with fail
      clear hW hc1 hc2
      go_cut [11, 31] from 11 to 76 (fun i z wx => i = .int .i64 k ∧ z = .bool (t1B (u, v) (x, y)) ∧ wx = W1)
      case first =>
        obtain ⟨v0, v1⟩ := two_at (unhide HX1)
        obtain ⟨u0, u1⟩ := two_at (unhide HV1)
        have heq := neq30 u v x y
        cases he : decide (((u, v) : F) = (x, y)) with
        | true =>
          rw [he] at heq
          have HZ := hide (show false = t1B (u, v) (x, y) from by unfold t1B; simp [of_decide_eq_true he])
          clear he
          go_wp2_with fail
          go_meet
          exact ⟨rfl, congrArg Value.bool HZ.out, rfl⟩
        | false =>
          rw [he] at heq
          have HN := hide (show ((u, v) : F) ≠ (x, y) from of_decide_eq_false he)
          clear he
          by_cases h1 : x ≤ u
          · by_cases h2 : y ≤ v
            · have HZ := hide (show true = t1B (u, v) (x, y) from by unfold t1B; simp only [decide_eq_true HN.out, decide_eq_true h1, decide_eq_true h2]; rfl)
              go_wp2_with fail
              go_meet
              exact ⟨rfl, congrArg Value.bool HZ.out, rfl⟩
            · have HZ := hide (show false = t1B (u, v) (x, y) from by unfold t1B; simp only [decide_eq_false h2, Bool.and_false])
              go_wp2_with fail
              go_meet
              exact ⟨rfl, congrArg Value.bool HZ.out, rfl⟩
          · have HZ := hide (show false = t1B (u, v) (x, y) from by unfold t1B; simp only [decide_eq_false h1, Bool.and_false, Bool.false_and])
            go_wp2_with fail
            go_meet
            exact ⟨rfl, congrArg Value.bool HZ.out, rfl⟩
      case rest =>
        obtain ⟨rfl, rfl, rfl⟩ := hcut
        cases hz : t1B (u, v) (x, y) with
        | true =>
          have HF := hide (show false = b from by rw [← hb.out]; exact (lastB_no1 HKL.out (by rw [HFK.out]; exact hz)).symm)
          have HBz := hide ((unhide HB0).trans ((unhide HB1).mono (unhide HB0).size))
          clear hz
          go_wp2_with fail
          go_ret
          exact ⟨ret_bool HF.out, unhide HBz⟩
        | false =>
          have HT1 := hide hz
          clear hz
          go_wp2_with fail
          go_loopw [8, 34] (fun _ i wr => ∃ j : Nat, j ≤ n ∧ i = .int .i64 j ∧ Hid (∀ i, i < j → t2B (u, v) (x, y) (fth fs i) = false) ∧ Hid (Below wc.heap.size wc wr)) (fun _ i _ => n - (intOf i).toNat)
          case atStart => exact ⟨0, Nat.zero_le _, rfl, hide (fun i hi => absurd hi (by omega)), hide (Below.refl _ _)⟩
          case round =>
            obtain ⟨j, hj, rfl, HJ, HBj⟩ := hrel
            by_cases hjn : j < n
            · obtain ⟨b2, off2, e2, _, hd1, hd2⟩ := ((unhide HI2).below (unhide HBj)).at_ j hjn
              simp only [Option.some.injEq, Addr.mk.injEq, and_true] at e2
              obtain ⟨rfl, rfl⟩ := e2
              have HJL := hide (show j < fs.length from by rw [HL.out]; exact hjn)
              have hsq := hs.out _ (mem_fth HJL.out)
              obtain ⟨q, hq⟩ : ∃ q, fth fs j = q := ⟨_, rfl⟩
              rw [hq] at hd1 hd2 hsq
              have HQ := hide hq
              clear hq
              obtain ⟨s, t⟩ := q
              simp only at hd1 hd2
              have HSQ := hide hsq
              clear hsq
              obtain ⟨W3, hW3⟩ : ∃ W3, W3 = wr.alloc (.cells #[.int .i64 s, .int .i64 t] 30) := ⟨_, rfl⟩
              have hB3 : Below wr.heap.size wr W3 := by rw [hW3]; exact (Below.refl _ _).alloc (Nat.le_refl _) _
              have HB3 := hide ((unhide HBj).trans (hB3.mono (unhide HBj).size))
              have HS3 := hide (show W3.heap[wr.heap.size]? = some (.cells #[.int .i64 s, .int .i64 t] 30 (0, 0)) from by rw [hW3]; exact heap_new_ _ _)
              have HX3 := hide (((unhide HB3).block _ (Array.getElem?_eq_some_iff.1 (unhide HX1)).1).trans (unhide HX1))
              have HV3 := hide (((unhide HB3).block _ (Array.getElem?_eq_some_iff.1 (unhide HV1)).1).trans (unhide HV1))
              have hW : wr.alloc (.cells #[.int .i64 s, .int .i64 t] 30) = W3 := hW3.symm
              clear hW3 hB3
              go_upto_region 9 with fail
              clear hW hd1 hd2
              go_cut [34, 74] from 34 to 75 (fun i z wx => i = .int .i64 j ∧ z = .bool (t2B (u, v) (x, y) (s, t)) ∧ wx = W3)
              case first =>
                obtain ⟨v0, v1⟩ := two_at (unhide HX3)
                obtain ⟨u0, u1⟩ := two_at (unhide HV3)
                obtain ⟨s0, s1⟩ := two_at (unhide HS3)
                by_cases h1 : u < x
                · by_cases h2 : x < s
                  · obtain ⟨⟨p1, p2⟩, ⟨p3, p4⟩⟩ := hp.out
                    obtain ⟨⟨q1, q2⟩, ⟨q3, q4⟩⟩ := HSP.out
                    obtain ⟨⟨r1, r2⟩, ⟨r3, r4⟩⟩ := HSQ.out
                    simp only at p1 p2 p3 p4 q1 q2 q3 q4 r1 r2 r3 r4
                    obtain ⟨m1, hm1⟩ : ∃ m1, (t - v) * (x - u) = m1 := ⟨_, rfl⟩
                    obtain ⟨m2, hm2⟩ : ∃ m2, (y - v) * (s - u) = m2 := ⟨_, rfl⟩
                    have e1 := mul_bd (M := 2000) (N := 2000) (a := t - v) (b := x - u) (by omega) (by omega)
                    have e2 := mul_bd (M := 2000) (N := 2000) (a := y - v) (b := s - u) (by omega) (by omega)
                    rw [hm1] at e1; rw [hm2] at e2
                    have HZ := hide (show decide (m2 < m1) = t2B (u, v) (x, y) (s, t) from by unfold t2B; simp only [decide_eq_true h1, decide_eq_true h2, hm1, hm2]; rfl)
                    by_cases h3 : m2 < m1
                    · rw [decide_eq_true h3] at HZ
                      go_wp2_with fail
                      go_meet
                      exact ⟨rfl, congrArg Value.bool HZ.out, rfl⟩
                    · rw [decide_eq_false h3] at HZ
                      go_wp2_with fail
                      go_meet
                      exact ⟨rfl, congrArg Value.bool HZ.out, rfl⟩
                  · have HZ := hide (show false = t2B (u, v) (x, y) (s, t) from by unfold t2B; simp only [decide_eq_false h2, Bool.and_false, Bool.false_and])
                    go_wp2_with fail
                    go_meet
                    exact ⟨rfl, congrArg Value.bool HZ.out, rfl⟩
                · have HZ := hide (show false = t2B (u, v) (x, y) (s, t) from by unfold t2B; simp only [decide_eq_false h1, Bool.false_and])
                  go_wp2_with fail
                  go_meet
                  exact ⟨rfl, congrArg Value.bool HZ.out, rfl⟩
              case rest =>
                obtain ⟨rfl, rfl, rfl⟩ := hcut
                cases hz : t2B (u, v) (x, y) (s, t) with
                | true =>
                  have HF := hide (show false = b from by rw [← hb.out]; exact (lastB_no2 HKL.out HJL.out (by rw [HFK.out, HQ.out]; exact hz)).symm)
                  have HBz := hide ((unhide HB0).trans (((unhide HB1).trans ((unhide HB3).mono (unhide HB1).size)).mono (unhide HB0).size))
                  clear hz
                  go_wp2_with fail
                  go_ret
                  exact ⟨ret_bool HF.out, unhide HBz⟩
                | false =>
                  have HJ1 := hide (show ∀ i, i < j + 1 → t2B (u, v) (x, y) (fth fs i) = false from fun i hi => by
                    by_cases e : i = j
                    · rw [e, HQ.out]; exact hz
                    · exact HJ.out i (by omega))
                  clear hz
                  go_wp2_with fail
                  go_roundw
                  case rel => exact ⟨j + 1, by omega, by go_num, HJ1, HB3⟩
                  case measure => simp [intOf]; omega
            · have HK1 := hide (show ∀ i, i < k + 1 → t1B (fth fs i) (x, y) = false ∧ ∀ j, j < n → t2B (fth fs i) (x, y) (fth fs j) = false from fun i hi => by
                by_cases e : i = k
                · rw [e, HFK.out]; exact ⟨HT1.out, fun i hi => HJ.out i (by omega)⟩
                · exact HK.out i (by omega))
              have HBz := hide ((unhide HB1).trans ((unhide HBj).mono (unhide HB1).size))
              go_wp2_with fail
              go_roundw
              case rel => exact ⟨k + 1, by omega, by go_num, HK1, HBz⟩
              case measure => simp [intOf]; omega
    · have HF := hide (show true = b from by
        rw [← hb.out]; exact (lastB_yes (fun i hi => by
          rw [HL.out] at hi
          have := HK.out i (by omega)
          exact ⟨this.1, fun j hj => this.2 j (by rw [HL.out] at hj; omega)⟩)).symm)
      have HBz := hide ((unhide HB0).trans ((unhide HB).mono (unhide HB0).size))
      go_wp2_with fail
      go_ret
      exact ⟨ret_bool HF.out, unhide HBz⟩
end Go.Proofs.Ytbgfiejaehpffaa
