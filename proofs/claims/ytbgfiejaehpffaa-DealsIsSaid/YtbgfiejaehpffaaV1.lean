/-
  Fallback and Offers of the reference; Edge of the program.
-/
import Derived.Test.YtbgfiejaehpffaaY4
namespace Go.Proofs.Ytbgfiejaehpffaa
open Go.RowKit

set_option maxHeartbeats 2000000 in
theorem RFallback_any (x y : Int) (w : World) (b : Bool) (hb : Hid (prB (x, y) = b)) :
    Calls Try.prog 39 #[.agg #[.int .i64 x, .int .i64 y]] w fun e w' => e = .returned (.bool b) ∧ Below w.heap.size w w' := by
  obtain ⟨W0, hW0⟩ : ∃ W0, W0 = w.alloc (.cells #[.int .i64 x, .int .i64 y] 30) := ⟨_, rfl⟩
  have HB0 := hide (show Below w.heap.size w W0 from by rw [hW0]; exact (Below.refl _ w).alloc (Nat.le_refl _) _)
  obtain ⟨x0, x1⟩ := two_at (show W0.heap[w.heap.size]? = some (.cells #[.int .i64 x, .int .i64 y] 30 (0, 0)) from by rw [hW0]; exact heap_new_ w _)
  have hW : w.alloc (.cells #[.int .i64 x, .int .i64 y] 30) = W0 := hW0.symm
  clear hW0
  cases b with
  | true =>
    obtain ⟨⟨h1, h2⟩, h3, h4⟩ := (prB_iff (x, y)).1 hb.out
    simp only at h1 h2 h3 h4
    go_enter Try.func39, Try.ntmps39
    go_upto_region 1 with fail
    clear hW
    go_wp2_with fail
    go_ret
    exact ⟨rfl, unhide HB0⟩
  | false =>
    have hn : ¬ ((0 ≤ x ∧ x ≤ 30) ∧ 0 ≤ y ∧ y ≤ 30) := fun h => by
      have := (prB_iff (x, y)).2 h
      rw [hb.out] at this; cases this
    by_cases h1 : 0 ≤ x
    · by_cases h2 : x ≤ 30
      · by_cases h3 : 0 ≤ y
        · have h4 : ¬ y ≤ 30 := by omega
          clear hn
          go_enter Try.func39, Try.ntmps39
          go_upto_region 1 with fail
          clear hW
          go_wp2_with fail
          go_ret
          exact ⟨rfl, unhide HB0⟩
        · clear hn
          go_enter Try.func39, Try.ntmps39
          go_upto_region 1 with fail
          clear hW
          go_wp2_with fail
          go_ret
          exact ⟨rfl, unhide HB0⟩
      · clear hn
        go_enter Try.func39, Try.ntmps39
        go_upto_region 1 with fail
        clear hW
        go_wp2_with fail
        go_ret
        exact ⟨rfl, unhide HB0⟩
    · clear hn
      go_enter Try.func39, Try.ntmps39
      go_upto_region 1 with fail
      clear hW
      go_wp2_with fail
      go_ret
      exact ⟨rfl, unhide HB0⟩

theorem offB_pr {fs : List F} {k : Nat} (hk : k < fs.length) (h : prB (fth fs k) = false) : offB fs = false := by
  rw [Bool.eq_false_iff]; intro hc
  have := ((offB_iff fs).1 hc).pr _ (mem_fth hk)
  rw [(prB_iff _).2 this] at h; cases h
theorem offB_nd {fs : List F} {j k : Nat} (hj : j < k) (hk : k < fs.length) (h : fth fs k = fth fs j) : offB fs = false := by
  rw [Bool.eq_false_iff]; intro hc
  have h1 := List.nodup_iff_pairwise_ne.1 ((offB_iff fs).1 hc).nd
  have := List.pairwise_iff_getElem.1 h1 j k (by omega) hk hj
  apply this
  simpa [fth, List.getD, hk, show j < fs.length by omega] using h.symm
theorem ndB_succ {fs : List F} {k : Nat} (hk : k < fs.length) (h : ndB fs k = true) (hn : ∀ j, j < k → fth fs k ≠ fth fs j) : ndB fs (k + 1) = true := by
  rw [ndB, h, Bool.true_and, Bool.not_eq_true', List.any_eq_false]
  intro a ha
  obtain ⟨j, hj, rfl⟩ := List.mem_iff_getElem.1 ha
  simp at hj
  have := hn j (by omega)
  simp only [eqP, decide_eq_true_eq]
  intro e
  apply this
  rw [e]
  simp [fth, List.getD, show j < fs.length by omega]

set_option maxRecDepth 100000 in
set_option maxHeartbeats 8000000 in
theorem ROffers_any (A : Option Addr) (n c : Nat) (fs : List F) (w : World) (h : Fs w w.heap.size A n c fs) (b : Bool) (hb : Hid (offB fs = b)) :
    Calls Try.prog 17 #[.slice A n c] w fun e w' => e = .returned (.bool b) ∧ Below w.heap.size w w' := by
  have hm := h.most; have hcap := h.cap
  have HI := hide h
  have HL := hide h.len
  clear h
  go_enter Try.func17, Try.ntmps17
  go_wp2_with fail
  go_loopw [3, 4, 6, 9] (fun _ _ _ i wr => ∃ k : Nat, k ≤ n ∧ i = .int .i64 k ∧ Hid (∀ q, q ∈ fs.take k → prB q = true) ∧ Hid (ndB fs k = true) ∧ Hid (Below w.heap.size w wr)) (fun _ _ _ i _ => n - (intOf i).toNat)
  case atStart => exact ⟨0, Nat.zero_le _, rfl, hide (by simp), hide rfl, hide (Below.refl _ _)⟩
  case round =>
    obtain ⟨k, hk, rfl, HP, HN, HB⟩ := hrel
    obtain ⟨wo, ewo⟩ : ∃ wo : World, wo = wr := ⟨_, rfl⟩
    subst ewo
    by_cases hlt : k < n
    · have HI1 := hide (((unhide HI).below (unhide HB)).more (unhide HB).size)
      obtain ⟨bb, off, rfl, hbb, hc1, hc2⟩ := (unhide HI1).at_ k hlt
      have hkl : k < fs.length := by rw [HL.out]; exact hlt
      have HKL := hide hkl
      obtain ⟨p, hp⟩ : ∃ p, fth fs k = p := ⟨_, rfl⟩
      rw [hp] at hc1 hc2
      have HFK := hide hp
      clear hp hkl
      obtain ⟨x, y⟩ := p
      simp only at hc1 hc2
      obtain ⟨W1, hW1⟩ : ∃ W1, W1 = wo.alloc (.cells #[.int .i64 x, .int .i64 y] 30) := ⟨_, rfl⟩
      have hB1 : Below wo.heap.size wo W1 := by rw [hW1]; exact (Below.refl _ _).alloc (Nat.le_refl _) _
      have hx1 : W1.heap[wo.heap.size]? = some (.cells #[.int .i64 x, .int .i64 y] 30 (0, 0)) := by rw [hW1]; exact heap_new_ _ _
      have HX1 := hide hx1
      have HB1 := hide ((unhide HB).trans (hB1.mono (unhide HB).size))
      have HI2 := hide ((((unhide HI1).cut (Nat.le_of_lt hlt)).below hB1).more hB1.size)
      obtain ⟨v0, v1⟩ := two_at hx1
      have hW : wo.alloc (.cells #[.int .i64 x, .int .i64 y] 30) = W1 := hW1.symm
      clear hW1 hB1 hx1
      cases hpr : prB (x, y) with
      | false =>
        have HF := hide (show false = b from by rw [← hb.out, offB_pr HKL.out (by rw [HFK.out]; exact hpr)])
        have HC := hide (RFallback_any x y W1 false (hide hpr))
        clear hpr
        go_upto_region 4 with fail
        clear hW hc1 hc2
        go_wp2_with fail
        refine (unhide HC).mono ?_
        rintro e w2 ⟨rfl, b2⟩
        have HB2 := hide ((unhide HB1).trans (b2.mono (unhide HB1).size))
        clear b2
        go_wp2_with fail
        go_ret
        exact ⟨ret_bool HF.out, unhide HB2⟩
      | true =>
        have HP1 := hide (show ∀ q, q ∈ fs.take (k + 1) → prB q = true from fun q hq => by
          rw [take_succ HKL.out, List.mem_append] at hq
          rcases hq with hq | hq
          · exact HP.out q hq
          · simp at hq; rw [hq, HFK.out]; exact hpr)
        have HC := hide (RFallback_any x y W1 true (hide hpr))
        clear hpr
        have hkc : k ≤ c := by omega
        have hkc2 : (k : Int) ≤ (c : Int) := by omega
        have hk0 : (0 : Int) ≤ (k : Int) := by omega
        go_upto_region 4 with fail
        clear hW hc1 hc2
        go_wp2_with fail
        refine (unhide HC).mono ?_
        rintro e w2 ⟨rfl, b2⟩
        have HB2 := hide ((unhide HB1).trans (b2.mono (unhide HB1).size))
        have HX2 := hide ((b2.block _ (Array.getElem?_eq_some_iff.1 (unhide HX1)).1).trans (unhide HX1))
        have HI3 := hide (((unhide HI2).below b2).more b2.size)
        clear b2 v0 v1
        go_wp2_with fail
        clear hkc hkc2 hk0
        go_loopw [6, 21] (fun _ i wr => ∃ j : Nat, j ≤ k ∧ i = .int .i64 j ∧ Hid (∀ i, i < j → (x, y) ≠ fth fs i) ∧ Hid (Below w2.heap.size w2 wr)) (fun _ i _ => k - (intOf i).toNat)
        case atStart => exact ⟨0, Nat.zero_le _, rfl, hide (fun i hi => absurd hi (by omega)), hide (Below.refl _ _)⟩
        case round =>
          obtain ⟨j, hj, rfl, HJ, HBj⟩ := hrel
          by_cases hjk : j < k
          · obtain ⟨b2, off2, e2, _, hd1, hd2⟩ := ((unhide HI3).below (unhide HBj)).at_ j hjk
            simp only [Option.some.injEq, Addr.mk.injEq, and_true] at e2
            obtain ⟨rfl, rfl⟩ := e2
            rw [fth_take hjk] at hd1 hd2
            obtain ⟨q, hq⟩ : ∃ q, fth fs j = q := ⟨_, rfl⟩
            rw [hq] at hd1 hd2
            have HQ := hide hq
            clear hq
            obtain ⟨u, v⟩ := q
            simp only at hd1 hd2
            obtain ⟨W3, hW3⟩ : ∃ W3, W3 = wr.alloc (.cells #[.int .i64 u, .int .i64 v] 30) := ⟨_, rfl⟩
            have hB3 : Below wr.heap.size wr W3 := by rw [hW3]; exact (Below.refl _ _).alloc (Nat.le_refl _) _
            obtain ⟨u0, u1⟩ := two_at (show W3.heap[wr.heap.size]? = some (.cells #[.int .i64 u, .int .i64 v] 30 (0, 0)) from by rw [hW3]; exact heap_new_ _ _)
            obtain ⟨v0, v1⟩ := two_at ((hB3.block _ (by have := (unhide HBj).size; have := (Array.getElem?_eq_some_iff.1 (unhide HX2)).1; omega)).trans (((unhide HBj).block _ (Array.getElem?_eq_some_iff.1 (unhide HX2)).1).trans (unhide HX2)))
            have HB3 := hide ((unhide HBj).trans (hB3.mono (unhide HBj).size))
            have hW : wr.alloc (.cells #[.int .i64 u, .int .i64 v] 30) = W3 := hW3.symm
            clear hW3 hB3
            have heq := eql30 x y u v
            cases he : decide (((x, y) : F) = (u, v)) with
            | true =>
              rw [he] at heq
              have HF := hide (show false = b from by rw [← hb.out, offB_nd hjk HKL.out (by rw [HFK.out, HQ.out]; exact of_decide_eq_true he)])
              have HBz := hide ((unhide HB2).trans ((unhide HB3).mono (unhide HB2).size))
              clear he
              go_upto_region 9 with fail
              clear hW hd1 hd2
              go_wp2_with fail
              go_ret
              exact ⟨ret_bool HF.out, unhide HBz⟩
            | false =>
              rw [he] at heq
              have HJ1 := hide (show ∀ i, i < j + 1 → (x, y) ≠ fth fs i from fun i hi => by
                by_cases e : i = j
                · rw [e, HQ.out]; exact of_decide_eq_false he
                · exact HJ.out i (by omega))
              clear he
              go_upto_region 9 with fail
              clear hW hd1 hd2
              go_wp2_with fail
              go_roundw
              case rel => exact ⟨j + 1, by omega, by go_num, HJ1, HB3⟩
              case measure => simp [intOf]; omega
          · have HN1 := hide (ndB_succ HKL.out HN.out (fun i hi => by rw [HFK.out]; exact HJ.out i (by omega)))
            have HBz := hide ((unhide HB2).trans ((unhide HBj).mono (unhide HB2).size))
            go_wp2_with fail
            go_roundw
            case rel => exact ⟨k + 1, by omega, by go_num, HP1, HN1, HBz⟩
            case measure => simp [intOf]; omega
    · have hkn : k = n := by omega
      have HR := hide (show (decide (1 ≤ n) && decide (n ≤ 8)) = b from by
        rw [← hb.out]; unfold offB
        have h1 : prsB fs = true := by
          unfold prsB; rw [List.all_eq_true]; intro q hq
          exact HP.out q (by rw [hkn, List.take_of_length_le (by rw [HL.out]; exact Nat.le_refl _)]; exact hq)
        have h2 := HN.out
        rw [hkn] at h2
        rw [h1, HL.out, h2]; simp)
      clear hkn
      by_cases h1 : (1 : Int) ≤ (n : Int)
      · by_cases h2 : (n : Int) ≤ 8
        · have HT := hide (show true = b from by rw [← HR.out]; simp; omega)
          go_wp2_with fail
          go_ret
          exact ⟨ret_bool HT.out, unhide HB⟩
        · have HT := hide (show false = b from by rw [← HR.out]; simp; omega)
          go_wp2_with fail
          go_ret
          exact ⟨ret_bool HT.out, unhide HB⟩
      · have HT := hide (show false = b from by rw [← HR.out]; simp; omega)
        go_wp2_with fail
        go_ret
        exact ⟨ret_bool HT.out, unhide HB⟩
end Go.Proofs.Ytbgfiejaehpffaa
