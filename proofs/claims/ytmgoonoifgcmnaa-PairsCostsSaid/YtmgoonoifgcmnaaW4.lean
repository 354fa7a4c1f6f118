/-
  IsRow, Places, Split, Turn: of the program and of the reference.
-/
import Derived.Test.YtmgoonoifgcmnaaW3
import Derived.BigQuiet
import Derived.Deep.QuietTactic
namespace Go.Proofs.Ytmgoonoifgcmnaa
open Go.RowKit

theorem RowR_false {s : Int} {xs : List Int} {j : Nat} (hj : j < xs.length / 2) (h : rfB s xs ((j : Int) + 1) = false) : rowR s xs = false := by
  unfold rowR; rw [allB_false hj h, Bool.and_false]

set_option maxRecDepth 100000 in
set_option maxHeartbeats 2000000 in
theorem RIsRow_s (s : Nat) (hs : 1 ≤ s ∧ s ≤ 2) (A : Option Addr) (n c : Nat) (xs : List Int) (w : World) (h : Ints w w.heap.size A n c xs) :
    Calls Try.prog 23 #[.int .i64 s, .slice A n c] w fun e w' => e = .returned (.bool (rowR s xs)) ∧ Below w.heap.size w w' := by
  have hm := h.most; have hcap := h.cap
  have hl := hide h.len
  obtain ⟨m, hmn⟩ : ∃ m, n / 2 = m := ⟨_, rfl⟩
  have hmm : ((n : Int)).tdiv 2 = (m : Int) := by rw [Int.tdiv_eq_ediv_of_nonneg (by omega)]; omega
  have HM := hide hmn
  have hmb : m ≤ n := by omega
  have hmb2 : 2 * m ≤ n := by omega
  have HLB := hide (show lenB xs = (decide (1 ≤ m) && (decide (m ≤ 8) && decide (n = 2 * m))) from by unfold lenB; rw [hl.out, HM.out])
  have H := hide h
  clear hmn h
  by_cases c1 : 1 ≤ m
  · by_cases c2 : m ≤ 8
    · by_cases he : n = 2 * m
      · have d0 : ((n : Int) != 2 * (m : Int)) = false := by simp; omega
        have HX := hide (show rowR s xs = allB (rfB s xs) m from by unfold rowR; rw [HLB.out, hl.out, HM.out]; simp; omega)
        have HN := hide he
        have hn16 : n ≤ 16 := by omega
        clear he HLB
        go_enter Try.func23, Try.ntmps23
        go_wp2_with fail
        go_loopw [6] (fun i wr => ∃ k : Nat, k ≤ m ∧ i = .int .i64 ((k : Int) + 1) ∧ Hid (allB (rfB s xs) k = true) ∧ Hid (Below w.heap.size w wr)) (fun i _ => (m + 1 - intOf i).toNat)
        case atStart => exact ⟨0, by omega, rfl, hide rfl, hide (Below.refl _ _)⟩
        case round =>
          obtain ⟨k, hk, rfl, HA, HB⟩ := hrel
          by_cases hlt : k < m
          · have HI := hide ((unhide H).below (unhide HB) |>.more (unhide HB).size)
            have hk8 : k < 8 := by omega
            go_wp2_with fail
            refine (rplaces_ints _ _ _ _ ((k : Int) + 1) _ (unhide HI) (by omega)).mono ?_
            rintro e w1 ⟨A1, n1, c1, rfl, hi1, hb1⟩
            have hl1 := hi1.len
            have hm1 := hi1.most; have hc1 := hi1.cap
            have HB1 := hide ((unhide HB).trans (hb1.mono (unhide HB).size))
            by_cases hn1 : n1 = 2
            · subst hn1
              obtain ⟨b, off, rfl, hbb, hcell⟩ := hi1.cells (by omega)
              obtain ⟨x, y, hxy⟩ : ∃ x y, plL xs ((k : Int) + 1) = [x, y] := by
                match hp : plL xs ((k : Int) + 1), hl1 with
                | [x, y], _ => exact ⟨x, y, rfl⟩
              have y0 := hcell 0 (by omega)
              have y1 := hcell 1 (by omega)
              rw [hxy] at y0 y1
              simp only [List.getD_cons_zero, List.getD_cons_succ, Nat.add_zero] at y0 y1
              obtain ⟨i, rfl, hi, _⟩ := plT_mem.1 (show x ∈ plT xs ((k : Int) + 1) xs.length by rw [show plT xs ((k : Int) + 1) xs.length = [x, y] from hxy]; simp)
              obtain ⟨j, rfl, hj, _⟩ := plT_mem.1 (show y ∈ plT xs ((k : Int) + 1) xs.length by rw [show plT xs ((k : Int) + 1) xs.length = [(i : Int), y] from hxy]; simp)
              have HR := hide (show rfB s xs ((k : Int) + 1) = decide ((j : Int) - (i : Int) = (k : Int) + 1 + s - 1) from by unfold rfB; rw [hxy]; simp [nth])
              rw [hl.out] at hi hj
              clear hxy hi1 hb1 hcell hl1
              by_cases hz : (j : Int) - (i : Int) = (k : Int) + 1 + s - 1
              · have d2 : ((j : Int) - (i : Int) != (k : Int) + 1 + s - 1) = false := by simpa using hz
                have HA2 := hide (show allB (rfB s xs) (k + 1) = true from by rw [allB_succ, HA.out, HR.out]; simpa using hz)
                clear hz
                go_wp2_with fail
                go_big_quiet (fail)
                go_wp2_with fail
                go_roundw
                case rel => exact ⟨k + 1, by omega, by go_num, HA2, hide (Below.drewN' (unhide HB1) _)⟩
                case measure => simp [intOf]; omega
              · have d2 : ((j : Int) - (i : Int) != (k : Int) + 1 + s - 1) = true := by simpa using hz
                have HF := hide (show rowR s xs = false from by rw [HX.out]; exact allB_false hlt (by rw [HR.out]; simpa using hz))
                clear hz
                go_wp2_with fail
                go_big_quiet (fail)
                go_wp2_with fail
                go_ret
                exact ⟨ret_bool HF.out.symm, Below.drewN' (unhide HB1) _⟩
            · have d1 : ((n1 : Int) != 2) = true := by simp; omega
              have HF := hide (show rowR s xs = false from by rw [HX.out]; exact allB_false hlt (by unfold rfB; rw [hl1]; simp [hn1]))
              clear hi1 hb1 hl1 hn1
              go_wp2_with fail
              go_big_quiet (fail)
              go_wp2_with fail
              go_ret
              exact ⟨ret_bool HF.out.symm, Below.drewN' (unhide HB1) _⟩
          · have HF := hide (show rowR s xs = true from by rw [HX.out, show m = k by omega]; exact HA.out)
            go_wp2_with fail
            go_ret
            exact ⟨ret_bool HF.out.symm, unhide HB⟩
      · have d0 : ((n : Int) != 2 * (m : Int)) = true := by simp; omega
        have HF := hide (show rowR s xs = false from by unfold rowR; rw [HLB.out]; simp [he])
        clear he
        go_enter Try.func23, Try.ntmps23
        go_wp2_with fail
        go_ret
        exact ⟨ret_bool HF.out.symm, Below.refl _ _⟩
    · have d1 : decide ((8 : Int) < (m : Int)) = true := by simp; omega
      have HF := hide (show rowR s xs = false from by unfold rowR; rw [HLB.out]; simp [c2])
      clear c2
      go_enter Try.func23, Try.ntmps23
      go_wp2_with fail
      go_ret
      exact ⟨ret_bool HF.out.symm, Below.refl _ _⟩
  · have d1 : decide ((m : Int) < 1) = true := by simp; omega
    have HF := hide (show rowR s xs = false from by unfold rowR; rw [HLB.out]; simp [c1])
    clear c1
    go_enter Try.func23, Try.ntmps23
    go_wp2_with fail
    go_ret
    exact ⟨ret_bool HF.out.symm, Below.refl _ _⟩
end Go.Proofs.Ytmgoonoifgcmnaa
