/-
  isRow, places of the program; places, IsRow, Places of the reference.
-/
import Derived.Test.YtmgoonoifgcmnaaW1
import Derived.Test.YtmgoonoifgcmnaaO2
import Derived.Test.YtmgoonoifgcmnaaQ2
namespace Go.Proofs.Ytmgoonoifgcmnaa
open Go.RowKit

theorem and2 {a b : Bool} (h : (a && b) = true) : a = true ∧ b = true := by simpa using h
theorem rk_none {s : Int} {xs : List Int} {k : Int} (h : ixI xs k = -1) : rkB s xs k = false := by unfold rkB; rw [h]; rfl
theorem rk_far {s : Int} {xs : List Int} {k : Int} {p q : Nat} (h : ixI xs k = p) (hq : (p : Int) + k + s - 1 = q) (hl : xs.length ≤ q) : rkB s xs k = false := by
  unfold rkB; rw [h, hq]; simp; intro _; omega
theorem rk_at {s : Int} {xs : List Int} {k : Int} {p q : Nat} (h : ixI xs k = p) (hq : (p : Int) + k + s - 1 = q) (hl : q < xs.length) : rkB s xs k = decide (nth xs q = k) := by
  unfold rkB; rw [h, hq]
  have h1 : decide ((0 : Int) ≤ (p : Int)) = true := by simp
  have h2 : decide ((q : Int) < (xs.length : Int)) = true := by simp; omega
  rw [h1, h2]; simp

set_option maxHeartbeats 1000000 in
theorem isRow_s (s : Nat) (hs : 1 ≤ s ∧ s ≤ 2) (A : Option Addr) (n c : Nat) (xs : List Int) (w : World) (B : Nat) (h : Ints w B A n c xs) (hn : n ≤ 100000) :
    Calls Try.prog 69 #[.int .i64 s, .slice A n c] w fun e w' => e = .returned (.bool (rowB s xs)) ∧ w = w' := by
  have HS := hide (show shB s = true from by simp [shB]; omega)
  have hm := h.most; have hcap := h.cap
  have hl := hide h.len
  obtain ⟨m, hmn⟩ : ∃ m, n / 2 = m := ⟨_, rfl⟩
  have hmm : ((n : Int)).tdiv 2 = (m : Int) := by rw [Int.tdiv_eq_ediv_of_nonneg (by omega)]; omega
  have HM := hide hmn
  have hmb : m ≤ 50000 := by omega
  have HR := hide (show rowB s xs = (lenB xs && allB (rkB s xs) m) from by unfold rowB; rw [HS.out, hl.out, HM.out]; rfl)
  have HLB := hide (show lenB xs = (decide (1 ≤ m) && (decide (m ≤ 8) && decide (n = 2 * m))) from by unfold lenB; rw [hl.out, HM.out])
  have H := hide h
  clear hmn h
  by_cases hc : 1 ≤ m ∧ m ≤ 8
  · have HC := hide (show ctB (m : Int) = true from by simp [ctB]; omega)
    by_cases he : n = 2 * m
    · have d0 : ((n : Int) != 2 * (m : Int)) = false := by simp; omega
      have HX := hide (show rowB s xs = allB (rkB s xs) m from by rw [HR.out, HLB.out]; simp; omega)
      have HN := hide he
      have hn16 : n ≤ 16 := by omega
      obtain ⟨c1, c2⟩ := hc
      clear he HR HLB
      go_enter Try.func69, Try.ntmps69
      go_wp2_with (first
        | (go_at_call 68; refine (isShift_any _ _ true HS).mono ?_; rintro e w' ⟨rfl, rfl⟩)
        | (go_at_call 72; refine (isCount_any _ _ true HC).mono ?_; rintro e w' ⟨rfl, rfl⟩))
      go_loop [6] (fun i => ∃ k : Nat, k ≤ m ∧ i = .int .i64 ((k : Int) + 1) ∧ Hid (allB (rkB s xs) k = true)) (fun i => (m + 1 - intOf i).toNat)
      case atStart => exact ⟨0, by omega, rfl, hide rfl⟩
      case round =>
        obtain ⟨k, hk, rfl, HA⟩ := hrel
        by_cases hlt : k < m
        · rcases ix_cases xs ((k : Int) + 1) with ⟨e0, _⟩ | ⟨p, e0, hp, _, _⟩
          · have HF := hide (show rowB s xs = false from by rw [HX.out]; exact allB_false hlt (rk_none e0))
            go_wp2_with (go_at_call 98; refine (Index_any _ _ _ _ _ _ _ (unhide H)).mono ?_; rintro e w' ⟨rfl, rfl⟩; rw [e0]; clear e0)
            go_ret
            exact ⟨ret_bool HF.out.symm, rfl⟩
          · obtain ⟨q, hq⟩ : ∃ q : Nat, (p : Int) + ((k : Int) + 1) + (s : Int) - 1 = (q : Int) := ⟨p + (k + 1) + s - 1, by omega⟩
            have hpn : p < n := by have := hl.out; omega
            have hk8 : k < 8 := by omega
            by_cases hqn : q < n
            · have HE := hide (rk_at e0 hq (by rw [hl.out]; exact hqn))
              have d1 : decide ((n : Int) ≤ (q : Int)) = false := by simp; omega
              obtain ⟨b, off, rfl, hb, hcq⟩ := (unhide H).at_ q hqn
              by_cases hz : nth xs q = (k : Int) + 1
              · have HA2 := hide (show allB (rkB s xs) (k + 1) = true from by rw [allB_succ, HA.out, HE.out, hz]; simp)
                rw [hz] at hcq
                clear hz
                go_wp2_with (go_at_call 98; refine (Index_any _ _ _ _ _ _ _ (unhide H)).mono ?_; rintro e w' ⟨rfl, rfl⟩; rw [e0]; clear e0)
                go_round
                case rel => exact ⟨k + 1, by omega, by go_num, HA2⟩
                case measure => simp [intOf]; omega
              · have d2 : (nth xs q != (k : Int) + 1) = true := by simpa using hz
                have HF := hide (show rowB s xs = false from by rw [HX.out]; exact allB_false hlt (by rw [HE.out]; simpa using hz))
                clear hz
                go_wp2_with (go_at_call 98; refine (Index_any _ _ _ _ _ _ _ (unhide H)).mono ?_; rintro e w' ⟨rfl, rfl⟩; rw [e0]; clear e0)
                go_ret
                exact ⟨ret_bool HF.out.symm, rfl⟩
            · have d1 : decide ((n : Int) ≤ (q : Int)) = true := by simp; omega
              have HF := hide (show rowB s xs = false from by rw [HX.out]; exact allB_false hlt (rk_far e0 hq (by rw [hl.out]; omega)))
              go_wp2_with (go_at_call 98; refine (Index_any _ _ _ _ _ _ _ (unhide H)).mono ?_; rintro e w' ⟨rfl, rfl⟩; rw [e0]; clear e0)
              go_ret
              exact ⟨ret_bool HF.out.symm, rfl⟩
        · have HF := hide (show rowB s xs = true from by rw [HX.out, show m = k by omega]; exact HA.out)
          go_wp2_with fail
          go_ret
          exact ⟨ret_bool HF.out.symm, rfl⟩
    · have d0 : ((n : Int) != 2 * (m : Int)) = true := by simp; omega
      have HF := hide (show rowB s xs = false from by rw [HR.out, HLB.out]; simp [he])
      clear he
      go_enter Try.func69, Try.ntmps69
      go_wp2_with (first
        | (go_at_call 68; refine (isShift_any _ _ true HS).mono ?_; rintro e w' ⟨rfl, rfl⟩)
        | (go_at_call 72; refine (isCount_any _ _ true HC).mono ?_; rintro e w' ⟨rfl, rfl⟩))
      go_ret
      exact ⟨ret_bool HF.out.symm, rfl⟩
  · have HC := hide (show ctB (m : Int) = false from by simp [ctB]; omega)
    have HF := hide (show rowB s xs = false from by rw [HR.out, HLB.out]; simp; omega)
    clear hc
    go_enter Try.func69, Try.ntmps69
    go_wp2_with (first
      | (go_at_call 68; refine (isShift_any _ _ true HS).mono ?_; rintro e w' ⟨rfl, rfl⟩)
      | (go_at_call 72; refine (isCount_any _ _ false HC).mono ?_; rintro e w' ⟨rfl, rfl⟩))
    go_ret
    exact ⟨ret_bool HF.out.symm, rfl⟩
theorem sh_nat {s : Int} (h : shB s = true) : ∃ m : Nat, s = (m : Int) ∧ 1 ≤ m ∧ m ≤ 2 := by
  have := shB_pos h
  exact ⟨s.toNat, by omega, by omega, by omega⟩
theorem isRow_any (s : Int) (A : Option Addr) (n c : Nat) (xs : List Int) (w : World) (B : Nat) (h : Ints w B A n c xs) (hn : n ≤ 100000) (b : Bool) (hb : Hid (rowB s xs = b)) :
    Calls Try.prog 69 #[.int .i64 s, .slice A n c] w fun e w' => e = .returned (.bool b) ∧ w = w' := by
  rw [← hb.out]
  cases hs : shB s with
  | true =>
    obtain ⟨m, rfl, h1, h2⟩ := sh_nat hs
    exact isRow_s m ⟨h1, h2⟩ A n c xs w B h hn
  | false =>
    have HF := hide (show rowB s xs = false from by unfold rowB; rw [hs]; rfl)
    have hm := h.most; have hcap := h.cap
    go_enter Try.func69, Try.ntmps69
    go_wp2_with (go_at_call 68; refine (isShift_any _ _ false (hide hs)).mono ?_; rintro e w' ⟨rfl, rfl⟩)
    go_ret
    exact ⟨ret_bool HF.out.symm, rfl⟩
end Go.Proofs.Ytmgoonoifgcmnaa
