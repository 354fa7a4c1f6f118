/-
  Table of the reference.
-/
import Derived.Test.YtabgifpenegofaaW5
namespace Go.Proofs.Ytabgifpenegofaa
open Go.RowKit

theorem areC_le {xs : List Int} (h : areC 16 xs = true) (k : Nat) : nth xs k ≤ 16 := by
  obtain ⟨_, _, h3, h4⟩ := areC_iff.1 h
  rcases Nat.lt_or_ge k xs.length with hk | hk
  · have h5 := sum_take_le h3 (k + 1)
    rw [sum_snoc xs k hk] at h5
    have := sum_nn (xs.take k) (fun x hx => h3 x (List.mem_of_mem_take hx))
    omega
  · rw [nth_out hk]; omega
def SmTo (xs : List Int) (k : Nat) : Prop := ∀ j, j < k → 0 ≤ nth xs j ∧ nth xs j ≤ 16
theorem SmTo.succ {xs : List Int} {k : Nat} (h : SmTo xs k) (hk : 0 ≤ nth xs k ∧ nth xs k ≤ 16) : SmTo xs (k + 1) := fun j hj => by
  rcases Nat.lt_or_ge j k with h1 | h1
  · exact h j h1
  · obtain rfl : j = k := by omega
    exact hk
def Wk (t : List (List Int)) (k : Nat) : Prop := (row t k).length = (row t 0).length ∧ 1 ≤ (row t k).length ∧ (row t k).length ≤ 3 ∧ SmTo (row t k) (row t k).length
def WkTo (t : List (List Int)) (k : Nat) : Prop := ∀ j, j < k → Wk t j
theorem WkTo.succ {t : List (List Int)} {k : Nat} (h : WkTo t k) (hk : Wk t k) : WkTo t (k + 1) := fun j hj => by
  rcases Nat.lt_or_ge j k with h1 | h1
  · exact h j h1
  · obtain rfl : j = k := by omega
    exact hk
theorem isT_weak {t : List (List Int)} (h1 : 1 ≤ t.length) (h3 : t.length ≤ 3) (h : WkTo t t.length) (hs : sumTo t t.length ≤ 16) : isT t = true := by
  refine isT_iff.2 ⟨h1, h3, fun k hk => ⟨(h k hk).1, areC_iff.2 ⟨(h k hk).2.1, (h k hk).2.2.1, fun x hx => ?_, ?_⟩⟩, hs⟩
  · obtain ⟨j, hj, rfl⟩ := mem_nth hx
    exact ((h k hk).2.2.2 j hj).1
  · have hnn : ∀ i, 0 ≤ (row t i).sum := fun i => sum_nn _ fun x hx => by
      obtain ⟨j, hj, rfl⟩ := mem_nth hx
      rcases Nat.lt_or_ge i t.length with hi | hi
      · exact ((h i hi).2.2.2 j hj).1
      · rw [row_out hi] at hj; simp at hj
    have a := hnn 0; have b := hnn 1; have c := hnn 2
    rw [sumTo3 h3] at hs
    rcases (show k = 0 ∨ k = 1 ∨ k = 2 by omega) with rfl | rfl | rfl <;> omega

set_option maxRecDepth 100000 in
set_option maxHeartbeats 2000000 in
theorem RTable_any (A : Option Addr) (n c : Nat) (t : List (List Int)) (w : World) (B : Nat) (h : Rows_ w B A n c t) :
    Calls Try.prog 22 #[.slice A n c] w fun e w' => e = .returned (.bool (isT t)) ∧ w = w' := by
  have hm := h.most; have hcap := h.cap
  have hl := hide h.len
  rcases Nat.eq_zero_or_pos n with h0 | h0
  · subst h0
    have HF := hide (show isT t = false from by unfold isT; rw [hl.out]; simp)
    go_enter Try.func22, Try.ntmps22
    go_wp2_with fail
    go_loopw [3, 5, 7, 10, 33] (fun _ _ _ i _ wr => i = .int .i64 0 ∧ w = wr) (fun _ _ _ _ _ _ => 0)
    case atStart => exact ⟨rfl, rfl⟩
    case round =>
      obtain ⟨rfl, rfl⟩ := hrel
      go_wp2_with fail
      go_ret
      exact ⟨ret_bool HF.out.symm, rfl⟩
  · obtain ⟨b, off, rfl⟩ := h.addr h0
    by_cases hbig : 3 < n
    · skip
      go_enter Try.func22, Try.ntmps22
      go_wp2_with fail
      go_loopw [3, 5, 7, 10, 33] (fun s _ _ i _ wr => ∃ k : Nat, ∃ z : Int, k ≤ n ∧ i = .int .i64 k ∧ s = .int .i64 z ∧ Hid (True) ∧ Hid (WkTo t k) ∧ w = wr) (fun _ _ _ i _ _ => n - (intOf i).toNat)
      case atStart => exact ⟨0, 0, Nat.zero_le _, rfl, rfl, hide trivial, hide (fun j hj => absurd hj (by omega)), rfl⟩
      case round =>
        obtain ⟨k, z, hk, rfl, rfl, HZ, HN, rfl⟩ := hrel
        by_cases hlt : k < n
        · obtain ⟨A0, n0, c0, hc0, hi0⟩ := h.get (show 0 < n by omega)
          simp only [Nat.add_zero] at hc0
          obtain ⟨A1, n1, c1, hc1, hi1⟩ := h.get hlt
          have hkl : k < t.length := by have := hl.out; omega
          have L0 := hide hi0.len; have L1 := hide hi1.len
          have hm1 := hi1.most; have hcap1 := hi1.cap
          clear hi0
          by_cases e : n1 = n0
          · subst e
            have hd : ((n1 : Int) != (n1 : Int)) = false := by simp
            by_cases e1 : n1 < 1
            · have HF := hide (isT_row hkl (fun h5 => by have := (areC_iff.1 h5.2).1; have := L1.out; omega))
              have e1' : decide ((n1 : Int) < 1) = true := by simp; omega
              go_wp2_with fail
              go_ret
              exact ⟨ret_bool HF.out.symm, rfl⟩
            · have e1' : decide ((n1 : Int) < 1) = false := by simp; omega
              by_cases e3 : 3 < n1
              · have HF := hide (isT_row hkl (fun h5 => by have := (areC_iff.1 h5.2).2.1; have := L1.out; omega))
                have e3' : decide (3 < (n1 : Int)) = true := by simp; omega
                go_wp2_with fail
                go_ret
                exact ⟨ret_bool HF.out.symm, rfl⟩
              · have e3' : decide (3 < (n1 : Int)) = false := by simp; omega
                go_wp2_with fail
                go_loopw [3, 7, 33] (fun s _ i wr => ∃ j : Nat, ∃ y : Int, j ≤ n1 ∧ i = .int .i64 j ∧ s = .int .i64 y ∧ Hid (True) ∧ Hid (SmTo (row t k) j) ∧ w = wr) (fun _ _ i _ => n1 - (intOf i).toNat)
                case atStart => exact ⟨0, z, Nat.zero_le _, rfl, rfl, hide trivial, hide (fun j hj => absurd hj (by omega)), rfl⟩
                case round =>
                  obtain ⟨j, y, hj, rfl, rfl, HY, HM, rfl⟩ := hrel
                  by_cases hjt : j < n1
                  · obtain ⟨b1, off1, rfl, hb1, hx⟩ := hi1.at_ j hjt
                    have hjl : j < (row t k).length := by have := L1.out; omega
                    by_cases x1 : nth (row t k) j < 0
                    · have HF := hide (isT_row hkl (fun h5 => by have := (areC_iff.1 h5.2).2.2.1 _ (nth_mem hjl); omega))
                      go_wp2_with fail
                      go_ret
                      exact ⟨ret_bool HF.out.symm, rfl⟩
                    · have x1' : decide (nth (row t k) j < 0) = false := by simp; omega
                      by_cases x2 : 16 < nth (row t k) j
                      · have HF := hide (isT_row hkl (fun h5 => by have := areC_le h5.2 j; omega))
                        go_wp2_with fail
                        go_ret
                        exact ⟨ret_bool HF.out.symm, rfl⟩
                      · have x2' : decide (16 < nth (row t k) j) = false := by simp; omega
                        have HSn := hide (sum_snoc (row t k) j hjl)
                        go_wp2_with fail
                        go_roundw
                        case rel => exact ⟨j + 1, _, by omega, by go_num, rfl, hide trivial, hide (HM.out.succ ⟨by omega, by omega⟩), trivial⟩
                        case measure => simp [intOf]; omega
                  · obtain rfl : j = n1 := by omega
                    have HW := hide (HN.out.succ (show Wk t k from ⟨by rw [L1.out, L0.out], by have := L1.out; omega, by have := L1.out; omega, fun i hi => HM.out i (by have := L1.out; omega)⟩))
                    skip
                    go_wp2_with fail
                    go_roundw
                    case rel => exact ⟨k + 1, y, by omega, by go_num, by go_num, hide trivial, HW, trivial⟩
                    case measure => simp [intOf]; omega
          · have hne : ((n1 : Int) != (n0 : Int)) = true := by simp; omega
            have HF := hide (isT_row hkl (fun h5 => e (by rw [← L1.out, ← L0.out]; exact h5.1)))
            clear e
            go_wp2_with fail
            go_ret
            exact ⟨ret_bool HF.out.symm, rfl⟩
        · have HF := hide (show isT t = false from by unfold isT; rw [hl.out]; simp; omega)
          have g1 : decide (1 ≤ (n : Int)) = true := by simp; omega
          have g3 : decide ((n : Int) ≤ 3) = false := by simp; omega
          go_wp2_with fail
          go_ret
          exact ⟨ret_bool HF.out.symm, rfl⟩
    · skip
      go_enter Try.func22, Try.ntmps22
      go_wp2_with fail
      go_loopw [3, 5, 7, 10, 33] (fun s _ _ i _ wr => ∃ k : Nat, ∃ z : Int, k ≤ n ∧ i = .int .i64 k ∧ s = .int .i64 z ∧ (0 ≤ z ∧ z ≤ 48 * (k : Int)) ∧ Hid (z = sumTo t k) ∧ Hid (WkTo t k) ∧ w = wr) (fun _ _ _ i _ _ => n - (intOf i).toNat)
      case atStart => exact ⟨0, 0, Nat.zero_le _, rfl, rfl, by omega, hide (by simp [sumTo]), hide (fun j hj => absurd hj (by omega)), rfl⟩
      case round =>
        obtain ⟨k, z, hk, rfl, rfl, ⟨z1, z2⟩, HZ, HN, rfl⟩ := hrel
        by_cases hlt : k < n
        · obtain ⟨A0, n0, c0, hc0, hi0⟩ := h.get (show 0 < n by omega)
          simp only [Nat.add_zero] at hc0
          obtain ⟨A1, n1, c1, hc1, hi1⟩ := h.get hlt
          have hkl : k < t.length := by have := hl.out; omega
          have L0 := hide hi0.len; have L1 := hide hi1.len
          have hm1 := hi1.most; have hcap1 := hi1.cap
          clear hi0
          by_cases e : n1 = n0
          · subst e
            have hd : ((n1 : Int) != (n1 : Int)) = false := by simp
            by_cases e1 : n1 < 1
            · have HF := hide (isT_row hkl (fun h5 => by have := (areC_iff.1 h5.2).1; have := L1.out; omega))
              have e1' : decide ((n1 : Int) < 1) = true := by simp; omega
              go_wp2_with fail
              go_ret
              exact ⟨ret_bool HF.out.symm, rfl⟩
            · have e1' : decide ((n1 : Int) < 1) = false := by simp; omega
              by_cases e3 : 3 < n1
              · have HF := hide (isT_row hkl (fun h5 => by have := (areC_iff.1 h5.2).2.1; have := L1.out; omega))
                have e3' : decide (3 < (n1 : Int)) = true := by simp; omega
                go_wp2_with fail
                go_ret
                exact ⟨ret_bool HF.out.symm, rfl⟩
              · have e3' : decide (3 < (n1 : Int)) = false := by simp; omega
                go_wp2_with fail
                go_loopw [3, 7, 33] (fun s _ i wr => ∃ j : Nat, ∃ y : Int, j ≤ n1 ∧ i = .int .i64 j ∧ s = .int .i64 y ∧ (0 ≤ y ∧ y ≤ 48 * (k : Int) + 16 * (j : Int)) ∧ Hid (y = sumTo t k + ((row t k).take j).sum) ∧ Hid (SmTo (row t k) j) ∧ w = wr) (fun _ _ i _ => n1 - (intOf i).toNat)
                case atStart => exact ⟨0, z, Nat.zero_le _, rfl, rfl, by omega, hide (by simpa using HZ.out), hide (fun j hj => absurd hj (by omega)), rfl⟩
                case round =>
                  obtain ⟨j, y, hj, rfl, rfl, ⟨y1, y2⟩, HY, HM, rfl⟩ := hrel
                  by_cases hjt : j < n1
                  · obtain ⟨b1, off1, rfl, hb1, hx⟩ := hi1.at_ j hjt
                    have hjl : j < (row t k).length := by have := L1.out; omega
                    by_cases x1 : nth (row t k) j < 0
                    · have HF := hide (isT_row hkl (fun h5 => by have := (areC_iff.1 h5.2).2.2.1 _ (nth_mem hjl); omega))
                      go_wp2_with fail
                      go_ret
                      exact ⟨ret_bool HF.out.symm, rfl⟩
                    · have x1' : decide (nth (row t k) j < 0) = false := by simp; omega
                      by_cases x2 : 16 < nth (row t k) j
                      · have HF := hide (isT_row hkl (fun h5 => by have := areC_le h5.2 j; omega))
                        go_wp2_with fail
                        go_ret
                        exact ⟨ret_bool HF.out.symm, rfl⟩
                      · have x2' : decide (16 < nth (row t k) j) = false := by simp; omega
                        have HSn := hide (sum_snoc (row t k) j hjl)
                        go_wp2_with fail
                        go_roundw
                        case rel => exact ⟨j + 1, y + nth (row t k) j, by omega, by go_num, by go_num, by omega, hide (by rw [HSn.out, HY.out]; omega), hide (HM.out.succ ⟨by omega, by omega⟩), trivial⟩
                        case measure => simp [intOf]; omega
                  · obtain rfl : j = n1 := by omega
                    have HW := hide (HN.out.succ (show Wk t k from ⟨by rw [L1.out, L0.out], by have := L1.out; omega, by have := L1.out; omega, fun i hi => HM.out i (by have := L1.out; omega)⟩))
                    have HT := hide (show y = sumTo t (k + 1) from by rw [sumTo_snoc t k hkl, HY.out, ← L1.out, List.take_length])
                    go_wp2_with fail
                    go_roundw
                    case rel => exact ⟨k + 1, y, by omega, by go_num, by go_num, by omega, hide HT.out, HW, trivial⟩
                    case measure => simp [intOf]; omega
          · have hne : ((n1 : Int) != (n0 : Int)) = true := by simp; omega
            have HF := hide (isT_row hkl (fun h5 => e (by rw [← L1.out, ← L0.out]; exact h5.1)))
            clear e
            go_wp2_with fail
            go_ret
            exact ⟨ret_bool HF.out.symm, rfl⟩
        · have hkn : k = n := by omega
          subst hkn
          by_cases h16 : z ≤ 16
          · have HF := hide (show isT t = true from isT_weak (by have := hl.out; omega) (by have := hl.out; omega) (by rw [hl.out]; exact HN.out) (by rw [hl.out, ← HZ.out]; exact h16))
            go_wp2_with fail
            go_ret
            exact ⟨ret_bool HF.out.symm, rfl⟩
          · have HF := hide (show isT t = false from isT_over (k := k - 1) (by have := hl.out; omega) (by rw [show k - 1 + 1 = k by omega, ← HZ.out]; omega))
            have h16' : decide (z ≤ 16) = false := by simp; omega
            go_wp2_with fail
            go_ret
            exact ⟨ret_bool HF.out.symm, rfl⟩
theorem RTable_is (A : Option Addr) (n c : Nat) (t : List (List Int)) (w : World) (B : Nat) (h : Rows_ w B A n c t) (b : Bool) (hb : Hid (isT t = b)) :
    Calls Try.prog 22 #[.slice A n c] w fun e w' => e = .returned (.bool b) ∧ w = w' := by rw [← hb.out]; exact RTable_any A n c t w B h
end Go.Proofs.Ytabgifpenegofaa
