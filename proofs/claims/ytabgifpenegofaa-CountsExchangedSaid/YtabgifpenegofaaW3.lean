/-
  isTable of the program.
-/
import Derived.Test.YtabgifpenegofaaW2
namespace Go.Proofs.Ytabgifpenegofaa
open Go.RowKit

def FineTo (t : List (List Int)) (k : Nat) : Prop := ∀ j, j < k → (row t j).length = (row t 0).length ∧ areC 16 (row t j) = true
theorem FineTo.succ {t : List (List Int)} {k : Nat} (h : FineTo t k) (h1 : (row t k).length = (row t 0).length) (h2 : areC 16 (row t k) = true) : FineTo t (k + 1) := fun j hj => by
  rcases Nat.lt_or_ge j k with h3 | h3
  · exact h j h3
  · obtain rfl : j = k := by omega
    exact ⟨h1, h2⟩

set_option maxRecDepth 100000 in
set_option maxHeartbeats 1000000 in
theorem isTable_any (A : Option Addr) (n c : Nat) (t : List (List Int)) (w : World) (h : Rows_ w w.heap.size A n c t) :
    Calls Try.prog 70 #[.slice A n c] w fun e w' => e = .returned (.bool (isT t)) ∧ Below w.heap.size w w' := by
  have hm := h.most; have hcap := h.cap
  have hl := hide h.len
  by_cases h1 : n < 1
  · have HF := hide (show isT t = false from by unfold isT; rw [hl.out]; simp; omega)
    go_enter Try.func70, Try.ntmps70
    go_wp2_with fail
    go_ret
    exact ⟨ret_bool HF.out.symm, Below.refl _ _⟩
  · by_cases h3 : 3 < n
    · have HF := hide (show isT t = false from by unfold isT; rw [hl.out]; simp; omega)
      have h1' : decide ((n : Int) < 1) = false := by simp; omega
      go_enter Try.func70, Try.ntmps70
      go_wp2_with fail
      go_ret
      exact ⟨ret_bool HF.out.symm, Below.refl _ _⟩
    · have h1' : decide ((n : Int) < 1) = false := by simp; omega
      have h3' : decide (3 < (n : Int)) = false := by simp; omega
      obtain ⟨b, off, rfl⟩ := h.addr (show 0 < n by omega)
      go_enter Try.func70, Try.ntmps70
      go_wp2_with fail
      go_loopw [3, 5, 16] (fun l _ i wr => ∃ k : Nat, ∃ z : Int, k ≤ n ∧ i = .int .i64 k ∧ l = .int .i64 z ∧ (0 ≤ z ∧ z ≤ 16) ∧ Hid (z = 16 - sumTo t k) ∧ Hid (FineTo t k) ∧ Below w.heap.size w wr) (fun _ _ i _ => n - (intOf i).toNat)
      case atStart => exact ⟨0, 16, Nat.zero_le _, rfl, rfl, by omega, hide (by simp [sumTo]), hide (fun j hj => absurd hj (by omega)), Below.refl _ _⟩
      case round =>
        obtain ⟨k, z, hk, rfl, rfl, ⟨z1, z2⟩, HZ, HN, hb⟩ := hrel
        by_cases hlt : k < n
        · have hr := h.below hb
          obtain ⟨A0, n0, c0, hc0, hi0⟩ := hr.get (show 0 < n by omega)
          simp only [Nat.add_zero] at hc0
          obtain ⟨A1, n1, c1, hc1, hi1⟩ := hr.get hlt
          have hkl : k < t.length := by have := hl.out; omega
          have HS := hide (sumTo_snoc t k hkl)
          have L0 := hide hi0.len; have L1 := hide hi1.len
          have hi1' := hi1.more hb.size
          clear hi0 hr
          by_cases e : n1 = n0
          · subst e
            cases hv : areC z (row t k) with
            | false =>
              have HF := hide (show isT t = false from by
                rcases areC_lim z2 hv with h4 | h4
                · exact isT_row hkl (fun h5 => by rw [h4] at h5; cases h5.2)
                · exact isT_over hkl (by rw [HS.out]; have := HZ.out; omega))
              have HV := hide hv; clear hv
              go_wp2_with (go_at_call 76; refine (areCounts_is _ _ _ _ _ _ _ hi1 ⟨by omega, by omega⟩ _ HV).mono ?_; rintro e w' ⟨rfl, rfl⟩)
              go_ret
              exact ⟨ret_bool HF.out.symm, hb⟩
            | true =>
              have hn1 : n1 ≤ 3 := by have := (areC_iff.1 hv).2.1; have := L1.out; omega
              have HU := hide (areC_up z2 hv)
              have HQ := hide (areC_iff.1 hv).2.2.2
              have HG := hide (sum3 (xs := row t k) (by rw [L1.out]; exact hn1))
              have HNN := hide (areC_iff.1 hv).2.2.1
              have HBd := hide (show ∀ i, i < 3 → -1000000 ≤ nth (row t k) i ∧ nth (row t k) i ≤ 1000000 from fun i hi => by
                have hall : ∀ j, 0 ≤ nth (row t k) j := fun j => by
                  rcases Nat.lt_or_ge j (row t k).length with h5 | h5
                  · exact HNN.out _ (nth_mem h5)
                  · rw [nth_out h5]; exact Int.le_refl _
                have e0 := hall 0; have e1 := hall 1; have e2 := hall 2
                have e3 := HG.out; have e4 := HQ.out
                rcases (show i = 0 ∨ i = 1 ∨ i = 2 by omega) with rfl | rfl | rfl <;> omega)
              have HSN := hide (sum_nn _ HNN.out)
              have HV := hide hv; clear hv
              have hd : ((n1 : Int) != (n1 : Int)) = false := by simp
              go_wp2_with (first
                | (go_at_call 76; refine (areCounts_is _ _ _ _ _ _ _ hi1 ⟨by omega, by omega⟩ _ HV).mono ?_; rintro e w' ⟨rfl, rfl⟩)
                | (go_at_call 77; refine (lineOf_any _ _ _ _ _ hi1' hn1).mono ?_; rintro e w2 ⟨rfl, b2⟩))
              refine (sum_any _ _ HBd.out).mono ?_
              rintro e w3 ⟨rfl, b3⟩
              have hb3 := hb.trans ((b2.trans (b3.mono b2.size)).mono hb.size)
              obtain ⟨s, hs⟩ : ∃ s, nth (row t k) 0 + nth (row t k) 1 + nth (row t k) 2 = s := ⟨_, rfl⟩
              rw [hs]
              have s1 : 0 ≤ s ∧ s ≤ z := by rw [← hs, ← HG.out]; exact ⟨HSN.out, HQ.out⟩
              obtain ⟨s1, s2⟩ := s1
              have HT := hide (show sumTo t (k + 1) = sumTo t k + s from by rw [HS.out, HG.out, hs])
              clear hs
              go_wp2_with fail
              go_roundw
              case rel => exact ⟨k + 1, z - s, by omega, by go_num, by go_num, by omega, hide (by rw [HT.out, HZ.out]; omega), hide (HN.out.succ (by rw [L1.out, L0.out]) HU.out), hb3⟩
              case measure => simp [intOf]; omega
          · have hne : ((n1 : Int) != (n0 : Int)) = true := by simp; omega
            have HF := hide (isT_row hkl (fun h5 => e (by rw [← L1.out, ← L0.out]; exact h5.1)))
            clear e
            go_wp2_with fail
            go_ret
            exact ⟨ret_bool HF.out.symm, hb⟩
        · have HF := hide (show isT t = true from by
            obtain rfl : k = t.length := by have := hl.out; omega
            refine isT_iff.2 ⟨by have := hl.out; omega, by have := hl.out; omega, HN.out, ?_⟩
            have := HZ.out
            omega)
          go_wp2_with fail
          go_ret
          exact ⟨ret_bool HF.out.symm, hb⟩
theorem isTable_is (A : Option Addr) (n c : Nat) (t : List (List Int)) (w : World) (h : Rows_ w w.heap.size A n c t) (b : Bool) (hb : Hid (isT t = b)) :
    Calls Try.prog 70 #[.slice A n c] w fun e w' => e = .returned (.bool b) ∧ Below w.heap.size w w' := by rw [← hb.out]; exact isTable_any A n c t w h
end Go.Proofs.Ytabgifpenegofaa
