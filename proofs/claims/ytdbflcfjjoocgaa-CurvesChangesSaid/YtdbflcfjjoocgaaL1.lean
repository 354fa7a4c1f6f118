/-
  CurvesChanges: the walk.
-/
import Derived.Test.YtdbflcfjjoocgaaJ4
namespace Go.Proofs.Ytdbflcfjjoocgaa
open Go.RowKit

theorem okL_take (xs : List Int) : okL (xs.take 23) = okL xs := by
  by_cases h : xs.length ≤ 23
  · rw [List.take_of_length_le h]
  · have e1 : ¬ (xs.take 23).length ≤ 20 := by rw [List.length_take]; omega
    have e2 : ¬ xs.length ≤ 20 := by omega
    simp only [okL, e1, e2, decide_false, Bool.false_and]
theorem okL_len {xs : List Int} (h : okL xs = true) : xs.length ≤ 20 ∧ ∀ i, i < xs.length → -50 ≤ nth xs i ∧ nth xs i ≤ 50 := by
  simp only [okL, Bool.and_eq_true, decide_eq_true_eq, allIn_iff] at h; exact h

set_option maxRecDepth 100000 in
set_option maxHeartbeats 4000000 in
theorem LChanges_any (A : Option Addr) (n c : Nat) (xs : List Int) (w : World) (h : Ints w w.heap.size A n c xs) :
    Calls Try.prog 6 #[.slice A n c] w fun e w' => e = .returned (.bool true) ∧ Below w.heap.size w w' := by
  have hm := h.most; have hcap := h.cap
  have hl := hide h.len
  have H := hide h; clear h
  rcases hq : okL xs
  · have HQ := hide hq
    have hN : (if okL (xs.take 23) then (chI 0 (xs.take 23) : Int) else 0) = 0 := by rw [okL_take, hq]; rfl
    have hE : (if okL (xs.take 23) then (0 : Int) else 2) = 2 := by rw [okL_take, hq]; rfl
    have HN := hide hN; have HE := hide hE
    clear hq hN hE
    go_enter Try.func6, Try.ntmps6
    go_wp2_with fail
    refine (list_any _ _ _ xs _ (unhide H)).mono ?_
    rintro e w1 ⟨A1, n1, c1, rfl, ho, hb⟩
    obtain ⟨_, _, _, e1, hi⟩ := ho.to
    cases e1
    have HI := hide hi; have HB := hide hb; clear ho hi hb
    go_wp2_with fail
    refine (Changes_any _ _ _ (xs.take 23) _ _ (unhide HI) 0 2 HN HE).mono ?_
    rintro e w' ⟨rfl, rfl⟩
    have H1 := hide ((unhide H).below (unhide HB))
    go_wp2_with fail
    go_loopw [6, 15] (fun _ i wr => ∃ k : Nat, k ≤ n ∧ i = .int .i64 k ∧ Hid (∀ j, j < k → -50 ≤ nth xs j ∧ nth xs j ≤ 50) ∧ w1 = wr) (fun _ i _ => n - (intOf i).toNat)
    case atStart => exact ⟨0, Nat.zero_le _, rfl, hide (fun j hj => absurd hj (by omega)), rfl⟩
    case round =>
      obtain ⟨k, hk, rfl, HJ, rfl⟩ := hrel
      by_cases hlt : k < n
      · obtain ⟨b, off, rfl, hbb, hc⟩ := (unhide H1).at_ k hlt
        have HJ2 := hide (fun (hx : -50 ≤ nth xs k ∧ nth xs k ≤ 50) => show ∀ j, j < k + 1 → -50 ≤ nth xs j ∧ nth xs j ≤ 50 from fun j hj => by
          by_cases e : j = k
          · subst e; exact hx
          · exact HJ.out j (by omega))
        revert hc HJ2
        obtain ⟨x, ex⟩ : ∃ x, nth xs k = x := ⟨_, rfl⟩
        rw [ex]
        clear ex
        intro hc HJ2
        by_cases g1 : x < -50
        · go_wp2_with fail
          refine (awake_any _).mono ?_
          rintro e w9 ⟨rfl, b9⟩
          have HB9 := hide ((unhide HB).trans (b9.mono (unhide HB).size))
          clear b9
          go_wp2_with fail
          go_ret
          exact ⟨rfl, unhide HB9⟩
        by_cases g2 : 50 < x
        · go_wp2_with fail
          refine (awake_any _).mono ?_
          rintro e w9 ⟨rfl, b9⟩
          have HB9 := hide ((unhide HB).trans (b9.mono (unhide HB).size))
          clear b9
          go_wp2_with fail
          go_ret
          exact ⟨rfl, unhide HB9⟩
        have HJ3 := hide (HJ2.out (by omega))
        go_wp2_with fail
        go_roundw
        case rel => exact ⟨k + 1, by omega, by go_num, HJ3, (by first | trivial | rfl)⟩
        case measure => simp [intOf]; omega
      · have hn20 : (20 : Int) < n := by
          have h1 : ¬ n ≤ 20 := fun hle => by
            have : okL xs = true := by
              simp only [okL, Bool.and_eq_true, decide_eq_true_eq, allIn_iff]
              exact ⟨by rw [hl.out]; exact hle, fun i hi => HJ.out i (by rw [hl.out] at hi; omega)⟩
            rw [HQ.out] at this; cases this
          omega
        go_wp2_with fail
        refine (awake_any _).mono ?_
        rintro e w9 ⟨rfl, b9⟩
        have HB9 := hide ((unhide HB).trans (b9.mono (unhide HB).size))
        clear b9
        go_wp2_with fail
        go_ret
        exact ⟨rfl, unhide HB9⟩
  · have HQ := hide (okL_len hq)
    have hlen := HQ.out.1
    rw [hl.out] at hlen
    obtain ⟨N, hN⟩ : ∃ N : Int, (chI 0 xs : Int) = N := ⟨_, rfl⟩
    have hxt : xs.take 23 = xs := List.take_of_length_le (by rw [hl.out]; omega)
    have HN := hide (show (if okL (xs.take 23) then (chI 0 (xs.take 23) : Int) else 0) = N from by rw [okL_take, hq, hxt]; exact hN)
    have HE := hide (show (if okL (xs.take 23) then (0 : Int) else 2) = 0 from by rw [okL_take, hq]; rfl)
    have HN2 := hide hN
    clear hN hq hxt
    go_enter Try.func6, Try.ntmps6
    go_wp2_with fail
    refine (list_any _ _ _ xs _ (unhide H)).mono ?_
    rintro e w1 ⟨A1, n1, c1, rfl, ho, hb⟩
    obtain ⟨_, _, _, e1, hi⟩ := ho.to
    cases e1
    have HI := hide hi; have HB := hide hb; clear ho hi hb
    go_wp2_with fail
    refine (Changes_any _ _ _ (xs.take 23) _ _ (unhide HI) N 0 HN HE).mono ?_
    rintro e w' ⟨rfl, rfl⟩
    have H1 := hide ((unhide H).below (unhide HB))
    go_wp2_with fail
    go_loopw [6, 15] (fun _ i wr => ∃ k : Nat, k ≤ n ∧ i = .int .i64 k ∧ w1 = wr) (fun _ i _ => n - (intOf i).toNat)
    case atStart => exact ⟨0, Nat.zero_le _, rfl, rfl⟩
    case round =>
      obtain ⟨k, hk, rfl, rfl⟩ := hrel
      by_cases hlt : k < n
      · obtain ⟨b, off, rfl, hbb, hc⟩ := (unhide H1).at_ k hlt
        have hx := HQ.out.2 k (by rw [hl.out]; exact hlt)
        revert hc hx
        obtain ⟨x, ex⟩ : ∃ x, nth xs k = x := ⟨_, rfl⟩
        rw [ex]
        clear ex
        rintro hc ⟨g1, g2⟩
        go_wp2_with fail
        go_roundw
        case rel => exact ⟨k + 1, by omega, by go_num, (by first | trivial | rfl)⟩
        case measure => simp [intOf]; omega
      · go_wp2_with fail
        refine (RChanges_any _ _ _ xs _ _ (unhide H1) N HN2).mono ?_
        rintro e w' ⟨rfl, rfl⟩
        go_wp2_with fail
        refine (awake_any _).mono ?_
        rintro e w9 ⟨rfl, b9⟩
        have HB9 := hide ((unhide HB).trans (b9.mono (unhide HB).size))
        clear b9
        go_wp2_with fail
        go_ret
        exact ⟨rfl, unhide HB9⟩
end Go.Proofs.Ytdbflcfjjoocgaa
