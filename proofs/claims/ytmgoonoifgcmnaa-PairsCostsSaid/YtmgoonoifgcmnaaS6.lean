/-
  IsPins of the reference.
-/
import Derived.Test.YtmgoonoifgcmnaaS5
import Derived.BigQuiet
namespace Go.Proofs.Ytmgoonoifgcmnaa
open Go.RowKit

/-- The arrows from i and from j, of the length e + 1, are not the same. -/
def ne3 (xs : List Int) (e i j : Nat) : Prop := nth xs (i + (e + 1)) - nth xs i ≠ nth xs (j + (e + 1)) - nth xs j
theorem arR_iff {xs : List Int} : arR xs = true ↔ ∀ e, e < xs.length - 1 → ∀ i, i < xs.length - (e + 1) → ∀ j, j < i → ne3 xs e i j := by
  simp only [arR, ne3, List.all_eq_true, List.mem_range, decide_eq_true_eq]
set_option maxRecDepth 100000 in
set_option maxHeartbeats 2000000 in
theorem RIsPins_any (A : Option Addr) (n c : Nat) (xs : List Int) (w : World) (h : Ints w w.heap.size A n c xs) (hn : 1 ≤ n ∧ n ≤ 6) (b : Bool) (hb : Hid (pinB xs = b)) :
    Calls Try.prog 33 #[.slice A n c] w fun e w' => e = .returned (.bool b) ∧ Below w.heap.size w w' := by
  rw [← hb.out]
  have hm := h.most; have hcap := h.cap
  have hl := hide h.len
  have H := hide h
  have HP := hide (show pinB xs = (eoB xs && arR xs) from by
    unfold pinB; rw [ar_same, show pcB xs.length = true from by unfold pcB; rw [hl.out]; simp; omega, Bool.true_and])
  have HAL := hide (show allR xs n = eoB xs from by rw [← hl.out]; exact all_same xs)
  clear h hb
  obtain ⟨q1, q2⟩ := hn
  cases he : eoB xs with
  | false =>
    have HF := hide (show pinB xs = false from by rw [HP.out, he]; rfl)
    go_enter Try.func33, Try.ntmps33
    go_wp2_with (go_at_call 64; refine (RAll_any _ _ _ _ _ _ (unhide H) (by omega) (by omega) false (hide (HAL.out.trans he))).mono ?_; rintro e w1 ⟨rfl, hb1⟩)
    go_ret
    exact ⟨ret_bool HF.out.symm, hb1⟩
  | true =>
    have HQ := hide (show pinB xs = arR xs from by rw [HP.out, he]; rfl)
    have HX := hide (fun k (hk : k < n) => (hl.out ▸ eo_bd he (k := k) (by rw [hl.out]; exact hk) : 0 ≤ nth xs k ∧ nth xs k < (n : Int)))
    go_enter Try.func33, Try.ntmps33
    go_wp2_with (go_at_call 64; refine (RAll_any _ _ _ _ _ _ (unhide H) (by omega) (by omega) true (hide (HAL.out.trans he))).mono ?_; rintro e w1 ⟨rfl, hb1⟩
                 have HI1 := hide ((unhide H).on hb1)
                 have HB1 := hide hb1
                 clear hb1)
    clear he
    go_loopw [3] (fun d wr => ∃ e : Nat, e + 1 ≤ n ∧ d = .int .i64 ((e : Int) + 1) ∧ Hid (∀ e', e' < e → ∀ i, i < n - (e' + 1) → ∀ j, j < i → ne3 xs e' i j) ∧ Hid (Below w1.heap.size w1 wr)) (fun d _ => (n - intOf d).toNat)
    case atStart => exact ⟨0, by omega, rfl, hide (fun e' he' => absurd he' (by omega)), hide (Below.refl _ _)⟩
    case round =>
      obtain ⟨e, hen, rfl, HA, HB⟩ := hrel
      by_cases hlt : e + 1 < n
      · have hlt' : (e : Int) + 1 < (n : Int) := by omega
        obtain ⟨m, hm1⟩ : ∃ m : Nat, (n : Int) - ((e : Int) + 1) = (m : Int) := ⟨n - (e + 1), by omega⟩
        have HM := hide (show m = n - (e + 1) from by omega)
        go_wp2_with fail
        go_loopw [4, 5, 21] (fun _ _ i wr => ∃ k : Nat, k ≤ m ∧ i = .int .i64 (k : Nat) ∧ Hid (∀ i, i < k → ∀ j, j < i → ne3 xs e i j) ∧ Hid (Below w1.heap.size w1 wr)) (fun _ _ i _ => m - (intOf i).toNat)
        case atStart => exact ⟨0, Nat.zero_le _, rfl, hide (fun i hi => absurd hi (by omega)), HB⟩
        case round =>
          obtain ⟨i, him, rfl, HA2, HB2⟩ := hrel
          by_cases hlt2 : i < m
          · go_wp2_with fail
            go_loopw [5, 25] (fun _ q wr => ∃ j : Nat, j ≤ i ∧ q = .int .i64 (j : Nat) ∧ Hid (∀ j', j' < j → ne3 xs e i j') ∧ Hid (Below w1.heap.size w1 wr)) (fun _ q _ => i - (intOf q).toNat)
            case atStart => exact ⟨0, Nat.zero_le _, rfl, hide (fun j hj => absurd hj (by omega)), HB2⟩
            case round =>
              obtain ⟨j, hji, rfl, HA3, HB3⟩ := hrel
              by_cases hlt3 : j < i
              · obtain ⟨a, ha⟩ : ∃ a : Nat, (i : Int) + ((e : Int) + 1) = (a : Int) := ⟨i + (e + 1), by omega⟩
                obtain ⟨b, hb⟩ : ∃ b : Nat, (j : Int) + ((e : Int) + 1) = (b : Int) := ⟨j + (e + 1), by omega⟩
                have HAA := hide (show a = i + (e + 1) from by omega)
                have HBB := hide (show b = j + (e + 1) from by omega)
                have han : a < n := by have := HM.out; omega
                have hbn : b < n := by have := HM.out; omega
                have hin : i < n := by omega
                have hjn : j < n := by omega
                have HIr := (unhide HI1).below (unhide HB3)
                obtain ⟨b1, off, rfl, hbb, c1⟩ := HIr.at_ a han
                obtain ⟨_, _, ee, _, c2⟩ := HIr.at_ i hin
                cases ee
                obtain ⟨_, _, ee, _, c3⟩ := HIr.at_ b hbn
                cases ee
                obtain ⟨_, _, ee, _, c4⟩ := HIr.at_ j hjn
                cases ee
                have s1 := HX.out a han; have s2 := HX.out i hin; have s3 := HX.out b hbn; have s4 := HX.out j hjn
                clear HIr
                by_cases hz : nth xs a - nth xs i = nth xs b - nth xs j
                · have dz : (nth xs a - nth xs i == nth xs b - nth xs j) = true := by simpa using hz
                  have HF := hide (show pinB xs = false from by
                    rw [HQ.out, Bool.eq_false_iff]; intro hh
                    have h9 := arR_iff.1 hh e (by rw [hl.out]; omega) i (by rw [hl.out]; have := HM.out; omega) j hlt3
                    unfold ne3 at h9
                    rw [← HAA.out, ← HBB.out] at h9
                    exact h9 hz)
                  clear hz
                  go_wp2_with fail
                  go_quiet (fail)
                  go_wp2_with fail
                  go_ret
                  exact ⟨ret_bool HF.out.symm, Below.drewN' ((unhide HB1).trans ((unhide HB3).mono (unhide HB1).size)) _⟩
                · have dz : (nth xs a - nth xs i == nth xs b - nth xs j) = false := by simpa using hz
                  have HN := hide (show ∀ j', j' < j + 1 → ne3 xs e i j' from fun j' hj' => by
                    rcases Nat.lt_or_ge j' j with h2 | h2
                    · exact HA3.out j' h2
                    · obtain rfl : j' = j := by omega
                      unfold ne3
                      rw [← HAA.out, ← HBB.out]
                      exact hz)
                  clear hz
                  go_wp2_with fail
                  go_quiet (fail)
                  go_wp2_with fail
                  go_roundw
                  case rel => exact ⟨j + 1, by omega, by go_num, HN, hide (Below.drewN' (unhide HB3) _)⟩
                  case measure => simp [intOf]; omega
              · have HN := hide (show ∀ i', i' < i + 1 → ∀ j', j' < i' → ne3 xs e i' j' from fun i' hi' => by
                  rcases Nat.lt_or_ge i' i with h2 | h2
                  · exact HA2.out i' h2
                  · obtain rfl : i' = i := by omega
                    exact fun j' hj' => HA3.out j' (by omega))
                go_wp2_with fail
                go_roundw
                case rel => exact ⟨i + 1, by omega, by go_num, HN, HB3⟩
                case measure => simp [intOf]; omega
          · have HN := hide (show ∀ e', e' < e + 1 → ∀ i, i < n - (e' + 1) → ∀ j, j < i → ne3 xs e' i j from fun e' he' => by
              rcases Nat.lt_or_ge e' e with h2 | h2
              · exact HA.out e' h2
              · obtain rfl : e' = e := by omega
                exact fun i' hi' => HA2.out i' (by have := HM.out; omega))
            go_wp2_with fail
            go_roundw
            case rel => exact ⟨e + 1, by omega, by go_num, HN, HB2⟩
            case measure => simp [intOf]; omega
      · have hlt' : ¬ (e : Int) + 1 < (n : Int) := by omega
        have HF := hide (show pinB xs = true from by
          rw [HQ.out]
          refine arR_iff.2 fun e' he' i hi j hj => ?_
          rw [hl.out] at he' hi
          exact HA.out e' (by omega) i hi j hj)
        go_wp2_with fail
        go_ret
        exact ⟨ret_bool HF.out.symm, (unhide HB1).trans ((unhide HB).mono (unhide HB1).size)⟩
end Go.Proofs.Ytmgoonoifgcmnaa
