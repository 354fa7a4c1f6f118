/-
  areKnots of the program.
-/
import Derived.Test.YtdbflcfjjoocgaaG1
namespace Go.Proofs.Ytdbflcfjjoocgaa
open Go.RowKit

/-- None of the numbers is the same as that d + 1 places behind it. -/
def gapB (ks : List Int) (d : Nat) : Bool := (List.range (ks.length - (d + 1))).all fun i => decide (nth ks (i + (d + 1)) ≠ nth ks i)
theorem gapB_iff (ks : List Int) (d : Nat) : gapB ks d = true ↔ ∀ i, i + (d + 1) < ks.length → nth ks (i + (d + 1)) ≠ nth ks i := by
  simp only [gapB, List.all_eq_true, List.mem_range, decide_eq_true_eq]
  exact ⟨fun h i hi => h i (by omega), fun h i hi => h i (by omega)⟩
def knotsB (ks : List Int) (d n : Nat) : Bool := decide (ks.length = n + d + 1) && allIn 0 12 ks && sortB ks && gapB ks d && decide (nth ks d < nth ks n)

theorem bool_all {b : Bool} {s : Bool} (h : s = b) (hf : s = false) : false = b := by rw [← h, hf]

set_option maxRecDepth 100000 in
set_option maxHeartbeats 2000000 in
theorem areKnots_any (A : Option Addr) (n0 c : Nat) (ks : List Int) (d n : Nat) (w : World) (B : Nat) (h : Ints w B A n0 c ks) (hd : d ≤ 3) (hn : n ≤ 8) (hdn : d < n) (b : Bool) (hb : Hid (knotsB ks d n = b)) :
    Calls Try.prog 70 #[.slice A n0 c, .int .i64 (d : Int), .int .i64 (n : Int)] w fun e w' => e = .returned (.bool b) ∧ ∃ q, w' = w.drewN q := by
  have hm := h.most; have hcap := h.cap
  have hl := hide h.len
  by_cases h1 : n0 = n + d + 1
  · have h1' : ((n0 : Int) != (n : Int) + (d : Int) + 1) = false := by simp; omega
    have hn1000 : n0 ≤ 1000 := by omega
    have HN := hide h1
    have ha1 : n0 ≤ n + d + 1 := by omega
    have ha2 : n + d + 1 ≤ n0 := by omega
    clear h1
    rcases h2 : allIn 0 12 ks
    · have HF := hide (show false = b from bool_all hb.out (by simp [knotsB, h2]))
      have H2 := hide h2; clear h2
      go_enter Try.func70, Try.ntmps70
      go_wp2_with fail
      refine (allWithin_any _ _ _ ks _ _ _ _ h).mono ?_
      rintro e w' ⟨rfl, rfl⟩
      rw [H2.out]
      go_wp2_with fail
      go_ret
      exact ⟨ret_bool HF.out, 0, rfl⟩
    rcases h3 : sortB ks
    · have HF := hide (show false = b from bool_all hb.out (by simp [knotsB, h3]))
      have H2 := hide h2; clear h2
      have H3 := hide h3; clear h3
      go_enter Try.func70, Try.ntmps70
      go_wp2_with fail
      refine (allWithin_any _ _ _ ks _ _ _ _ h).mono ?_
      rintro e w' ⟨rfl, rfl⟩
      rw [H2.out]
      go_wp2_with fail
      refine (isSorted_any _ _ _ ks _ _ h hn1000 _ H3).mono ?_
      rintro e w' ⟨rfl, q, rfl⟩
      go_wp2_with fail
      go_ret
      exact ⟨ret_bool HF.out, _, rfl⟩
    have HS := hide (sortB_iff ks |>.1 h3)
    have H2 := hide h2
    have H3 := hide h3
    have HG := hide (show ∀ i, i + (d + 1) < ks.length → nth ks (i + (d + 1)) = nth ks i → false = b from fun i hi he => bool_all hb.out (by
      have : gapB ks d = false := by
        rw [Bool.eq_false_iff]; intro hc
        exact (gapB_iff ks d).1 hc i hi he
      simp [knotsB, this]))
    have HE := hide (show (∀ i, i + (d + 1) < ks.length → nth ks (i + (d + 1)) ≠ nth ks i) → decide (nth ks d < nth ks n) = b from fun hg => by
      rw [← hb.out, knotsB, h2, h3, (gapB_iff ks d).2 hg, hl.out]; simp [HN.out])
    clear h2 h3 hb
    obtain ⟨b1, off, rfl, hbb, hd1⟩ := h.at_ d (by omega)
    obtain ⟨b2, off2, e0, _, hn2⟩ := h.at_ n (by omega)
    simp only [Option.some.injEq, Addr.mk.injEq, and_true] at e0
    obtain ⟨rfl, rfl⟩ := e0
    have hdd : (d : Int) + 1 ≤ n0 := by omega
    go_enter Try.func70, Try.ntmps70
    go_wp2_with fail
    refine (allWithin_any _ _ _ ks _ _ _ _ h).mono ?_
    rintro e w' ⟨rfl, rfl⟩
    rw [H2.out]
    go_wp2_with fail
    refine (isSorted_any _ _ _ ks _ _ h hn1000 _ H3).mono ?_
    rintro e w' ⟨rfl, q, rfl⟩
    have h' := h.drewN q
    replace hd1 : (w.drewN q).cell? ⟨b1, off + d, none⟩ = _ := hd1
    replace hn2 : (w.drewN q).cell? ⟨b1, off + n, none⟩ = _ := hn2
    have HQ := hide (show ∃ q', w.drewN q = w.drewN q' from ⟨q, rfl⟩)
    clear h
    generalize w.drewN q = W1 at h' hd1 hn2 HQ ⊢
    go_wp2_with fail
    go_loopw [31] (fun i wr => ∃ k : Nat, k + (d + 1) ≤ n0 ∧ i = .int .i64 k ∧ Hid (∀ j : Nat, j < k → nth ks (j + (d + 1)) ≠ nth ks j) ∧ wr = W1) (fun i _ => n0 - (intOf i).toNat)
    case atStart => exact ⟨0, by omega, rfl, hide (fun j hj => absurd hj (by omega)), rfl⟩
    case round =>
      obtain ⟨k, hk, rfl, HJ, rfl⟩ := hrel
      by_cases hlt : k + (d + 1) < n0
      · obtain ⟨b2, off2, e0, _, e1⟩ := h'.at_ (k + (d + 1)) hlt
        simp only [Option.some.injEq, Addr.mk.injEq, and_true] at e0
        obtain ⟨rfl, rfl⟩ := e0
        obtain ⟨b2, off2, e0, _, e2⟩ := h'.at_ k (by omega)
        simp only [Option.some.injEq, Addr.mk.injEq, and_true] at e0
        obtain ⟨rfl, rfl⟩ := e0
        have HE2 := hide (fun he => HG.out k (by rw [hl.out]; omega) he)
        have HJ2 := hide (fun (hne : nth ks (k + (d + 1)) ≠ nth ks k) => show ∀ j : Nat, j < k + 1 → nth ks (j + (d + 1)) ≠ nth ks j from fun j hj => by
          by_cases e : j = k
          · subst e; exact hne
          · exact HJ.out j (by omega))
        revert e1 e2 HE2 HJ2
        obtain ⟨x, hx⟩ : ∃ x, nth ks (k + (d + 1)) = x := ⟨_, rfl⟩
        obtain ⟨y, hy⟩ : ∃ x, nth ks k = x := ⟨_, rfl⟩
        rw [hx, hy]
        clear hx hy
        rw [show off + (k + (d + 1)) = off + (d + 1) + k from by omega]
        intro e1 e2 HE2 HJ2
        by_cases he : x = y
        · have HR := hide (HE2.out he)
          have hd : (x == y) = true := by simp [he]
          go_wp2_with fail
          go_ret
          exact ⟨ret_bool HR.out, HQ.out⟩
        · have HR := hide (HJ2.out he)
          have hd : (x == y) = false := by simp [he]
          go_wp2_with fail
          go_roundw
          case rel => exact ⟨k + 1, by omega, by go_num, HR, (by first | trivial | rfl)⟩
          case measure => simp [intOf]; omega
      · have HR := hide (HE.out (fun i hi => HJ.out i (by rw [hl.out] at hi; omega)))
        obtain ⟨x, hx⟩ : ∃ x, nth ks d = x := ⟨_, rfl⟩
        obtain ⟨y, hy⟩ : ∃ x, nth ks n = x := ⟨_, rfl⟩
        rw [hx] at hd1; rw [hy] at hn2
        rw [hx, hy] at HR
        clear hx hy
        go_wp2_with fail
        go_big_quiet (fail)
        go_wp2_with fail
        go_ret
        refine ⟨ret_bool HR.out, ?_⟩
        obtain ⟨q', rfl⟩ := HQ.out
        first | exact ⟨_, rfl⟩ | exact quiet_q _ _ _ | exact ⟨_, World.drewN_drewN _ _ _⟩
  · have h1' : ((n0 : Int) != (n : Int) + (d : Int) + 1) = true := by simp; omega
    have HF := hide (show false = b from bool_all hb.out (by have : ¬ ks.length = n + d + 1 := by rw [hl.out]; exact h1
                                                             simp [knotsB, this]))
    go_enter Try.func70, Try.ntmps70
    go_wp2_with fail
    go_ret
    exact ⟨ret_bool HF.out, 0, rfl⟩
end Go.Proofs.Ytdbflcfjjoocgaa
