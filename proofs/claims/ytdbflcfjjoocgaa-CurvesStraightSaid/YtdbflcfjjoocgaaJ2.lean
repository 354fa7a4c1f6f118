/-
  Valid of the reference.
-/
import Derived.Test.YtdbflcfjjoocgaaJ1
namespace Go.Proofs.Ytdbflcfjjoocgaa
open Go.RowKit

theorem okC_false {dg : Int} {ks ps : List Int} {b : Bool} (hb : okC dg ks ps = b) (h : ∀ d : Nat, dg = d → OkC d ks ps → False) : false = b := by
  rw [← hb, eq_comm, Bool.eq_false_iff]
  intro hc
  obtain ⟨d, e, hC⟩ := (okC_iff _ _ _).1 hc
  exact h d e hC

set_option maxRecDepth 100000 in
set_option maxHeartbeats 8000000 in
theorem RValid_any (dg : Int) (A A' : Option Addr) (n c n' c' : Nat) (ks ps : List Int) (w : World) (hk : Ints w w.heap.size A n c ks) (hp : Ints w w.heap.size A' n' c' ps) (b : Bool) (hb : Hid (okC dg ks ps = b)) :
    Calls Try.prog 25 #[.agg #[.int .i64 dg, .slice A n c, .slice A' n' c']] w fun e w' => e = .returned (.bool b) ∧ Below w.heap.size w w' := by
  have hm := hp.most; have hcap := hp.cap
  have hmk := hk.most; have hcapk := hk.cap
  have hl := hide hp.len
  have hlk := hide hk.len
  obtain ⟨W0, hW0⟩ : ∃ W0, W0 = w.alloc (.cells #[.int .i64 dg, .slice A n c, .slice A' n' c'] 24) := ⟨_, rfl⟩
  have HB0 := hide (show Below w.heap.size w W0 from by rw [hW0]; exact (Below.refl _ w).alloc (Nat.le_refl _) _)
  obtain ⟨x0, x1, x2⟩ := three_at (show W0.heap[w.heap.size]? = some (.cells #[.int .i64 dg, .slice A n c, .slice A' n' c'] 24 (0, 0)) from by rw [hW0]; exact heap_new_ w _)
  have HK := hide ((hk.below (unhide HB0)))
  have HP := hide ((hp.below (unhide HB0)))
  clear hk hp
  by_cases h1 : dg < 0
  · have HF := hide (okC_false hb.out (fun d e hC => by omega))
    go_enter Try.func25, Try.ntmps25
    go_upto_region 1 with fail
    rw [← hW0]
    clear hW0
    go_wp2_with fail
    go_ret
    exact ⟨ret_bool HF.out, unhide HB0⟩
  by_cases h2 : 3 < dg
  · have HF := hide (okC_false hb.out (fun d e hC => by have := hC.d3; omega))
    go_enter Try.func25, Try.ntmps25
    go_upto_region 1 with fail
    rw [← hW0]
    clear hW0
    go_wp2_with fail
    go_ret
    exact ⟨ret_bool HF.out, unhide HB0⟩
  obtain ⟨d, rfl⟩ : ∃ d : Nat, dg = d := ⟨dg.toNat, by omega⟩
  by_cases h3 : (n' : Int) < (d : Int) + 1
  · have HF := hide (okC_false hb.out (fun d' e hC => by have := hC.dn; rw [hl.out] at this; omega))
    go_enter Try.func25, Try.ntmps25
    go_upto_region 1 with fail
    rw [← hW0]
    clear hW0
    go_wp2_with fail
    go_ret
    exact ⟨ret_bool HF.out, unhide HB0⟩
  by_cases h4 : 8 < (n' : Int)
  · have HF := hide (okC_false hb.out (fun d' e hC => by have := hC.n8; rw [hl.out] at this; omega))
    go_enter Try.func25, Try.ntmps25
    go_upto_region 1 with fail
    rw [← hW0]
    clear hW0
    go_wp2_with fail
    go_ret
    exact ⟨ret_bool HF.out, unhide HB0⟩
  have hd3 : d ≤ 3 := by omega
  have hdn : d < n' := by omega
  have hn8 : n' ≤ 8 := by omega
  by_cases h5 : n = n' + d + 1
  · have h5' : ((n : Int) != (n' : Int) + (d : Int) + 1) = false := by simp; omega
    have ha1 : n ≤ n' + d + 1 := by omega
    have ha2 : n' + d + 1 ≤ n := by omega
    clear h5
    have HPF := hide (fun (k : Nat) (hk : k < n') (hx : ¬ (-50 ≤ nth ps k ∧ nth ps k ≤ 50)) => okC_false hb.out (fun d' e hC => hx (hC.pole k (by rw [hl.out]; exact hk))))
    have HKF := hide (fun (k : Nat) (hk : k < n) (hx : ¬ (0 ≤ nth ks k ∧ nth ks k ≤ 12)) => okC_false hb.out (fun d' e hC => hx (hC.knot k (by rw [hlk.out]; exact hk))))
    have HKR := hide (fun (k : Nat) (hk : k + 1 < n) (hx : nth ks (k + 1) < nth ks k) => okC_false hb.out (fun d' e hC => by have := hC.rise k (by rw [hlk.out]; exact hk); omega))
    have HKG := hide (fun (k : Nat) (hk : k + (d + 1) < n) (hx : nth ks (k + (d + 1)) = nth ks k) => okC_false hb.out (fun d' e hC => by
      have e2 : d' = d := by omega
      subst e2
      exact hC.gap k (by rw [hlk.out]; exact hk) hx))
    have HEND := hide (show (∀ j, j < n' → -50 ≤ nth ps j ∧ nth ps j ≤ 50) → (∀ j, j < n → 0 ≤ nth ks j ∧ nth ks j ≤ 12) → (∀ j, j + 1 < n → nth ks j ≤ nth ks (j + 1)) → (∀ j, j + (d + 1) < n → nth ks (j + (d + 1)) ≠ nth ks j) → decide (nth ks d < nth ks n') = b from fun e1 e2 e3 e4 => by
      rw [← hb.out]
      by_cases e5 : nth ks d < nth ks n'
      · rw [decide_eq_true e5, eq_comm, okC_iff]
        exact ⟨d, rfl, hd3, by rw [hl.out]; exact hdn, by rw [hl.out]; exact hn8, fun i hi => e1 i (by rw [← hl.out]; exact hi), by rw [hl.out, hlk.out]; omega, fun i hi => e2 i (by rw [← hlk.out]; exact hi), fun i hi => e3 i (by rw [← hlk.out]; exact hi), fun i hi => e4 i (by rw [← hlk.out]; exact hi), by rw [hl.out]; exact e5⟩
      · rw [decide_eq_false e5]
        exact okC_false rfl (fun d' e hC => by
          have e2 : d' = d := by omega
          subst e2
          have := hC.span; rw [hl.out] at this; exact e5 this))
    go_enter Try.func25, Try.ntmps25
    go_upto_region 1 with fail
    rw [← hW0]
    clear hW0
    go_wp2_with fail
    go_loopw [5, 44] (fun _ i wr => ∃ k : Nat, k ≤ n' ∧ i = .int .i64 k ∧ Hid (∀ j, j < k → -50 ≤ nth ps j ∧ nth ps j ≤ 50) ∧ wr = W0) (fun _ i _ => n' - (intOf i).toNat)
    case atStart => exact ⟨0, Nat.zero_le _, rfl, hide (fun j hj => absurd hj (by omega)), rfl⟩
    case round =>
      obtain ⟨k, hkn, rfl, HJ, hw⟩ := hrel
      obtain rfl : W0 = wr := hw.symm
      by_cases hlt : k < n'
      · obtain ⟨bp, off, rfl, hbb, e1⟩ := (unhide HP).at_ k hlt
        have HX := hide (HPF.out k hlt)
        have HJ2 := hide (fun (hx : -50 ≤ nth ps k ∧ nth ps k ≤ 50) => show ∀ j, j < k + 1 → -50 ≤ nth ps j ∧ nth ps j ≤ 50 from fun j hj => by
          by_cases e : j = k
          · subst e; exact hx
          · exact HJ.out j (by omega))
        revert e1 HX HJ2
        obtain ⟨x, hx⟩ : ∃ x, nth ps k = x := ⟨_, rfl⟩
        rw [hx]
        clear hx
        intro e1 HX HJ2
        by_cases g1 : x < -50
        · have HR := hide (HX.out (by omega))
          go_wp2_with fail
          go_ret
          exact ⟨ret_bool HR.out, unhide HB0⟩
        by_cases g2 : 50 < x
        · have HR := hide (HX.out (by omega))
          go_wp2_with fail
          go_ret
          exact ⟨ret_bool HR.out, unhide HB0⟩
        have HR := hide (HJ2.out (by omega))
        go_wp2_with fail
        go_roundw
        case rel => exact ⟨k + 1, by omega, by go_num, HR, (by first | trivial | rfl)⟩
        case measure => simp [intOf]; omega
      · have HPA := hide (show ∀ j, j < n' → -50 ≤ nth ps j ∧ nth ps j ≤ 50 from fun j hj => HJ.out j (by omega))
        clear HJ HPF
        go_wp2_with fail
        go_loopw [6, 7, 58] (fun _ _ i wr => ∃ k : Nat, k ≤ n ∧ i = .int .i64 k ∧ Hid (∀ j, j < k → 0 ≤ nth ks j ∧ nth ks j ≤ 12) ∧ Hid (∀ j, j + 1 < k → nth ks j ≤ nth ks (j + 1)) ∧ Hid (∀ j, j + (d + 1) < k → nth ks (j + (d + 1)) ≠ nth ks j) ∧ wr = W0) (fun _ _ i _ => n - (intOf i).toNat)
        case atStart => exact ⟨0, Nat.zero_le _, rfl, hide (fun j hj => absurd hj (by omega)), hide (fun j hj => absurd hj (by omega)), hide (fun j hj => absurd hj (by omega)), (by first | trivial | rfl)⟩
        case round =>
          obtain ⟨k, hkn, rfl, HJ1, HJ2, HJ3, hw⟩ := hrel
          obtain rfl : W0 = wr := hw.symm
          by_cases hlt : k < n
          · have hkI : (k : Int) < n := by omega
            obtain ⟨b1, off, rfl, hbb, e1⟩ := (unhide HK).at_ k hlt
            have HX := hide (HKF.out k hlt)
            have HJ1' := hide (fun (hx : 0 ≤ nth ks k ∧ nth ks k ≤ 12) => show ∀ j, j < k + 1 → 0 ≤ nth ks j ∧ nth ks j ≤ 12 from fun j hj => by
              by_cases e : j = k
              · subst e; exact hx
              · exact HJ1.out j (by omega))
            have HR1 := hide (show ∀ k', k = k' + 1 → nth ks k < nth ks k' → false = b from fun k' e hx => by subst e; exact HKR.out k' hlt hx)
            have HR2 := hide (show (∀ k', k = k' + 1 → nth ks k' ≤ nth ks k) → ∀ j, j + 1 < k + 1 → nth ks j ≤ nth ks (j + 1) from fun hx j hj => by
              by_cases e : j + 1 = k
              · have := hx j e.symm; rw [e]; exact this
              · exact HJ2.out j (by omega))
            have HR3 := hide (show ∀ m, k = m + (d + 1) → nth ks k = nth ks m → false = b from fun m e hx => by subst e; exact HKG.out m hlt hx)
            have HR4 := hide (show (∀ m, k = m + (d + 1) → nth ks k ≠ nth ks m) → ∀ j, j + (d + 1) < k + 1 → nth ks (j + (d + 1)) ≠ nth ks j from fun hx j hj => by
              by_cases e : j + (d + 1) = k
              · have := hx j e.symm; rw [e]; exact this
              · exact HJ3.out j (by omega))
            clear HJ1 HJ2 HJ3
            revert e1 HX HJ1' HR1 HR2 HR3 HR4
            obtain ⟨x, hx⟩ : ∃ x, nth ks k = x := ⟨_, rfl⟩
            rw [hx]
            clear hx
            intro e1 HX HJ1' HR1 HR2 HR3 HR4
            by_cases g1 : x < 0
            · have HR := hide (HX.out (by omega))
              go_wp2_with fail
              go_ret
              exact ⟨ret_bool HR.out, unhide HB0⟩
            by_cases g2 : 12 < x
            · have HR := hide (HX.out (by omega))
              go_wp2_with fail
              go_ret
              exact ⟨ret_bool HR.out, unhide HB0⟩
            have HA := hide (HJ1'.out (by omega))
            clear HX HJ1'
            rcases Nat.eq_zero_or_pos k with hk0 | hk0
            · subst hk0
              rw [Nat.add_zero] at e1
              have HBB := hide (HR2.out (fun k' e => by omega))
              have HCC := hide (HR4.out (fun k' e => by omega))
              clear HR1 HR2 HR3 HR4
              have hnd : ¬ ((d : Int) < 0) := by omega
              have hz : ¬ ((0 : Int) < 0) := by omega
              go_wp2_with fail
              go_roundw
              case rel => exact ⟨0 + 1, by omega, by go_num, HA, HBB, HCC, (by first | trivial | rfl)⟩
              case measure => simp [intOf]; omega
            · have hk0I : (0 : Int) < (k : Int) := by omega
              have hk1w : IntKind.i64.wrap ((k : Int) - 1) = (k : Int) - 1 := IntWalk.i64_in _ (by omega)
              have hk1t : ((k : Int) - 1).toNat = k - 1 := by omega
              have hk1a : 0 ≤ (k : Int) - 1 := by omega
              have hk1b : (k : Int) - 1 < n := by omega
              obtain ⟨b2, off2, e0, _, e2⟩ := (unhide HK).at_ (k - 1) (by omega)
              simp only [Option.some.injEq, Addr.mk.injEq, and_true] at e0
              obtain ⟨rfl, rfl⟩ := e0
              have HQ1 := hide (HR1.out (k - 1) (by omega))
              have HQ2 := hide (show nth ks (k - 1) ≤ x → _ from fun hx => HR2.out (fun k' e => by rw [show k' = k - 1 by omega]; exact hx))
              clear HR1 HR2
              revert e2 HQ1 HQ2
              obtain ⟨y, hy⟩ : ∃ x, nth ks (k - 1) = x := ⟨_, rfl⟩
              rw [hy]
              clear hy
              intro e2 HQ1 HQ2
              by_cases g3 : x < y
              · have HR := hide (HQ1.out g3)
                go_wp2_with fail
                go_ret
                exact ⟨ret_bool HR.out, unhide HB0⟩
              have HBB := hide (HQ2.out (by omega))
              clear HQ1 HQ2
              by_cases g4 : d < k
              · have g4I : (d : Int) < (k : Int) := by omega
                have hw2 : IntKind.i64.wrap ((k : Int) - (d : Int)) = (k : Int) - (d : Int) := IntWalk.i64_in _ (by omega)
                have hw3 : IntKind.i64.wrap ((k : Int) - (d : Int) - 1) = (k : Int) - (d : Int) - 1 := IntWalk.i64_in _ (by omega)
                have hw4 : ((k : Int) - (d : Int) - 1).toNat = k - (d + 1) := by omega
                have hw5 : 0 ≤ (k : Int) - (d : Int) - 1 := by omega
                have hw6 : (k : Int) - (d : Int) - 1 < n := by omega
                obtain ⟨b2, off2, e0, _, e3⟩ := (unhide HK).at_ (k - (d + 1)) (by omega)
                simp only [Option.some.injEq, Addr.mk.injEq, and_true] at e0
                obtain ⟨rfl, rfl⟩ := e0
                have HQ1 := hide (HR3.out (k - (d + 1)) (by omega))
                have HQ2 := hide (show x ≠ nth ks (k - (d + 1)) → _ from fun hx => HR4.out (fun m e => by rw [show m = k - (d + 1) by omega]; exact hx))
                clear HR3 HR4
                revert e3 HQ1 HQ2
                obtain ⟨z, hz⟩ : ∃ x, nth ks (k - (d + 1)) = x := ⟨_, rfl⟩
                rw [hz]
                clear hz
                intro e3 HQ1 HQ2
                by_cases g5 : x = z
                · have HR := hide (HQ1.out g5)
                  have g6 : (x == z) = true := by simp [g5]
                  clear HQ1 HQ2 g5
                  go_wp2_with fail
                  go_ret
                  exact ⟨ret_bool HR.out, unhide HB0⟩
                · have HCC := hide (HQ2.out g5)
                  have g6 : (x == z) = false := by simp [g5]
                  clear HQ1 HQ2 g5
                  go_wp2_with fail
                  go_roundw
                  case rel => exact ⟨k + 1, by omega, by go_num, HA, HBB, HCC, (by first | trivial | rfl)⟩
                  case measure => simp [intOf]; omega
              · have HCC := hide (HR4.out (fun m e => by omega))
                have g4I : ¬ ((d : Int) < (k : Int)) := by omega
                clear HR3 HR4
                go_wp2_with fail
                go_roundw
                case rel => exact ⟨k + 1, by omega, by go_num, HA, HBB, HCC, (by first | trivial | rfl)⟩
                case measure => simp [intOf]; omega
          · have HR := hide (HEND.out HPA.out (fun j hj => HJ1.out j (by omega)) (fun j hj => HJ2.out j (by omega)) (fun j hj => HJ3.out j (by omega)))
            obtain ⟨b1, off, rfl, hbb, e1⟩ := (unhide HK).at_ d (by omega)
            obtain ⟨b2, off2, e0, _, e2⟩ := (unhide HK).at_ n' (by omega)
            simp only [Option.some.injEq, Addr.mk.injEq, and_true] at e0
            obtain ⟨rfl, rfl⟩ := e0
            have hdn2 : (d : Int) < n := by omega
            have hdn3 : (n' : Int) < n := by omega
            revert e1 e2 HR
            obtain ⟨x, hx⟩ : ∃ x, nth ks d = x := ⟨_, rfl⟩
            obtain ⟨y, hy⟩ : ∃ x, nth ks n' = x := ⟨_, rfl⟩
            rw [hx, hy]
            clear hx hy
            intro HR e1 e2
            have HBd := hide (show ∀ q, Below w.heap.size w (W0.drewN q) from fun q => below_dN (unhide HB0) q)
            go_wp2_with fail
            go_big_quiet (fail)
            go_wp2_with fail
            go_ret
            exact ⟨ret_bool HR.out, (by first | exact (unhide HBd) _ | exact (unhide HB0).drew)⟩
  · have h5' : ((n : Int) != (n' : Int) + (d : Int) + 1) = true := by simp; omega
    have HF := hide (okC_false hb.out (fun d' e hC => by have := hC.len; rw [hl.out, hlk.out] at this; omega))
    go_enter Try.func25, Try.ntmps25
    go_upto_region 1 with fail
    rw [← hW0]
    clear hW0
    go_wp2_with fail
    go_ret
    exact ⟨ret_bool HF.out, unhide HB0⟩
end Go.Proofs.Ytdbflcfjjoocgaa
