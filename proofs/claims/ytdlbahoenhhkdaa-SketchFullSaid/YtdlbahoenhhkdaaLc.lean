import Derived.Test.YtdlbahoenhhkdaaDg
import Derived.Test.YtdlbahoenhhkdaaL1
import Derived.Test.YtdlbahoenhhkdaaTf
/-
  The law SketchFull walked.
-/
namespace Go.Proofs.Ytdlbahoenhhkdaa
open Go.RowKit

set_option maxHeartbeats 1000000 in
theorem LFull_no (A : Option Addr) (n c : Nat) (xs : List Int) (k : Int) (w : World) (h : Ints w w.heap.size A n c xs) (hs : Hid ((cntB k && isStr xs) = false)) :
    Calls Try.prog 10 #[.int .i64 k, .slice A n c] w fun e w' => e = .returned (.bool true) ∧ Below w.heap.size w w' := by
  have hs2 := hide (show (cntB k && isStr (xs.take 45)) = false from by rw [isStr_take]; exact hs.out)
  go_enter Try.func10, Try.ntmps10
  go_wp2_with fail
  refine (list_ints _ _ _ _ _ _ h (Nat.le_refl _)).mono ?_
  rintro e w1 ⟨A1, n1, c1, rfl, i1, b1⟩
  go_wp2_with fail
  refine (Full_no _ _ _ _ _ _ i1 hs2).mono ?_
  rintro e w2 ⟨rfl, b2⟩
  have b2' := b1.trans (b2.mono b1.size)
  go_wp2_with fail
  refine (awake_any _).mono ?_
  rintro e w5 ⟨rfl, b5⟩
  go_wp2_with fail
  go_ret
  exact ⟨rfl, b2'.trans (b5.mono b2'.size)⟩

set_option maxRecDepth 100000 in
set_option maxHeartbeats 3000000 in
theorem LFull_ok (A : Option Addr) (n c : Nat) (xs : List Int) (K : Nat) (w : World) (h : Ints w w.heap.size A n c xs) (H1 : Hid (cntB (K : Int) = true)) (H2 : Hid (isStr xs = true)) :
    Calls Try.prog 10 #[.int .i64 (K : Int), .slice A n c] w fun e w' => e = .returned (.bool true) ∧ Below w.heap.size w w' := by
  have hm := h.most; have hcap := h.cap
  have hl := hide h.len
  obtain ⟨k1, k2⟩ := cntB_bd H1.out
  have hn40 : n ≤ 40 := by rw [← hl.out]; exact isStr_len H2.out
  have hk8 : K ≤ 8 := by omega
  have hk0 : 0 < K := by omega
  have hbd : ∀ j, j < xs.length → 0 ≤ nth xs j ∧ nth xs j ≤ 15 := fun j hj => isStr_bd H2.out j hj
  have hinv := hide (lstL_inv false (K := K) hk0 hbd xs.length (Nat.le_refl _))
  have hD := hide (lstL_fu (K := K) hk0 hbd xs.length (Nat.le_refl _))
  clear hbd
  obtain ⟨gs, hgs⟩ : ∃ gs, lstL false K xs xs.length = gs := ⟨_, rfl⟩
  rw [hgs] at hinv hD
  have hgs := hide hgs
  have H := hide h; clear h
  go_enter Try.func10, Try.ntmps10
  go_wp2_with fail
  refine (list_ints _ _ _ _ _ _ (unhide H) (Nat.le_refl _)).mono ?_
  rintro e w1 ⟨A1, n1, c1, rfl, i1, b1⟩
  rw [take_of_str H2.out] at i1
  go_wp2_with fail
  refine (Full_ok _ _ _ _ _ _ i1 H1 H2).mono ?_
  rintro e w4 ⟨v2, rfl, o2, b2⟩
  rw [hgs.out] at o2
  obtain ⟨A2, n2, c2, rfl, g2⟩ := o2.to
  have b4' := b1.trans (b2.mono b1.size)
  have g4 := hide g2
  have HX := hide (((unhide H).below b4').more b4'.size)
  have B4 := hide b4'
  have hl2 := hide g2.len
  have hn2 : n2 ≤ K := by rw [← g2.len]; exact hinv.out.few
  clear i1 o2 g2 b1 b2 b4'
  go_wp2_with fail
  refine (RCounters_is _ _ _ H1).mono ?_
  rintro e w5 ⟨rfl, rfl⟩
  go_wp2_with fail
  refine (order_any _ _ _ _ _ _ (unhide g4) (hide hinv.out.rise) (hide (fun g hg => ⟨(hinv.out.all g hg).1, (hinv.out.all g hg).2.1⟩)) hn2).mono ?_
  rintro e w5 ⟨rfl, b5⟩
  have B5 := hide b5
  have hcap2 := (unhide g4).cap
  have hm2 := (unhide g4).most
  clear b5
  go_wp2_with fail
  go_loopw [7, 8, 10, 42] (fun s l _ a wr => ∃ (k : Nat) (sv lv : Int), k ≤ n2 ∧ a = .int .i64 k ∧ s = .int .i64 sv ∧ l = .int .i64 lv ∧ 0 ≤ sv ∧ sv ≤ 40 * k ∧ Hid (sv = S (fun g => g.2.1) (gs.take k)) ∧ Hid (lv = minTo n gs k) ∧ Below w4.heap.size w4 wr) (fun _ _ _ a _ => n2 - (intOf a).toNat)
  case atStart => exact ⟨0, 0, n, Nat.zero_le _, rfl, rfl, rfl, Int.le_refl _, by omega, hide rfl, hide rfl, unhide B5⟩
  case round =>
    obtain ⟨k, sv, lv, hk, rfl, rfl, rfl, hs0, hs1, hsv, hlv, hb⟩ := hrel
    by_cases hlt : k < n2
    · obtain ⟨b, off, rfl, hbb, e1, e2, e3⟩ := ((unhide g4).below hb).at_ k hlt
      obtain ⟨f, hf⟩ : ∃ f, (gth gs k).1 = f := ⟨_, rfl⟩
      obtain ⟨d, hd⟩ : ∃ f, (gth gs k).2.1 = f := ⟨_, rfl⟩
      obtain ⟨o, ho⟩ : ∃ f, (gth gs k).2.2 = f := ⟨_, rfl⟩
      have hab := hinv.out.all _ (gth_mem (show k < gs.length by rw [hl2.out]; exact hlt))
      rw [hd, hl.out] at hab
      rw [hf] at e1; rw [hd] at e2; rw [ho] at e3
      have w1 : IntKind.i64.wrap (sv + d) = sv + d := by rw [IntKind.wrap_i64]; omega
      have hmin := run_min' lv d
      have B1 := hide (hb.alloc hb.size (.cells #[.int .i64 f, .int .i64 d, .int .i64 o] 68))
      have ns := hide (show sv + d = S (fun g => g.2.1) (gs.take (k + 1)) by rw [S_take_succ _ _ _ (by rw [hl2.out]; exact hlt), ← hsv.out, hd])
      have nl := hide (show min lv d = minTo n gs (k + 1) by rw [minTo, ← hlv.out, hd])
      have nb : 0 ≤ sv + d ∧ sv + d ≤ 40 * ((k + 1 : Nat) : Int) := by push_cast; omega
      have NB := hide nb
      clear hb hf hd ho hab nb
      go_wp2_with fail
      go_roundw
      case rel => exact ⟨k + 1, sv + d, min lv d, by omega, by go_num, rfl, rfl, NB.out.1, NB.out.2, ns, nl, by first | exact unhide B1 | exact Below.drewN' (unhide B1) _⟩
      case measure => simp [intOf]; omega
    · obtain rfl : k = n2 := by omega
      have htot := hD.out.tot
      rw [hl.out] at htot
      obtain rfl : sv = (n : Int) := by rw [hsv.out, List.take_of_length_le (by rw [hl2.out]; exact Nat.le_refl _)]; exact htot
      have HB := hide hb
      clear htot hs0 hs1 hsv hb
      go_wp2_with fail
      go_loopw [11, 12, 13, 14, 55] (fun _ _ _ _ a wr => ∃ (key : Nat), key ≤ 16 ∧ a = .int .i64 key ∧ Below w4.heap.size w4 wr) (fun _ _ _ _ a _ => 16 - (intOf a).toNat)
      case atStart => exact ⟨0, by omega, rfl, unhide HB⟩
      case round =>
        obtain ⟨key, hk, rfl, hb⟩ := hrel
        have HB := hide hb
        by_cases hlt : key < 16
        · have hkey : Hid (isKeyB (key : Int) = true) := hide (by simp [isKeyB]; omega)
          go_wp2_with fail
          refine (list_ints _ _ _ _ _ _ ((unhide HX).below hb) hb.size).mono ?_
          rintro e u1 ⟨A6, n6, c6, rfl, i6, b6⟩
          rw [take_of_str H2.out] at i6
          have d6 := hb.trans (b6.mono hb.size)
          go_wp2_with fail
          refine (Often_ok _ _ _ _ _ _ i6 H2 hkey).mono ?_
          rintro e u2 ⟨rfl, b7⟩
          have d7 := d6.trans (b7.mono d6.size)
          go_wp2_with fail
          refine (of_any _ _ _ gs (key : Int) _ (((unhide g4).below d7).more d7.size) (hide hinv.out.rise)).mono ?_
          rintro e u3 ⟨d, o, rfl, hd, ho, b8⟩
          have d8 := d7.trans (b8.mono d7.size)
          obtain ⟨t, ht⟩ : ∃ t, often xs (key : Int) = t := ⟨_, rfl⟩
          have ht2 : cntTo xs (key : Int) xs.length = t := ht
          have f9 : 0 ≤ t ∧ t ≤ n := by rw [← ht]; have := often_bd (xs := xs) (key : Int); rw [hl.out] at this; omega
          have B9 := hide (d8.alloc d8.size (.cells #[.int .i64 (key : Int), .int .i64 d, .int .i64 o] 68))
          rw [ht]
          clear hb i6 b6 d6 b7 d7 b8 d8
          rcases ho.out with ⟨g, hg, g1, g2, g3⟩ | ⟨rfl, rfl, hno⟩
          · have hon := hD.out.on g hg
            rw [g1, g2, g3, ht2] at hon
            have hal := hinv.out.all g hg
            rw [g2, hl.out] at hal
            have p1 : decide (o < 0) = false := by simp; omega
            have p2 : decide (d < t) = false := by simp; omega
            have w2 : IntKind.i64.wrap (d - o) = d - o := by rw [IntKind.wrap_i64]; omega
            have p3 : decide (t < d - o) = false := by simp; omega
            have p4 : (0 : Int) < d := by omega
            have p5 : 0 ≤ o := by omega
            have p6 : t ≤ d := by omega
            have p7 : d - o ≤ t := by omega
            clear hon hal g1 g2 g3 hg f9
            go_wp2_with fail
            go_roundw
            case rel => exact ⟨key + 1, by omega, by go_num, unhide B9⟩
            case measure => simp [intOf]; omega
          · rcases hD.out.off (key : Int) hno with h0 | ⟨h0, h1⟩
            · rw [ht2] at h0
              subst h0
              clear f9 hno
              go_wp2_with fail
              go_roundw
              case rel => exact ⟨key + 1, by omega, by go_num, unhide B9⟩
              case measure => simp [intOf]; omega
            · rw [ht2] at h1
              rw [hl2.out] at h0
              have p1 : decide ((k : Int) < (K : Int)) = false := by simp; omega
              have p2 : t ≤ lv := by
                rw [hlv.out]
                exact minTo_ge f9.2 k fun i hi => h1 _ (gth_mem (by rw [hl2.out]; exact hi))
              have p3 : decide (lv < t) = false := by simp; omega
              have p4 : ¬ ((k : Int) < (K : Int)) := by omega
              clear hno h1 h0
              by_cases ht0 : 0 < t
              · go_wp2_with fail
                go_roundw
                case rel => exact ⟨key + 1, by omega, by go_num, unhide B9⟩
                case measure => simp [intOf]; omega
              · have ht1 : decide (0 < t) = false := by simp; omega
                go_wp2_with fail
                go_roundw
                case rel => exact ⟨key + 1, by omega, by go_num, unhide B9⟩
                case measure => simp [intOf]; omega
        · obtain rfl : key = 16 := by omega
          go_wp2_with fail
          refine (awake_any _).mono ?_
          rintro e u5 ⟨rfl, b5⟩
          have d5 := hb.trans (b5.mono hb.size)
          go_wp2_with fail
          go_ret
          exact ⟨rfl, (unhide B4).trans (d5.mono (unhide B4).size)⟩

theorem LFull_any (A : Option Addr) (n c : Nat) (xs : List Int) (k : Int) (w : World) (h : Ints w w.heap.size A n c xs) :
    Calls Try.prog 10 #[.int .i64 k, .slice A n c] w fun e w' => e = .returned (.bool true) ∧ Below w.heap.size w w' := by
  cases hv : (cntB k && isStr xs) with
  | false => exact LFull_no A n c xs k w h (hide hv)
  | true =>
    rw [Bool.and_eq_true] at hv
    obtain ⟨k1, k2⟩ := cntB_bd hv.1
    obtain ⟨K, rfl⟩ : ∃ K : Nat, k = (K : Int) := ⟨k.toNat, by omega⟩
    exact LFull_ok A n c xs K w h (hide hv.1) (hide hv.2)
end Go.Proofs.Ytdlbahoenhhkdaa
