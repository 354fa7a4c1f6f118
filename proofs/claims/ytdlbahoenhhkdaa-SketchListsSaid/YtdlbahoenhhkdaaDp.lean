import Derived.Test.YtdlbahoenhhkdaaDo
/-
  The reference's Full.
-/
namespace Go.Proofs.Ytdlbahoenhhkdaa
open Go.RowKit

set_option maxRecDepth 100000 in
set_option maxHeartbeats 3000000 in
theorem RFull_ok (A : Option Addr) (n c : Nat) (xs : List Int) (K : Nat) (w : World) (h : Ints w w.heap.size A n c xs) (H1 : Hid (cntB (K : Int) = true)) (H2 : Hid (isStr xs = true)) :
    Calls Try.prog 25 #[.int .i64 (K : Int), .slice A n c] w fun e w' => ∃ v, e = .returned v ∧ OwnedG w' w.heap.size 34 v (lstL false K xs xs.length) ∧ Below w.heap.size w w' := by
  have hm := h.most; have hcap := h.cap
  have hl := hide h.len
  obtain ⟨k1, k2⟩ := cntB_bd H1.out
  have hn40 : n ≤ 40 := by rw [← hl.out]; exact isStr_len H2.out
  have hk8 : K ≤ 8 := by omega
  have hk0 : 0 < K := by omega
  have hbd : ∀ j, j < xs.length → 0 ≤ nth xs j ∧ nth xs j ≤ 15 := fun j hj => isStr_bd H2.out j hj
  have hinv := hide (lstL_inv false (K := K) hk0 hbd)
  have hsam := hide (same_lst false (K := K) hk0 hbd)
  clear hbd
  have H := hide h; clear h
  go_enter Try.func25, Try.ntmps25
  go_wp2_with fail
  go_loopw [5, 7, 8, 9, 10, 11, 14, 74, 85] (fun v _ _ _ _ _ i _ _ wr => ∃ (k : Nat) (A1 : Option Addr) (n1 c1 : Nat), k ≤ n ∧ i = .int .i64 k ∧ v = .slice A1 n1 c1 ∧ OwnedG wr w.heap.size 34 (.slice A1 n1 c1) (lstR false K xs k) ∧ Below w.heap.size w wr) (fun _ _ _ _ _ _ i _ _ _ => n - (intOf i).toNat)
  case atStart => exact ⟨0, none, 0, 0, Nat.zero_le _, rfl, rfl, World.ownsRow_nil _ _ _ _, Below.refl _ _⟩
  case round =>
    obtain ⟨k, A1, n1, c1, hk, rfl, rfl, ho, hb⟩ := hrel
    have HO := hide ho; have HB := hide hb
    by_cases hlt : k < n
    · obtain ⟨b, off, rfl, hbb, e1⟩ := ((unhide H).below hb).at_ k hlt
      obtain ⟨x, hx⟩ : ∃ x, nth xs k = x := ⟨_, rfl⟩
      rw [hx] at e1
      have hiv := hinv.out k (by rw [hl.out]; omega)
      have hsm := hsam.out k (by rw [hl.out]; omega)
      obtain ⟨rs, hrs⟩ : ∃ rs, lstR false K xs k = rs := ⟨_, rfl⟩
      have hnx := hide (show lstR false K xs (k + 1) = addR false K rs x by rw [← hx, ← hrs]; rfl)
      rw [hrs] at hsm HO ho
      have hrl := ho.reads.len
      have hall := hide (fun g (hg : g ∈ rs) => hiv.all g (hsm.mem_iff.2 hg))
      have hfew : n1 ≤ K := by rw [← hrl, ← hsm.length_eq]; exact hiv.few
      have Hrl := hide hrl
      have g1 := ho.reads
      have hir := ix_le rs x
      rw [hrl] at hir
      clear hiv hsm hx hrs hb hrl
      by_cases hin : ix rs x < n1
      · obtain ⟨g, rfl⟩ : ∃ g, A1 = some ⟨g, 0, none⟩ := by
          rcases ho.2 with ⟨hx, _⟩ | ⟨g, _, _, hx, _⟩
          · simp only [Value.slice.injEq] at hx; omega
          · simp only [Value.slice.injEq] at hx; exact ⟨g, hx.1⟩
        go_wp2_with fail
        refine (RFind_any _ n1 c1 rs x (ix rs x) (ix rs x) _ g1 hir (hide ix_lo) (hide (.inr ⟨hin, ix_hi (by rw [Hrl.out]; exact hin), rfl⟩))).mono ?_
        rintro e w2 ⟨rfl, b2⟩
        have B2 := hide ((unhide HB).trans (b2.mono (unhide HB).size))
        have o2 := (unhide HO).below b2 (Nat.le_refl _)
        have hbg := (o2.lt g rfl).1
        obtain ⟨i, hi⟩ : ∃ i, ix rs x = i := ⟨_, rfl⟩
        have HI := hide hi
        rw [hi] at hin ⊢
        obtain ⟨_, y2, _, _, z2, _⟩ := o2.at3E i hin
        obtain ⟨f, hf⟩ : ∃ f, (gth rs i).1 = f := ⟨_, rfl⟩
        obtain ⟨d, hd⟩ : ∃ f, (gth rs i).2.1 = f := ⟨_, rfl⟩
        obtain ⟨q, hq⟩ : ∃ f, (gth rs i).2.2 = f := ⟨_, rfl⟩
        have hdb := hall.out _ (gth_mem (show i < rs.length by rw [Hrl.out]; exact hin))
        rw [hd] at hdb
        rw [hd] at y2
        have hdb2 : 1 ≤ d ∧ d ≤ 40 := by omega
        obtain ⟨hd1, hd2⟩ := hdb2
        have w1 : IntKind.i64.wrap (d + 1) = d + 1 := by rw [IntKind.wrap_i64]; omega
        have O4 := hide (o2.set1E hin (show gth rs i = (f, d, q) by rw [← hf, ← hd, ← hq]) (d + 1))
        have B4 := hide ((unhide B2).setCell (p := ⟨g, i * 3 + 1, none⟩) hbg (.int .i64 (d + 1)))
        have ha := hide (show addR false K rs x = rs.set i (f, d + 1, q) by
          unfold addR; rw [HI.out, if_pos (by rw [Hrl.out]; exact hin)]; unfold bump; rw [hf, hd, hq])
        clear b2 o2 hf hd hq hdb hi ho g1
        go_wp2_with fail
        go_roundw
        case rel => exact ⟨k + 1, _, n1, c1, by omega, by go_num, rfl, by rw [hnx.out, ha.out]; exact unhide O4, unhide B4⟩
        case measure => simp [intOf]; omega
      · have hie : ix rs x = n1 := by omega
        go_wp2_with fail
        refine (RFind_any _ n1 c1 rs x (ix rs x) (-1) _ g1 hir (hide ix_lo) (hide (.inl ⟨hie, rfl⟩))).mono ?_
        rintro e w2 ⟨rfl, b2⟩
        have B2 := hide ((unhide HB).trans (b2.mono (unhide HB).size))
        have O2 := hide ((unhide HO).below b2 (Nat.le_refl _))
        have hsz2 := (unhide B2).size
        have hln : rs.length ≤ 1000000 := by rw [Hrl.out]; omega
        have hnf := hide (show ¬ ix rs x < rs.length by rw [Hrl.out]; omega)
        clear b2 ho g1
        by_cases hlk : n1 < K
        · have hlk1 : decide ((n1 : Int) < (K : Int)) = true := by simp; omega
          have hlk2 : (n1 : Int) < (K : Int) := by omega
          have ha := hide (show addR false K rs x = rs ++ [(x, 1, 0)] by
            unfold addR; rw [if_neg hnf.out, if_pos (by rw [Hrl.out]; exact hlk)])
          go_wp2_with (at_builtin
                       refine wpList_appG (w := w2) (by rfl) (.tmp 90) (.tmp 93) 32 34 (by rfl) Try.underlying32 info34 (by rfl) (by simp [Act.eval]) (unhide O2) hln (by omega) ?_
                       intro v1 w1 ho1 hb1 _
                       obtain ⟨A3, n3, c3, e3, _⟩ := ho1.to
                       subst e3
                       have HO1 := hide ho1
                       have HB1 := hide ((unhide B2).trans hb1)
                       clear ho1 hb1)
          go_roundw
          case rel => exact ⟨k + 1, A3, n3, c3, by omega, by go_num, rfl, by rw [hnx.out, ha.out]; exact unhide HO1, unhide HB1⟩
          case measure => simp [intOf]; omega
        · have hlk1 : decide ((n1 : Int) < (K : Int)) = false := by simp; omega
          have hlk2 : ¬ (n1 : Int) < (K : Int) := by omega
          have ha := hide (show addR false K rs x = rs.set (leastR rs rs.length) (x, (gth rs (leastR rs rs.length)).2.1 + 1, (gth rs (leastR rs rs.length)).2.1) by
            unfold addR; rw [if_neg hnf.out, if_neg (by rw [Hrl.out]; exact hlk), if_neg (by simp)])
          rw [Hrl.out] at ha
          obtain ⟨g, rfl⟩ : ∃ g, A1 = some ⟨g, 0, none⟩ := by
            rcases (unhide O2).2 with ⟨hx, _⟩ | ⟨g, _, _, hx, _⟩
            · simp only [Value.slice.injEq] at hx; omega
            · simp only [Value.slice.injEq] at hx; exact ⟨g, hx.1⟩
          have hgl := (unhide O2).lt g rfl
          have hm1 := (unhide O2).reads.most; have hc1 := (unhide O2).reads.cap
          have hn0 : 0 < n1 := by omega
          go_wp2_with fail
          go_loopw [9, 10, 11, 23] (fun a _ _ i wr2 => ∃ (j t : Nat), j ≤ n1 ∧ t < n1 ∧ i = .int .i64 j ∧ a = .int .i64 t ∧ Hid (t = leastR rs j) ∧ Below w2.heap.size w2 wr2) (fun _ _ _ i _ => n1 - (intOf i).toNat)
          case atStart => exact ⟨0, 0, Nat.zero_le _, hn0, rfl, rfl, hide rfl, Below.refl _ _⟩
          case round =>
            obtain ⟨j, t, hj, htn, rfl, rfl, ht, hb2⟩ := hrel
            have HB2 := hide hb2
            have o3 := (unhide O2).below hb2 (Nat.le_refl _)
            have hsz3 := hb2.size
            by_cases hjl : j < n1
            · obtain ⟨y1, y2, y3, _⟩ := o3.at3E j hjl
              obtain ⟨z1, z2, _⟩ := o3.at3E t htn
              obtain ⟨f, hf⟩ : ∃ f, (gth rs j).1 = f := ⟨_, rfl⟩
              obtain ⟨d, hd⟩ : ∃ f, (gth rs j).2.1 = f := ⟨_, rfl⟩
              obtain ⟨q, hq⟩ : ∃ f, (gth rs j).2.2 = f := ⟨_, rfl⟩
              obtain ⟨f', hf'⟩ : ∃ f, (gth rs t).1 = f := ⟨_, rfl⟩
              obtain ⟨d', hd'⟩ : ∃ f, (gth rs t).2.1 = f := ⟨_, rfl⟩
              rw [hf] at y1; rw [hd] at y2; rw [hq] at y3; rw [hf'] at z1; rw [hd'] at z2
              have hBa := (Below.refl wr.heap.size wr).alloc (Nat.le_refl _) (.cells #[.int .i64 f, .int .i64 d, .int .i64 q] 34)
              have u1 : (wr.alloc (.cells #[.int .i64 f, .int .i64 d, .int .i64 q] 34)).cell? ⟨g, t * 3, none⟩ = some (.int .i64 f') := by rw [← z1]; exact hBa.cell (show g < wr.heap.size by omega)
              have u2 : (wr.alloc (.cells #[.int .i64 f, .int .i64 d, .int .i64 q] 34)).cell? ⟨g, t * 3 + 1, none⟩ = some (.int .i64 d') := by rw [← z2]; exact hBa.cell (show g < wr.heap.size by omega)
              have HBa := hide (hb2.alloc hb2.size (.cells #[.int .i64 f, .int .i64 d, .int .i64 q] 34))
              have hstep := hide (show leastR rs (j + 1) = if d < d' ∨ d = d' ∧ f < f' then j else t by simp only [leastR]; rw [← ht.out, hd, hd', hf, hf'])
              clear hf hd hq hf' hd' hBa o3 hb2 z1 z2
              by_cases c1 : d < d'
              · go_wp2_with fail
                go_big_quiet (fail)
                go_wp2_with fail
                go_roundw
                case rel => exact ⟨j + 1, j, by omega, hjl, by go_num, rfl, hide (by rw [hstep.out, if_pos (.inl c1)]), by first | exact unhide HBa | exact Below.drewN' (unhide HBa) _⟩
                case measure => simp [intOf]; omega
              · have c1' : decide (d < d') = false := by simp; omega
                by_cases c2 : d = d'
                · subst c2
                  by_cases c3 : f < f'
                  · go_wp2_with fail
                    go_big_quiet (fail)
                    go_wp2_with fail
                    go_roundw
                    case rel => exact ⟨j + 1, j, by omega, hjl, by go_num, rfl, hide (by rw [hstep.out, if_pos (by first | exact .inr ⟨rfl, c3⟩ | exact .inr ⟨trivial, c3⟩ | simp [c3])]), by first | exact unhide HBa | exact Below.drewN' (unhide HBa) _⟩
                    case measure => simp [intOf]; omega
                  · have c3' : decide (f < f') = false := by simp; omega
                    have c4 := hide (show ¬ (d < d ∨ d = d ∧ f < f') by omega)
                    go_wp2_with fail
                    go_big_quiet (fail)
                    go_wp2_with fail
                    go_roundw
                    case rel => exact ⟨j + 1, t, by omega, htn, by go_num, rfl, hide (by rw [hstep.out, if_neg (by first | exact c4.out | (simp; omega))]), by first | exact unhide HBa | exact Below.drewN' (unhide HBa) _⟩
                    case measure => simp [intOf]; omega
                · have c2' : (d == d') = false := by simpa using c2
                  have c2'' : decide (d = d') = false := by simpa using c2
                  have c4 := hide (show ¬ (d < d' ∨ d = d' ∧ f < f') by omega)
                  go_wp2_with fail
                  go_big_quiet (fail)
                  go_wp2_with fail
                  go_roundw
                  case rel => exact ⟨j + 1, t, by omega, htn, by go_num, rfl, hide (by rw [hstep.out, if_neg c4.out]), by first | exact unhide HBa | exact Below.drewN' (unhide HBa) _⟩
                  case measure => simp [intOf]; omega
            · obtain rfl : j = n1 := by omega
              rw [← ht.out] at ha
              obtain ⟨y1, y2, y3, z1, z2, z3⟩ := o3.at3E t htn
              obtain ⟨d, hd⟩ : ∃ f, (gth rs t).2.1 = f := ⟨_, rfl⟩
              rw [hd] at y2 ha
              have hdb := hall.out _ (gth_mem (show t < rs.length by rw [Hrl.out]; exact htn))
              rw [hd] at hdb
              have hd1 : 1 ≤ d := hdb.2.2.1
              have hd2 : d ≤ 40 := by omega
              have w1 : IntKind.i64.wrap (d + 1) = d + 1 := by rw [IntKind.wrap_i64]; omega
              have O4 := hide (o3.set3E htn x (d + 1) d)
              have hb3 := (unhide B2).trans (hb2.mono hsz2)
              have B4 := hide (((hb3.setCell (p := ⟨g, t * 3, none⟩) hgl.1 (.int .i64 x)).setCell (p := ⟨g, t * 3 + 1, none⟩) hgl.1 (.int .i64 (d + 1))).setCell (p := ⟨g, t * 3 + 2, none⟩) hgl.1 (.int .i64 d))
              clear hd hdb hb3 hb2 o3
              go_wp2_with fail
              go_region
              go_wp2_with fail
              go_roundw
              case rel => exact ⟨k + 1, some ⟨g, 0, none⟩, j, c1, by omega, by go_num, rfl, by rw [hnx.out, ha.out]; first | exact unhide O4 | exact (unhide O4).drewN 1, by first | exact unhide B4 | exact (unhide B4).drew⟩
              case measure => simp [intOf]; omega
    · obtain rfl : k = n := by omega
      have hg := ho.reads
      have e5 := hide (risL_eq (hsam.out k (by rw [hl.out]; exact Nat.le_refl _)) (hinv.out k (by rw [hl.out]; exact Nat.le_refl _)).rise (fun g hg => ⟨((hinv.out k (by rw [hl.out]; exact Nat.le_refl _)).all g hg).1, ((hinv.out k (by rw [hl.out]; exact Nat.le_refl _)).all g hg).2.1⟩))
      clear ho hb
      go_wp2_with fail
      refine (RRising_any A1 n1 c1 _ _ hg).mono ?_
      rintro e w2 ⟨v, rfl, o2, b2⟩
      rw [e5.out] at o2
      have O2 := hide (o2.mono' (unhide HB).size)
      have B2 := hide ((unhide HB).trans (b2.mono (unhide HB).size))
      clear o2 b2
      go_wp2_with fail
      go_ret
      exact ⟨v, rfl, by rw [hl.out]; exact unhide O2, unhide B2⟩
end Go.Proofs.Ytdlbahoenhhkdaa
