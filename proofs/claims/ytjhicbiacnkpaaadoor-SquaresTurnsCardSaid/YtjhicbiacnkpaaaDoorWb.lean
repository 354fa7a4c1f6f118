/-
  Clues of the program.
-/
import Derived.Test.YtjhicbiacnkpaaaDoorR4
namespace Go.Proofs.YtjhicbiacnkpaaaDoor
open Go.RowKit

theorem shl_one (r k : Nat) (hr : r < 2) (hk : k < 6) : IntKind.i64.wrap ((r : Int) * 2 ^ k) = ((r * 2 ^ k : Nat) : Int) := by
  have h1 : 2 ^ k ≤ 32 := pow_le hk
  have h2 : r * 2 ^ k ≤ 32 := by
    rcases (show r = 0 ∨ r = 1 by omega) with h | h <;> rw [h] <;> omega
  have e : (r : Int) * 2 ^ k = ((r * 2 ^ k : Nat) : Int) := by simp
  rw [e, IntKind.wrap_i64]
  omega

theorem put2_far (w : World) {b g : Nat} (h : b ≠ g) (u v : Value) : ((w.setCell ⟨g, 0, none⟩ u).setCell ⟨g, 1, none⟩ v).heap[b]? = w.heap[b]? :=
  (heap_setCell_other _ ⟨g, 1, none⟩ b v h).trans (heap_setCell_other w ⟨g, 0, none⟩ b u h)

set_option maxRecDepth 100000 in
set_option maxHeartbeats 2000000 in
theorem Clues_ok (m : Nat) (h1 : 1 ≤ m) (h2 : m ≤ 5) (A : Option Addr) (n c : Nat) (xs : List Int) (w : World) (h : Ints w w.heap.size A n c xs) (ht : Tab w) (hn : 1 ≤ n ∧ n ≤ 5) (HA : Hid (ars m xs = true)) :
    Calls Tryd.prog 29 #[.int .i64 m, .slice A n c] w fun e w' => ∃ A1 n1 c1 A2 n2 c2, e = .returned (.tuple #[.agg #[.slice A1 n1 c1, .slice A2 n2 c2], .int .i64 0]) ∧ Rows_ w' w'.heap.size A1 n1 c1 (rowsP xs) ∧ Rows_ w' w'.heap.size A2 n2 c2 (colsP m xs) ∧ Below w.heap.size w w' := by
  have hm := h.most; have hcap := h.cap
  have hl := hide h.len
  obtain ⟨g1, g2⟩ := hn
  have HSZ := hide (show sz (n : Int) = true from sz_iff.2 ⟨by omega, by omega⟩)
  obtain ⟨W0, hW0⟩ : ∃ W0 : World, W0 = (w.alloc (.cells #[.slice none 0 0, .slice none 0 0] 40)).alloc (.cells #[.slice none 0 0, .slice none 0 0] 40) := ⟨_, rfl⟩
  have HB0 := hide (show Below w.heap.size w W0 from by rw [hW0]; exact ((Below.refl _ w).alloc (Nat.le_refl _) _).alloc (by simp) _)
  have K4 := hide (show Blk W0 w.heap.size 40 #[.slice none 0 0, .slice none 0 0] from by rw [hW0]; exact (Blk.new w _ _).alloc _)
  have K6 := hide (show Blk W0 (w.heap.size + 1) 40 #[.slice none 0 0, .slice none 0 0] from by
    rw [hW0]
    have := Blk.new (w.alloc (.cells #[.slice none 0 0, .slice none 0 0] 40)) 40 #[.slice none 0 0, .slice none 0 0]
    rwa [alloc_sz] at this)
  have HZ := hide (show W0.heap.size = w.heap.size + 1 + 1 from by rw [hW0]; simp)
  have hi0 := hide (h.alloc (Nat.le_refl _) (.cells #[.slice none 0 0, .slice none 0 0] 40))
  have hiW := hide (h.below (unhide HB0))
  have HTw := hide ht
  clear ht
  go_enter Tryd.func29, Tryd.ntmps29
  go_wp2_with fail
  refine (isSize_is _ _ true HSZ).mono ?_
  rintro e w' ⟨rfl, rfl⟩
  go_wp2_with fail
  refine (areSets_any _ _ _ _ _ _ _ (unhide hi0)).mono ?_
  rintro e w' ⟨rfl, rfl⟩
  rw [HA.out]
  go_wp2_with fail
  rw [← hW0]
  clear hW0
  go_loopw [8, 26] (fun _ i wr => ∃ (k A1 : _) (n1 c1 : Nat), k ≤ n ∧ i = .int .i64 (k : Nat) ∧ Blk wr (w.heap.size + 1) 40 #[.slice A1 n1 c1, .slice none 0 0] ∧ OwnF wr (w.heap.size + 1 + 1) (.slice A1 n1 c1) ((rowsP xs).take k) ∧ Blk wr w.heap.size 40 #[.slice none 0 0, .slice none 0 0] ∧ Below w.heap.size w wr ∧ Hid (w.heap.size + 1 + 1 ≤ wr.heap.size)) (fun _ i _ => n - (intOf i).toNat)
  case atStart => exact ⟨0, none, 0, 0, Nat.zero_le _, rfl, unhide K6, by simpa using ownF_nil _ _, unhide K4, unhide HB0, hide (by rw [HZ.out]; exact Nat.le_refl _)⟩
  case round =>
    obtain ⟨k, A1, n1, c1, hk, rfl, k6, ho, k4, hb, hsz⟩ := hrel
    by_cases hlt : k < n
    · obtain ⟨bb, off, rfl, hb0, hc⟩ := ((h.below hb)).at_ k hlt
      obtain ⟨y, hy, hy2⟩ := ars_at h1 h2 HA.out (show k < xs.length by have := hl.out; omega)
      have hy32 : y < 32 := by have := pow_le (n := m) (by omega); omega
      rw [hy] at hc
      have HS := hide (show (rowsP xs).take (k + 1) = (rowsP xs).take k ++ [bl y] from by
        rw [rowsP_snoc (by have := hl.out; omega), hy]; simp)
      have hcl := hide (show ((rowsP xs).take k).length ≤ 1000000 from by rw [List.length_take]; omega)
      have HT := hide ((unhide HTw).on hb)
      replace k6 := hide k6; replace k4 := hide k4; replace ho := hide ho; replace hb := hide hb
      have hTd := hide (show Blk wr.drew (w.heap.size + 1) 40 #[.slice A1 n1 c1, .slice none 0 0] from (unhide k6))
      obtain ⟨p0, p1, p2, p3⟩ := cell_two (unhide hTd)
      have hod := hide (show OwnF wr.drew (w.heap.size + 1 + 1) (.slice A1 n1 c1) ((rowsP xs).take k) from (unhide ho).below (Below.refl _ _).drew)
      have htd := hide (show Tab wr.drew from (unhide HT))
      have hsd := hide (show w.heap.size + 1 + 1 ≤ wr.drew.heap.size from hsz.out)
      go_wp2_with fail
      go_region_law (first
        | (refine step_appF (w := w3) (by rfl) (.tmp 31) (.tmp 34) (by rfl) (by rfl) (by rfl) (unhide HO3) (unhide HI3) HE3.out.1 HE3.out.2 hcl.out HS3.out ?_
           intro v4 w4 hor4 hb6
           obtain ⟨A4, n4, c4, e4, _⟩ := hor4.to
           subst e4
           obtain ⟨z0, z1, z2, z3⟩ := cell_two ((unhide HT3).below hb6 (by omega))
           have HT4 := hide ((unhide HT3).below hb6 (by omega))
           have HO4 := hide hor4
           have HB6 := hide hb6
           clear hor4 hb6)
        | (go_simp; go_at_call 61; refine (blocks_ints y hy32 _ (unhide htd)).mono ?_
           rintro e w3 ⟨A3, n3, c3, rfl, hno, hi3, hb5⟩
           have HT3 := hide ((unhide hTd).below hb5 (by have := hsd.out; omega))
           obtain ⟨x0, x1, x2, x3⟩ := cell_two (unhide HT3)
           obtain ⟨y0, y1, y2, y3⟩ := cell_two ((unhide HT3).alloc (.cells #[.slice A3 n3 c3] 22))
           have HO3 := hide ((unhide hod).below hb5)
           have HE3 := hide (hno.elemF (base0 := w.heap.size + 1 + 1) (g := (Value.slice A1 n1 c1).ownBlock) (fun b hb => ((unhide hod).lt b hb).2) hsd.out)
           have HI3 := hide hi3
           have HS3 := hide (Nat.le_trans hsd.out hb5.size)
           have HB5 := hide hb5
           clear hno hb5 hi3))
      all_goals
        have K6n := hide (show Blk (w4.setCell ⟨w.heap.size + 1, 0, none⟩ (.slice A4 n4 c4)) (w.heap.size + 1) 40 #[.slice A4 n4 c4, .slice none 0 0] from (unhide HT4).set_ 0 _)
        have HOn := hide ((unhide HO4).set (g := w.heap.size + 1) (o := 0) (by omega) (.slice A4 n4 c4))
        have hw3 := hide (show w.heap.size < wr.drew.heap.size from by have := hsd.out; omega)
        have K4n := hide ((((show Blk wr.drew w.heap.size 40 #[.slice none 0 0, .slice none 0 0] from unhide k4).below (unhide HB5) hw3.out).below (unhide HB6) (by omega)).far (p := ⟨w.heap.size + 1, 0, none⟩) (by show w.heap.size ≠ w.heap.size + 1; omega) (.slice A4 n4 c4))
        have HBn := hide (((((unhide hb).drew).trans ((unhide HB5).mono (Nat.le_of_lt hw3.out))).trans ((unhide HB6).mono (by omega))).setCell (p := ⟨w.heap.size + 1, 0, none⟩) (by show w.heap.size ≤ w.heap.size + 1; omega) (.slice A4 n4 c4))
        have HSn := hide (show w.heap.size + 1 + 1 ≤ (w4.setCell ⟨w.heap.size + 1, 0, none⟩ (.slice A4 n4 c4)).heap.size from by
          have a1 := hsd.out; have a2 := (unhide HB5).size; have a3 := (unhide HB6).size
          simp; omega)
        go_wp2_with fail
        go_roundw
        case rel => exact ⟨k + 1, A4, n4, c4, by omega, by go_num, unhide K6n, by rw [HS.out]; exact unhide HOn, unhide K4n, unhide HBn, HSn⟩
        case measure => simp [intOf]; omega
    · obtain rfl : k = n := by omega
      have HRw := hide (show (rowsP xs).take k = rowsP xs from by rw [List.take_of_length_le (by simp [rowsP]; have := hl.out; omega)])
      rw [HRw.out] at ho
      obtain ⟨A1', n1', c1', e1, hrf⟩ := ho.rowsF
      cases e1
      obtain ⟨wo, rfl⟩ : ∃ wo : World, wo = wr := ⟨_, rfl⟩
      have HRF := hide hrf
      have HBo := hide hb
      have HSo := hsz
      replace k6 := hide k6; replace k4 := hide k4
      clear hrf ho hb hsz hlt hk
      go_wp2_with fail
      go_loopw [9, 10, 11, 12, 39] (fun _ _ _ _ i wr => ∃ (j A2 : _) (n2 c2 : Nat), j ≤ m ∧ i = .int .i64 (j : Nat) ∧ Blk wr (w.heap.size + 1) 40 #[.slice A1 n1 c1, .slice A2 n2 c2] ∧ RowsF wr (w.heap.size + 1 + 1) wo.heap.size A1 n1 c1 (rowsP xs) ∧ OwnF wr wo.heap.size (.slice A2 n2 c2) ((colsP m xs).take j) ∧ Blk wr w.heap.size 40 #[.slice none 0 0, .slice none 0 0] ∧ Below w.heap.size w wr ∧ Hid (wo.heap.size ≤ wr.heap.size)) (fun _ _ _ _ i _ => m - (intOf i).toNat)
      case atStart => exact ⟨0, none, 0, 0, Nat.zero_le _, rfl, unhide k6, unhide HRF, by simpa using ownF_nil _ _, unhide k4, unhide HBo, hide (Nat.le_refl _)⟩
      case round =>
        obtain ⟨j, A2, n2, c2, hj, rfl, k6, hrf, ho, k4, hb, hsz⟩ := hrel
        by_cases hlt : j < m
        · have HS := hide (colsP_snoc m xs hlt)
          have hcl := hide (show ((colsP m xs).take j).length ≤ 1000000 from by rw [List.length_take]; omega)
          have HT := hide ((unhide HTw).on hb)
          have hi := h.below hb
          replace k6 := hide k6; replace k4 := hide k4; replace ho := hide ho; replace hb := hide hb; replace hrf := hide hrf
          obtain ⟨wi, rfl⟩ : ∃ wi : World, wi = wr := ⟨_, rfl⟩
          go_wp2_with fail
          go_loop [10, 11, 12, 44] (fun a _ _ i => ∃ k2 : Nat, k2 ≤ k ∧ i = .int .i64 (k2 : Nat) ∧ a = .int .i64 (colT xs j k2 : Nat)) (fun _ _ _ i => k - (intOf i).toNat)
          case atStart => exact ⟨0, Nat.zero_le _, rfl, rfl⟩
          case round =>
            obtain ⟨k2, hk2, rfl, rfl⟩ := hrel
            have ha := colT_lt xs j k2
            have hp2 := pow_le (n := k2) (by omega)
            by_cases hlt2 : k2 < k
            · obtain ⟨bb, off, rfl, hb0, hc⟩ := hi.at_ k2 hlt2
              obtain ⟨y, hy, hy2⟩ := ars_at h1 h2 HA.out (show k2 < xs.length by have := hl.out; omega)
              have hy32 : y < 32 := by have := pow_le (n := m) (by omega); omega
              rw [hy] at hc
              obtain ⟨e, r, d1, d2, hre, hr2⟩ := bit_at y j
              have d2 := d2 (by omega)
              obtain ⟨q, hqd⟩ : ∃ q, q = r * 2 ^ k2 := ⟨_, rfl⟩
              have d3 : (r : Int) * 2 ^ k2 = (q : Int) := by rw [hqd]; simp
              have hq : q ≤ 32 := by
                rw [hqd]
                rcases (show r = 0 ∨ r = 1 by omega) with h | h <;> rw [h] <;> omega
              have d4 := or_n (colT xs j k2) q (by omega) (by omega)
              have HN := hide (show colT xs j (k2 + 1) = colT xs j k2 ||| q from by
                show colT xs j k2 ||| (nth xs k2).toNat / 2 ^ j % 2 * 2 ^ k2 = _
                rw [hqd, hy, hre.out]; simp)
              clear hqd
              go_wp2_with fail
              go_round
              case rel => exact ⟨k2 + 1, by omega, by go_num, by rw [HN.out]⟩
              case measure => simp [intOf]; omega
            · obtain rfl : k2 = k := by omega
              have HC := hide (show colT xs j k2 = colC xs j from by unfold colC; rw [hl.out])
              have hcl32 : colT xs j k2 < 32 := by omega
              rw [HC.out] at hcl32 ⊢
              obtain ⟨y, hyd⟩ : ∃ y, y = colC xs j := ⟨_, rfl⟩
              rw [← hyd] at hcl32 ⊢
              have HY := hide hyd; clear hyd ha
              have hTd := hide (show Blk wi.drew (w.heap.size + 1) 40 #[.slice A1 n1 c1, .slice A2 n2 c2] from (unhide k6))
              obtain ⟨p0, p1, p2, p3⟩ := cell_two (unhide hTd)
              have hod := hide (show OwnF wi.drew wo.heap.size (.slice A2 n2 c2) ((colsP m xs).take j) from (unhide ho).below (Below.refl _ _).drew)
              have htd := hide (show Tab wi.drew from (unhide HT))
              have hsd := hide (show wo.heap.size ≤ wi.drew.heap.size from hsz.out)
              have hso := hide HSo.out
              go_wp2_with fail
              go_region_law (first
                | (refine step_appF (w := w3) (by rfl) (.tmp 59) (.tmp 62) (by rfl) (by rfl) (by rfl) (unhide HO3) (unhide HI3) HE3.out.1 HE3.out.2 hcl.out HS3.out ?_
                   intro v4 w4 hor4 hb6
                   obtain ⟨A4, n4, c4, e4, _⟩ := hor4.to
                   subst e4
                   obtain ⟨z0, z1, z2, z3⟩ := cell_two ((unhide HT3).below hb6 (by have := hso.out; omega))
                   have HT4 := hide ((unhide HT3).below hb6 (by have := hso.out; omega))
                   have HO4 := hide hor4
                   have HB6 := hide hb6
                   clear hor4 hb6)
                | (go_simp; go_at_call 61; refine (blocks_ints y hcl32 _ (unhide htd)).mono ?_
                   rintro e w3 ⟨A3, n3, c3, rfl, hno, hi3, hb5⟩
                   have HT3 := hide ((unhide hTd).below hb5 (by have := hsd.out; have := hso.out; omega))
                   obtain ⟨x0, x1, x2, x3⟩ := cell_two (unhide HT3)
                   obtain ⟨y0, y1, y2, y3⟩ := cell_two ((unhide HT3).alloc (.cells #[.slice A3 n3 c3] 22))
                   have HO3 := hide ((unhide hod).below hb5)
                   have HE3 := hide (hno.elemF (base0 := wo.heap.size) (g := (Value.slice A2 n2 c2).ownBlock) (fun b hb => ((unhide hod).lt b hb).2) hsd.out)
                   have HI3 := hide hi3
                   have HS3 := hide (Nat.le_trans hsd.out hb5.size)
                   have HB5 := hide hb5
                   clear hno hb5 hi3))
              all_goals
                have K6n := hide (show Blk (w4.setCell ⟨w.heap.size + 1, 1, none⟩ (.slice A4 n4 c4)) (w.heap.size + 1) 40 #[.slice A1 n1 c1, .slice A4 n4 c4] from (unhide HT4).set_ 1 _)
                have HOn := hide ((unhide HO4).set (g := w.heap.size + 1) (o := 1) (by have := hso.out; omega) (.slice A4 n4 c4))
                have hw3 := hide (show w.heap.size < wi.drew.heap.size from by have := hsd.out; have := hso.out; omega)
                have K4n := hide ((((show Blk wi.drew w.heap.size 40 #[.slice none 0 0, .slice none 0 0] from unhide k4).below (unhide HB5) hw3.out).below (unhide HB6) (by have := hso.out; omega)).far (p := ⟨w.heap.size + 1, 1, none⟩) (by show w.heap.size ≠ w.heap.size + 1; omega) (.slice A4 n4 c4))
                have HBn := hide (((((unhide hb).drew).trans ((unhide HB5).mono (Nat.le_of_lt hw3.out))).trans ((unhide HB6).mono (by have := hso.out; omega))).setCell (p := ⟨w.heap.size + 1, 1, none⟩) (by show w.heap.size ≤ w.heap.size + 1; omega) (.slice A4 n4 c4))
                have HFn := hide (((((unhide hrf).below (Below.refl wo.heap.size wi).drew).below ((unhide HB5).mono hsd.out)).below (unhide HB6)).set (g := w.heap.size + 1) (o := 1) (by omega) (.slice A4 n4 c4))
                have HSn := hide (show wo.heap.size ≤ (w4.setCell ⟨w.heap.size + 1, 1, none⟩ (.slice A4 n4 c4)).heap.size from by
                  have a1 := hsd.out; have a2 := (unhide HB5).size; have a3 := (unhide HB6).size
                  simp; omega)
                go_wp2_with fail
                go_roundw
                case rel => exact ⟨j + 1, A4, n4, c4, by omega, by go_num, unhide K6n, unhide HFn, by rw [HS.out, ← HY.out]; exact unhide HOn, unhide K4n, unhide HBn, HSn⟩
                case measure => simp [intOf]; omega
        · obtain rfl : j = m := by omega
          have HCw := hide (show (colsP j xs).take j = colsP j xs from by rw [List.take_of_length_le (by simp [colsP])])
          rw [HCw.out] at ho
          have HRX := hide hrf
          obtain ⟨A2', n2', c2', e2, hr2⟩ := ho.rowsF
          cases e2
          have HSZ2 := hide hsz.out
          have HSO2 := hide HSo.out
          have HRY := hide hr2
          have HBE := hide hb
          obtain ⟨p0, p1, p2, p3⟩ := cell_two k6
          obtain ⟨s0, s1, s2, s3⟩ := cell_two k4
          have HK4 := hide k4
          have HSo2 := hide (show w.heap.size + 1 + 1 ≤ wr.heap.size from by have := hsz.out; have := HSo.out; omega)
          clear k4 k6 hr2 ho hrf hb hsz
          go_wp2_with fail
          have r1 := put2 (unhide HK4) (.slice A1 n1 c1) (.slice A2 n2 c2)
          obtain ⟨z1, z2⟩ := two_at r1
          have hbz : Below wr.heap.size wr wr := Below.refl _ _
          refine bodyPost_ret (v := .tuple #[.agg #[.slice A1 n1 c1, .slice A2 n2 c2], .int .i64 0]) (by simp [results, Tryd.results29, go_sem, z1, z2]) rfl ⟨A1, n1, c1, A2, n2, c2, rfl, ?_, ?_, below_put2 (unhide HBE) (Nat.le_refl _) _ _⟩
          · have := ((unhide HRX).keep fun b h1 _ => put2_far wr (show b ≠ w.heap.size by omega) (.slice A1 n1 c1) (.slice A2 n2 c2)).rows.more (show wo.heap.size ≤ ((wr.setCell ⟨w.heap.size, 0, none⟩ (.slice A1 n1 c1)).setCell ⟨w.heap.size, 1, none⟩ (.slice A2 n2 c2)).heap.size by have := HSZ2.out; simp; omega)
            exact this
          · have := ((unhide HRY).keep fun b h1 _ => put2_far wr (show b ≠ w.heap.size by have := HSO2.out; omega) (.slice A1 n1 c1) (.slice A2 n2 c2)).rows.more (show wr.heap.size ≤ ((wr.setCell ⟨w.heap.size, 0, none⟩ (.slice A1 n1 c1)).setCell ⟨w.heap.size, 1, none⟩ (.slice A2 n2 c2)).heap.size by simp)
            exact this
end Go.Proofs.YtjhicbiacnkpaaaDoor
