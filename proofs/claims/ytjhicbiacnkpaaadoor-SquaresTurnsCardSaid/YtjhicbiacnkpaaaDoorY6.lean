/-
  Mirror of the reference.
-/
import Derived.Test.YtjhicbiacnkpaaaDoorY5
import Derived.Test.YtjhicbiacnkpaaaDoorY4
namespace Go.Proofs.YtjhicbiacnkpaaaDoor
open Go.RowKit

theorem take_revR (xs : List (List Int)) {j : Nat} (h : j + 1 ≤ xs.length) : (xs.drop j).reverse = (xs.drop (j + 1)).reverse ++ [row xs j] := by
  rw [List.drop_eq_getElem_cons (show j < xs.length by omega), List.reverse_cons]
  congr 2
  unfold row
  rw [List.getD_eq_getElem?_getD, List.getElem?_eq_getElem (show j < xs.length by omega)]; rfl
theorem map_rev_snoc (R : List (List Int)) {k : Nat} (h : k < R.length) : (R.map List.reverse).take (k + 1) = (R.map List.reverse).take k ++ [(row R k).reverse] := by
  rw [List.take_succ_eq_append_getElem (by rw [List.length_map]; exact h), List.getElem_map]
  congr 3
  unfold row
  rw [List.getD_eq_getElem?_getD, List.getElem?_eq_getElem h]; rfl

set_option maxRecDepth 100000 in
set_option maxHeartbeats 2000000 in
theorem RMirror_any (A1 A2 : Option Addr) (n1 n2 c1 c2 : Nat) (R C : List (List Int)) (w : World) (r1 : Rows_ w w.heap.size A1 n1 c1 R) (r2 : Rows_ w w.heap.size A2 n2 c2 C) (HP : Hid (puzB R C = true)) :
    Calls Tryd.prog 49 #[.agg #[.slice A1 n1 c1, .slice A2 n2 c2]] w fun e w' => ∃ B1 m1 d1 B2 m2 d2, e = .returned (.agg #[.slice B1 m1 d1, .slice B2 m2 d2]) ∧ Rows_ w' w'.heap.size B1 m1 d1 (R.map List.reverse) ∧ Rows_ w' w'.heap.size B2 m2 d2 C.reverse ∧ Below w.heap.size w w' := by
  obtain ⟨v1, v2⟩ := puz_parts HP.out
  obtain ⟨a1, a2⟩ := cl_rows v1
  obtain ⟨a3, a4⟩ := cl_rows v2
  rw [r1.len] at a1 a2
  rw [r2.len] at a3 a4
  have HRL := hide a2
  have l1 := hide r1.len; have l2 := hide r2.len
  have hcap1 := r1.cap; have hm1 := r1.most; have hcap2 := r2.cap; have hm2 := r2.most
  clear v1 v2 a2 a4
  obtain ⟨W0, hW0⟩ : ∃ W0 : World, W0 = ((w.alloc (.cells #[.slice A1 n1 c1, .slice A2 n2 c2] 44)).alloc (.cells #[.slice none 0 0, .slice none 0 0] 44)).alloc (.cells #[.slice none 0 0, .slice none 0 0] 44) := ⟨_, rfl⟩
  have HB0 := hide (show Below w.heap.size w W0 from by rw [hW0]; exact (((Below.refl _ w).alloc (Nat.le_refl _) _).alloc (by simp) _).alloc (by simp; omega) _)
  have K1 := hide (show Blk W0 w.heap.size 44 #[.slice A1 n1 c1, .slice A2 n2 c2] from by rw [hW0]; exact ((Blk.new w _ _).alloc _).alloc _)
  have K2 := hide (show Blk W0 (w.heap.size + 1) 44 #[.slice none 0 0, .slice none 0 0] from by
    rw [hW0]
    have := Blk.new (w.alloc (.cells #[.slice A1 n1 c1, .slice A2 n2 c2] 44)) 44 #[.slice none 0 0, .slice none 0 0]
    rw [alloc_sz] at this
    exact this.alloc _)
  have K3 := hide (show Blk W0 (w.heap.size + 1 + 1) 44 #[.slice none 0 0, .slice none 0 0] from by
    rw [hW0]
    have := Blk.new ((w.alloc (.cells #[.slice A1 n1 c1, .slice A2 n2 c2] 44)).alloc (.cells #[.slice none 0 0, .slice none 0 0] 44)) 44 #[.slice none 0 0, .slice none 0 0]
    rwa [alloc_sz, alloc_sz] at this)
  have HZ := hide (show W0.heap.size = w.heap.size + 1 + 1 + 1 from by rw [hW0]; simp)
  obtain ⟨p0, p1, _, _⟩ := cell_two (unhide K1)
  go_enter Tryd.func49, Tryd.ntmps49
  go_upto_region 2 with fail
  rw [← hW0]
  clear hW0
  go_wp2_with fail
  go_loopw [5, 10] (fun _ i wr => ∃ (k A3 : _) (n3 c3 : Nat), k ≤ n1 ∧ i = .int .i64 (k : Nat) ∧ Blk wr (w.heap.size + 1 + 1) 44 #[.slice A3 n3 c3, .slice none 0 0] ∧ OwnF wr (w.heap.size + 1 + 1 + 1) (.slice A3 n3 c3) ((R.map List.reverse).take k) ∧ Blk wr (w.heap.size + 1) 44 #[.slice none 0 0, .slice none 0 0] ∧ Blk wr w.heap.size 44 #[.slice A1 n1 c1, .slice A2 n2 c2] ∧ Below w.heap.size w wr ∧ Hid (w.heap.size + 1 + 1 + 1 ≤ wr.heap.size)) (fun _ i _ => n1 - (intOf i).toNat)
  case atStart => exact ⟨0, none, 0, 0, Nat.zero_le _, rfl, unhide K3, by simpa using ownF_nil _ _, unhide K2, unhide K1, unhide HB0, hide (by rw [HZ.out]; exact Nat.le_refl _)⟩
  case round =>
    obtain ⟨k, A3, n3, c3, hk, rfl, k6, ho, k4, k1, hb, hsz⟩ := hrel
    by_cases hlt : k < n1
    · obtain ⟨bb, off, A', n', c', rfl, hb0, hc, hi⟩ := (r1.below hb).at_ k hlt
      have hn' := hide (show n' ≤ 1000 from by rw [← hi.len]; exact HRL.out k hlt)
      have HS := hide (map_rev_snoc R (show k < R.length by have := l1.out; omega))
      have hcl := hide (show ((R.map List.reverse).take k).length ≤ 1000000 from by rw [List.length_take]; omega)
      have hiD := hide (show Ints wr.drew wr.drew.heap.size A' n' c' (row R k) from (hi.more hb.size).on (Below.refl _ _).drew)
      clear hi
      replace k6 := hide k6; replace k4 := hide k4; replace k1 := hide k1; replace ho := hide ho; replace hb := hide hb
      have hTd := hide (show Blk wr.drew (w.heap.size + 1 + 1) 44 #[.slice A3 n3 c3, .slice none 0 0] from (unhide k6))
      obtain ⟨p0, p1, p2, p3⟩ := cell_two (unhide hTd)
      have hod := hide (show OwnF wr.drew (w.heap.size + 1 + 1 + 1) (.slice A3 n3 c3) ((R.map List.reverse).take k) from (unhide ho).below (Below.refl _ _).drew)
      have hsd := hide (show w.heap.size + 1 + 1 + 1 ≤ wr.drew.heap.size from hsz.out)
      go_wp2_with fail
      go_region_law (first
        | (refine step_appF (w := w3) (by rfl) (.tmp 15) (.tmp 18) (by rfl) (by rfl) (by rfl) (unhide HO3) (unhide HI3) HE3.out.1 HE3.out.2 hcl.out HS3.out ?_
           intro v4 w4 hor4 hb6
           obtain ⟨A4, n4, c4, e4, _⟩ := hor4.to
           subst e4
           obtain ⟨z0, z1, z2, z3⟩ := cell_two ((unhide HT3).below hb6 (by omega))
           have HT4 := hide ((unhide HT3).below hb6 (by omega))
           have HO4 := hide hor4
           have HB6 := hide hb6
           clear hor4 hb6)
        | (go_simp; go_at_call 86; (with_reducible refine (backward_ints _ _ _ _ _ (unhide hiD) hn').mono ?_)
           rintro e w3 ⟨A5, n5, c5, rfl, hno, hi3, hb5⟩
           have HT3 := hide ((unhide hTd).below hb5 (by have := hsd.out; omega))
           obtain ⟨x0, x1, x2, x3⟩ := cell_two (unhide HT3)
           obtain ⟨y0, y1, y2, y3⟩ := cell_two ((unhide HT3).alloc (.cells #[.slice A5 n5 c5] 22))
           have HO3 := hide ((unhide hod).below hb5)
           have HE3 := hide (hno.elemF (base0 := w.heap.size + 1 + 1 + 1) (g := (Value.slice A3 n3 c3).ownBlock) (fun b hb => ((unhide hod).lt b hb).2) hsd.out)
           have HI3 := hide hi3
           have HS3 := hide (Nat.le_trans hsd.out hb5.size)
           have HB5 := hide hb5
           clear hno hb5 hi3))
      all_goals
        have K6n := hide (show Blk (w4.setCell ⟨w.heap.size + 1 + 1, 0, none⟩ (.slice A4 n4 c4)) (w.heap.size + 1 + 1) 44 #[.slice A4 n4 c4, .slice none 0 0] from (unhide HT4).set_ 0 _)
        have HOn := hide ((unhide HO4).set (g := w.heap.size + 1 + 1) (o := 0) (by omega) (.slice A4 n4 c4))
        have hw3 := hide (show w.heap.size + 1 < wr.drew.heap.size from by have := hsd.out; omega)
        have K4n := hide ((((show Blk wr.drew (w.heap.size + 1) 44 #[.slice none 0 0, .slice none 0 0] from unhide k4).below (unhide HB5) hw3.out).below (unhide HB6) (by omega)).far (p := ⟨w.heap.size + 1 + 1, 0, none⟩) (by show w.heap.size + 1 ≠ w.heap.size + 1 + 1; omega) (.slice A4 n4 c4))
        have K1n := hide ((((show Blk wr.drew w.heap.size 44 #[.slice (some ⟨bb, off, none⟩) n1 c1, .slice A2 n2 c2] from unhide k1).below (unhide HB5) (by have := hw3.out; omega)).below (unhide HB6) (by omega)).far (p := ⟨w.heap.size + 1 + 1, 0, none⟩) (by show w.heap.size ≠ w.heap.size + 1 + 1; omega) (.slice A4 n4 c4))
        have HBn := hide (((((unhide hb).drew).trans ((unhide HB5).mono (by have := hw3.out; omega))).trans ((unhide HB6).mono (by omega))).setCell (p := ⟨w.heap.size + 1 + 1, 0, none⟩) (by show w.heap.size ≤ w.heap.size + 1 + 1; omega) (.slice A4 n4 c4))
        have HSn := hide (show w.heap.size + 1 + 1 + 1 ≤ (w4.setCell ⟨w.heap.size + 1 + 1, 0, none⟩ (.slice A4 n4 c4)).heap.size from by
          have a1 := hsd.out; have a2 := (unhide HB5).size; have a3 := (unhide HB6).size
          simp; omega)
        go_wp2_with fail
        go_roundw
        case rel => exact ⟨k + 1, A4, n4, c4, by omega, by go_num, unhide K6n, by rw [HS.out]; exact unhide HOn, unhide K4n, unhide K1n, unhide HBn, HSn⟩
        case measure => simp [intOf]; omega
    · obtain rfl : k = n1 := by omega
      have HRw := hide (show (R.map List.reverse).take k = R.map List.reverse from by rw [List.take_of_length_le (by simp; have := l1.out; omega)])
      rw [HRw.out] at ho
      obtain ⟨A1', n1', c1', e1, hrf⟩ := ho.rowsF
      cases e1
      obtain ⟨wo, rfl⟩ : ∃ wo : World, wo = wr := ⟨_, rfl⟩
      have HRF := hide hrf
      have HBo := hide hb
      have HSo := hsz
      obtain ⟨p0, p1, _, _⟩ := cell_two k1
      replace k6 := hide k6; replace k4 := hide k4; replace k1 := hide k1
      clear hrf ho hb hsz hlt hk
      go_wp2_with fail
      go_loopw [6] (fun i wr => ∃ (j A4 : _) (n4 c4 : Nat), j ≤ n2 ∧ i = .int .i64 ((j : Nat) - 1 : Int) ∧ Blk wr (w.heap.size + 1 + 1) 44 #[.slice A3 n3 c3, .slice A4 n4 c4] ∧ RowsF wr (w.heap.size + 1 + 1 + 1) wo.heap.size A3 n3 c3 (R.map List.reverse) ∧ OwnO w wr wo.heap.size (.slice A4 n4 c4) (C.drop j).reverse ∧ Blk wr (w.heap.size + 1) 44 #[.slice none 0 0, .slice none 0 0] ∧ Blk wr w.heap.size 44 #[.slice A1 k c1, .slice A2 n2 c2] ∧ Below w.heap.size w wr ∧ Hid (wo.heap.size ≤ wr.heap.size)) (fun i _ => (intOf i + 1).toNat)
      case atStart => exact ⟨n2, none, 0, 0, Nat.le_refl _, rfl, unhide k6, unhide HRF, by rw [List.drop_of_length_le (by have := l2.out; omega)]; exact ownO_nil _ _ _, unhide k4, unhide k1, unhide HBo, hide (Nat.le_refl _)⟩
      case round =>
        clear k6 k4 k1 p0 p1
        obtain ⟨j, A4, n4, c4, hj, rfl, k6, hrf, ho, k4, k1, hb, hsz⟩ := hrel
        rcases Nat.eq_zero_or_pos j with h0 | h0
        · subst h0
          have z0 : ¬ (0 : Int) ≤ ((0 : Nat) : Int) - 1 := by omega
          obtain ⟨p0, p1, p2, p3⟩ := cell_two k6
          obtain ⟨s0, s1, s2, s3⟩ := cell_two k4
          have HK4 := hide k4
          have hz := put2 k4 (.slice A3 n3 c3) (.slice A4 n4 c4)
          obtain ⟨z1, z2⟩ := two_at hz
          have HRX := hide hrf
          have HSo2 := hide (show w.heap.size + 1 + 1 + 1 ≤ wo.heap.size from HSo.out)
          have hoo := ho.set (g := w.heap.size + 1) (o := 0) (by have := HSo2.out; omega) (.slice A3 n3 c3)
          have hoo2 := hoo.set (g := w.heap.size + 1) (o := 1) (by have := HSo2.out; omega) (.slice A4 n4 c4)
          have HBE := hide (below_put2 hb (show w.heap.size ≤ w.heap.size + 1 by omega) (.slice A3 n3 c3) (.slice A4 n4 c4))
          have HSZ := hide hsz.out
          obtain ⟨A5, n5, c5, e5, hr5⟩ := hoo2.to (unhide HBE)
          cases e5
          have HR5 := hide hr5
          clear k4 k6 k1 hrf ho hb hsz hz hoo hoo2 hr5
          go_wp2_with fail
          refine bodyPost_ret (v := .agg #[.slice A3 n3 c3, .slice A4 n4 c4]) (by simp [results, Tryd.results49, go_sem, z1, z2]) rfl ⟨A3, n3, c3, A4, n4, c4, rfl, ?_, by simpa using unhide HR5, unhide HBE⟩
          exact ((unhide HRX).keep fun b h1 _ => put2_far wr (show b ≠ w.heap.size + 1 by omega) (.slice A3 n3 c3) (.slice A4 n4 c4)).rows.more (show wo.heap.size ≤ ((wr.setCell ⟨w.heap.size + 1, 0, none⟩ (.slice A3 n3 c3)).setCell ⟨w.heap.size + 1, 1, none⟩ (.slice A4 n4 c4)).heap.size by have := HSZ.out; simp; omega)
        · obtain ⟨q, rfl⟩ : ∃ q, j = q + 1 := ⟨j - 1, by omega⟩
          have ek : ((q + 1 : Nat) : Int) - 1 = ((q : Nat) : Int) := by omega
          rw [ek]
          obtain ⟨bb, off, A', n', c', rfl, hb0, hc, hi⟩ := (r2.below hb).at_ q (by omega)
          obtain ⟨_, _, A'', n'', c'', e1, _, hc2, hi2⟩ := r2.at_ q (by omega)
          cases e1
          have HS := hide (take_revR C (show q + 1 ≤ C.length by have := l2.out; omega))
          have hcl := hide (show ((C.drop (q + 1)).reverse).length ≤ 1000000 from by simp; have := l2.out; omega)
          have hqn : ((q : Nat) : Int) < n2 := by omega
          have hsame : (Value.slice A' n' c') = .slice A'' n'' c'' := by
            have := hc.symm.trans ((World.cell?_of_block (hb.block bb hb0) (a := ⟨bb, off + q, none⟩)).trans hc2)
            exact Option.some.inj this
          cases hsame
          have HI2 := hide hi2
          clear hi hi2 hc2
          replace k6 := hide k6; replace k4 := hide k4; replace k1 := hide k1; replace ho := hide ho; replace hb := hide hb; replace hrf := hide hrf
          have hcD : wr.drew.cell? ⟨bb, off + q, none⟩ = some (.slice A' n' c') := hc
          have hTd := hide (show Blk wr.drew (w.heap.size + 1 + 1) 44 #[.slice A3 n3 c3, .slice A4 n4 c4] from (unhide k6))
          have hPd := hide (show Blk wr.drew w.heap.size 44 #[.slice A1 k c1, .slice (some ⟨bb, off, none⟩) n2 c2] from (unhide k1))
          obtain ⟨p0, p1, p2, p3⟩ := cell_two (unhide hTd)
          obtain ⟨s0, s1, s2, s3⟩ := cell_two (unhide hPd)
          obtain ⟨y0, y1, y2, y3⟩ := cell_two ((unhide k6).alloc (.cells #[.slice A' n' c'] 22))
          have hod := hide (show OwnO w wr.drew wo.heap.size (.slice A4 n4 c4) (C.drop (q + 1)).reverse from (unhide ho).on (Below.refl _ _).drew)
          have hsd := hide (show wo.heap.size ≤ wr.drew.heap.size from hsz.out)
          have hso := hide HSo.out
          go_wp2_with fail
          go_region_law (first
            | (refine step_appO (w := wr.drew) (by rfl) (.tmp 31) (.tmp 37) (by rfl) (by rfl) (by rfl) (unhide hod) (unhide HI2) hcl.out hsd.out ?_
               intro v4 w4 hor4 hb6
               obtain ⟨A5, n5, c5, e5, _⟩ := hor4.to ((unhide hb).drew.trans (hb6.mono (by have := hso.out; omega)))
               subst e5
               obtain ⟨z0, z1, z2, z3⟩ := cell_two ((unhide hTd).below hb6 (by have := hso.out; omega))
               have HT4 := hide ((unhide hTd).below hb6 (by have := hso.out; omega))
               have HO4 := hide hor4
               have HB6 := hide hb6
               clear hor4 hb6))
          all_goals
            have K6n := hide (show Blk (w4.setCell ⟨w.heap.size + 1 + 1, 1, none⟩ (.slice A5 n5 c5)) (w.heap.size + 1 + 1) 44 #[.slice A3 n3 c3, .slice A5 n5 c5] from (unhide HT4).set_ 1 _)
            have HOn := hide ((unhide HO4).set (g := w.heap.size + 1 + 1) (o := 1) (by have := hso.out; omega) (.slice A5 n5 c5))
            have K4n := hide (((show Blk wr.drew (w.heap.size + 1) 44 #[.slice none 0 0, .slice none 0 0] from unhide k4).below (unhide HB6) (by have := hso.out; omega)).far (p := ⟨w.heap.size + 1 + 1, 1, none⟩) (by show w.heap.size + 1 ≠ w.heap.size + 1 + 1; omega) (.slice A5 n5 c5))
            have K1n := hide (((unhide hPd).below (unhide HB6) (by have := hso.out; omega)).far (p := ⟨w.heap.size + 1 + 1, 1, none⟩) (by show w.heap.size ≠ w.heap.size + 1 + 1; omega) (.slice A5 n5 c5))
            have HBn := hide ((((unhide hb).drew).trans ((unhide HB6).mono (by have := hso.out; omega))).setCell (p := ⟨w.heap.size + 1 + 1, 1, none⟩) (by show w.heap.size ≤ w.heap.size + 1 + 1; omega) (.slice A5 n5 c5))
            have HFn := hide ((((unhide hrf).below (Below.refl wo.heap.size wr).drew).below (unhide HB6)).set (g := w.heap.size + 1 + 1) (o := 1) (by omega) (.slice A5 n5 c5))
            have HSn := hide (show wo.heap.size ≤ (w4.setCell ⟨w.heap.size + 1 + 1, 1, none⟩ (.slice A5 n5 c5)).heap.size from by
              have a1 := hsd.out; have a3 := (unhide HB6).size
              simp; omega)
            go_wp2_with fail
            go_roundw
            case rel => exact ⟨q, A5, n5, c5, by omega, by first | rfl | go_num, unhide K6n, unhide HFn, by rw [HS.out]; exact unhide HOn, unhide K4n, unhide K1n, unhide HBn, HSn⟩
            case measure => simp [intOf]
end Go.Proofs.YtjhicbiacnkpaaaDoor
