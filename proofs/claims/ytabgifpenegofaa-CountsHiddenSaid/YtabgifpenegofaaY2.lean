/-
  Hidden of the reference.
-/
import Derived.Test.YtabgifpenegofaaY1
namespace Go.Proofs.Ytabgifpenegofaa
open Go.RowKit

theorem Less1_any (n d : Int) (w : World) (hn : -256 ≤ n ∧ n ≤ 256) (hd : -256 ≤ d ∧ d ≤ 256) (r : Bool) (hr : Hid (decide (d < n) = r)) :
    Calls Try.prog 63 #[.agg #[.int .i64 1, .int .i64 1], .agg #[.int .i64 n, .int .i64 d]] w fun e w' => e = .returned (.bool r) ∧ Below w.heap.size w w' := by
  refine (RLess_any 1 1 n d w (by omega) (by omega)).mono ?_
  rintro e w' ⟨rfl, b⟩
  exact ⟨by rw [← hr.out]; congr 2; rw [Bool.eq_iff_iff]; simp, b⟩
theorem Less2_any (n d : Int) (w : World) (hn : -256 ≤ n ∧ n ≤ 256) (hd : -256 ≤ d ∧ d ≤ 256) (r : Bool) (hr : Hid (decide (n < d) = r)) :
    Calls Try.prog 63 #[.agg #[.int .i64 n, .int .i64 d], .agg #[.int .i64 1, .int .i64 1]] w fun e w' => e = .returned (.bool r) ∧ Below w.heap.size w w' := by
  refine (RLess_any n d 1 1 w (by omega) (by omega)).mono ?_
  rintro e w' ⟨rfl, b⟩
  exact ⟨by rw [← hr.out]; congr 2; rw [Bool.eq_iff_iff]; simp, b⟩

set_option maxRecDepth 100000 in
set_option maxHeartbeats 16000000 in
theorem RHidden_ok (b off c b' off' c' : Nat) (s t : List (List Int)) (w : World) (h : Rows_ w w.heap.size (some ⟨b, off, none⟩) 2 c s) (h' : Rows_ w w.heap.size (some ⟨b', off', none⟩) 2 c' t) (hs : Hid (isTwo s = true)) (ht : Hid (isTwo t = true)) (r : Bool) (z : Int) (hr : Hid ((hdOk s t && hdW s t) = r)) (hz : Hid ((if hdOk s t then 0 else 5) = z)) :
    Calls Try.prog 57 #[.slice (some ⟨b, off, none⟩) 2 c, .slice (some ⟨b', off', none⟩) 2 c'] w fun e w' => e = .returned (.tuple #[.bool r, .int .i64 z]) ∧ Below w.heap.size w w' := by
  have HS := hide (two_tb hs.out); have HT := hide (two_tb ht.out)
  cases h16 : decide (tot (plK s t) ≤ 16) with
  | false =>
    obtain ⟨rfl, rfl⟩ : false = r ∧ 5 = z := by
      have e : hdOk s t = false := by unfold hdOk; rw [h16]; rfl
      rw [← hr.out, ← hz.out, e]; exact ⟨rfl, rfl⟩
    have H16 := hide h16
    clear h16
    go_enter Try.func57, Try.ntmps57
    go_wp2_with fail
    refine (RPlus_any _ _ _ _ _ _ _ _ _ _ _ h h' HS HT false H16).mono ?_
    rintro e w3 ⟨A3, n3, c3, rfl, r3, b3⟩
    simp only [Bool.false_eq_true, if_false]
    go_wp2_with fail
    go_ret2
    exact ⟨rfl, b3⟩
  | true =>
    have hrr := hr.out; have hzz := hz.out
    unfold hdOk at hrr hzz
    rw [h16, Bool.true_and] at hrr hzz
    have HU := hide (plT_two hs.out ht.out (of_decide_eq_true h16))
    have H16 := hide h16
    have HRR := hide hrr; have HZZ := hide hzz
    clear h16 hrr hzz
    obtain ⟨⟨sa, sb⟩, sc, sd⟩ := od_bd s hs.out
    obtain ⟨⟨ta, tb⟩, tc, td⟩ := od_bd t ht.out
    obtain ⟨⟨ua, ub⟩, uc, ud⟩ := od_bd (plT s t) HU.out
    have ES := hide (odE_ok hs.out); have ET := hide (odE_ok ht.out); have EU := hide (odE_ok HU.out)
    go_enter Try.func57, Try.ntmps57
    go_wp2_with fail
    refine (RPlus_any _ _ _ _ _ _ _ _ _ _ _ h h' HS HT true H16).mono ?_
    rintro e w3 ⟨A3, n3, c3, rfl, r3, b3⟩
    rw [if_pos rfl] at r3
    have HB3 := hide b3
    have R3 := hide (show Rows_ w3 w3.heap.size A3 n3 c3 (plT s t) from r3)
    have j1 := hide ((h.below b3).more b3.size)
    have j2 := hide ((h'.below b3).more b3.size)
    clear b3 r3
    simp only [if_true]
    go_wp2_with fail
    refine (ROdds_ok _ _ _ _ _ (unhide j1) hs).mono ?_
    rintro e w4 ⟨rfl, b4⟩
    have HB4 := hide ((unhide HB3).trans (b4.mono (unhide HB3).size))
    have R4 := hide (((unhide R3).below b4).more b4.size)
    have j4 := hide (((unhide j2).below b4).more b4.size)
    clear b4 R3 j1 j2
    obtain ⟨x1, hx1⟩ : ∃ x, odE s = x := ⟨_, rfl⟩
    obtain ⟨x2, hx2⟩ : ∃ x, odE t = x := ⟨_, rfl⟩
    obtain ⟨x3, hx3⟩ : ∃ x, odE (plT s t) = x := ⟨_, rfl⟩
    rw [hx1]
    rw [hx1] at ES; rw [hx2] at ET; rw [hx3] at EU
    have X2 := hide hx2; have X3 := hide hx3
    clear hx1 hx2 hx3
    have HGS := hide (show decide (odD s < odN s) = gtB s from rfl); have HLS := hide (show decide (odN s < odD s) = ltB s from rfl)
    have HGT := hide (show decide (odD t < odN t) = gtB t from rfl); have HLT := hide (show decide (odN t < odD t) = ltB t from rfl)
    have HGU := hide (show decide (odD (plT s t) < odN (plT s t)) = gtB (plT s t) from rfl); have HLU := hide (show decide (odN (plT s t) < odD (plT s t)) = ltB (plT s t) from rfl)
    have NS := hide (show odN s = odN s from rfl)
    obtain ⟨n1, hn1⟩ : ∃ x, odN s = x := ⟨_, rfl⟩
    obtain ⟨d1, hd1⟩ : ∃ x, odD s = x := ⟨_, rfl⟩
    obtain ⟨n2, hn2⟩ : ∃ x, odN t = x := ⟨_, rfl⟩
    obtain ⟨d2, hd2⟩ : ∃ x, odD t = x := ⟨_, rfl⟩
    obtain ⟨n3', hn3⟩ : ∃ x, odN (plT s t) = x := ⟨_, rfl⟩
    obtain ⟨d3, hd3⟩ : ∃ x, odD (plT s t) = x := ⟨_, rfl⟩
    rw [hn1, hd1] at HGS HLS
    rw [hn2, hd2] at HGT HLT
    rw [hn3, hd3] at HGU HLU
    rw [hn1] at sa sb; rw [hd1] at sc sd
    rw [hn2] at ta tb; rw [hd2] at tc td
    rw [hn3] at ua ub; rw [hd3] at uc ud
    rw [hn1, hd1]
    have E2 := hide hn2; have E3 := hide hd2; have E4 := hide hn3; have E5 := hide hd3
    clear hn1 hd1 hn2 hd2 hn3 hd3 NS
    obtain ⟨W5, hW5, hF5, hB5⟩ := new_frac w4 n1 d1
    have HB5 := hide ((unhide HB4).trans (hB5.mono (unhide HB4).size))
    have F5 := hide hF5
    have R5 := hide (((unhide R4).below hB5).more hB5.size)
    have j5 := hide (((unhide j4).below hB5).more hB5.size)
    clear hF5 hB5 R4 j4
    go_upto_region 5 with fail
    clear hW5
    go_wp2_with fail
    refine (ROdds_ok _ _ _ _ _ (unhide j5) ht).mono ?_
    rintro e w6 ⟨rfl, b6⟩
    have HB6 := hide ((unhide HB5).trans (b6.mono (unhide HB5).size))
    have F6 := hide ((b6.block _ (Array.getElem?_eq_some_iff.1 (unhide F5)).1).trans (unhide F5))
    have R6 := hide (((unhide R5).below b6).more b6.size)
    clear b6 R5 j5 F5
    rw [X2.out, E2.out, E3.out]
    obtain ⟨W7, hW7, hF7, hB7⟩ := new_frac w6 n2 d2
    have HB7 := hide ((unhide HB6).trans (hB7.mono (unhide HB6).size))
    have F7 := hide ((hB7.block _ (Array.getElem?_eq_some_iff.1 (unhide F6)).1).trans (unhide F6))
    have G7 := hide hF7
    have R7 := hide (((unhide R6).below hB7).more hB7.size)
    clear hF7 hB7 R6 F6
    go_upto_region 6 with fail
    clear hW7
    go_wp2_with fail
    refine (ROdds_ok _ _ _ _ _ (unhide R7) HU).mono ?_
    rintro e w8 ⟨rfl, b8⟩
    have HB8 := hide ((unhide HB7).trans (b8.mono (unhide HB7).size))
    have F8 := hide ((b8.block _ (Array.getElem?_eq_some_iff.1 (unhide F7)).1).trans (unhide F7))
    have G8 := hide ((b8.block _ (Array.getElem?_eq_some_iff.1 (unhide G7)).1).trans (unhide G7))
    clear b8 R7 F7 G7
    rw [X3.out, E4.out, E5.out]
    obtain ⟨W9, hW9, hF9, hB9⟩ := new_frac w8 n3' d3
    have HB9 := hide ((unhide HB8).trans (hB9.mono (unhide HB8).size))
    have F9 := hide ((hB9.block _ (Array.getElem?_eq_some_iff.1 (unhide F8)).1).trans (unhide F8))
    have G9 := hide ((hB9.block _ (Array.getElem?_eq_some_iff.1 (unhide G8)).1).trans (unhide G8))
    have K9 := hide hF9
    clear hF9 hB9 F8 G8
    have hRa := HRR.out; have hZa := HZZ.out
    go_upto_region 7 with fail
    clear hW9
    cases k1 : okO s with
    | false =>
      rw [k1] at hRa hZa
      obtain ⟨rfl, rfl⟩ : false = r ∧ 5 = z := ⟨hRa, hZa⟩
      obtain rfl : x1 = 5 := by rw [ES.out, k1]; rfl
      clear k1 hRa hZa
      go_wp2_with fail
      go_ret2
      exact ⟨rfl, unhide HB9⟩
    | true =>
      cases k2 : okO t with
      | false =>
        rw [k1, k2] at hRa hZa
        obtain ⟨rfl, rfl⟩ : false = r ∧ 5 = z := ⟨hRa, hZa⟩
        obtain rfl : x1 = 0 := by rw [ES.out, k1]; rfl
        obtain rfl : x2 = 5 := by rw [ET.out, k2]; rfl
        clear k1 k2 hRa hZa
        go_wp2_with fail
        go_ret2
        exact ⟨rfl, unhide HB9⟩
      | true =>
        cases k3 : okO (plT s t) with
        | false =>
          rw [k1, k2, k3] at hRa hZa
          obtain ⟨rfl, rfl⟩ : false = r ∧ 5 = z := ⟨hRa, hZa⟩
          obtain rfl : x1 = 0 := by rw [ES.out, k1]; rfl
          obtain rfl : x2 = 0 := by rw [ET.out, k2]; rfl
          obtain rfl : x3 = 5 := by rw [EU.out, k3]; rfl
          clear k1 k2 k3 hRa hZa
          go_wp2_with fail
          go_ret2
          exact ⟨rfl, unhide HB9⟩
        | true =>
          rw [k1, k2, k3] at hRa hZa
          obtain rfl : 0 = z := hZa
          have hRb : hdW s t = r := hRa
          unfold hdW at hRb
          have HRb := hide hRb
          obtain rfl : x1 = 0 := by rw [ES.out, k1]; rfl
          obtain rfl : x2 = 0 := by rw [ET.out, k2]; rfl
          obtain rfl : x3 = 0 := by rw [EU.out, k3]; rfl
          clear k1 k2 k3 hRa hRb
          obtain ⟨Wa, hWa, hFa, hBa⟩ := new_frac W9 1 1
          have HBa := hide ((unhide HB9).trans (hBa.mono (unhide HB9).size))
          have fa := (hBa.block _ (Array.getElem?_eq_some_iff.1 (unhide F9)).1).trans (unhide F9)
          have ga := (hBa.block _ (Array.getElem?_eq_some_iff.1 (unhide G9)).1).trans (unhide G9)
          have ka := (hBa.block _ (Array.getElem?_eq_some_iff.1 (unhide K9)).1).trans (unhide K9)
          have HSA := hide (show ∀ W, Below Wa.heap.size Wa W → ((W.cell? ⟨w4.heap.size, 0, none⟩ = some (.int .i64 n1) ∧ W.cell? ⟨w4.heap.size, 1, none⟩ = some (.int .i64 d1)) ∧ (W.cell? ⟨w6.heap.size, 0, none⟩ = some (.int .i64 n2) ∧ W.cell? ⟨w6.heap.size, 1, none⟩ = some (.int .i64 d2)) ∧ (W.cell? ⟨w8.heap.size, 0, none⟩ = some (.int .i64 n3') ∧ W.cell? ⟨w8.heap.size, 1, none⟩ = some (.int .i64 d3)) ∧ (W.cell? ⟨W9.heap.size, 0, none⟩ = some (.int .i64 1) ∧ W.cell? ⟨W9.heap.size, 1, none⟩ = some (.int .i64 1))) from fun W hW =>
            ⟨two_at ((hW.block _ (Array.getElem?_eq_some_iff.1 fa).1).trans fa), two_at ((hW.block _ (Array.getElem?_eq_some_iff.1 ga).1).trans ga), two_at ((hW.block _ (Array.getElem?_eq_some_iff.1 ka).1).trans ka), two_at ((hW.block _ (Array.getElem?_eq_some_iff.1 hFa).1).trans hFa)⟩)
          have B0 := hide (Below.refl Wa.heap.size Wa)
          clear hFa hBa fa ga ka
          go_upto_region 10 with fail
          clear hWa
          obtain ⟨⟨p0, p1⟩, ⟨p2, p3⟩, ⟨p4, p5⟩, ⟨p6, p7⟩⟩ := (unhide HSA) _ (unhide B0)
          cases q : gtB s with
          | false =>
            have HQ := HGS
            rw [q] at HQ
            have HRb := HRb
            rw [q] at HRb
            clear q
            go_wp2_with fail
            refine (Less1_any n1 d1 _ ⟨sa, sb⟩ ⟨sc, sd⟩ _ HQ).mono ?_
            rintro e x0 ⟨rfl, bx⟩
            have B0x := hide ((unhide B0).trans (bx.mono (unhide B0).size))
            clear bx p0 p1 p2 p3 p4 p5 p6 p7
            obtain ⟨⟨p0, p1⟩, ⟨p2, p3⟩, ⟨p4, p5⟩, ⟨p6, p7⟩⟩ := (unhide HSA) _ (unhide B0x)
            cases q : ltB s with
            | false =>
              have HQ := HLS
              rw [q] at HQ
              have HRb := HRb
              rw [q] at HRb
              clear q
              go_wp2_with fail
              refine (Less2_any n1 d1 _ ⟨sa, sb⟩ ⟨sc, sd⟩ _ HQ).mono ?_
              rintro e x1 ⟨rfl, bx⟩
              have B1x := hide ((unhide B0x).trans (bx.mono (unhide B0x).size))
              clear bx p0 p1 p2 p3 p4 p5 p6 p7
              obtain ⟨⟨p0, p1⟩, ⟨p2, p3⟩, ⟨p4, p5⟩, ⟨p6, p7⟩⟩ := (unhide HSA) _ (unhide B1x)
              go_wp2_with fail
              go_ret2
              exact ⟨by first | rfl | (rw [HRb.out]) | (rw [← HRb.out]; rfl), (unhide HBa).trans ((unhide B1x).mono (unhide HBa).size)⟩
            | true =>
              have HQ := HLS
              rw [q] at HQ
              have HRb := HRb
              rw [q] at HRb
              clear q
              go_wp2_with fail
              refine (Less2_any n1 d1 _ ⟨sa, sb⟩ ⟨sc, sd⟩ _ HQ).mono ?_
              rintro e x2 ⟨rfl, bx⟩
              have B2x := hide ((unhide B0x).trans (bx.mono (unhide B0x).size))
              clear bx p0 p1 p2 p3 p4 p5 p6 p7
              obtain ⟨⟨p0, p1⟩, ⟨p2, p3⟩, ⟨p4, p5⟩, ⟨p6, p7⟩⟩ := (unhide HSA) _ (unhide B2x)
              cases q : ltB t with
              | false =>
                have HQ := HLT
                rw [q] at HQ
                have HRb := HRb
                rw [q] at HRb
                clear q
                go_wp2_with fail
                refine (Less2_any n2 d2 _ ⟨ta, tb⟩ ⟨tc, td⟩ _ HQ).mono ?_
                rintro e x3 ⟨rfl, bx⟩
                have B3x := hide ((unhide B2x).trans (bx.mono (unhide B2x).size))
                clear bx p0 p1 p2 p3 p4 p5 p6 p7
                obtain ⟨⟨p0, p1⟩, ⟨p2, p3⟩, ⟨p4, p5⟩, ⟨p6, p7⟩⟩ := (unhide HSA) _ (unhide B3x)
                go_wp2_with fail
                go_ret2
                exact ⟨by first | rfl | (rw [HRb.out]) | (rw [← HRb.out]; rfl), (unhide HBa).trans ((unhide B3x).mono (unhide HBa).size)⟩
              | true =>
                have HQ := HLT
                rw [q] at HQ
                have HRb := HRb
                rw [q] at HRb
                clear q
                go_wp2_with fail
                refine (Less2_any n2 d2 _ ⟨ta, tb⟩ ⟨tc, td⟩ _ HQ).mono ?_
                rintro e x4 ⟨rfl, bx⟩
                have B4x := hide ((unhide B2x).trans (bx.mono (unhide B2x).size))
                clear bx p0 p1 p2 p3 p4 p5 p6 p7
                obtain ⟨⟨p0, p1⟩, ⟨p2, p3⟩, ⟨p4, p5⟩, ⟨p6, p7⟩⟩ := (unhide HSA) _ (unhide B4x)
                cases q : gtB (plT s t) with
                | false =>
                  have HQ := HGU
                  rw [q] at HQ
                  have HRb := HRb
                  rw [q] at HRb
                  clear q
                  go_wp2_with fail
                  refine (Less1_any n3' d3 _ ⟨ua, ub⟩ ⟨uc, ud⟩ _ HQ).mono ?_
                  rintro e x5 ⟨rfl, bx⟩
                  have B5x := hide ((unhide B4x).trans (bx.mono (unhide B4x).size))
                  clear bx p0 p1 p2 p3 p4 p5 p6 p7
                  obtain ⟨⟨p0, p1⟩, ⟨p2, p3⟩, ⟨p4, p5⟩, ⟨p6, p7⟩⟩ := (unhide HSA) _ (unhide B5x)
                  go_wp2_with fail
                  go_ret2
                  exact ⟨by first | rfl | (rw [HRb.out]) | (rw [← HRb.out]; rfl), (unhide HBa).trans ((unhide B5x).mono (unhide HBa).size)⟩
                | true =>
                  have HQ := HGU
                  rw [q] at HQ
                  have HRb := HRb
                  rw [q] at HRb
                  clear q
                  go_wp2_with fail
                  refine (Less1_any n3' d3 _ ⟨ua, ub⟩ ⟨uc, ud⟩ _ HQ).mono ?_
                  rintro e x6 ⟨rfl, bx⟩
                  have B6x := hide ((unhide B4x).trans (bx.mono (unhide B4x).size))
                  clear bx p0 p1 p2 p3 p4 p5 p6 p7
                  obtain ⟨⟨p0, p1⟩, ⟨p2, p3⟩, ⟨p4, p5⟩, ⟨p6, p7⟩⟩ := (unhide HSA) _ (unhide B6x)
                  go_wp2_with fail
                  go_ret2
                  exact ⟨by first | rfl | (rw [HRb.out]) | (rw [← HRb.out]; rfl), (unhide HBa).trans ((unhide B6x).mono (unhide HBa).size)⟩
          | true =>
            have HQ := HGS
            rw [q] at HQ
            have HRb := HRb
            rw [q] at HRb
            clear q
            go_wp2_with fail
            refine (Less1_any n1 d1 _ ⟨sa, sb⟩ ⟨sc, sd⟩ _ HQ).mono ?_
            rintro e x7 ⟨rfl, bx⟩
            have B7x := hide ((unhide B0).trans (bx.mono (unhide B0).size))
            clear bx p0 p1 p2 p3 p4 p5 p6 p7
            obtain ⟨⟨p0, p1⟩, ⟨p2, p3⟩, ⟨p4, p5⟩, ⟨p6, p7⟩⟩ := (unhide HSA) _ (unhide B7x)
            cases q : gtB t with
            | false =>
              have HQ := HGT
              rw [q] at HQ
              have HRb := HRb
              rw [q] at HRb
              clear q
              go_wp2_with fail
              refine (Less1_any n2 d2 _ ⟨ta, tb⟩ ⟨tc, td⟩ _ HQ).mono ?_
              rintro e x8 ⟨rfl, bx⟩
              have B8x := hide ((unhide B7x).trans (bx.mono (unhide B7x).size))
              clear bx p0 p1 p2 p3 p4 p5 p6 p7
              obtain ⟨⟨p0, p1⟩, ⟨p2, p3⟩, ⟨p4, p5⟩, ⟨p6, p7⟩⟩ := (unhide HSA) _ (unhide B8x)
              cases q : ltB s with
              | false =>
                have HQ := HLS
                rw [q] at HQ
                have HRb := HRb
                rw [q] at HRb
                clear q
                go_wp2_with fail
                refine (Less2_any n1 d1 _ ⟨sa, sb⟩ ⟨sc, sd⟩ _ HQ).mono ?_
                rintro e x9 ⟨rfl, bx⟩
                have B9x := hide ((unhide B8x).trans (bx.mono (unhide B8x).size))
                clear bx p0 p1 p2 p3 p4 p5 p6 p7
                obtain ⟨⟨p0, p1⟩, ⟨p2, p3⟩, ⟨p4, p5⟩, ⟨p6, p7⟩⟩ := (unhide HSA) _ (unhide B9x)
                go_wp2_with fail
                go_ret2
                exact ⟨by first | rfl | (rw [HRb.out]) | (rw [← HRb.out]; rfl), (unhide HBa).trans ((unhide B9x).mono (unhide HBa).size)⟩
              | true =>
                have HQ := HLS
                rw [q] at HQ
                have HRb := HRb
                rw [q] at HRb
                clear q
                go_wp2_with fail
                refine (Less2_any n1 d1 _ ⟨sa, sb⟩ ⟨sc, sd⟩ _ HQ).mono ?_
                rintro e x10 ⟨rfl, bx⟩
                have B10x := hide ((unhide B8x).trans (bx.mono (unhide B8x).size))
                clear bx p0 p1 p2 p3 p4 p5 p6 p7
                obtain ⟨⟨p0, p1⟩, ⟨p2, p3⟩, ⟨p4, p5⟩, ⟨p6, p7⟩⟩ := (unhide HSA) _ (unhide B10x)
                cases q : ltB t with
                | false =>
                  have HQ := HLT
                  rw [q] at HQ
                  have HRb := HRb
                  rw [q] at HRb
                  clear q
                  go_wp2_with fail
                  refine (Less2_any n2 d2 _ ⟨ta, tb⟩ ⟨tc, td⟩ _ HQ).mono ?_
                  rintro e x11 ⟨rfl, bx⟩
                  have B11x := hide ((unhide B10x).trans (bx.mono (unhide B10x).size))
                  clear bx p0 p1 p2 p3 p4 p5 p6 p7
                  obtain ⟨⟨p0, p1⟩, ⟨p2, p3⟩, ⟨p4, p5⟩, ⟨p6, p7⟩⟩ := (unhide HSA) _ (unhide B11x)
                  go_wp2_with fail
                  go_ret2
                  exact ⟨by first | rfl | (rw [HRb.out]) | (rw [← HRb.out]; rfl), (unhide HBa).trans ((unhide B11x).mono (unhide HBa).size)⟩
                | true =>
                  have HQ := HLT
                  rw [q] at HQ
                  have HRb := HRb
                  rw [q] at HRb
                  clear q
                  go_wp2_with fail
                  refine (Less2_any n2 d2 _ ⟨ta, tb⟩ ⟨tc, td⟩ _ HQ).mono ?_
                  rintro e x12 ⟨rfl, bx⟩
                  have B12x := hide ((unhide B10x).trans (bx.mono (unhide B10x).size))
                  clear bx p0 p1 p2 p3 p4 p5 p6 p7
                  obtain ⟨⟨p0, p1⟩, ⟨p2, p3⟩, ⟨p4, p5⟩, ⟨p6, p7⟩⟩ := (unhide HSA) _ (unhide B12x)
                  cases q : gtB (plT s t) with
                  | false =>
                    have HQ := HGU
                    rw [q] at HQ
                    have HRb := HRb
                    rw [q] at HRb
                    clear q
                    go_wp2_with fail
                    refine (Less1_any n3' d3 _ ⟨ua, ub⟩ ⟨uc, ud⟩ _ HQ).mono ?_
                    rintro e x13 ⟨rfl, bx⟩
                    have B13x := hide ((unhide B12x).trans (bx.mono (unhide B12x).size))
                    clear bx p0 p1 p2 p3 p4 p5 p6 p7
                    obtain ⟨⟨p0, p1⟩, ⟨p2, p3⟩, ⟨p4, p5⟩, ⟨p6, p7⟩⟩ := (unhide HSA) _ (unhide B13x)
                    go_wp2_with fail
                    go_ret2
                    exact ⟨by first | rfl | (rw [HRb.out]) | (rw [← HRb.out]; rfl), (unhide HBa).trans ((unhide B13x).mono (unhide HBa).size)⟩
                  | true =>
                    have HQ := HGU
                    rw [q] at HQ
                    have HRb := HRb
                    rw [q] at HRb
                    clear q
                    go_wp2_with fail
                    refine (Less1_any n3' d3 _ ⟨ua, ub⟩ ⟨uc, ud⟩ _ HQ).mono ?_
                    rintro e x14 ⟨rfl, bx⟩
                    have B14x := hide ((unhide B12x).trans (bx.mono (unhide B12x).size))
                    clear bx p0 p1 p2 p3 p4 p5 p6 p7
                    obtain ⟨⟨p0, p1⟩, ⟨p2, p3⟩, ⟨p4, p5⟩, ⟨p6, p7⟩⟩ := (unhide HSA) _ (unhide B14x)
                    go_wp2_with fail
                    go_ret2
                    exact ⟨by first | rfl | (rw [HRb.out]) | (rw [← HRb.out]; rfl), (unhide HBa).trans ((unhide B14x).mono (unhide HBa).size)⟩
            | true =>
              have HQ := HGT
              rw [q] at HQ
              have HRb := HRb
              rw [q] at HRb
              clear q
              go_wp2_with fail
              refine (Less1_any n2 d2 _ ⟨ta, tb⟩ ⟨tc, td⟩ _ HQ).mono ?_
              rintro e x15 ⟨rfl, bx⟩
              have B15x := hide ((unhide B7x).trans (bx.mono (unhide B7x).size))
              clear bx p0 p1 p2 p3 p4 p5 p6 p7
              obtain ⟨⟨p0, p1⟩, ⟨p2, p3⟩, ⟨p4, p5⟩, ⟨p6, p7⟩⟩ := (unhide HSA) _ (unhide B15x)
              cases q : ltB (plT s t) with
              | false =>
                have HQ := HLU
                rw [q] at HQ
                have HRb := HRb
                rw [q] at HRb
                clear q
                go_wp2_with fail
                refine (Less2_any n3' d3 _ ⟨ua, ub⟩ ⟨uc, ud⟩ _ HQ).mono ?_
                rintro e x16 ⟨rfl, bx⟩
                have B16x := hide ((unhide B15x).trans (bx.mono (unhide B15x).size))
                clear bx p0 p1 p2 p3 p4 p5 p6 p7
                obtain ⟨⟨p0, p1⟩, ⟨p2, p3⟩, ⟨p4, p5⟩, ⟨p6, p7⟩⟩ := (unhide HSA) _ (unhide B16x)
                cases q : ltB s with
                | false =>
                  have HQ := HLS
                  rw [q] at HQ
                  have HRb := HRb
                  rw [q] at HRb
                  clear q
                  go_wp2_with fail
                  refine (Less2_any n1 d1 _ ⟨sa, sb⟩ ⟨sc, sd⟩ _ HQ).mono ?_
                  rintro e x17 ⟨rfl, bx⟩
                  have B17x := hide ((unhide B16x).trans (bx.mono (unhide B16x).size))
                  clear bx p0 p1 p2 p3 p4 p5 p6 p7
                  obtain ⟨⟨p0, p1⟩, ⟨p2, p3⟩, ⟨p4, p5⟩, ⟨p6, p7⟩⟩ := (unhide HSA) _ (unhide B17x)
                  go_wp2_with fail
                  go_ret2
                  exact ⟨by first | rfl | (rw [HRb.out]) | (rw [← HRb.out]; rfl), (unhide HBa).trans ((unhide B17x).mono (unhide HBa).size)⟩
                | true =>
                  have HQ := HLS
                  rw [q] at HQ
                  have HRb := HRb
                  rw [q] at HRb
                  clear q
                  go_wp2_with fail
                  refine (Less2_any n1 d1 _ ⟨sa, sb⟩ ⟨sc, sd⟩ _ HQ).mono ?_
                  rintro e x18 ⟨rfl, bx⟩
                  have B18x := hide ((unhide B16x).trans (bx.mono (unhide B16x).size))
                  clear bx p0 p1 p2 p3 p4 p5 p6 p7
                  obtain ⟨⟨p0, p1⟩, ⟨p2, p3⟩, ⟨p4, p5⟩, ⟨p6, p7⟩⟩ := (unhide HSA) _ (unhide B18x)
                  cases q : ltB t with
                  | false =>
                    have HQ := HLT
                    rw [q] at HQ
                    have HRb := HRb
                    rw [q] at HRb
                    clear q
                    go_wp2_with fail
                    refine (Less2_any n2 d2 _ ⟨ta, tb⟩ ⟨tc, td⟩ _ HQ).mono ?_
                    rintro e x19 ⟨rfl, bx⟩
                    have B19x := hide ((unhide B18x).trans (bx.mono (unhide B18x).size))
                    clear bx p0 p1 p2 p3 p4 p5 p6 p7
                    obtain ⟨⟨p0, p1⟩, ⟨p2, p3⟩, ⟨p4, p5⟩, ⟨p6, p7⟩⟩ := (unhide HSA) _ (unhide B19x)
                    go_wp2_with fail
                    go_ret2
                    exact ⟨by first | rfl | (rw [HRb.out]) | (rw [← HRb.out]; rfl), (unhide HBa).trans ((unhide B19x).mono (unhide HBa).size)⟩
                  | true =>
                    have HQ := HLT
                    rw [q] at HQ
                    have HRb := HRb
                    rw [q] at HRb
                    clear q
                    go_wp2_with fail
                    refine (Less2_any n2 d2 _ ⟨ta, tb⟩ ⟨tc, td⟩ _ HQ).mono ?_
                    rintro e x20 ⟨rfl, bx⟩
                    have B20x := hide ((unhide B18x).trans (bx.mono (unhide B18x).size))
                    clear bx p0 p1 p2 p3 p4 p5 p6 p7
                    obtain ⟨⟨p0, p1⟩, ⟨p2, p3⟩, ⟨p4, p5⟩, ⟨p6, p7⟩⟩ := (unhide HSA) _ (unhide B20x)
                    cases q : gtB (plT s t) with
                    | false =>
                      have HQ := HGU
                      rw [q] at HQ
                      have HRb := HRb
                      rw [q] at HRb
                      clear q
                      go_wp2_with fail
                      refine (Less1_any n3' d3 _ ⟨ua, ub⟩ ⟨uc, ud⟩ _ HQ).mono ?_
                      rintro e x21 ⟨rfl, bx⟩
                      have B21x := hide ((unhide B20x).trans (bx.mono (unhide B20x).size))
                      clear bx p0 p1 p2 p3 p4 p5 p6 p7
                      obtain ⟨⟨p0, p1⟩, ⟨p2, p3⟩, ⟨p4, p5⟩, ⟨p6, p7⟩⟩ := (unhide HSA) _ (unhide B21x)
                      go_wp2_with fail
                      go_ret2
                      exact ⟨by first | rfl | (rw [HRb.out]) | (rw [← HRb.out]; rfl), (unhide HBa).trans ((unhide B21x).mono (unhide HBa).size)⟩
                    | true =>
                      have HQ := HGU
                      rw [q] at HQ
                      have HRb := HRb
                      rw [q] at HRb
                      clear q
                      go_wp2_with fail
                      refine (Less1_any n3' d3 _ ⟨ua, ub⟩ ⟨uc, ud⟩ _ HQ).mono ?_
                      rintro e x22 ⟨rfl, bx⟩
                      have B22x := hide ((unhide B20x).trans (bx.mono (unhide B20x).size))
                      clear bx p0 p1 p2 p3 p4 p5 p6 p7
                      obtain ⟨⟨p0, p1⟩, ⟨p2, p3⟩, ⟨p4, p5⟩, ⟨p6, p7⟩⟩ := (unhide HSA) _ (unhide B22x)
                      go_wp2_with fail
                      go_ret2
                      exact ⟨by first | rfl | (rw [HRb.out]) | (rw [← HRb.out]; rfl), (unhide HBa).trans ((unhide B22x).mono (unhide HBa).size)⟩
              | true =>
                have HQ := HLU
                rw [q] at HQ
                have HRb := HRb
                rw [q] at HRb
                clear q
                go_wp2_with fail
                refine (Less2_any n3' d3 _ ⟨ua, ub⟩ ⟨uc, ud⟩ _ HQ).mono ?_
                rintro e x23 ⟨rfl, bx⟩
                have B23x := hide ((unhide B15x).trans (bx.mono (unhide B15x).size))
                clear bx p0 p1 p2 p3 p4 p5 p6 p7
                obtain ⟨⟨p0, p1⟩, ⟨p2, p3⟩, ⟨p4, p5⟩, ⟨p6, p7⟩⟩ := (unhide HSA) _ (unhide B23x)
                go_wp2_with fail
                go_ret2
                exact ⟨by first | rfl | (rw [HRb.out]) | (rw [← HRb.out]; rfl), (unhide HBa).trans ((unhide B23x).mono (unhide HBa).size)⟩
end Go.Proofs.Ytabgifpenegofaa
