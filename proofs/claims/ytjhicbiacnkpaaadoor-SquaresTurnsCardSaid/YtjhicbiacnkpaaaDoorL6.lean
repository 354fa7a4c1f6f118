/-
  The law SquaresTurns.
-/
import Derived.Deep.RegionHeld3
import Derived.Test.YtjhicbiacnkpaaaDoorY6
import Derived.Test.YtjhicbiacnkpaaaDoorWg
import Derived.Test.YtjhicbiacnkpaaaDoorWh
import Derived.Test.YtjhicbiacnkpaaaDoorWi
import Derived.Test.YtjhicbiacnkpaaaDoorWd
namespace Go.Proofs.YtjhicbiacnkpaaaDoor
open Go.RowKit

theorem Blk.on {w w' : World} {g : Nat} {t : TypeId} {cs : Array Value} (h : Blk w g t cs) (hb : Below w.heap.size w w') : Blk w' g t cs := h.below hb h.lt
theorem puz_cu8 {R C : List (List Int)} (h : puzB R C = true) : cu8 R = R ∧ cu8 C = C := by
  obtain ⟨h1, h2⟩ := puz_parts h
  exact ⟨cu8_same h1, cu8_same h2⟩

set_option maxRecDepth 100000 in
set_option maxHeartbeats 2000000 in
theorem LTurns_no (A1 A2 : Option Addr) (n1 n2 c1 c2 : Nat) (R C : List (List Int)) (w : World) (r1 : Rows_ w w.heap.size A1 n1 c1 R) (r2 : Rows_ w w.heap.size A2 n2 c2 C) (ht : Tab w) (HP : Hid (puzB R C = false)) :
    Calls Tryd.prog 9 #[.agg #[.slice A1 n1 c1, .slice A2 n2 c2]] w fun e w' => e = .returned (.bool true) ∧ Below w.heap.size w w' := by
  have HP8 := hide (show puzB (cu8 R) (cu8 C) = false from by rw [puzB_cu8]; exact HP.out)
  have HX := hide (show ((0, 2) : Int × Int) = if puzB (cu8 R) (cu8 C) = true then (if smR (cu8 C) = smR (cu8 R) then (smR (cu8 R), 0) else (0, 4)) else (0, 2) from by rw [HP8.out]; rfl)
  obtain ⟨w0, hw0⟩ : ∃ w0 : World, w0 = w.alloc (.cells #[.slice A1 n1 c1, .slice A2 n2 c2] 44) := ⟨_, rfl⟩
  have b0 : Below w.heap.size w w0 := by rw [hw0]; exact (Below.refl _ w).alloc (Nat.le_refl _) _
  have K1 := hide (show Blk w0 w.heap.size 44 #[.slice A1 n1 c1, .slice A2 n2 c2] from by rw [hw0]; exact Blk.new w _ _)
  replace r1 := hide (r1.on b0)
  replace r2 := hide (r2.on b0)
  have HT := hide (ht.on b0)
  have HB := hide b0
  clear b0 ht
  go_enter Tryd.func9, Tryd.ntmps9
  go_upto_region 1 with fail
  rw [← hw0]; clear hw0
  obtain ⟨pK10, pK11, _, _⟩ := cell_two (unhide K1)
  go_wp2_with fail
  refine (Of_any _ _ _ _ _ _ _ _ _ (unhide r1) (unhide r2)).mono ?_
  rintro e w1 ⟨B1, m1, d1, B2, m2, d2, rfl, x1, x2, b1⟩
  replace r1 := hide ((unhide r1).on b1)
  replace r2 := hide ((unhide r2).on b1)
  replace K1 := hide ((unhide K1).on b1)
  replace x1 := hide x1
  replace x2 := hide x2
  replace HB := hide ((unhide HB).trans (b1.mono (unhide HB).size))
  replace HT := hide ((unhide HT).on b1)
  clear b1
  go_wp2_with fail
  refine (Filled_any _ _ _ _ _ _ _ _ _ (unhide x1) (unhide x2) _ _ HX).mono ?_
  rintro e w2 ⟨rfl, b2⟩
  replace r1 := hide ((unhide r1).on b2)
  replace r2 := hide ((unhide r2).on b2)
  replace K1 := hide ((unhide K1).on b2)
  replace x1 := hide ((unhide x1).on b2)
  replace x2 := hide ((unhide x2).on b2)
  replace HB := hide ((unhide HB).trans (b2.mono (unhide HB).size))
  replace HT := hide ((unhide HT).on b2)
  clear b2
  obtain ⟨pK10, pK11, _, _⟩ := cell_two (unhide K1)
  go_wp2_with fail
  refine (Of_any _ _ _ _ _ _ _ _ _ (unhide r1) (unhide r2)).mono ?_
  rintro e w3 ⟨B3, m3, d3, B4, m4, d4, rfl, x3, x4, b3⟩
  replace r1 := hide ((unhide r1).on b3)
  replace r2 := hide ((unhide r2).on b3)
  replace K1 := hide ((unhide K1).on b3)
  replace x1 := hide ((unhide x1).on b3)
  replace x2 := hide ((unhide x2).on b3)
  replace x3 := hide x3
  replace x4 := hide x4
  replace HB := hide ((unhide HB).trans (b3.mono (unhide HB).size))
  replace HT := hide ((unhide HT).on b3)
  clear b3
  go_wp2_with fail
  refine (Turn_no _ _ _ _ _ _ _ _ _ (unhide x3) (unhide x4) HP8).mono ?_
  rintro e w4 ⟨rfl, b4⟩
  replace r1 := hide ((unhide r1).on b4)
  replace r2 := hide ((unhide r2).on b4)
  replace K1 := hide ((unhide K1).on b4)
  replace x1 := hide ((unhide x1).on b4)
  replace x2 := hide ((unhide x2).on b4)
  replace x3 := hide ((unhide x3).on b4)
  replace x4 := hide ((unhide x4).on b4)
  replace HB := hide ((unhide HB).trans (b4.mono (unhide HB).size))
  replace HT := hide ((unhide HT).on b4)
  clear b4
  have b5 := (Below.refl w4.heap.size w4).alloc (Nat.le_refl _) (.cells #[.slice none 0 0, .slice none 0 0] 40)
  replace r1 := hide ((unhide r1).on b5)
  replace r2 := hide ((unhide r2).on b5)
  replace K1 := hide ((unhide K1).on b5)
  replace x1 := hide ((unhide x1).on b5)
  replace x2 := hide ((unhide x2).on b5)
  replace x3 := hide ((unhide x3).on b5)
  replace x4 := hide ((unhide x4).on b5)
  replace HB := hide ((unhide HB).trans (b5.mono (unhide HB).size))
  replace HT := hide ((unhide HT).on b5)
  clear b5
  have KT := hide (Blk.new w4 40 #[.slice none 0 0, .slice none 0 0])
  obtain ⟨pK10, pK11, _, _⟩ := cell_two (unhide K1)
  go_wp2_with fail
  refine (Of_any _ _ _ _ _ _ _ _ _ (unhide r1) (unhide r2)).mono ?_
  rintro e w5 ⟨B5, m5, d5, B6, m6, d6, rfl, x5, x6, b5⟩
  replace r1 := hide ((unhide r1).on b5)
  replace r2 := hide ((unhide r2).on b5)
  replace K1 := hide ((unhide K1).on b5)
  replace x1 := hide ((unhide x1).on b5)
  replace x2 := hide ((unhide x2).on b5)
  replace x3 := hide ((unhide x3).on b5)
  replace x4 := hide ((unhide x4).on b5)
  replace KT := hide ((unhide KT).on b5)
  replace x5 := hide x5
  replace x6 := hide x6
  replace HB := hide ((unhide HB).trans (b5.mono (unhide HB).size))
  replace HT := hide ((unhide HT).on b5)
  clear b5
  go_wp2_with fail
  refine (Mirror_no _ _ _ _ _ _ _ _ _ (unhide x5) (unhide x6) HP8).mono ?_
  rintro e w6 ⟨rfl, b6⟩
  replace r1 := hide ((unhide r1).on b6)
  replace r2 := hide ((unhide r2).on b6)
  replace K1 := hide ((unhide K1).on b6)
  replace x1 := hide ((unhide x1).on b6)
  replace x2 := hide ((unhide x2).on b6)
  replace x3 := hide ((unhide x3).on b6)
  replace x4 := hide ((unhide x4).on b6)
  replace KT := hide ((unhide KT).on b6)
  replace x5 := hide ((unhide x5).on b6)
  replace x6 := hide ((unhide x6).on b6)
  replace HB := hide ((unhide HB).trans (b6.mono (unhide HB).size))
  replace HT := hide ((unhide HT).on b6)
  clear b6
  have b7 := (Below.refl w6.heap.size w6).alloc (Nat.le_refl _) (.cells #[.slice none 0 0, .slice none 0 0] 40)
  replace r1 := hide ((unhide r1).on b7)
  replace r2 := hide ((unhide r2).on b7)
  replace K1 := hide ((unhide K1).on b7)
  replace x1 := hide ((unhide x1).on b7)
  replace x2 := hide ((unhide x2).on b7)
  replace x3 := hide ((unhide x3).on b7)
  replace x4 := hide ((unhide x4).on b7)
  replace KT := hide ((unhide KT).on b7)
  replace x5 := hide ((unhide x5).on b7)
  replace x6 := hide ((unhide x6).on b7)
  replace HB := hide ((unhide HB).trans (b7.mono (unhide HB).size))
  replace HT := hide ((unhide HT).on b7)
  clear b7
  have KM := hide (Blk.new w6 40 #[.slice none 0 0, .slice none 0 0])
  obtain ⟨pK10, pK11, _, _⟩ := cell_two (unhide K1)
  go_wp2_with fail
  refine (RValid_any _ _ _ _ _ _ _ _ _ (unhide r1) (unhide r2) _ HP).mono ?_
  rintro e w7 ⟨rfl, b7⟩
  replace r1 := hide ((unhide r1).on b7)
  replace r2 := hide ((unhide r2).on b7)
  replace K1 := hide ((unhide K1).on b7)
  replace x1 := hide ((unhide x1).on b7)
  replace x2 := hide ((unhide x2).on b7)
  replace x3 := hide ((unhide x3).on b7)
  replace x4 := hide ((unhide x4).on b7)
  replace KT := hide ((unhide KT).on b7)
  replace x5 := hide ((unhide x5).on b7)
  replace x6 := hide ((unhide x6).on b7)
  replace KM := hide ((unhide KM).on b7)
  replace HB := hide ((unhide HB).trans (b7.mono (unhide HB).size))
  replace HT := hide ((unhide HT).on b7)
  clear b7
  obtain ⟨pKT0, pKT1, _, _⟩ := cell_two (unhide KT)
  obtain ⟨pKM0, pKM1, _, _⟩ := cell_two (unhide KM)
  go_wp2_with fail
  refine (awake_any _ (unhide HT)).mono ?_
  rintro e w8 ⟨rfl, b8⟩
  replace r1 := hide ((unhide r1).on b8)
  replace r2 := hide ((unhide r2).on b8)
  replace K1 := hide ((unhide K1).on b8)
  replace x1 := hide ((unhide x1).on b8)
  replace x2 := hide ((unhide x2).on b8)
  replace x3 := hide ((unhide x3).on b8)
  replace x4 := hide ((unhide x4).on b8)
  replace KT := hide ((unhide KT).on b8)
  replace x5 := hide ((unhide x5).on b8)
  replace x6 := hide ((unhide x6).on b8)
  replace KM := hide ((unhide KM).on b8)
  replace HB := hide ((unhide HB).trans (b8.mono (unhide HB).size))
  replace HT := hide ((unhide HT).on b8)
  clear b8
  go_wp2_with fail
  go_ret
  exact ⟨rfl, unhide HB⟩

set_option maxRecDepth 100000 in
set_option maxHeartbeats 4000000 in
theorem LTurns_yes (A1 A2 : Option Addr) (n1 n2 c1 c2 : Nat) (R C : List (List Int)) (w : World) (r1 : Rows_ w w.heap.size A1 n1 c1 R) (r2 : Rows_ w w.heap.size A2 n2 c2 C) (ht : Tab w) (HP : Hid (puzB R C = true)) :
    Calls Tryd.prog 9 #[.agg #[.slice A1 n1 c1, .slice A2 n2 c2]] w fun e w' => e = .returned (.bool true) ∧ Below w.heap.size w w' := by
  obtain ⟨q1, q2⟩ := puz_cu8 HP.out
  have Q1 := hide q1; have Q2 := hide q2
  obtain ⟨xy, hxy⟩ : ∃ xy : Int × Int, xy = if smR C = smR R then (smR R, 0) else (0, 4) := ⟨_, rfl⟩
  obtain ⟨x, y⟩ := xy
  have HY := hide hxy
  have HX := hide (show ((x, y) : Int × Int) = if puzB R C = true then (if smR C = smR R then (smR R, 0) else (0, 4)) else (0, 2) from by rw [HP.out]; exact hxy)
  clear q1 q2 hxy
  obtain ⟨w0, hw0⟩ : ∃ w0 : World, w0 = w.alloc (.cells #[.slice A1 n1 c1, .slice A2 n2 c2] 44) := ⟨_, rfl⟩
  have b0 : Below w.heap.size w w0 := by rw [hw0]; exact (Below.refl _ w).alloc (Nat.le_refl _) _
  have K1 := hide (show Blk w0 w.heap.size 44 #[.slice A1 n1 c1, .slice A2 n2 c2] from by rw [hw0]; exact Blk.new w _ _)
  replace r1 := hide (r1.on b0)
  replace r2 := hide (r2.on b0)
  have HT := hide (ht.on b0)
  have HB := hide b0
  clear b0 ht
  go_enter Tryd.func9, Tryd.ntmps9
  go_upto_region 1 with fail
  rw [← hw0]; clear hw0
  obtain ⟨pK10, pK11, _, _⟩ := cell_two (unhide K1)
  go_wp2_with fail
  refine (Of_any _ _ _ _ _ _ _ _ _ (unhide r1) (unhide r2)).mono ?_
  rintro e w1 ⟨B1, m1, d1, B2, m2, d2, rfl, x1, x2, b1⟩
  replace r1 := hide ((unhide r1).on b1)
  replace r2 := hide ((unhide r2).on b1)
  replace K1 := hide ((unhide K1).on b1)
  replace x1 := hide x1
  replace x2 := hide x2
  replace HB := hide ((unhide HB).trans (b1.mono (unhide HB).size))
  replace HT := hide ((unhide HT).on b1)
  clear b1
  rw [Q1.out] at x1; rw [Q2.out] at x2
  go_wp2_with fail
  refine (Filled_any _ _ _ _ _ _ _ _ _ (unhide x1) (unhide x2) _ _ HX).mono ?_
  rintro e w2 ⟨rfl, b2⟩
  replace r1 := hide ((unhide r1).on b2)
  replace r2 := hide ((unhide r2).on b2)
  replace K1 := hide ((unhide K1).on b2)
  replace x1 := hide ((unhide x1).on b2)
  replace x2 := hide ((unhide x2).on b2)
  replace HB := hide ((unhide HB).trans (b2.mono (unhide HB).size))
  replace HT := hide ((unhide HT).on b2)
  clear b2
  clear x1 x2
  obtain ⟨pK10, pK11, _, _⟩ := cell_two (unhide K1)
  go_wp2_with fail
  refine (Of_any _ _ _ _ _ _ _ _ _ (unhide r1) (unhide r2)).mono ?_
  rintro e w3 ⟨B3, m3, d3, B4, m4, d4, rfl, x3, x4, b3⟩
  replace r1 := hide ((unhide r1).on b3)
  replace r2 := hide ((unhide r2).on b3)
  replace K1 := hide ((unhide K1).on b3)
  replace x3 := hide x3
  replace x4 := hide x4
  replace HB := hide ((unhide HB).trans (b3.mono (unhide HB).size))
  replace HT := hide ((unhide HT).on b3)
  clear b3
  rw [Q1.out] at x3; rw [Q2.out] at x4
  go_wp2_with fail
  refine (TurnP_ok _ _ _ _ _ _ _ _ _ (unhide x3) (unhide x4) HP).mono ?_
  rintro e w4 ⟨T1, s1, t1, T2, s2, t2, rfl, tr, tc, b4⟩
  replace r1 := hide ((unhide r1).on b4)
  replace r2 := hide ((unhide r2).on b4)
  replace K1 := hide ((unhide K1).on b4)
  replace x3 := hide ((unhide x3).on b4)
  replace x4 := hide ((unhide x4).on b4)
  replace tr := hide tr
  replace tc := hide tc
  replace HB := hide ((unhide HB).trans (b4.mono (unhide HB).size))
  replace HT := hide ((unhide HT).on b4)
  clear b4
  obtain rfl : s1 = n2 := by rw [← tr.out.len, ← r2.out.len]
  obtain rfl : s2 = n1 := by rw [← tc.out.len, ← r1.out.len]
  clear x3 x4
  have b5 := (Below.refl w4.heap.size w4).alloc (Nat.le_refl _) (.cells #[.slice T1 s1 t1, .slice T2 s2 t2] 40)
  replace r1 := hide ((unhide r1).on b5)
  replace r2 := hide ((unhide r2).on b5)
  replace K1 := hide ((unhide K1).on b5)
  replace tr := hide ((unhide tr).on b5)
  replace tc := hide ((unhide tc).on b5)
  replace HB := hide ((unhide HB).trans (b5.mono (unhide HB).size))
  replace HT := hide ((unhide HT).on b5)
  clear b5
  have KT := hide (Blk.new w4 40 #[.slice T1 s1 t1, .slice T2 s2 t2])
  obtain ⟨pK10, pK11, _, _⟩ := cell_two (unhide K1)
  go_wp2_with fail
  refine (Of_any _ _ _ _ _ _ _ _ _ (unhide r1) (unhide r2)).mono ?_
  rintro e w5 ⟨B5, m5, d5, B6, m6, d6, rfl, x5, x6, b5⟩
  replace r1 := hide ((unhide r1).on b5)
  replace r2 := hide ((unhide r2).on b5)
  replace K1 := hide ((unhide K1).on b5)
  replace tr := hide ((unhide tr).on b5)
  replace tc := hide ((unhide tc).on b5)
  replace KT := hide ((unhide KT).on b5)
  replace x5 := hide x5
  replace x6 := hide x6
  replace HB := hide ((unhide HB).trans (b5.mono (unhide HB).size))
  replace HT := hide ((unhide HT).on b5)
  clear b5
  rw [Q1.out] at x5; rw [Q2.out] at x6
  go_wp2_with fail
  refine (MirrorP_ok _ _ _ _ _ _ _ _ _ (unhide x5) (unhide x6) HP).mono ?_
  rintro e w6 ⟨M1, e1, f1, M2, e2, f2, rfl, mr, mc, b6⟩
  replace r1 := hide ((unhide r1).on b6)
  replace r2 := hide ((unhide r2).on b6)
  replace K1 := hide ((unhide K1).on b6)
  replace tr := hide ((unhide tr).on b6)
  replace tc := hide ((unhide tc).on b6)
  replace KT := hide ((unhide KT).on b6)
  replace x5 := hide ((unhide x5).on b6)
  replace x6 := hide ((unhide x6).on b6)
  replace mr := hide mr
  replace mc := hide mc
  replace HB := hide ((unhide HB).trans (b6.mono (unhide HB).size))
  replace HT := hide ((unhide HT).on b6)
  clear b6
  obtain rfl : e1 = s2 := by rw [← mr.out.len, ← r1.out.len]; simp
  obtain rfl : e2 = s1 := by rw [← mc.out.len, ← r2.out.len]; simp
  clear x5 x6
  have b7 := (Below.refl w6.heap.size w6).alloc (Nat.le_refl _) (.cells #[.slice M1 e1 f1, .slice M2 e2 f2] 40)
  replace r1 := hide ((unhide r1).on b7)
  replace r2 := hide ((unhide r2).on b7)
  replace K1 := hide ((unhide K1).on b7)
  replace tr := hide ((unhide tr).on b7)
  replace tc := hide ((unhide tc).on b7)
  replace KT := hide ((unhide KT).on b7)
  replace mr := hide ((unhide mr).on b7)
  replace mc := hide ((unhide mc).on b7)
  replace HB := hide ((unhide HB).trans (b7.mono (unhide HB).size))
  replace HT := hide ((unhide HT).on b7)
  clear b7
  have KM := hide (Blk.new w6 40 #[.slice M1 e1 f1, .slice M2 e2 f2])
  obtain ⟨pK10, pK11, _, _⟩ := cell_two (unhide K1)
  go_wp2_with fail
  refine (RValid_any _ _ _ _ _ _ _ _ _ (unhide r1) (unhide r2) _ HP).mono ?_
  rintro e w7 ⟨rfl, b7⟩
  replace r1 := hide ((unhide r1).on b7)
  replace r2 := hide ((unhide r2).on b7)
  replace K1 := hide ((unhide K1).on b7)
  replace tr := hide ((unhide tr).on b7)
  replace tc := hide ((unhide tc).on b7)
  replace KT := hide ((unhide KT).on b7)
  replace mr := hide ((unhide mr).on b7)
  replace mc := hide ((unhide mc).on b7)
  replace KM := hide ((unhide KM).on b7)
  replace HB := hide ((unhide HB).trans (b7.mono (unhide HB).size))
  replace HT := hide ((unhide HT).on b7)
  clear b7
  obtain ⟨pK10, pK11, _, _⟩ := cell_two (unhide K1)
  go_wp2_with fail
  refine (RFilled_any _ _ _ _ _ _ _ _ _ (unhide r1) (unhide r2) HP _ _ HY).mono ?_
  rintro e w8 ⟨rfl, b8⟩
  replace r1 := hide ((unhide r1).on b8)
  replace r2 := hide ((unhide r2).on b8)
  replace K1 := hide ((unhide K1).on b8)
  replace tr := hide ((unhide tr).on b8)
  replace tc := hide ((unhide tc).on b8)
  replace KT := hide ((unhide KT).on b8)
  replace mr := hide ((unhide mr).on b8)
  replace mc := hide ((unhide mc).on b8)
  replace KM := hide ((unhide KM).on b8)
  replace HB := hide ((unhide HB).trans (b8.mono (unhide HB).size))
  replace HT := hide ((unhide HT).on b8)
  clear b8
  have bd := (Below.refl w8.heap.size w8).drew
  replace r1 := hide ((unhide r1).on bd)
  replace r2 := hide ((unhide r2).on bd)
  replace K1 := hide ((unhide K1).on bd)
  replace tr := hide ((unhide tr).on bd)
  replace tc := hide ((unhide tc).on bd)
  replace KT := hide ((unhide KT).on bd)
  replace mr := hide ((unhide mr).on bd)
  replace mc := hide ((unhide mc).on bd)
  replace KM := hide ((unhide KM).on bd)
  replace HB := hide ((unhide HB).trans (bd.mono (unhide HB).size))
  replace HT := hide ((unhide HT).on bd)
  clear bd
  obtain ⟨pK10, pK11, _, _⟩ := cell_two (unhide K1)
  obtain ⟨pKT0, pKT1, _, _⟩ := cell_two (unhide KT)
  obtain ⟨pKM0, pKM1, _, _⟩ := cell_two (unhide KM)
  go_wp2_with fail
  clear Q1 Q2 HX HY
  obtain ⟨g4, hg4⟩ : ∃ g4, g4 = w4.heap.size := ⟨_, rfl⟩
  obtain ⟨g6, hg6⟩ : ∃ g6, g6 = w6.heap.size := ⟨_, rfl⟩
  rw [← hg4] at KT pKT0 pKT1 ⊢; rw [← hg6] at KM pKM0 pKM1 ⊢; clear hg4 hg6
  go_region_held3 (fun W' => W'.cell? ⟨w.heap.size, 0, none⟩ = some (.slice A1 e1 c1) ∧ W'.cell? ⟨w.heap.size, 1, none⟩ = some (.slice A2 e2 c2) ∧ W'.cell? ⟨g4, 0, none⟩ = some (.slice T1 e2 t1) ∧ W'.cell? ⟨g4, 1, none⟩ = some (.slice T2 e1 t2) ∧ W'.cell? ⟨g6, 0, none⟩ = some (.slice M1 e1 f1) ∧ W'.cell? ⟨g6, 1, none⟩ = some (.slice M2 e2 f2)) (first | exact ⟨pK10, pK11, pKT0, pKT1, pKM0, pKM1⟩) (first
    | (go_at_call 32; (with_reducible refine (own_any _ _ _ _ _ _ _).mono ?_); rintro e wa ⟨rfl, ba⟩
       replace r1 := hide ((unhide r1).on ba)
       replace r2 := hide ((unhide r2).on ba)
       replace K1 := hide ((unhide K1).on ba)
       replace tr := hide ((unhide tr).on ba)
       replace tc := hide ((unhide tc).on ba)
       replace KT := hide ((unhide KT).on ba)
       replace mr := hide ((unhide mr).on ba)
       replace mc := hide ((unhide mc).on ba)
       replace KM := hide ((unhide KM).on ba)
       replace HB := hide ((unhide HB).trans (ba.mono (unhide HB).size)); replace HT := hide ((unhide HT).on ba); clear ba
       obtain ⟨pK10, pK11, _, _⟩ := cell_two (unhide K1)
       obtain ⟨pKT0, pKT1, _, _⟩ := cell_two (unhide KT)
       obtain ⟨pKM0, pKM1, _, _⟩ := cell_two (unhide KM))
    | (go_at_call 48; (with_reducible refine (RTurn_any _ _ _ _ _ _ _).mono ?_); rintro e wb ⟨rfl, ba⟩
       replace r1 := hide ((unhide r1).on ba)
       replace r2 := hide ((unhide r2).on ba)
       replace K1 := hide ((unhide K1).on ba)
       replace tr := hide ((unhide tr).on ba)
       replace tc := hide ((unhide tc).on ba)
       replace KT := hide ((unhide KT).on ba)
       replace mr := hide ((unhide mr).on ba)
       replace mc := hide ((unhide mc).on ba)
       replace KM := hide ((unhide KM).on ba)
       replace HB := hide ((unhide HB).trans (ba.mono (unhide HB).size)); replace HT := hide ((unhide HT).on ba); clear ba
       obtain ⟨pK10, pK11, _, _⟩ := cell_two (unhide K1)
       obtain ⟨pKT0, pKT1, _, _⟩ := cell_two (unhide KT)
       obtain ⟨pKM0, pKM1, _, _⟩ := cell_two (unhide KM))
    | (go_at_call 31; (with_reducible refine (Same_yes _ _ _ _ _ _ _ _ _ _ _ _ _ (unhide tr) (unhide tc) (unhide r2) (unhide r1)).mono ?_); rintro e wc ⟨rfl, ba⟩
       replace r1 := hide ((unhide r1).on ba)
       replace r2 := hide ((unhide r2).on ba)
       replace K1 := hide ((unhide K1).on ba)
       replace tr := hide ((unhide tr).on ba)
       replace tc := hide ((unhide tc).on ba)
       replace KT := hide ((unhide KT).on ba)
       replace mr := hide ((unhide mr).on ba)
       replace mc := hide ((unhide mc).on ba)
       replace KM := hide ((unhide KM).on ba)
       replace HB := hide ((unhide HB).trans (ba.mono (unhide HB).size)); replace HT := hide ((unhide HT).on ba); clear ba
       obtain ⟨pK10, pK11, _, _⟩ := cell_two (unhide K1)
       obtain ⟨pKT0, pKT1, _, _⟩ := cell_two (unhide KT)
       obtain ⟨pKM0, pKM1, _, _⟩ := cell_two (unhide KM))
    | (go_at_call 49; (with_reducible refine (RMirror_any _ _ _ _ _ _ _ _ _ (unhide r1) (unhide r2) HP).mono ?_); rintro e we ⟨G1, g1, h1, G2, g2, h2, rfl, gr, gc, ba⟩
       replace r1 := hide ((unhide r1).on ba)
       replace r2 := hide ((unhide r2).on ba)
       replace K1 := hide ((unhide K1).on ba)
       replace tr := hide ((unhide tr).on ba)
       replace tc := hide ((unhide tc).on ba)
       replace KT := hide ((unhide KT).on ba)
       replace mr := hide ((unhide mr).on ba)
       replace mc := hide ((unhide mc).on ba)
       replace KM := hide ((unhide KM).on ba)
       replace gr := hide gr
       replace gc := hide gc
       replace HB := hide ((unhide HB).trans (ba.mono (unhide HB).size)); replace HT := hide ((unhide HT).on ba); clear ba
       obtain ⟨pK10, pK11, _, _⟩ := cell_two (unhide K1)
       obtain ⟨pKT0, pKT1, _, _⟩ := cell_two (unhide KT)
       obtain ⟨pKM0, pKM1, _, _⟩ := cell_two (unhide KM)
       obtain rfl : e1 = g1 := by rw [← gr.out.len, ← mr.out.len]
       obtain rfl : e2 = g2 := by rw [← gc.out.len, ← mc.out.len])
    | (go_at_call 31; (with_reducible refine (Same_yes _ _ _ _ _ _ _ _ _ _ _ _ _ (unhide mr) (unhide mc) (unhide gr) (unhide gc)).mono ?_); rintro e wf ⟨rfl, ba⟩
       replace r1 := hide ((unhide r1).on ba)
       replace r2 := hide ((unhide r2).on ba)
       replace K1 := hide ((unhide K1).on ba)
       replace tr := hide ((unhide tr).on ba)
       replace tc := hide ((unhide tc).on ba)
       replace KT := hide ((unhide KT).on ba)
       replace mr := hide ((unhide mr).on ba)
       replace mc := hide ((unhide mc).on ba)
       replace KM := hide ((unhide KM).on ba)
       replace HB := hide ((unhide HB).trans (ba.mono (unhide HB).size)); replace HT := hide ((unhide HT).on ba); clear ba
       obtain ⟨pK10, pK11, _, _⟩ := cell_two (unhide K1)
       obtain ⟨pKT0, pKT1, _, _⟩ := cell_two (unhide KT)
       obtain ⟨pKM0, pKM1, _, _⟩ := cell_two (unhide KM))
    | (go_at_call 25; (with_reducible refine (awake_any _ (unhide HT)).mono ?_); rintro e wg ⟨rfl, ba⟩
       replace r1 := hide ((unhide r1).on ba)
       replace r2 := hide ((unhide r2).on ba)
       replace K1 := hide ((unhide K1).on ba)
       replace tr := hide ((unhide tr).on ba)
       replace tc := hide ((unhide tc).on ba)
       replace KT := hide ((unhide KT).on ba)
       replace mr := hide ((unhide mr).on ba)
       replace mc := hide ((unhide mc).on ba)
       replace KM := hide ((unhide KM).on ba)
       replace HB := hide ((unhide HB).trans (ba.mono (unhide HB).size)); replace HT := hide ((unhide HT).on ba); clear ba
       obtain ⟨pK10, pK11, _, _⟩ := cell_two (unhide K1)
       obtain ⟨pKT0, pKT1, _, _⟩ := cell_two (unhide KT)
       obtain ⟨pKM0, pKM1, _, _⟩ := cell_two (unhide KM)))
  all_goals
    go_wp2_with fail
    go_ret
    exact ⟨rfl, unhide HB⟩

theorem LTurns_any {A1 A2 : Option Addr} {n1 n2 c1 c2 : Nat} {R C : List (List Int)} {w : World} (r1 : Rows_ w w.heap.size A1 n1 c1 R) (r2 : Rows_ w w.heap.size A2 n2 c2 C) (ht : Tab w) :
    Calls Tryd.prog 9 #[.agg #[.slice A1 n1 c1, .slice A2 n2 c2]] w fun e w' => e = .returned (.bool true) ∧ Below w.heap.size w w' := by
  cases hp : puzB R C with
  | false => exact LTurns_no _ _ _ _ _ _ _ _ _ r1 r2 ht (hide hp)
  | true => exact LTurns_yes _ _ _ _ _ _ _ _ _ r1 r2 ht (hide hp)
end Go.Proofs.YtjhicbiacnkpaaaDoor
