/-
  Turn of the program and of the reference; Mirror of the program, refused.
-/
import Derived.Test.YtjhicbiacnkpaaaDoorY1
namespace Go.Proofs.YtjhicbiacnkpaaaDoor
open Go.RowKit


set_option maxRecDepth 100000 in
set_option maxHeartbeats 1000000 in
theorem Turn_no (A1 A2 : Option Addr) (n1 n2 c1 c2 : Nat) (R C : List (List Int)) (w : World) (r1 : Rows_ w w.heap.size A1 n1 c1 R) (r2 : Rows_ w w.heap.size A2 n2 c2 C) (HP : Hid (puzB R C = false)) :
    Calls Tryd.prog 45 #[.agg #[.slice A1 n1 c1, .slice A2 n2 c2]] w fun e w' => e = .returned (.tuple #[.agg #[.slice none 0 0, .slice none 0 0], .int .i64 2]) ∧ Below w.heap.size w w' := by
  obtain ⟨W0, hW0⟩ : ∃ W0 : World, W0 = (w.alloc (.cells #[.slice A1 n1 c1, .slice A2 n2 c2] 40)).alloc (.cells #[.slice none 0 0, .slice none 0 0] 40) := ⟨_, rfl⟩
  have HB0 := hide (show Below w.heap.size w W0 from by rw [hW0]; exact ((Below.refl _ w).alloc (Nat.le_refl _) _).alloc (by simp) _)
  have K1 := hide (show Blk W0 w.heap.size 40 #[.slice A1 n1 c1, .slice A2 n2 c2] from by rw [hW0]; exact (Blk.new w _ _).alloc _)
  have K2 := hide (show Blk W0 (w.heap.size + 1) 40 #[.slice none 0 0, .slice none 0 0] from by
    rw [hW0]
    have := Blk.new (w.alloc (.cells #[.slice A1 n1 c1, .slice A2 n2 c2] 40)) 40 #[.slice none 0 0, .slice none 0 0]
    rwa [alloc_sz] at this)
  have HZ := hide (show W0.heap.size = w.heap.size + 1 + 1 from by rw [hW0]; simp)
  have R1 := hide ((r1.below (unhide HB0)).more (show w.heap.size ≤ W0.heap.size by rw [HZ.out]; omega))
  have R2 := hide ((r2.below (unhide HB0)).more (show w.heap.size ≤ W0.heap.size by rw [HZ.out]; omega))
  obtain ⟨p0, p1, _, _⟩ := cell_two (unhide K1)
  clear r1 r2
  go_enter Tryd.func45, Tryd.ntmps45
  go_upto_region 1 with fail
  rw [← hW0]; clear hW0
  go_wp2_with fail
  refine (isPuzzle_any _ _ _ _ _ _ _ _ _ (unhide R1) (unhide R2) _ HP).mono ?_
  rintro e w1 ⟨rfl, b1⟩
  have K2a := hide ((unhide K2).below b1 (by rw [HZ.out]; omega))
  obtain ⟨q0, q1, q2, q3⟩ := cell_two (unhide K2a)
  have hz := put2 (unhide K2a) (.slice none 0 0) (.slice none 0 0)
  obtain ⟨z1, z2⟩ := two_at hz
  have HB1 := hide (below_put2 ((unhide HB0).trans (b1.mono (by rw [HZ.out]; omega))) (show w.heap.size ≤ w.heap.size + 1 by omega) (.slice none 0 0) (.slice none 0 0))
  clear b1 hz
  go_wp2_with fail
  exact bodyPost_ret (v := .tuple #[.agg #[.slice none 0 0, .slice none 0 0], .int .i64 2]) (by simp [results, Tryd.results45, go_sem, z1, z2]) rfl ⟨rfl, unhide HB1⟩

set_option maxRecDepth 100000 in
set_option maxHeartbeats 1000000 in
theorem Mirror_no (A1 A2 : Option Addr) (n1 n2 c1 c2 : Nat) (R C : List (List Int)) (w : World) (r1 : Rows_ w w.heap.size A1 n1 c1 R) (r2 : Rows_ w w.heap.size A2 n2 c2 C) (HP : Hid (puzB R C = false)) :
    Calls Tryd.prog 46 #[.agg #[.slice A1 n1 c1, .slice A2 n2 c2]] w fun e w' => e = .returned (.tuple #[.agg #[.slice none 0 0, .slice none 0 0], .int .i64 2]) ∧ Below w.heap.size w w' := by
  obtain ⟨W0, hW0⟩ : ∃ W0 : World, W0 = (w.alloc (.cells #[.slice A1 n1 c1, .slice A2 n2 c2] 40)).alloc (.cells #[.slice none 0 0, .slice none 0 0] 40) := ⟨_, rfl⟩
  have HB0 := hide (show Below w.heap.size w W0 from by rw [hW0]; exact ((Below.refl _ w).alloc (Nat.le_refl _) _).alloc (by simp) _)
  have K1 := hide (show Blk W0 w.heap.size 40 #[.slice A1 n1 c1, .slice A2 n2 c2] from by rw [hW0]; exact (Blk.new w _ _).alloc _)
  have K2 := hide (show Blk W0 (w.heap.size + 1) 40 #[.slice none 0 0, .slice none 0 0] from by
    rw [hW0]
    have := Blk.new (w.alloc (.cells #[.slice A1 n1 c1, .slice A2 n2 c2] 40)) 40 #[.slice none 0 0, .slice none 0 0]
    rwa [alloc_sz] at this)
  have HZ := hide (show W0.heap.size = w.heap.size + 1 + 1 from by rw [hW0]; simp)
  have R1 := hide ((r1.below (unhide HB0)).more (show w.heap.size ≤ W0.heap.size by rw [HZ.out]; omega))
  have R2 := hide ((r2.below (unhide HB0)).more (show w.heap.size ≤ W0.heap.size by rw [HZ.out]; omega))
  obtain ⟨p0, p1, _, _⟩ := cell_two (unhide K1)
  clear r1 r2
  go_enter Tryd.func46, Tryd.ntmps46
  go_upto_region 1 with fail
  rw [← hW0]; clear hW0
  go_wp2_with fail
  refine (isPuzzle_any _ _ _ _ _ _ _ _ _ (unhide R1) (unhide R2) _ HP).mono ?_
  rintro e w1 ⟨rfl, b1⟩
  have K2a := hide ((unhide K2).below b1 (by rw [HZ.out]; omega))
  obtain ⟨q0, q1, q2, q3⟩ := cell_two (unhide K2a)
  have hz := put2 (unhide K2a) (.slice none 0 0) (.slice none 0 0)
  obtain ⟨z1, z2⟩ := two_at hz
  have HB1 := hide (below_put2 ((unhide HB0).trans (b1.mono (by rw [HZ.out]; omega))) (show w.heap.size ≤ w.heap.size + 1 by omega) (.slice none 0 0) (.slice none 0 0))
  clear b1 hz
  go_wp2_with fail
  exact bodyPost_ret (v := .tuple #[.agg #[.slice none 0 0, .slice none 0 0], .int .i64 2]) (by simp [results, Tryd.results46, go_sem, z1, z2]) rfl ⟨rfl, unhide HB1⟩

set_option maxRecDepth 100000 in
set_option maxHeartbeats 2000000 in
theorem TurnP_ok (A1 A2 : Option Addr) (n1 n2 c1 c2 : Nat) (R C : List (List Int)) (w : World) (r1 : Rows_ w w.heap.size A1 n1 c1 R) (r2 : Rows_ w w.heap.size A2 n2 c2 C) (HP : Hid (puzB R C = true)) :
    Calls Tryd.prog 45 #[.agg #[.slice A1 n1 c1, .slice A2 n2 c2]] w fun e w' => ∃ B1 m1 d1 B2 m2 d2, e = .returned (.tuple #[.agg #[.slice B1 m1 d1, .slice B2 m2 d2], .int .i64 0]) ∧ Rows_ w' w'.heap.size B1 m1 d1 C ∧ Rows_ w' w'.heap.size B2 m2 d2 R ∧ Below w.heap.size w w' := by
  obtain ⟨v1, v2⟩ := puz_parts HP.out
  obtain ⟨a1, a2⟩ := cl_rows v1
  obtain ⟨a3, a4⟩ := cl_rows v2
  rw [r1.len] at a1 a2
  rw [r2.len] at a3 a4
  have HRL := hide a2; have HCL := hide a4
  have l1 := hide r1.len; have l2 := hide r2.len
  clear v1 v2 a2 a4
  obtain ⟨W0, hW0⟩ : ∃ W0 : World, W0 = (w.alloc (.cells #[.slice A1 n1 c1, .slice A2 n2 c2] 40)).alloc (.cells #[.slice none 0 0, .slice none 0 0] 40) := ⟨_, rfl⟩
  have HB0 := hide (show Below w.heap.size w W0 from by rw [hW0]; exact ((Below.refl _ w).alloc (Nat.le_refl _) _).alloc (by simp) _)
  have K1 := hide (show Blk W0 w.heap.size 40 #[.slice A1 n1 c1, .slice A2 n2 c2] from by rw [hW0]; exact (Blk.new w _ _).alloc _)
  have K2 := hide (show Blk W0 (w.heap.size + 1) 40 #[.slice none 0 0, .slice none 0 0] from by
    rw [hW0]
    have := Blk.new (w.alloc (.cells #[.slice A1 n1 c1, .slice A2 n2 c2] 40)) 40 #[.slice none 0 0, .slice none 0 0]
    rwa [alloc_sz] at this)
  have HZ := hide (show W0.heap.size = w.heap.size + 1 + 1 from by rw [hW0]; simp)
  have R1 := hide ((r1.below (unhide HB0)).more (show w.heap.size ≤ W0.heap.size by rw [HZ.out]; omega))
  have R2 := hide ((r2.below (unhide HB0)).more (show w.heap.size ≤ W0.heap.size by rw [HZ.out]; omega))
  obtain ⟨p0, p1, _, _⟩ := cell_two (unhide K1)
  clear r1 r2
  go_enter Tryd.func45, Tryd.ntmps45
  go_upto_region 1 with fail
  rw [← hW0]; clear hW0
  go_wp2_with fail
  refine (isPuzzle_any _ _ _ _ _ _ _ _ _ (unhide R1) (unhide R2) _ HP).mono ?_
  rintro e wi ⟨rfl, b1⟩
  have bd := b1.drew
  have K1d := hide (show Blk wi.drew w.heap.size 40 #[.slice A1 n1 c1, .slice A2 n2 c2] from (unhide K1).below bd (by rw [HZ.out]; omega))
  have K2d := hide (show Blk wi.drew (w.heap.size + 1) 40 #[.slice none 0 0, .slice none 0 0] from (unhide K2).below bd (by rw [HZ.out]; omega))
  obtain ⟨pd0, pd1, _, _⟩ := cell_two (unhide K1d)
  have R1d := hide (show Rows_ wi.drew wi.drew.heap.size A1 n1 c1 R from (unhide R1).on bd)
  have R2d := hide (show Rows_ wi.drew wi.drew.heap.size A2 n2 c2 C from (unhide R2).on bd)
  have HBd := hide ((unhide HB0).trans (bd.mono (by rw [HZ.out]; omega)))
  have HSd := hide (show w.heap.size + 1 + 1 ≤ wi.drew.heap.size from by rw [← HZ.out]; exact bd.size)
  clear b1 bd p0 p1
  go_wp2_with fail
  go_region_with (first
    | (go_at_call 83; (with_reducible refine (copyOf_any A2 n2 c2 C _ (unhide R2d) a3 HCL).mono ?_)
       rintro e wa ⟨ga, Fa, rfl, fa, ha, ba⟩
       have FA := hide fa; have GA := hide ha
       have R1a := hide ((unhide R1d).on ba)
       have K1a := hide ((unhide K1d).below ba (by have := HSd.out; omega)); have K2a := hide ((unhide K2d).below ba (by have := HSd.out; omega))
       obtain ⟨pa0, pa1, _, _⟩ := cell_two (unhide K1a)
       have Ba := hide ((unhide HBd).trans (ba.mono (unhide HBd).size))
       have Sa := hide (Nat.le_trans HSd.out ba.size)
       clear fa ha ba)
    | (go_at_call 83; (with_reducible refine (copyOf_any A1 n1 c1 R _ (unhide R1a) a1 HRL).mono ?_)
       rintro e wb ⟨gb, Fb, rfl, fb, hb, bb⟩
       have FB := hide fb; have GB := hide hb; have FAb := hide ((unhide FA).on bb)
       have K2b := hide ((unhide K2a).below bb (by have := Sa.out; omega))
       obtain ⟨qb0, qb1, qb2, qb3⟩ := cell_two (unhide K2b)
       have Bb := hide ((unhide Ba).trans (bb.mono (unhide Ba).size))
       have Lb := hide bb.size
       clear fb hb bb))
  all_goals
    go_wp2_with fail
    have hz := put2 (unhide K2b) (.slice (some ⟨ga, 0, none⟩) n2 n2) (.slice (some ⟨gb, 0, none⟩) n1 n1)
    obtain ⟨z1, z2⟩ := two_at hz
    have F1 := hide ((((unhide FAb).far (p := w.heap.size + 1) (by have := GA.out; have := HSd.out; omega) 0 (.slice (some ⟨ga, 0, none⟩) n2 n2)).far (p := w.heap.size + 1) (by have := GA.out; have := HSd.out; omega) 1 (.slice (some ⟨gb, 0, none⟩) n1 n1)).rowsF l2.out (by omega))
    have F2 := hide ((((unhide FB).far (p := w.heap.size + 1) (by have := GB.out; have := Sa.out; omega) 0 (.slice (some ⟨ga, 0, none⟩) n2 n2)).far (p := w.heap.size + 1) (by have := GB.out; have := Sa.out; omega) 1 (.slice (some ⟨gb, 0, none⟩) n1 n1)).rowsF l1.out (by omega))
    exact bodyPost_ret (v := .tuple #[.agg #[.slice (some ⟨ga, 0, none⟩) n2 n2, .slice (some ⟨gb, 0, none⟩) n1 n1], .int .i64 0]) (by simp [results, Tryd.results45, go_sem, z1, z2]) rfl ⟨_, _, _, _, _, _, rfl, (unhide F1).rows, (unhide F2).rows, below_put2 (unhide Bb) (by omega) _ _⟩

set_option maxHeartbeats 400000 in
theorem RTurn_any (A : Option Addr) (n c : Nat) (A' : Option Addr) (n' c' : Nat) (w : World) :
    Calls Tryd.prog 48 #[.agg #[.slice A n c, .slice A' n' c']] w fun e w' => e = .returned (.agg #[.slice A' n' c', .slice A n c]) ∧ Below w.heap.size w w' := by
  obtain ⟨W0, hW0⟩ : ∃ W0 : World, W0 = (w.alloc (.cells #[.slice A n c, .slice A' n' c'] 44)).alloc (.cells #[.slice none 0 0, .slice none 0 0] 44) := ⟨_, rfl⟩
  have HB0 := hide (show Below w.heap.size w W0 from by rw [hW0]; exact ((Below.refl _ w).alloc (Nat.le_refl _) _).alloc (by simp) _)
  have K1 : Blk W0 w.heap.size 44 #[.slice A n c, .slice A' n' c'] := by rw [hW0]; exact (Blk.new w _ _).alloc _
  have K2 : Blk W0 (w.heap.size + 1) 44 #[.slice none 0 0, .slice none 0 0] := by
    rw [hW0]
    have := Blk.new (w.alloc (.cells #[.slice A n c, .slice A' n' c'] 44)) 44 #[.slice none 0 0, .slice none 0 0]
    rwa [alloc_sz] at this
  obtain ⟨p0, p1, p2, p3⟩ := cell_two K1
  obtain ⟨q0, q1, q2, q3⟩ := cell_two K2
  have hz := put2 K2 (.slice A' n' c') (.slice A n c)
  obtain ⟨z1, z2⟩ := two_at hz
  have HB1 := hide (below_put2 (unhide HB0) (show w.heap.size ≤ w.heap.size + 1 by omega) (.slice A' n' c') (.slice A n c))
  clear K1 K2 hz
  go_enter Tryd.func48, Tryd.ntmps48
  go_upto_region 1 with fail
  rw [← hW0]
  clear hW0
  go_wp2_with fail
  exact bodyPost_ret (v := .agg #[.slice A' n' c', .slice A n c]) (by simp [results, Tryd.results48, go_sem, z1, z2]) rfl ⟨rfl, unhide HB1⟩
end Go.Proofs.YtjhicbiacnkpaaaDoor
