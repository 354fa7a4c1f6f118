/-
  Of: what the laws hand over of a Puzzle; it is two tables of the call's own.
-/
import Derived.Test.YtjhicbiacnkpaaaDoorWf
namespace Go.Proofs.YtjhicbiacnkpaaaDoor
open Go.RowKit

set_option maxRecDepth 100000 in
set_option maxHeartbeats 2000000 in
theorem Of_any (A1 A2 : Option Addr) (n1 n2 c1 c2 : Nat) (R C : List (List Int)) (w : World) (r1 : Rows_ w w.heap.size A1 n1 c1 R) (r2 : Rows_ w w.heap.size A2 n2 c2 C) :
    Calls Tryd.prog 35 #[.agg #[.slice A1 n1 c1, .slice A2 n2 c2]] w fun e w' => ∃ B1 m1 d1 B2 m2 d2, e = .returned (.agg #[.slice B1 m1 d1, .slice B2 m2 d2]) ∧ Rows_ w' w'.heap.size B1 m1 d1 (cu8 R) ∧ Rows_ w' w'.heap.size B2 m2 d2 (cu8 C) ∧ Below w.heap.size w w' := by
  obtain ⟨W0, hW0⟩ : ∃ W0 : World, W0 = (w.alloc (.cells #[.slice A1 n1 c1, .slice A2 n2 c2] 44)).alloc (.cells #[.slice none 0 0, .slice none 0 0] 40) := ⟨_, rfl⟩
  have HB0 := hide (show Below w.heap.size w W0 from by rw [hW0]; exact ((Below.refl _ w).alloc (Nat.le_refl _) _).alloc (by simp) _)
  have K1 := hide (show Blk W0.drew w.heap.size 44 #[.slice A1 n1 c1, .slice A2 n2 c2] from by rw [hW0]; exact (Blk.new w _ _).alloc _)
  have K2 := hide (show Blk W0.drew (w.heap.size + 1) 40 #[.slice none 0 0, .slice none 0 0] from by
    rw [hW0]
    have := Blk.new (w.alloc (.cells #[.slice A1 n1 c1, .slice A2 n2 c2] 44)) 40 #[.slice none 0 0, .slice none 0 0]
    rwa [alloc_sz] at this)
  have HZ := hide (show W0.drew.heap.size = w.heap.size + 1 + 1 from by rw [hW0]; simp)
  have HBd := hide ((unhide HB0).drew)
  have R1 := hide ((r1.below (unhide HBd)).more (show w.heap.size ≤ W0.drew.heap.size by rw [HZ.out]; omega))
  have R2 := hide ((r2.below (unhide HBd)).more (show w.heap.size ≤ W0.drew.heap.size by rw [HZ.out]; omega))
  obtain ⟨p0, p1, _, _⟩ := cell_two (unhide K1)
  have HSW := hide (show w.heap.size ≤ W0.drew.heap.size by rw [HZ.out]; omega)
  clear r1 r2
  go_enter Tryd.func35, Tryd.ntmps35
  go_upto_region 1 with fail
  rw [← hW0]
  clear hW0
  go_region_with (first
    | (go_at_call 73; (with_reducible refine (table_any A1 n1 c1 R _ (unhide R1)).mono ?_)
       rintro e wa ⟨va, rfl, oa, ba⟩
       obtain ⟨Aa, na, ca, rfl, ra⟩ := oa.rowsF
       have Ra := hide ra; have R2a := hide ((unhide R2).on ba)
       have K1a := hide ((unhide K1).below ba (by rw [HZ.out]; omega)); have K2a := hide ((unhide K2).below ba (by rw [HZ.out]; omega))
       obtain ⟨pa0, pa1, _, _⟩ := cell_two (unhide K1a)
       have Ba := hide ((unhide HBd).trans (ba.mono HSW.out))
       have Sa := hide (Nat.le_trans (Nat.le_of_eq HZ.out.symm) ba.size)
       clear ra oa ba)
    | (go_at_call 73; (with_reducible refine (table_any A2 n2 c2 C _ (unhide R2a)).mono ?_)
       rintro e wb ⟨vb, rfl, ob, bb⟩
       obtain ⟨Ab, nb, cb, rfl, rb⟩ := ob.rowsF
       have Rb := hide rb; have Rab := hide ((unhide Ra).below bb)
       have K2b := hide ((unhide K2a).below bb (by have := Sa.out; omega))
       obtain ⟨qb0, qb1, qb2, qb3⟩ := cell_two (unhide K2b)
       have Bb := hide ((unhide Ba).trans (bb.mono (unhide Ba).size))
       have Sb := hide (Nat.le_trans Sa.out bb.size)
       have Lb := hide bb.size
       clear rb ob bb))
  all_goals
      (go_wp2_with fail
       have hz := put2 (unhide K2b) (.slice Aa na ca) (.slice Ab nb cb)
       obtain ⟨z1, z2⟩ := two_at hz
       refine bodyPost_ret (v := .agg #[.slice Aa na ca, .slice Ab nb cb]) (by simp [results, Tryd.results35, go_sem, z1, z2]) rfl ⟨Aa, na, ca, Ab, nb, cb, rfl, ?_, ?_, below_put2 (unhide Bb) (by omega) _ _⟩
       · exact ((unhide Rab).keep fun b h1 _ => put2_far _ (show b ≠ w.heap.size + 1 by rw [HZ.out] at h1; omega) _ _).rows.more (by simp; exact Lb.out)
       · exact ((unhide Rb).keep fun b h1 _ => put2_far _ (show b ≠ w.heap.size + 1 by have := Sa.out; omega) _ _).rows.more (by simp))
end Go.Proofs.YtjhicbiacnkpaaaDoor
