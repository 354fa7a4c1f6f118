/-
  The law CountsSums walked.
-/
import Derived.Test.YtabgifpenegofaaX6
import Derived.Test.YtabgifpenegofaaL1
namespace Go.Proofs.Ytabgifpenegofaa
open Go.RowKit

set_option maxRecDepth 100000 in
set_option maxHeartbeats 4000000 in
theorem LSums_any {A : Option Addr} {n c : Nat} {t : List (List Int)} {w : World} (h : Rows_ w w.heap.size A n c t) :
    Calls Try.prog 3 #[.slice A n c] w fun e w' => e = .returned (.bool true) ∧ Below w.heap.size w w' := by
  have hln := hide h.len
  cases h0 : isT t with
  | false =>
    have H0 := hide h0
    have H1 := hide (show isT (cutT t) = false from by rw [isT_cut]; exact h0)
    clear h0
    go_enter Try.func3, Try.ntmps3
    go_wp2_with fail
    refine (table_any _ _ _ _ _ h).mono ?_
    rintro e w1 ⟨v1, rfl, o1, b1⟩
    obtain ⟨A1, n1, c1, rfl, i1⟩ := o1.to
    go_wp2_with fail
    refine (Sums_no _ _ _ _ _ i1 H1).mono ?_
    rintro e w2 ⟨rfl, b2⟩
    have HB2 := hide (b1.trans (b2.mono b1.size))
    clear o1 i1 b1 b2
    go_wp2_with fail
    refine (table_any _ _ _ _ _ ((h.below (unhide HB2)).more (unhide HB2).size)).mono ?_
    rintro e w3 ⟨v3, rfl, o3, b3⟩
    obtain ⟨A3, n3, c3, rfl, i3⟩ := o3.to
    have HB3 := hide ((unhide HB2).trans (b3.mono (unhide HB2).size))
    clear b3
    go_wp2_with fail
    refine (Turn_no _ _ _ _ _ i3 H1).mono ?_
    rintro e w4 ⟨rfl, b4⟩
    have HB4 := hide ((unhide HB3).trans (b4.mono (unhide HB3).size))
    clear o3 i3 b4
    have HR := hide ((h.below (unhide HB4)).more (unhide HB4).size)
    go_wp2_with (go_at_call 22; refine (RTable_is _ _ _ _ _ _ (unhide HR) _ H0).mono ?_; rintro e w' ⟨rfl, rfl⟩)
    refine (awake_any _).mono ?_
    rintro e w5 ⟨rfl, b5⟩
    have HB5 := hide ((unhide HB4).trans (b5.mono (unhide HB4).size))
    go_wp2_with fail
    go_ret
    exact ⟨rfl, unhide HB5⟩
  | true =>
    have H0 := hide h0
    have HC := hide (cutT_of h0)
    have ht := tb_of h0
    obtain ⟨m, hm⟩ : ∃ m, (row t 0).length = m := ⟨_, rfl⟩
    rw [hln.out, hm] at ht
    have HT := hide ht
    obtain ⟨b, off, rfl⟩ := h.addr (show 0 < n by have := ht.n1; omega)
    have HRL := hide (show (List.range n).map (rS (at2 t)) = rowsL t from by unfold rowsL; rw [hln.out])
    have HCL := hide (show (List.range m).map (cS (at2 t)) = colsL t from by unfold colsL; rw [hm])
    clear h0 hm
    go_enter Try.func3, Try.ntmps3
    go_wp2_with fail
    refine (table_any _ _ _ _ _ h).mono ?_
    rintro e w1 ⟨v1, rfl, o1, b1⟩
    rw [HC.out] at o1
    obtain ⟨A1, c1, rfl, i1⟩ := o1.rows
    rw [hln.out] at i1
    rw [hln.out]
    go_wp2_with fail
    refine (Sums_ok _ _ _ _ _ _ i1 HT).mono ?_
    rintro e w2 ⟨A2, A3, rfl, j2, j3, b2⟩
    have HB2 := hide (b1.trans (b2.mono b1.size))
    have J2 := hide j2; have J3 := hide j3
    clear o1 i1 b1 b2 j2 j3
    go_wp2_with fail
    refine (table_any _ _ _ _ _ ((h.below (unhide HB2)).more (unhide HB2).size)).mono ?_
    rintro e w3 ⟨v3, rfl, o3, b3⟩
    rw [HC.out] at o3
    obtain ⟨A4, c4, rfl, i3⟩ := o3.rows
    rw [hln.out] at i3
    rw [hln.out]
    obtain ⟨b4, off4, rfl⟩ := i3.addr (show 0 < n by have := HT.out.n1; omega)
    have HB3 := hide ((unhide HB2).trans (b3.mono (unhide HB2).size))
    have J2b := hide (((unhide J2).below b3).more b3.size); have J3b := hide (((unhide J3).below b3).more b3.size)
    clear b3 J2 J3
    go_wp2_with fail
    refine (Turn_ok _ _ _ _ _ _ _ i3 HT).mono ?_
    rintro e w4 ⟨g4, rfl, r4, bb4⟩
    have HB4 := hide ((unhide HB3).trans (bb4.mono (unhide HB3).size))
    have J2c := hide (((unhide J2b).below bb4).more bb4.size); have J3c := hide (((unhide J3b).below bb4).more bb4.size)
    have R4 := hide r4
    clear o3 i3 bb4 r4 J2b J3b
    have HR := hide ((h.below (unhide HB4)).more (unhide HB4).size)
    go_wp2_with (go_at_call 22; refine (RTable_is _ _ _ _ _ _ (unhide HR) _ H0).mono ?_; rintro e w' ⟨rfl, rfl⟩)
    refine (RSums_any _ _ _ _ _ _ _ (unhide HR) HT).mono ?_
    rintro e w5 ⟨g1, g2, rfl, k1, k2, _, _, _, b5⟩
    have HB5 := hide ((unhide HB4).trans (b5.mono (unhide HB4).size))
    have J2d := hide (((unhide J2c).below b5).more b5.size); have J3d := hide (((unhide J3c).below b5).more b5.size)
    have R5 := hide (((unhide R4).below b5).more b5.size)
    have n3 := HT.out.n3; have m3 := HT.out.m3
    have K1 := hide (ints_rowC k1 (by omega)); have K2 := hide (ints_rowC k2 (by omega))
    clear b5 k1 k2 J2c J3c R4
    rw [HRL.out] at K1
    rw [HCL.out] at K2
    go_wp2_with fail
    refine (equal_is _ _ _ _ _ _ _ _ _ _ _ (unhide J2d) (unhide K1) (hide rfl)).mono ?_
    rintro e w6 ⟨rfl, q6, h6⟩
    have HB6 := hide (show Below w.heap.size w w6 from by rw [h6]; exact Below.drewN' (unhide HB5) q6)
    have J6 := hide (show Ints w6 w6.heap.size A3 m 3 (colsL t) from by rw [h6]; exact (unhide J3d).drewN q6)
    have K6 := hide (show Ints w6 w6.heap.size (some ⟨g2, 0, none⟩) m m (colsL t) from by rw [h6]; exact (unhide K2).drewN q6)
    have R6 := hide (show Rows_ w6 w6.heap.size (some ⟨g4, 0, none⟩) m m (tabL m n (tK (at2 t))) from by rw [h6]; exact (unhide R5).drewN q6)
    clear h6 J2d J3d K1 K2 R5
    go_wp2_with fail
    refine (equal_is _ _ _ _ _ _ _ _ _ _ _ (unhide J6) (unhide K6) (hide rfl)).mono ?_
    rintro e w7 ⟨rfl, q7, h7⟩
    have HB7 := hide (show Below w.heap.size w w7 from by rw [h7]; exact Below.drewN' (unhide HB6) q7)
    have R7 := hide (show Rows_ w7 w7.heap.size (some ⟨g4, 0, none⟩) m m (tabL m n (tK (at2 t))) from by rw [h7]; exact (unhide R6).drewN q7)
    clear h7 J6 K6 R6
    have HR7 := hide ((h.below (unhide HB7)).more (unhide HB7).size)
    go_wp2_with fail
    refine (RTurn_any _ _ _ _ _ _ _ (unhide HR7) HT).mono ?_
    rintro e w8 ⟨A8, c8, rfl, r8, b8⟩
    have HB8 := hide ((unhide HB7).trans (b8.mono (unhide HB7).size))
    have R8 := hide (((unhide R7).below b8).more b8.size)
    have S8 := hide r8
    clear b8 r8 R7
    go_wp2_with (go_at_call 26; refine (RSame_is _ _ _ _ _ _ _ _ _ _ _ (unhide R8) (unhide S8) true (hide (by simp))).mono ?_; rintro e w' ⟨rfl, rfl⟩)
    refine (awake_any _).mono ?_
    rintro e w9 ⟨rfl, b9⟩
    have HB9 := hide ((unhide HB8).trans (b9.mono (unhide HB8).size))
    go_wp2_with fail
    go_ret
    exact ⟨rfl, unhide HB9⟩
end Go.Proofs.Ytabgifpenegofaa
