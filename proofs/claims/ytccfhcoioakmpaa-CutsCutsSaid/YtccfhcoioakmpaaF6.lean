/-
  CheckCut of the program.
-/
import Derived.Test.YtccfhcoioakmpaaF5
namespace Go.Proofs.Ytccfhcoioakmpaa
open Go.RowKit

set_option maxRecDepth 4000 in
set_option maxHeartbeats 3200000 in
theorem Check_is (A A' : Option Addr) (n c n' c' : Nat) (gs : List G) (fs : List F) (x y z : Int) (w : World) (hg : Gs w w.heap.size A n c gs) (h : Fs w w.heap.size A' n' c' fs) {b : Bool} {r : Int} (hr : Hid (chkR gs fs (x, y, z) = (b, r))) :
    Calls Try.prog 35 #[.slice A n c, .slice A' n' c', .agg #[.int .i64 x, .int .i64 y, .int .i64 z]] w fun e w' => e = .returned (.tuple #[.bool b, .int .i64 r]) ∧ Below w.heap.size w w' := by
  have hlg := hide hg.len; have hlf := hide h.len
  have H := hide h; have HG := hide hg; clear h hg
  obtain ⟨W0, hW0⟩ : ∃ W0, W0 = w.alloc (.cells #[.int .i64 x, .int .i64 y, .int .i64 z] 57) := ⟨_, rfl⟩
  have HB0 := hide (show Below w.heap.size w W0 from by rw [hW0]; exact (Below.refl _ w).alloc (Nat.le_refl _) _)
  have HR0 := hide (show W0.heap[w.heap.size]? = some (.cells #[.int .i64 x, .int .i64 y, .int .i64 z] 57 (0, 0)) from by rw [hW0]; exact heap_new_ w _)
  have hs0 : W0.heap.size = w.heap.size + 1 := by rw [hW0]; simp
  have HG0 := hide (show Gs W0 W0.heap.size A n c gs from ((unhide HG).below (unhide HB0)).more (by omega))
  rcases hp : plF gs
  · have HP := hide hp
    have hh := hr.out; rw [chkR_bad (.inl hp)] at hh
    simp only [Prod.mk.injEq] at hh
    obtain ⟨rfl, rfl⟩ := hh
    clear hp
    go_enter Try.func35, Try.ntmps35
    go_wp2_with fail
    rw [← hW0]
    clear hW0
    refine (isPlate_is _ _ _ _ _ (unhide HG0) _ HP).mono ?_
    rintro e w1 ⟨rfl, b1⟩
    have HB1 := hide ((unhide HB0).trans (b1.mono (by omega)))
    have HR1 := hide ((b1.block _ (by omega)).trans (unhide HR0))
    clear b1
    go_wp2_with fail
    go_ret2
    exact ⟨rfl, unhide HB1⟩
  have HP := hide hp
  have HO := hide (plF_ok hp)
  have hn6 : n ≤ 6 := by have := (plF_len hp).2; have := hlg.out; omega
  rcases hm : areM n fs
  · have HM := hide hm
    have hh := hr.out; rw [chkR_bad (.inr (by rw [hlg.out]; exact hm))] at hh
    simp only [Prod.mk.injEq] at hh
    obtain ⟨rfl, rfl⟩ := hh
    clear hp hm
    go_enter Try.func35, Try.ntmps35
    go_wp2_with fail
    rw [← hW0]
    clear hW0
    refine (isPlate_is _ _ _ _ _ (unhide HG0) _ HP).mono ?_
    rintro e w1 ⟨rfl, b1⟩
    have HB1 := hide ((unhide HB0).trans (b1.mono (by omega)))
    have HR1 := hide ((b1.block _ (by omega)).trans (unhide HR0))
    clear b1
    go_wp2_with fail
    refine (areMult_any _ _ _ _ _ _ _ _ _ (((unhide HG).below (unhide HB1)).more (unhide HB1).size) (((unhide H).below (unhide HB1)).more (unhide HB1).size) _ HM).mono ?_
    rintro e w2 ⟨rfl, b2⟩
    have HR2 := hide ((b2.block _ (Array.getElem?_eq_some_iff.1 (unhide HR1)).1).trans (unhide HR1))
    have HB2 := hide ((unhide HB1).trans (b2.mono (unhide HB1).size))
    clear b2
    go_wp2_with fail
    go_ret2
    exact ⟨rfl, unhide HB2⟩
  have HM := hide hm
  obtain ⟨hn, hmu⟩ := areM_parts hm
  have HMU := hide hmu
  have hnn : n' = n := by have := hlf.out; omega
  have hh := hr.out; rw [chkR_ok hp (by rw [hlg.out]; exact hm), chkB] at hh
  rcases hcf : cutF gs fs with _ | ⟨⟨a1, a2, a3⟩⟩
  · rw [hcf] at hh
    simp only [Prod.mk.injEq] at hh
    obtain ⟨rfl, rfl⟩ := hh
    have HSO := hide (fun (W : World) (hg : Gs W W.heap.size A n c gs) (hf : Fs W W.heap.size A' n' c' fs) => sumOf_any A A' n c n' c' gs fs W hg hf HO HMU hnn hn6 0 0 0 false (fun _ => ⟨rfl, rfl⟩) (fun g hg => by rw [hcf] at hg; cases hg))
    clear hp hm hn hmu hcf hnn
    go_enter Try.func35, Try.ntmps35
    go_wp2_with fail
    rw [← hW0]
    clear hW0
    refine (isPlate_is _ _ _ _ _ (unhide HG0) _ HP).mono ?_
    rintro e w1 ⟨rfl, b1⟩
    have HB1 := hide ((unhide HB0).trans (b1.mono (by omega)))
    have HR1 := hide ((b1.block _ (by omega)).trans (unhide HR0))
    clear b1
    go_wp2_with fail
    refine (areMult_any _ _ _ _ _ _ _ _ _ (((unhide HG).below (unhide HB1)).more (unhide HB1).size) (((unhide H).below (unhide HB1)).more (unhide HB1).size) _ HM).mono ?_
    rintro e w2 ⟨rfl, b2⟩
    have HR2 := hide ((b2.block _ (Array.getElem?_eq_some_iff.1 (unhide HR1)).1).trans (unhide HR1))
    have HB2 := hide ((unhide HB1).trans (b2.mono (unhide HB1).size))
    clear b2
    go_wp2_with fail
    refine ((unhide HSO) _ (((unhide HG).below (unhide HB2)).more (unhide HB2).size) (((unhide H).below (unhide HB2)).more (unhide HB2).size)).mono ?_
    rintro e w3 ⟨rfl, b3⟩
    have hr3 := (b3.block _ (Array.getElem?_eq_some_iff.1 (unhide HR2)).1).trans (unhide HR2)
    have hb3 := (unhide HB2).trans (b3.mono (unhide HB2).size)
    have HBq := hide (hb3.alloc hb3.size (.cells #[.int .i64 0, .int .i64 0, .int .i64 0] 57))
    obtain ⟨q0, q1, q2⟩ := three_at hr3
    have hr4 := (Below.heap_alloc w3 (.cells #[.int .i64 0, .int .i64 0, .int .i64 0] 57) _ (Array.getElem?_eq_some_iff.1 hr3).1).trans hr3
    obtain ⟨p0, p1, p2⟩ := three_at hr4
    clear b3 hr3 hb3 hr4
    go_wp2_with fail
    go_ret2
    exact ⟨rfl, unhide HBq⟩
  · rw [hcf] at hh
    simp only [Prod.mk.injEq] at hh
    obtain ⟨hbb, rfl⟩ := hh
    have HBB := hide hbb
    have HSO := hide (fun (W : World) (hg : Gs W W.heap.size A n c gs) (hf : Fs W W.heap.size A' n' c' fs) => sumOf_any A A' n c n' c' gs fs W hg hf HO HMU hnn hn6 a1 a2 a3 true (fun hn => by rw [hcf] at hn; cases hn) (fun g hg => by rw [hcf] at hg; cases hg; exact ⟨rfl, rfl⟩))
    clear hp hm hn hmu hcf hnn hbb
    by_cases h1 : a1 = x
    · subst h1
      by_cases h2 : a2 = y
      · subst h2
        by_cases h3 : a3 ≤ z
        · have hb := HBB.out
          simp only [decide_true, Bool.and_self, Bool.true_and, h3] at hb
          subst hb
          have e3 : decide (a3 ≤ z) = true := by simp [h3]
          go_enter Try.func35, Try.ntmps35
          go_wp2_with fail
          rw [← hW0]
          clear hW0
          refine (isPlate_is _ _ _ _ _ (unhide HG0) _ HP).mono ?_
          rintro e w1 ⟨rfl, b1⟩
          have HB1 := hide ((unhide HB0).trans (b1.mono (by omega)))
          have HR1 := hide ((b1.block _ (by omega)).trans (unhide HR0))
          clear b1
          go_wp2_with fail
          refine (areMult_any _ _ _ _ _ _ _ _ _ (((unhide HG).below (unhide HB1)).more (unhide HB1).size) (((unhide H).below (unhide HB1)).more (unhide HB1).size) _ HM).mono ?_
          rintro e w2 ⟨rfl, b2⟩
          have HR2 := hide ((b2.block _ (Array.getElem?_eq_some_iff.1 (unhide HR1)).1).trans (unhide HR1))
          have HB2 := hide ((unhide HB1).trans (b2.mono (unhide HB1).size))
          clear b2
          go_wp2_with fail
          refine ((unhide HSO) _ (((unhide HG).below (unhide HB2)).more (unhide HB2).size) (((unhide H).below (unhide HB2)).more (unhide HB2).size)).mono ?_
          rintro e w3 ⟨rfl, b3⟩
          have hr3 := (b3.block _ (Array.getElem?_eq_some_iff.1 (unhide HR2)).1).trans (unhide HR2)
          have hb3 := (unhide HB2).trans (b3.mono (unhide HB2).size)
          have HBq := hide (hb3.alloc hb3.size (.cells #[.int .i64 a1, .int .i64 a2, .int .i64 a3] 57))
          obtain ⟨q0, q1, q2⟩ := three_at hr3
          have hr4 := (Below.heap_alloc w3 (.cells #[.int .i64 a1, .int .i64 a2, .int .i64 a3] 57) _ (Array.getElem?_eq_some_iff.1 hr3).1).trans hr3
          obtain ⟨p0, p1, p2⟩ := three_at hr4
          clear b3 hr3 hb3 hr4
          go_wp2_with fail
          go_ret2
          exact ⟨rfl, unhide HBq⟩
        · have hb := HBB.out
          simp only [decide_true, Bool.and_self, Bool.true_and, h3, decide_false] at hb
          subst hb
          have e3 : decide (a3 ≤ z) = false := by simp [h3]
          go_enter Try.func35, Try.ntmps35
          go_wp2_with fail
          rw [← hW0]
          clear hW0
          refine (isPlate_is _ _ _ _ _ (unhide HG0) _ HP).mono ?_
          rintro e w1 ⟨rfl, b1⟩
          have HB1 := hide ((unhide HB0).trans (b1.mono (by omega)))
          have HR1 := hide ((b1.block _ (by omega)).trans (unhide HR0))
          clear b1
          go_wp2_with fail
          refine (areMult_any _ _ _ _ _ _ _ _ _ (((unhide HG).below (unhide HB1)).more (unhide HB1).size) (((unhide H).below (unhide HB1)).more (unhide HB1).size) _ HM).mono ?_
          rintro e w2 ⟨rfl, b2⟩
          have HR2 := hide ((b2.block _ (Array.getElem?_eq_some_iff.1 (unhide HR1)).1).trans (unhide HR1))
          have HB2 := hide ((unhide HB1).trans (b2.mono (unhide HB1).size))
          clear b2
          go_wp2_with fail
          refine ((unhide HSO) _ (((unhide HG).below (unhide HB2)).more (unhide HB2).size) (((unhide H).below (unhide HB2)).more (unhide HB2).size)).mono ?_
          rintro e w3 ⟨rfl, b3⟩
          have hr3 := (b3.block _ (Array.getElem?_eq_some_iff.1 (unhide HR2)).1).trans (unhide HR2)
          have hb3 := (unhide HB2).trans (b3.mono (unhide HB2).size)
          have HBq := hide (hb3.alloc hb3.size (.cells #[.int .i64 a1, .int .i64 a2, .int .i64 a3] 57))
          obtain ⟨q0, q1, q2⟩ := three_at hr3
          have hr4 := (Below.heap_alloc w3 (.cells #[.int .i64 a1, .int .i64 a2, .int .i64 a3] 57) _ (Array.getElem?_eq_some_iff.1 hr3).1).trans hr3
          obtain ⟨p0, p1, p2⟩ := three_at hr4
          clear b3 hr3 hb3 hr4
          go_wp2_with fail
          go_ret2
          exact ⟨rfl, unhide HBq⟩
      · have hb := HBB.out
        simp only [decide_true, Bool.true_and, h2, decide_false, Bool.false_and] at hb
        subst hb
        have e2 : (a2 == y) = false := by simp [h2]
        go_enter Try.func35, Try.ntmps35
        go_wp2_with fail
        rw [← hW0]
        clear hW0
        refine (isPlate_is _ _ _ _ _ (unhide HG0) _ HP).mono ?_
        rintro e w1 ⟨rfl, b1⟩
        have HB1 := hide ((unhide HB0).trans (b1.mono (by omega)))
        have HR1 := hide ((b1.block _ (by omega)).trans (unhide HR0))
        clear b1
        go_wp2_with fail
        refine (areMult_any _ _ _ _ _ _ _ _ _ (((unhide HG).below (unhide HB1)).more (unhide HB1).size) (((unhide H).below (unhide HB1)).more (unhide HB1).size) _ HM).mono ?_
        rintro e w2 ⟨rfl, b2⟩
        have HR2 := hide ((b2.block _ (Array.getElem?_eq_some_iff.1 (unhide HR1)).1).trans (unhide HR1))
        have HB2 := hide ((unhide HB1).trans (b2.mono (unhide HB1).size))
        clear b2
        go_wp2_with fail
        refine ((unhide HSO) _ (((unhide HG).below (unhide HB2)).more (unhide HB2).size) (((unhide H).below (unhide HB2)).more (unhide HB2).size)).mono ?_
        rintro e w3 ⟨rfl, b3⟩
        have hr3 := (b3.block _ (Array.getElem?_eq_some_iff.1 (unhide HR2)).1).trans (unhide HR2)
        have hb3 := (unhide HB2).trans (b3.mono (unhide HB2).size)
        have HBq := hide (hb3.alloc hb3.size (.cells #[.int .i64 a1, .int .i64 a2, .int .i64 a3] 57))
        obtain ⟨q0, q1, q2⟩ := three_at hr3
        have hr4 := (Below.heap_alloc w3 (.cells #[.int .i64 a1, .int .i64 a2, .int .i64 a3] 57) _ (Array.getElem?_eq_some_iff.1 hr3).1).trans hr3
        obtain ⟨p0, p1, p2⟩ := three_at hr4
        clear b3 hr3 hb3 hr4
        go_wp2_with fail
        go_ret2
        exact ⟨rfl, unhide HBq⟩
    · have hb := HBB.out
      simp only [h1, decide_false, Bool.false_and] at hb
      subst hb
      have e1 : (a1 == x) = false := by simp [h1]
      go_enter Try.func35, Try.ntmps35
      go_wp2_with fail
      rw [← hW0]
      clear hW0
      refine (isPlate_is _ _ _ _ _ (unhide HG0) _ HP).mono ?_
      rintro e w1 ⟨rfl, b1⟩
      have HB1 := hide ((unhide HB0).trans (b1.mono (by omega)))
      have HR1 := hide ((b1.block _ (by omega)).trans (unhide HR0))
      clear b1
      go_wp2_with fail
      refine (areMult_any _ _ _ _ _ _ _ _ _ (((unhide HG).below (unhide HB1)).more (unhide HB1).size) (((unhide H).below (unhide HB1)).more (unhide HB1).size) _ HM).mono ?_
      rintro e w2 ⟨rfl, b2⟩
      have HR2 := hide ((b2.block _ (Array.getElem?_eq_some_iff.1 (unhide HR1)).1).trans (unhide HR1))
      have HB2 := hide ((unhide HB1).trans (b2.mono (unhide HB1).size))
      clear b2
      go_wp2_with fail
      refine ((unhide HSO) _ (((unhide HG).below (unhide HB2)).more (unhide HB2).size) (((unhide H).below (unhide HB2)).more (unhide HB2).size)).mono ?_
      rintro e w3 ⟨rfl, b3⟩
      have hr3 := (b3.block _ (Array.getElem?_eq_some_iff.1 (unhide HR2)).1).trans (unhide HR2)
      have hb3 := (unhide HB2).trans (b3.mono (unhide HB2).size)
      have HBq := hide (hb3.alloc hb3.size (.cells #[.int .i64 a1, .int .i64 a2, .int .i64 a3] 57))
      obtain ⟨q0, q1, q2⟩ := three_at hr3
      have hr4 := (Below.heap_alloc w3 (.cells #[.int .i64 a1, .int .i64 a2, .int .i64 a3] 57) _ (Array.getElem?_eq_some_iff.1 hr3).1).trans hr3
      obtain ⟨p0, p1, p2⟩ := three_at hr4
      clear b3 hr3 hb3 hr4
      go_wp2_with fail
      go_ret2
      exact ⟨rfl, unhide HBq⟩
end Go.Proofs.Ytccfhcoioakmpaa
