/-
  Cut, CheckCut of the program.
-/
import Derived.Test.YtccfhcoioakmpaaF4
namespace Go.Proofs.Ytccfhcoioakmpaa
open Go.RowKit

/-- What Cut answers. -/
def cutR (gs : List G) (fs : List F) : G × Int := if plF gs && areM gs.length fs then (match cutF gs fs with | some g => (g, 0) | none => ((0, 0, 0), 4)) else ((0, 0, 0), 2)
theorem cutR_bad {gs : List G} {fs : List F} (h : plF gs = false ∨ areM gs.length fs = false) : cutR gs fs = ((0, 0, 0), 2) := by
  rw [cutR, if_neg]; rcases h with h | h <;> simp [h]
theorem cutR_ok {gs : List G} {fs : List F} (h : plF gs = true) (h2 : areM gs.length fs = true) : cutR gs fs = (match cutF gs fs with | some g => (g, 0) | none => ((0, 0, 0), 4)) := by
  rw [cutR, h, h2]; rfl
theorem areM_parts {n : Nat} {fs : List F} (h : areM n fs = true) : fs.length = n ∧ mulOk fs = true := by
  simpa [areM] using h

set_option maxRecDepth 4000 in
set_option maxHeartbeats 3200000 in
theorem Cut_is (A A' : Option Addr) (n c n' c' : Nat) (gs : List G) (fs : List F) (w : World) (hg : Gs w w.heap.size A n c gs) (h : Fs w w.heap.size A' n' c' fs) {x y z r : Int} (hr : Hid (cutR gs fs = ((x, y, z), r))) :
    Calls Try.prog 33 #[.slice A n c, .slice A' n' c'] w fun e w' => e = .returned (.tuple #[.agg #[.int .i64 x, .int .i64 y, .int .i64 z], .int .i64 r]) ∧ Below w.heap.size w w' := by
  have hlg := hide hg.len; have hlf := hide h.len
  have H := hide h; have HG := hide hg; clear h hg
  obtain ⟨W0, hW0⟩ : ∃ W0, W0 = w.alloc (.cells #[.int .i64 0, .int .i64 0, .int .i64 0] 57) := ⟨_, rfl⟩
  have HB0 := hide (show Below w.heap.size w W0 from by rw [hW0]; exact (Below.refl _ w).alloc (Nat.le_refl _) _)
  have HR0 := hide (show W0.heap[w.heap.size]? = some (.cells #[.int .i64 0, .int .i64 0, .int .i64 0] 57 (0, 0)) from by rw [hW0]; exact heap_new_ w _)
  have hs0 : W0.heap.size = w.heap.size + 1 := by rw [hW0]; simp
  have HG0 := hide (show Gs W0 W0.heap.size A n c gs from ((unhide HG).below (unhide HB0)).more (by omega))
  rcases hp : plF gs
  · have HP := hide hp
    have hh := hr.out; rw [cutR_bad (.inl hp)] at hh
    simp only [Prod.mk.injEq] at hh
    obtain ⟨⟨rfl, rfl, rfl⟩, rfl⟩ := hh
    clear hp
    go_enter Try.func33, Try.ntmps33
    go_wp2_with fail
    rw [← hW0]
    clear hW0
    refine (isPlate_is _ _ _ _ _ (unhide HG0) _ HP).mono ?_
    rintro e w1 ⟨rfl, b1⟩
    have hr1 := (b1.block _ (by omega)).trans (unhide HR0)
    obtain ⟨q0, q1, q2⟩ := three_at hr1
    have f0 := free_at hr1 0; have f1 := free_at hr1 1; have f2 := free_at hr1 2
    have HPq := hide (put3 hr1 (.int .i64 0) (.int .i64 0) (.int .i64 0))
    have HBq := hide (below_put3 ((unhide HB0).trans (b1.mono (by omega))) (b := w.heap.size) (Nat.le_refl _) (.int .i64 0) (.int .i64 0) (.int .i64 0))
    clear b1 hr1
    go_wp2_with fail
    obtain ⟨s0, s1, s2⟩ := three_at (unhide HPq)
    exact bodyPost_ret (v := .tuple #[.agg #[.int .i64 0, .int .i64 0, .int .i64 0], .int .i64 2]) (by simp [results, Try.results33, go_sem, s0, s1, s2]) rfl ⟨rfl, unhide HBq⟩
  have HP := hide hp
  have HO := hide (plF_ok hp)
  have hn6 : n ≤ 6 := by have := (plF_len hp).2; have := hlg.out; omega
  rcases hm : areM n fs
  · have HM := hide hm
    have hh := hr.out; rw [cutR_bad (.inr (by rw [hlg.out]; exact hm))] at hh
    simp only [Prod.mk.injEq] at hh
    obtain ⟨⟨rfl, rfl, rfl⟩, rfl⟩ := hh
    clear hp hm
    go_enter Try.func33, Try.ntmps33
    go_wp2_with fail
    rw [← hW0]
    clear hW0
    refine (isPlate_is _ _ _ _ _ (unhide HG0) _ HP).mono ?_
    rintro e w1 ⟨rfl, b1⟩
    have HB1 := hide ((unhide HB0).trans (b1.mono (by omega)))
    have hr1 := (b1.block _ (by omega)).trans (unhide HR0)
    clear b1
    go_wp2_with fail
    refine (areMult_any _ _ _ _ _ _ _ _ _ (((unhide HG).below (unhide HB1)).more (unhide HB1).size) (((unhide H).below (unhide HB1)).more (unhide HB1).size) _ HM).mono ?_
    rintro e w2 ⟨rfl, b2⟩
    have hr2 := (b2.block _ (Array.getElem?_eq_some_iff.1 hr1).1).trans hr1
    obtain ⟨q0, q1, q2⟩ := three_at hr2
    have f0 := free_at hr2 0; have f1 := free_at hr2 1; have f2 := free_at hr2 2
    have HPq := hide (put3 hr2 (.int .i64 0) (.int .i64 0) (.int .i64 0))
    have HBq := hide (below_put3 ((unhide HB1).trans (b2.mono (unhide HB1).size)) (b := w.heap.size) (Nat.le_refl _) (.int .i64 0) (.int .i64 0) (.int .i64 0))
    clear b2 hr1 hr2
    go_wp2_with fail
    obtain ⟨s0, s1, s2⟩ := three_at (unhide HPq)
    exact bodyPost_ret (v := .tuple #[.agg #[.int .i64 0, .int .i64 0, .int .i64 0], .int .i64 2]) (by simp [results, Try.results33, go_sem, s0, s1, s2]) rfl ⟨rfl, unhide HBq⟩
  have HM := hide hm
  obtain ⟨hn, hmu⟩ := areM_parts hm
  have HMU := hide hmu
  have hnn : n' = n := by have := hlf.out; omega
  have hh := hr.out; rw [cutR_ok hp (by rw [hlg.out]; exact hm)] at hh
  rcases hcf : cutF gs fs with _ | ⟨⟨a1, a2, a3⟩⟩
  · rw [hcf] at hh
    simp only [Prod.mk.injEq] at hh
    obtain ⟨⟨rfl, rfl, rfl⟩, rfl⟩ := hh
    have HSO := hide (fun (W : World) (hg : Gs W W.heap.size A n c gs) (hf : Fs W W.heap.size A' n' c' fs) => sumOf_any A A' n c n' c' gs fs W hg hf HO HMU hnn hn6 0 0 0 false (fun _ => ⟨rfl, rfl⟩) (fun g hg => by rw [hcf] at hg; cases hg))
    clear hp hm hn hmu hcf hnn
    go_enter Try.func33, Try.ntmps33
    go_wp2_with fail
    rw [← hW0]
    clear hW0
    refine (isPlate_is _ _ _ _ _ (unhide HG0) _ HP).mono ?_
    rintro e w1 ⟨rfl, b1⟩
    have HB1 := hide ((unhide HB0).trans (b1.mono (by omega)))
    have HR1 := hide ((b1.block _ (by omega)).trans (unhide HR0))
    clear b1
    go_wp2_with fail
    refine (areMult_any _ _ _ _ _ _ _ _ _ (((unhide HG).below (unhide HB1)).more (unhide HB1).size) (((unhide H).below (unhide HB1)).more (unhide HB1).size) _ HM).mono ?_
    rintro e w2 ⟨rfl, b2⟩
    have HR2 := hide ((b2.block _ (Array.getElem?_eq_some_iff.1 (unhide HR1)).1).trans (unhide HR1))
    have HB2 := hide ((unhide HB1).trans (b2.mono (unhide HB1).size))
    clear b2
    go_wp2_with fail
    refine ((unhide HSO) _ (((unhide HG).below (unhide HB2)).more (unhide HB2).size) (((unhide H).below (unhide HB2)).more (unhide HB2).size)).mono ?_
    rintro e w3 ⟨rfl, b3⟩
    have hr3 := (b3.block _ (Array.getElem?_eq_some_iff.1 (unhide HR2)).1).trans (unhide HR2)
    have hb3 := (unhide HB2).trans (b3.mono (unhide HB2).size)
    have hr4 := (Below.heap_alloc w3 (.cells #[.int .i64 0, .int .i64 0, .int .i64 0] 57) _ (Array.getElem?_eq_some_iff.1 hr3).1).trans hr3
    obtain ⟨q0, q1, q2⟩ := three_at hr4
    have f0 := free_at hr4 0; have f1 := free_at hr4 1; have f2 := free_at hr4 2
    have HPq := hide (put3 hr4 (.int .i64 0) (.int .i64 0) (.int .i64 0))
    have HBq := hide (below_put3 (hb3.alloc hb3.size (.cells #[.int .i64 0, .int .i64 0, .int .i64 0] 57)) (b := w.heap.size) (Nat.le_refl _) (.int .i64 0) (.int .i64 0) (.int .i64 0))
    clear b3 hr3 hr4 hb3
    go_wp2_with fail
    obtain ⟨s0, s1, s2⟩ := three_at (unhide HPq)
    exact bodyPost_ret (v := .tuple #[.agg #[.int .i64 0, .int .i64 0, .int .i64 0], .int .i64 4]) (by simp [results, Try.results33, go_sem, s0, s1, s2]) rfl ⟨rfl, unhide HBq⟩
  · rw [hcf] at hh
    simp only [Prod.mk.injEq] at hh
    obtain ⟨⟨rfl, rfl, rfl⟩, rfl⟩ := hh
    have HSO := hide (fun (W : World) (hg : Gs W W.heap.size A n c gs) (hf : Fs W W.heap.size A' n' c' fs) => sumOf_any A A' n c n' c' gs fs W hg hf HO HMU hnn hn6 a1 a2 a3 true (fun hn => by rw [hcf] at hn; cases hn) (fun g hg => by rw [hcf] at hg; cases hg; exact ⟨rfl, rfl⟩))
    clear hp hm hn hmu hcf hnn
    go_enter Try.func33, Try.ntmps33
    go_wp2_with fail
    rw [← hW0]
    clear hW0
    refine (isPlate_is _ _ _ _ _ (unhide HG0) _ HP).mono ?_
    rintro e w1 ⟨rfl, b1⟩
    have HB1 := hide ((unhide HB0).trans (b1.mono (by omega)))
    have HR1 := hide ((b1.block _ (by omega)).trans (unhide HR0))
    clear b1
    go_wp2_with fail
    refine (areMult_any _ _ _ _ _ _ _ _ _ (((unhide HG).below (unhide HB1)).more (unhide HB1).size) (((unhide H).below (unhide HB1)).more (unhide HB1).size) _ HM).mono ?_
    rintro e w2 ⟨rfl, b2⟩
    have HR2 := hide ((b2.block _ (Array.getElem?_eq_some_iff.1 (unhide HR1)).1).trans (unhide HR1))
    have HB2 := hide ((unhide HB1).trans (b2.mono (unhide HB1).size))
    clear b2
    go_wp2_with fail
    refine ((unhide HSO) _ (((unhide HG).below (unhide HB2)).more (unhide HB2).size) (((unhide H).below (unhide HB2)).more (unhide HB2).size)).mono ?_
    rintro e w3 ⟨rfl, b3⟩
    have hr3 := (b3.block _ (Array.getElem?_eq_some_iff.1 (unhide HR2)).1).trans (unhide HR2)
    have hb3 := (unhide HB2).trans (b3.mono (unhide HB2).size)
    have hr4 := (Below.heap_alloc w3 (.cells #[.int .i64 a1, .int .i64 a2, .int .i64 a3] 57) _ (Array.getElem?_eq_some_iff.1 hr3).1).trans hr3
    obtain ⟨q0, q1, q2⟩ := three_at hr4
    have f0 := free_at hr4 0; have f1 := free_at hr4 1; have f2 := free_at hr4 2
    have HPq := hide (put3 hr4 (.int .i64 a1) (.int .i64 a2) (.int .i64 a3))
    have HBq := hide (below_put3 (hb3.alloc hb3.size (.cells #[.int .i64 a1, .int .i64 a2, .int .i64 a3] 57)) (b := w.heap.size) (Nat.le_refl _) (.int .i64 a1) (.int .i64 a2) (.int .i64 a3))
    clear b3 hr3 hr4 hb3
    go_wp2_with fail
    obtain ⟨s0, s1, s2⟩ := three_at (unhide HPq)
    exact bodyPost_ret (v := .tuple #[.agg #[.int .i64 a1, .int .i64 a2, .int .i64 a3], .int .i64 0]) (by simp [results, Try.results33, go_sem, s0, s1, s2]) rfl ⟨rfl, unhide HBq⟩

/-- What CheckCut answers. -/
def chkB (gs : List G) (fs : List F) (s : G) : Bool := match cutF gs fs with | some g => decide (g.1 = s.1) && decide (g.2.1 = s.2.1) && decide (g.2.2 ≤ s.2.2) | none => false
def chkR (gs : List G) (fs : List F) (s : G) : Bool × Int := if plF gs && areM gs.length fs then (chkB gs fs s, 0) else (false, 2)
theorem chkR_bad {gs : List G} {fs : List F} {s : G} (h : plF gs = false ∨ areM gs.length fs = false) : chkR gs fs s = (false, 2) := by
  rw [chkR, if_neg]; rcases h with h | h <;> simp [h]
theorem chkR_ok {gs : List G} {fs : List F} {s : G} (h : plF gs = true) (h2 : areM gs.length fs = true) : chkR gs fs s = (chkB gs fs s, 0) := by
  rw [chkR, h, h2]; rfl
end Go.Proofs.Ytccfhcoioakmpaa
