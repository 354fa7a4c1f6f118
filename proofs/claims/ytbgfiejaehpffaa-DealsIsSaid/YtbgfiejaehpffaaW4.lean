/-
  through and isHidden of the program.
-/
import Derived.Test.YtbgfiejaehpffaaF3
import Derived.Test.YtbgfiejaehpffaaH3
import Derived.Deep.RegionHeld3
namespace Go.Proofs.Ytbgfiejaehpffaa
open Go.RowKit

theorem pth_fth : pth = fth := rfl
/-- The limit through two points. -/
def thA (p q : F) : Int := p.2 - q.2
def thB (p q : F) : Int := q.1 - p.1
def thC (p q : F) : Int := thA p q * p.1 + thB p q * p.2
def smallP (M : Int) (p : F) : Prop := (-M ≤ p.1 ∧ p.1 ≤ M) ∧ (-M ≤ p.2 ∧ p.2 ≤ M)

set_option maxRecDepth 100000 in
set_option maxHeartbeats 3200000 in
theorem through_any (px py qx qy : Int) (w : World) (hp : smallP 1000 (px, py)) (hq : smallP 1000 (qx, qy)) (a b c : Int) (ha : Hid (thA (px, py) (qx, qy) = a)) (hb : Hid (thB (px, py) (qx, qy) = b)) (hc : Hid (thC (px, py) (qx, qy) = c)) :
    Calls Try.prog 75 #[.agg #[.int .i64 px, .int .i64 py], .agg #[.int .i64 qx, .int .i64 qy]] w fun e w' => e = .returned (.agg #[.int .i64 a, .int .i64 b, .int .i64 c]) ∧ Below w.heap.size w w' := by
  obtain ⟨W0, hW0⟩ : ∃ W0, W0 = ((w.alloc (.cells #[.int .i64 px, .int .i64 py] 30)).alloc (.cells #[.int .i64 qx, .int .i64 qy] 30)).alloc (.cells #[.int .i64 0, .int .i64 0, .int .i64 0] 73) := ⟨_, rfl⟩
  have HB0 := hide (show Below w.heap.size w W0 from by rw [hW0]; exact ((((Below.refl _ w).alloc (Nat.le_refl _) _).alloc (by simp) _).alloc (by simp; omega) _))
  obtain ⟨x0, x1⟩ := two_at (show W0.heap[w.heap.size]? = some (.cells #[.int .i64 px, .int .i64 py] 30 (0, 0)) from by rw [hW0, Below.heap_alloc _ _ _ (by simp; omega), Below.heap_alloc _ _ _ (by simp)]; exact heap_new_ w _)
  obtain ⟨y0, y1⟩ := two_at (show W0.heap[w.heap.size + 1]? = some (.cells #[.int .i64 qx, .int .i64 qy] 30 (0, 0)) from by
    rw [hW0, Below.heap_alloc _ _ _ (by simp)]
    have := heap_new_ (w.alloc (.cells #[.int .i64 px, .int .i64 py] 30)) (.cells #[.int .i64 qx, .int .i64 qy] 30)
    rwa [World.size_alloc] at this)
  have HR := hide (show W0.heap[w.heap.size + 1 + 1]? = some (.cells #[.int .i64 0, .int .i64 0, .int .i64 0] 73 (0, 0)) from by
    rw [hW0]
    have := heap_new_ ((w.alloc (.cells #[.int .i64 px, .int .i64 py] 30)).alloc (.cells #[.int .i64 qx, .int .i64 qy] 30)) (.cells #[.int .i64 0, .int .i64 0, .int .i64 0] 73)
    rwa [World.size_alloc, World.size_alloc] at this)
  have hW1 : ((w.alloc (.cells #[.int .i64 px, .int .i64 py] 30)).alloc (.cells #[.int .i64 qx, .int .i64 qy] 30)).alloc (.cells #[.int .i64 0, .int .i64 0, .int .i64 0] 73) = W0 := hW0.symm
  clear hW0
  obtain ⟨⟨p1, p2⟩, ⟨p3, p4⟩⟩ := hp
  obtain ⟨⟨q1, q2⟩, ⟨q3, q4⟩⟩ := hq
  simp only at p1 p2 p3 p4 q1 q2 q3 q4
  have ha' : py - qy = a := ha.out
  have hb' : qx - px = b := hb.out
  have ba : -2000 ≤ a ∧ a ≤ 2000 := by omega
  have bb : -2000 ≤ b ∧ b ≤ 2000 := by omega
  have e1 := mul_bd (M := 2000) (N := 1000) ba ⟨p1, p2⟩
  have e2 := mul_bd (M := 2000) (N := 1000) bb ⟨p3, p4⟩
  have hc' : a * px + b * py = c := by rw [← ha', ← hb']; exact hc.out
  obtain ⟨u, hu⟩ : ∃ u, a * px = u := ⟨_, rfl⟩
  obtain ⟨v, hv⟩ : ∃ v, b * py = v := ⟨_, rfl⟩
  rw [hu] at e1 hc'; rw [hv] at e2 hc'
  clear ha hb hc
  go_enter Try.func75, Try.ntmps75
  go_upto_region 1 with fail
  clear hW1
  go_quiet (fail)
  have HB1 := hide (below_dN (unhide HB0) nq)
  have hr1 : (W0.drewN nq).heap[w.heap.size + 1 + 1]? = some (.cells #[.int .i64 0, .int .i64 0, .int .i64 0] 73 (0, 0)) := unhide HR
  have k0 : (W0.drewN nq).cell? ⟨w.heap.size, 0, none⟩ = _ := x0
  have k1 : (W0.drewN nq).cell? ⟨w.heap.size, 1, none⟩ = _ := x1
  clear x0 x1 y0 y1
  obtain ⟨W1, hW1⟩ : ∃ W1, W1 = W0.drewN nq := ⟨_, rfl⟩
  rw [← hW1] at HB1 hr1 k0 k1 ⊢
  clear hW1
  have f0 := free_at hr1 0; have f1 := free_at hr1 1; have f2 := free_at hr1 2
  obtain ⟨r0, r1, r2⟩ := three_at hr1
  have HPq := hide (put3 hr1 (.int .i64 a) (.int .i64 b) (.int .i64 c))
  have HBq := hide (below_put3 (unhide HB1) (b := w.heap.size + 1 + 1) (by omega) (.int .i64 a) (.int .i64 b) (.int .i64 c))
  clear hr1
  go_wp2_with fail
  obtain ⟨s0, s1, s2⟩ := three_at (unhide HPq)
  exact bodyPost_ret (v := .agg #[.int .i64 a, .int .i64 b, .int .i64 c]) (by simp [results, Try.results75, go_sem, s0, s1, s2]) rfl ⟨rfl, unhide HBq⟩
end Go.Proofs.Ytbgfiejaehpffaa
