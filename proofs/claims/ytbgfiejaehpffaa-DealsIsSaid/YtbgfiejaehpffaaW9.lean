/-
  The closures that each is given: less the fallback, exchanged, scaled.
-/
import Derived.Test.YtbgfiejaehpffaaW8
import Derived.Shelf.Abstract
namespace Go.Proofs.Ytbgfiejaehpffaa
open Go.RowKit
theorem cell_lt {w : World} {b o : Nat} {v : Value} (h : w.cell? ⟨b, o, none⟩ = some v) : b < w.heap.size := by
  rcases Nat.lt_or_ge b w.heap.size with h1 | h1
  · exact h1
  · simp [World.cell?, Array.getElem?_eq_none h1] at h
def subF (q p : F) : F := (p.1 - q.1, p.2 - q.2)
def swF (p : F) : F := (p.2, p.1)
def scF (a b : Int) (p : F) : F := (a * p.1, b * p.2)

set_option maxRecDepth 4000 in
set_option maxHeartbeats 3200000 in
theorem gain_c (u v : Int) (b5 : Nat) (x y : Int) (w : World) (c0 : w.cell? ⟨b5, 0, none⟩ = some (.int .i64 u)) (c1 : w.cell? ⟨b5, 1, none⟩ = some (.int .i64 v)) (hx : -1000 ≤ x ∧ x ≤ 1000) (hy : -1000 ≤ y ∧ y ≤ 1000) (hu : -1000 ≤ u ∧ u ≤ 1000) (hv : -1000 ≤ v ∧ v ≤ 1000) (s t : Int) (hs : Hid (x - u = s)) (ht : Hid (y - v = t)) :
    Calls Try.prog 82 #[.agg #[.int .i64 x, .int .i64 y], .pointer (some ⟨b5, 0, none⟩)] w fun e w' => e = .returned (.agg #[.int .i64 s, .int .i64 t]) ∧ Below w.heap.size w w' := by
  obtain ⟨W0, hW0⟩ : ∃ W0, W0 = (w.alloc (.cells #[.int .i64 x, .int .i64 y] 30)).alloc (.cells #[.int .i64 0, .int .i64 0] 30) := ⟨_, rfl⟩
  have HB0 := hide (show Below w.heap.size w W0 from by rw [hW0]; exact ((Below.refl _ w).alloc (Nat.le_refl _) _).alloc (by simp) _)
  obtain ⟨x0, x1⟩ := two_at (show W0.heap[w.heap.size]? = some (.cells #[.int .i64 x, .int .i64 y] 30 (0, 0)) from by rw [hW0, Below.heap_alloc _ _ _ (by simp)]; exact heap_new_ w _)
  have hr : W0.heap[w.heap.size + 1]? = some (.cells #[.int .i64 0, .int .i64 0] 30 (0, 0)) := by
    rw [hW0]
    have := heap_new_ (w.alloc (.cells #[.int .i64 x, .int .i64 y] 30)) (.cells #[.int .i64 0, .int .i64 0] 30)
    rwa [World.size_alloc] at this
  have d0 : W0.cell? ⟨b5, 0, none⟩ = some (.int .i64 u) := by
    have hl := cell_lt c0
    rw [hW0, World.cell?_alloc_lt _ _ _ (by simp; omega), World.cell?_alloc_lt _ _ _ hl]; exact c0
  have d1 : W0.cell? ⟨b5, 1, none⟩ = some (.int .i64 v) := by
    have hl := cell_lt c1
    rw [hW0, World.cell?_alloc_lt _ _ _ (by simp; omega), World.cell?_alloc_lt _ _ _ hl]; exact c1
  clear c0 c1
  have hW1 : (w.alloc (.cells #[.int .i64 x, .int .i64 y] 30)).alloc (.cells #[.int .i64 0, .int .i64 0] 30) = W0 := hW0.symm
  clear hW0
  have f0 := free_at hr 0; have f1 := free_at hr 1
  obtain ⟨q0, q1⟩ := two_at hr
  have HPq := hide (put2 hr (.int .i64 s) (.int .i64 t))
  have HBq := hide (below_put2 (unhide HB0) (b := w.heap.size + 1) (by omega) (.int .i64 s) (.int .i64 t))
  clear hr
  have hs' := hs.out
  have ht' := ht.out
  clear hs ht
  go_enter Try.func82, Try.ntmps82
  go_upto_region 1 with fail
  clear hW1
  go_wp2_with fail
  obtain ⟨s0, s1⟩ := two_at (unhide HPq)
  exact bodyPost_ret (v := .agg #[.int .i64 s, .int .i64 t]) (by simp [results, Try.results82, go_sem, s0, s1]) rfl ⟨rfl, unhide HBq⟩

set_option maxRecDepth 4000 in
set_option maxHeartbeats 3200000 in
theorem swap_c  (x y : Int) (w : World)  (s t : Int) (hs : Hid (y = s)) (ht : Hid (x = t)) :
    Calls Try.prog 67 #[.agg #[.int .i64 x, .int .i64 y]] w fun e w' => e = .returned (.agg #[.int .i64 s, .int .i64 t]) ∧ Below w.heap.size w w' := by
  obtain rfl := hs.out
  obtain rfl := ht.out
  obtain ⟨W0, hW0⟩ : ∃ W0, W0 = (w.alloc (.cells #[.int .i64 x, .int .i64 y] 30)).alloc (.cells #[.int .i64 0, .int .i64 0] 30) := ⟨_, rfl⟩
  have HB0 := hide (show Below w.heap.size w W0 from by rw [hW0]; exact ((Below.refl _ w).alloc (Nat.le_refl _) _).alloc (by simp) _)
  obtain ⟨x0, x1⟩ := two_at (show W0.heap[w.heap.size]? = some (.cells #[.int .i64 x, .int .i64 y] 30 (0, 0)) from by rw [hW0, Below.heap_alloc _ _ _ (by simp)]; exact heap_new_ w _)
  have hr : W0.heap[w.heap.size + 1]? = some (.cells #[.int .i64 0, .int .i64 0] 30 (0, 0)) := by
    rw [hW0]
    have := heap_new_ (w.alloc (.cells #[.int .i64 x, .int .i64 y] 30)) (.cells #[.int .i64 0, .int .i64 0] 30)
    rwa [World.size_alloc] at this
  have hW1 : (w.alloc (.cells #[.int .i64 x, .int .i64 y] 30)).alloc (.cells #[.int .i64 0, .int .i64 0] 30) = W0 := hW0.symm
  clear hW0
  have f0 := free_at hr 0; have f1 := free_at hr 1
  obtain ⟨q0, q1⟩ := two_at hr
  have HPq := hide (put2 hr (.int .i64 y) (.int .i64 x))
  have HBq := hide (below_put2 (unhide HB0) (b := w.heap.size + 1) (by omega) (.int .i64 y) (.int .i64 x))
  clear hr
  clear hs ht
  go_enter Try.func67, Try.ntmps67
  go_upto_region 1 with fail
  clear hW1
  go_wp2_with fail
  obtain ⟨s0, s1⟩ := two_at (unhide HPq)
  exact bodyPost_ret (v := .agg #[.int .i64 y, .int .i64 x]) (by simp [results, Try.results67, go_sem, s0, s1]) rfl ⟨rfl, unhide HBq⟩

set_option maxRecDepth 4000 in
set_option maxHeartbeats 3200000 in
theorem scale_c (a b : Int) (b1 b2 : Nat) (x y : Int) (w : World) (c0 : w.cell? ⟨b1, 0, none⟩ = some (.int .i64 a)) (c1 : w.cell? ⟨b2, 0, none⟩ = some (.int .i64 b)) (hx : -1000 ≤ x ∧ x ≤ 1000) (hy : -1000 ≤ y ∧ y ≤ 1000) (ha : -1000 ≤ a ∧ a ≤ 1000) (hb : -1000 ≤ b ∧ b ≤ 1000) (s t : Int) (hs : Hid (a * x = s)) (ht : Hid (b * y = t)) :
    Calls Try.prog 78 #[.agg #[.int .i64 x, .int .i64 y], .pointer (some ⟨b1, 0, none⟩), .pointer (some ⟨b2, 0, none⟩)] w fun e w' => e = .returned (.agg #[.int .i64 s, .int .i64 t]) ∧ Below w.heap.size w w' := by
  obtain ⟨W0, hW0⟩ : ∃ W0, W0 = (w.alloc (.cells #[.int .i64 x, .int .i64 y] 30)).alloc (.cells #[.int .i64 0, .int .i64 0] 30) := ⟨_, rfl⟩
  have HB0 := hide (show Below w.heap.size w W0 from by rw [hW0]; exact ((Below.refl _ w).alloc (Nat.le_refl _) _).alloc (by simp) _)
  obtain ⟨x0, x1⟩ := two_at (show W0.heap[w.heap.size]? = some (.cells #[.int .i64 x, .int .i64 y] 30 (0, 0)) from by rw [hW0, Below.heap_alloc _ _ _ (by simp)]; exact heap_new_ w _)
  have hr : W0.heap[w.heap.size + 1]? = some (.cells #[.int .i64 0, .int .i64 0] 30 (0, 0)) := by
    rw [hW0]
    have := heap_new_ (w.alloc (.cells #[.int .i64 x, .int .i64 y] 30)) (.cells #[.int .i64 0, .int .i64 0] 30)
    rwa [World.size_alloc] at this
  have d0 : W0.cell? ⟨b1, 0, none⟩ = some (.int .i64 a) := by
    have hl := cell_lt c0
    rw [hW0, World.cell?_alloc_lt _ _ _ (by simp; omega), World.cell?_alloc_lt _ _ _ hl]; exact c0
  have d1 : W0.cell? ⟨b2, 0, none⟩ = some (.int .i64 b) := by
    have hl := cell_lt c1
    rw [hW0, World.cell?_alloc_lt _ _ _ (by simp; omega), World.cell?_alloc_lt _ _ _ hl]; exact c1
  clear c0 c1
  have hW1 : (w.alloc (.cells #[.int .i64 x, .int .i64 y] 30)).alloc (.cells #[.int .i64 0, .int .i64 0] 30) = W0 := hW0.symm
  clear hW0
  have f0 := free_at hr 0; have f1 := free_at hr 1
  obtain ⟨q0, q1⟩ := two_at hr
  have HPq := hide (put2 hr (.int .i64 s) (.int .i64 t))
  have HBq := hide (below_put2 (unhide HB0) (b := w.heap.size + 1) (by omega) (.int .i64 s) (.int .i64 t))
  clear hr
  have hs' := hs.out
  have ht' := ht.out
  clear hs ht
  have e1 := mul_bd (M := 1000) (N := 1000) ha hx
  have e2 := mul_bd (M := 1000) (N := 1000) hb hy
  rw [hs'] at e1; rw [ht'] at e2
  clear hx hy ha hb
  go_enter Try.func78, Try.ntmps78
  go_upto_region 1 with fail
  clear hW1
  go_wp2_with fail
  obtain ⟨s0, s1⟩ := two_at (unhide HPq)
  exact bodyPost_ret (v := .agg #[.int .i64 s, .int .i64 t]) (by simp [results, Try.results78, go_sem, s0, s1]) rfl ⟨rfl, unhide HBq⟩

theorem gain_map (u v : Int) (b5 : Nat) (w : World) (L : List F) (c0 : w.cell? ⟨b5, 0, none⟩ = some (.int .i64 u)) (c1 : w.cell? ⟨b5, 1, none⟩ = some (.int .i64 v)) (hL : ∀ x, x ∈ L → smallP 1000 x) (hu : smallP 1000 (u, v)) : MapAt 82 #[.pointer (some ⟨b5, 0, none⟩)] (subF (u, v)) w L := by
  intro x W hx hW
  have hb := cell_lt c0
  exact gain_c u v b5 x.1 x.2 W ((hW.cell (p := ⟨b5, 0, none⟩) hb).trans c0) ((hW.cell (p := ⟨b5, 1, none⟩) hb).trans c1) (hL x hx).1 (hL x hx).2 hu.1 hu.2 _ _ (hide rfl) (hide rfl)
theorem swap_map (w : World) (L : List F) : MapAt 67 #[] swF w L := by
  intro x W hx hW
  exact swap_c x.1 x.2 W _ _ (hide rfl) (hide rfl)
theorem scale_map (a b : Int) (b1 b2 : Nat) (w : World) (L : List F) (c0 : w.cell? ⟨b1, 0, none⟩ = some (.int .i64 a)) (c1 : w.cell? ⟨b2, 0, none⟩ = some (.int .i64 b)) (hL : ∀ x, x ∈ L → smallP 1000 x) (ha : smallP 1000 (a, b)) : MapAt 78 #[.pointer (some ⟨b1, 0, none⟩), .pointer (some ⟨b2, 0, none⟩)] (scF a b) w L := by
  intro x W hx hW
  have h1 := cell_lt c0
  have h2 := cell_lt c1
  exact scale_c a b b1 b2 x.1 x.2 W ((hW.cell (p := ⟨b1, 0, none⟩) h1).trans c0) ((hW.cell (p := ⟨b2, 0, none⟩) h2).trans c1) (hL x hx).1 (hL x hx).2 ha.1 ha.2 _ _ (hide rfl) (hide rfl)
theorem enter82 : ∀ args w, (callFunc 82 args).run Try.prog w = .ok (.enter 82 args) w := enters_of Try.func82 (by kernel_rfl) rfl
theorem enter67 : ∀ args w, (callFunc 67 args).run Try.prog w = .ok (.enter 67 args) w := enters_of Try.func67 (by kernel_rfl) rfl
theorem enter78 : ∀ args w, (callFunc 78 args).run Try.prog w = .ok (.enter 78 args) w := enters_of Try.func78 (by kernel_rfl) rfl
end Go.Proofs.Ytbgfiejaehpffaa
