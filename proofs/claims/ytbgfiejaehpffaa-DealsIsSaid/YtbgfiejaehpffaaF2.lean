/-
  whole, plus, times, part: of the program, of the reference.
-/
import Derived.Test.YtbgfiejaehpffaaF1b
namespace Go.Proofs.Ytbgfiejaehpffaa
open Go.RowKit

theorem quiet_more {f : FuncId} {args : Array Value} {W : World} {n : Nat} {v : Value} (h : Calls Try.prog f args (W.drewN n) fun e w' => e = .returned v ∧ ∃ r, w' = (W.drewN n).drewN r) : Calls Try.prog f args (W.drewN n) fun e w'' => e = .returned v ∧ ∃ m, w'' = W.drewN m :=
  h.mono fun _ _ ⟨e, r, hw⟩ => ⟨e, n + r, by rw [hw, World.drewN_drewN]⟩
theorem fr_whole (k : Int) : Fr (Rat.divInt k 1) k 1 := by
  have e : Rat.divInt k 1 = (k : Rat) := by rw [Rat.divInt_eq_div]; grind
  exact ⟨by rw [e, Rat.num_intCast], by rw [e, Rat.den_intCast]; rfl⟩

set_option maxRecDepth 4000 in
set_option maxHeartbeats 1600000 in
theorem whole_any (k : Int) (w : World) (hk : -9000000000000000000 ≤ k ∧ k ≤ 9000000000000000000) :
    Calls Try.prog 57 #[.int .i64 k] w fun e w' => e = .returned (.agg #[.int .i64 k, .int .i64 1]) ∧ Below w.heap.size w w' := by
  obtain ⟨W0, hW0⟩ : ∃ W0, W0 = w.alloc (.cells #[.int .i64 0, .int .i64 0] 32) := ⟨_, rfl⟩
  have HB0 := hide (show Below w.heap.size w W0 from by rw [hW0]; exact (Below.refl _ w).alloc (Nat.le_refl _) _)
  have hr := hide (show W0.heap[w.heap.size]? = some (.cells #[.int .i64 0, .int .i64 0] 32 (0, 0)) from by rw [hW0]; exact heap_new_ w _)
  go_enter Try.func57, Try.ntmps57
  go_wp2_with fail
  rw [← hW0]
  refine (quotient_any k 1 W0 hk (by omega) k 1 (hide (fr_whole k))).mono ?_
  rintro e w1 ⟨rfl, b1⟩
  have hr1 := (b1.block _ (Array.getElem?_eq_some_iff.1 (unhide hr)).1).trans (unhide hr)
  have HB1 := hide ((unhide HB0).trans (b1.mono (unhide HB0).size))
  clear hW0 b1
  have f0 := free_at hr1 0; have f1 := free_at hr1 1
  obtain ⟨q0, q1⟩ := two_at hr1
  have HPq := hide (put2 hr1 (.int .i64 k) (.int .i64 1))
  have HBq := hide (below_put2 (unhide HB1) (b := w.heap.size) (Nat.le_refl _) (.int .i64 k) (.int .i64 1))
  clear hr1
  go_wp2_with fail
  obtain ⟨s0, s1⟩ := two_at (unhide HPq)
  exact bodyPost_ret (v := .agg #[.int .i64 k, .int .i64 1]) (by simp [results, Try.results57, go_sem, s0, s1]) rfl ⟨rfl, unhide HBq⟩
set_option maxRecDepth 4000 in
theorem RWhole_any (k : Int) (w : World) :
    Calls Try.prog 61 #[.int .i64 k] w fun e w' => e = .returned (.agg #[.int .i64 k, .int .i64 1]) ∧ Below w.heap.size w w' := by
  obtain ⟨W0, hW0⟩ : ∃ W0, W0 = w.alloc (.cells #[.int .i64 0, .int .i64 0] 32) := ⟨_, rfl⟩
  have HB1 := hide (show Below w.heap.size w W0 from by rw [hW0]; exact (Below.refl _ w).alloc (Nat.le_refl _) _)
  have hr1 : W0.heap[w.heap.size]? = some (.cells #[.int .i64 0, .int .i64 0] 32 (0, 0)) := by rw [hW0]; exact heap_new_ w _
  have f0 := free_at hr1 0; have f1 := free_at hr1 1
  obtain ⟨q0, q1⟩ := two_at hr1
  have HPq := hide (put2 hr1 (.int .i64 k) (.int .i64 1))
  have HBq := hide (below_put2 (unhide HB1) (b := w.heap.size) (Nat.le_refl _) (.int .i64 k) (.int .i64 1))
  clear hr1
  go_enter Try.func61, Try.ntmps61
  go_upto_region 1 with fail
  rw [← hW0]
  clear hW0
  go_wp2_with fail
  obtain ⟨s0, s1⟩ := two_at (unhide HPq)
  exact bodyPost_ret (v := .agg #[.int .i64 k, .int .i64 1]) (by simp [results, Try.results61, go_sem, s0, s1]) rfl ⟨rfl, unhide HBq⟩

theorem put2_other {W : World} {b b' : Nat} (h : b' ≠ b) (v0 v1 : Value) {i : Nat} {v : Option Value} (hv : W.cell? ⟨b', i, none⟩ = v) : ((W.setCell ⟨b, 0, none⟩ v0).setCell ⟨b, 1, none⟩ v1).cell? ⟨b', i, none⟩ = v :=
  (World.cell?_of_block ((heap_setCell_other _ ⟨b, 1, none⟩ b' v1 h).trans (heap_setCell_other _ ⟨b, 0, none⟩ b' v0 h))).trans hv
/-- The world with the two fractions and the result's cell laid. -/
def lay2 (w : World) (t : TypeId) (a b c d : Int) : World := ((w.alloc (.cells #[.int .i64 a, .int .i64 b] t)).alloc (.cells #[.int .i64 c, .int .i64 d] t)).alloc (.cells #[.int .i64 0, .int .i64 0] t)
theorem lay2_below (w : World) (t : TypeId) (a b c d : Int) : Below w.heap.size w (lay2 w t a b c d) := (((Below.refl _ w).alloc (Nat.le_refl _) _).alloc (by simp) _).alloc (by simp; omega) _
theorem lay2_size (w : World) (t : TypeId) (a b c d : Int) : (lay2 w t a b c d).heap.size = w.heap.size + 3 := by simp [lay2]
theorem lay2_0 (w : World) (t : TypeId) (a b c d : Int) : (lay2 w t a b c d).heap[w.heap.size]? = some (.cells #[.int .i64 a, .int .i64 b] t (0, 0)) := by
  unfold lay2
  rw [Below.heap_alloc _ _ _ (by simp; omega), Below.heap_alloc _ _ _ (by simp)]; exact heap_new_ w _
theorem lay2_1 (w : World) (t : TypeId) (a b c d : Int) : (lay2 w t a b c d).heap[w.heap.size + 1]? = some (.cells #[.int .i64 c, .int .i64 d] t (0, 0)) := by
  unfold lay2
  rw [Below.heap_alloc _ _ _ (by simp)]
  have := heap_new_ (w.alloc (.cells #[.int .i64 a, .int .i64 b] t)) (.cells #[.int .i64 c, .int .i64 d] t)
  rwa [World.size_alloc] at this
theorem lay2_2 (w : World) (t : TypeId) (a b c d : Int) : (lay2 w t a b c d).heap[w.heap.size + 1 + 1]? = some (.cells #[.int .i64 0, .int .i64 0] t (0, 0)) := by
  unfold lay2
  have := heap_new_ ((w.alloc (.cells #[.int .i64 a, .int .i64 b] t)).alloc (.cells #[.int .i64 c, .int .i64 d] t)) (.cells #[.int .i64 0, .int .i64 0] t)
  rwa [World.size_alloc, World.size_alloc] at this

set_option maxRecDepth 4000 in
set_option maxHeartbeats 3200000 in
theorem times_any (a b c d : Int) (w : World) (h1 : -9000000000000000000 ≤ a * c ∧ a * c ≤ 9000000000000000000) (h2 : 1 ≤ b * d ∧ b * d ≤ 9000000000000000000) (n m : Int) (hf : Hid (Fr (Rat.divInt (a * c) (b * d)) n m)) :
    Calls Try.prog 59 #[.agg #[.int .i64 a, .int .i64 b], .agg #[.int .i64 c, .int .i64 d]] w fun e w' => e = .returned (.agg #[.int .i64 n, .int .i64 m]) ∧ Below w.heap.size w w' := by
  obtain ⟨W0, hW0⟩ : ∃ W0, W0 = lay2 w 32 a b c d := ⟨_, rfl⟩
  have HB0 := hide (show Below w.heap.size w W0 from by rw [hW0]; exact lay2_below w 32 a b c d)
  have hr := hide (show W0.heap[w.heap.size + 1 + 1]? = some (.cells #[.int .i64 0, .int .i64 0] 32 (0, 0)) from by rw [hW0]; exact lay2_2 w 32 a b c d)
  obtain ⟨x0, x1⟩ := two_at (show W0.heap[w.heap.size]? = some (.cells #[.int .i64 a, .int .i64 b] 32 (0, 0)) from by rw [hW0]; exact lay2_0 w 32 a b c d)
  obtain ⟨y0, y1⟩ := two_at (show W0.heap[w.heap.size + 1]? = some (.cells #[.int .i64 c, .int .i64 d] 32 (0, 0)) from by rw [hW0]; exact lay2_1 w 32 a b c d)
  have hW1 : ((w.alloc (.cells #[.int .i64 a, .int .i64 b] 32)).alloc (.cells #[.int .i64 c, .int .i64 d] 32)).alloc (.cells #[.int .i64 0, .int .i64 0] 32) = W0 := hW0.symm
  clear hW0
  revert h1 h2 hf
  obtain ⟨p, hp⟩ : ∃ p, a * c = p := ⟨_, rfl⟩
  obtain ⟨q, hq⟩ : ∃ p, b * d = p := ⟨_, rfl⟩
  rw [hp, hq]
  rintro ⟨h11, h12⟩ ⟨h21, h22⟩ hf
  have HC := hide (fun W => quotient_any p q W ⟨h11, h12⟩ ⟨h21, h22⟩ n m hf)
  go_enter Try.func59, Try.ntmps59
  go_upto_region 1 with fail
  clear hW1
  go_wp2_with fail
  refine ((unhide HC) W0).mono ?_
  rintro e w1 ⟨rfl, b1⟩
  have hr1 := (b1.block _ (Array.getElem?_eq_some_iff.1 (unhide hr)).1).trans (unhide hr)
  have HB1 := hide ((unhide HB0).trans (b1.mono (unhide HB0).size))
  clear b1 x0 x1 y0 y1
  have f0 := free_at hr1 0; have f1 := free_at hr1 1
  obtain ⟨q0, q1⟩ := two_at hr1
  have HPq := hide (put2 hr1 (.int .i64 n) (.int .i64 m))
  have HBq := hide (below_put2 (unhide HB1) (b := w.heap.size + 1 + 1) (by omega) (.int .i64 n) (.int .i64 m))
  clear hr1
  go_wp2_with fail
  obtain ⟨s0, s1⟩ := two_at (unhide HPq)
  exact bodyPost_ret (v := .agg #[.int .i64 n, .int .i64 m]) (by simp [results, Try.results59, go_sem, s0, s1]) rfl ⟨rfl, unhide HBq⟩
set_option maxRecDepth 4000 in
set_option maxHeartbeats 3200000 in
theorem RTimes_any (a b c d : Int) (w : World) (h1 : -9000000000000000000 ≤ a * c ∧ a * c ≤ 9000000000000000000) (h2 : 1 ≤ b * d ∧ b * d ≤ 9000000000000000000) (n m : Int) (hf : Hid (Fr (Rat.divInt (a * c) (b * d)) n m)) :
    Calls Try.prog 63 #[.agg #[.int .i64 a, .int .i64 b], .agg #[.int .i64 c, .int .i64 d]] w fun e w' => e = .returned (.agg #[.int .i64 n, .int .i64 m]) ∧ Below w.heap.size w w' := by
  obtain ⟨W0, hW0⟩ : ∃ W0, W0 = lay2 w 32 a b c d := ⟨_, rfl⟩
  have HB0 := hide (show Below w.heap.size w W0 from by rw [hW0]; exact lay2_below w 32 a b c d)
  have hr := hide (show W0.heap[w.heap.size + 1 + 1]? = some (.cells #[.int .i64 0, .int .i64 0] 32 (0, 0)) from by rw [hW0]; exact lay2_2 w 32 a b c d)
  obtain ⟨x0, x1⟩ := two_at (show W0.heap[w.heap.size]? = some (.cells #[.int .i64 a, .int .i64 b] 32 (0, 0)) from by rw [hW0]; exact lay2_0 w 32 a b c d)
  obtain ⟨y0, y1⟩ := two_at (show W0.heap[w.heap.size + 1]? = some (.cells #[.int .i64 c, .int .i64 d] 32 (0, 0)) from by rw [hW0]; exact lay2_1 w 32 a b c d)
  have hW1 : ((w.alloc (.cells #[.int .i64 a, .int .i64 b] 32)).alloc (.cells #[.int .i64 c, .int .i64 d] 32)).alloc (.cells #[.int .i64 0, .int .i64 0] 32) = W0 := hW0.symm
  clear hW0
  revert h1 h2 hf
  obtain ⟨p, hp⟩ : ∃ p, a * c = p := ⟨_, rfl⟩
  obtain ⟨q, hq⟩ : ∃ p, b * d = p := ⟨_, rfl⟩
  rw [hp, hq]
  rintro ⟨h11, h12⟩ ⟨h21, h22⟩ hf
  have HC := hide (fun W => RFrac_any p q W ⟨h11, h12⟩ ⟨h21, h22⟩ n m hf)
  go_enter Try.func63, Try.ntmps63
  go_upto_region 1 with fail
  clear hW1
  go_wp2_with fail
  refine ((unhide HC) W0).mono ?_
  rintro e w1 ⟨rfl, b1⟩
  have hr1 := (b1.block _ (Array.getElem?_eq_some_iff.1 (unhide hr)).1).trans (unhide hr)
  have HB1 := hide ((unhide HB0).trans (b1.mono (unhide HB0).size))
  clear b1 x0 x1 y0 y1
  have f0 := free_at hr1 0; have f1 := free_at hr1 1
  obtain ⟨q0, q1⟩ := two_at hr1
  have HPq := hide (put2 hr1 (.int .i64 n) (.int .i64 m))
  have HBq := hide (below_put2 (unhide HB1) (b := w.heap.size + 1 + 1) (by omega) (.int .i64 n) (.int .i64 m))
  clear hr1
  go_wp2_with fail
  obtain ⟨s0, s1⟩ := two_at (unhide HPq)
  exact bodyPost_ret (v := .agg #[.int .i64 n, .int .i64 m]) (by simp [results, Try.results63, go_sem, s0, s1]) rfl ⟨rfl, unhide HBq⟩

end Go.Proofs.Ytbgfiejaehpffaa
