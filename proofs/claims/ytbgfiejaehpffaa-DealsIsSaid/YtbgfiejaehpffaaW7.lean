/-
  slices.Compare at two numbers each, the closure of byX.
-/
import Derived.Test.YtbgfiejaehpffaaW6
import Derived.Sort.Grow
namespace Go.Proofs.Ytbgfiejaehpffaa
open Go.RowKit

/-- The order by x, then by y. -/
def cmp2 (p q : F) : Int := if p.1 = q.1 then cmpI p.2 q.2 else cmpI p.1 q.1

set_option maxRecDepth 100000 in
set_option maxHeartbeats 2000000 in
theorem compare2_any (b1 b2 : Nat) (x1 x2 y1 y2 : Int) (w : World) (h1 : w.cell? ⟨b1, 0, none⟩ = some (.int .i64 x1)) (h2 : w.cell? ⟨b1, 1, none⟩ = some (.int .i64 x2)) (k1 : w.cell? ⟨b2, 0, none⟩ = some (.int .i64 y1)) (k2 : w.cell? ⟨b2, 1, none⟩ = some (.int .i64 y2)) :
    Calls Try.prog 89 #[.slice (some ⟨b1, 0, none⟩) 2 2, .slice (some ⟨b2, 0, none⟩) 2 2] w fun e w' => e = .returned (.int .i64 (cmp2 (x1, x2) (y1, y2))) ∧ w = w' := by
  go_enter Try.func89, Try.ntmps89
  go_wp2_with fail
  go_loop [11] (fun i => Hid ((i = .int .i64 0) ∨ (i = .int .i64 1 ∧ x1 = y1) ∨ (i = .int .i64 2 ∧ x1 = y1 ∧ x2 = y2))) (fun i => 2 - (intOf i).toNat)
  case atStart => exact hide (.inl rfl)
  case round =>
    rcases hrel.out with rfl | ⟨rfl, hx1⟩ | ⟨rfl, hx1, hx2⟩
    · clear hrel
      by_cases hx : x1 = y1
      · have HX := hide hx
        have hcz : cmpI x1 y1 = 0 := by unfold cmpI; rw [if_neg (by omega), if_neg (by omega)]
        have HC := hide (fun W => cmp_any x1 y1 W 0 (hide hcz))
        have hz : ((0 : Int) != 0) = false := by decide
        clear hx hcz
        go_wp2_with (go_at_call 99; refine ((unhide HC) _).mono ?_; rintro e w' ⟨rfl, rfl⟩)
        go_round
        case rel => exact hide (.inr (.inl ⟨rfl, HX.out⟩))
        case measure => simp [intOf]
      · obtain ⟨r, hr⟩ : ∃ r, cmpI x1 y1 = r := ⟨_, rfl⟩
        have hr0 : r ≠ 0 := by rw [← hr]; unfold cmpI; split <;> (try split) <;> omega
        have hz : (r != 0) = true := by simp; exact hr0
        have HC := hide (fun W => cmp_any x1 y1 W r (hide hr))
        have HE := hide (show r = cmp2 (x1, x2) (y1, y2) from by rw [← hr]; unfold cmp2; rw [if_neg hx])
        clear hr hx hr0
        go_wp2_with (go_at_call 99; refine ((unhide HC) _).mono ?_; rintro e w' ⟨rfl, rfl⟩)
        go_ret
        exact ⟨ret_int HE.out, rfl⟩
    · clear hrel
      have HX1 := hide hx1
      clear hx1
      by_cases hx : x2 = y2
      · have HX := hide hx
        have hcz : cmpI x2 y2 = 0 := by unfold cmpI; rw [if_neg (by omega), if_neg (by omega)]
        have HC := hide (fun W => cmp_any x2 y2 W 0 (hide hcz))
        have hz : ((0 : Int) != 0) = false := by decide
        clear hx hcz
        go_wp2_with (go_at_call 99; refine ((unhide HC) _).mono ?_; rintro e w' ⟨rfl, rfl⟩)
        go_round
        case rel => exact hide (.inr (.inr ⟨rfl, HX1.out, HX.out⟩))
        case measure => simp [intOf]
      · obtain ⟨r, hr⟩ : ∃ r, cmpI x2 y2 = r := ⟨_, rfl⟩
        have hr0 : r ≠ 0 := by rw [← hr]; unfold cmpI; split <;> (try split) <;> omega
        have hz : (r != 0) = true := by simp; exact hr0
        have HC := hide (fun W => cmp_any x2 y2 W r (hide hr))
        have HE := hide (show r = cmp2 (x1, x2) (y1, y2) from by rw [← hr]; unfold cmp2; rw [if_pos HX1.out])
        clear hr hx hr0
        go_wp2_with (go_at_call 99; refine ((unhide HC) _).mono ?_; rintro e w' ⟨rfl, rfl⟩)
        go_ret
        exact ⟨ret_int HE.out, rfl⟩
    · have HE := hide (show 0 = cmp2 (x1, x2) (y1, y2) from by unfold cmp2; rw [if_pos hx1]; unfold cmpI; rw [if_neg (by simp; omega), if_neg (by simp; omega)])
      clear hrel hx1 hx2
      go_wp2_with fail
      go_ret
      exact ⟨ret_int HE.out, rfl⟩

theorem quiet_left {P : Program} {f : FuncId} {args : Array Value} {w : World} {n : Nat} {v : Value}
    (h : Calls P f args (w.drewN n) fun e w' => e = .returned v ∧ w.drewN n = w') : Calls P f args (w.drewN n) fun e w'' => e = .returned v ∧ ∃ m, w'' = w.drewN m :=
  h.mono fun _ _ ⟨he, hm⟩ => ⟨he, n, hm.symm⟩
theorem drewN_grow (w : World) (n : Nat) (os : Array Obj) : (Sort.grow w os).drewN n = Sort.grow (w.drewN n) os := rfl
set_option maxRecDepth 100000 in
set_option maxHeartbeats 2000000 in
theorem byX_c (p q : F) (w : World) :
    Calls Try.prog 88 #[.agg #[.int .i64 p.1, .int .i64 p.2], .agg #[.int .i64 q.1, .int .i64 q.2]] w fun e w' => e = .returned (.int .i64 (cmp2 p q)) ∧ ∃ n os, w' = Sort.grow (w.drewN n) os := by
  obtain ⟨x1, x2⟩ := p
  obtain ⟨y1, y2⟩ := q
  obtain ⟨W0, hW0⟩ : ∃ W0, W0 = (w.alloc (.cells #[.int .i64 x1, .int .i64 x2] 30)).alloc (.cells #[.int .i64 y1, .int .i64 y2] 30) := ⟨_, rfl⟩
  obtain ⟨h1, h2⟩ := two_at (show W0.heap[w.heap.size]? = some (.cells #[.int .i64 x1, .int .i64 x2] 30 (0, 0)) from by rw [hW0, Below.heap_alloc _ _ _ (by simp)]; exact heap_new_ w _)
  obtain ⟨k1, k2⟩ := two_at (show W0.heap[w.heap.size + 1]? = some (.cells #[.int .i64 y1, .int .i64 y2] 30 (0, 0)) from by
    rw [hW0]
    have := heap_new_ (w.alloc (.cells #[.int .i64 x1, .int .i64 x2] 30)) (.cells #[.int .i64 y1, .int .i64 y2] 30)
    rwa [World.size_alloc] at this)
  have HG := hide (show ∃ os, W0 = Sort.grow w os from ⟨_, by rw [hW0, Sort.alloc_eq_grow, Sort.alloc_eq_grow, Sort.grow_grow]⟩)
  have hW1 : (w.alloc (.cells #[.int .i64 x1, .int .i64 x2] 30)).alloc (.cells #[.int .i64 y1, .int .i64 y2] 30) = W0 := hW0.symm
  clear hW0
  have HC := hide (fun n => compare2_any w.heap.size (w.heap.size + 1) x1 x2 y1 y2 (W0.drewN n) h1 h2 k1 k2)
  obtain ⟨r, hr⟩ : ∃ r, cmp2 (x1, x2) (y1, y2) = r := ⟨_, rfl⟩
  rw [hr] at HC ⊢
  clear hr h1 h2 k1 k2
  go_enter Try.func88, Try.ntmps88
  go_upto_region 1 with fail
  clear hW1
  go_quiet ((go_at_call 89; exact quiet_left ((unhide HC) _)))
  go_wp2_with fail
  go_ret
  obtain ⟨os, rfl⟩ := HG.out
  exact ⟨rfl, _, os, drewN_grow _ _ _⟩
end Go.Proofs.Ytbgfiejaehpffaa
