/-
  Points compared; Halves of the program; awake: the call that every correct program passes.
-/
import Derived.Test.YtbgfiejaehpffaaY4
namespace Go.Proofs.Ytbgfiejaehpffaa
open Go.RowKit

theorem eqI4 (t : TypeId) (ht : Try.prog.underlying t = some (.struct (Try.prog.fieldsOf t))) (hp : Try.prog.stoodInHeld t = false) (hf : (Try.prog.fieldsOf t).toList.map (fun f => (f.type, f.offset, f.name == "_")) = [(32, 0, false), (32, 2, false)]) (a b c d a' b' c' d' : Int) (n : Nat) (w : World) :
    (Op.equalIn (n + 1 + 1 + 1) t (.agg #[.int .i64 a, .int .i64 b, .int .i64 c, .int .i64 d]) (.agg #[.int .i64 a', .int .i64 b', .int .i64 c', .int .i64 d'])).run Try.prog w = .ok (decide (((a, b) : F) = (a', b')) && decide (((c, d) : F) = (c', d'))) w := by
  have a32 := Try.isAgg32
  have z32 := Try.sizeOf32
  have e1 := fun w => eqI2 32 (by kernel_rfl) (by kernel_rfl) (by kernel_rfl) a b a' b' n w
  have e2 := fun w => eqI2 32 (by kernel_rfl) (by kernel_rfl) (by kernel_rfl) c d c' d' n w
  generalize decide (((a, b) : F) = (a', b')) = z1 at e1 ⊢
  generalize decide (((c, d) : F) = (c', d')) = z2 at e2 ⊢
  rw [run_equalIn_agg w (n + 1 + 1) t _ _ ht hp]
  generalize (Try.prog.fieldsOf t).toList = fs at hf
  rcases fs with _ | ⟨f0, _ | ⟨f1, _ | ⟨f2, fs⟩⟩⟩
  · simp at hf
  · simp at hf
  · simp only [List.map_cons, List.map_nil, List.cons.injEq, Prod.mk.injEq, and_true] at hf
    obtain ⟨⟨t0, o0, n0⟩, ⟨t1, o1, n1⟩⟩ := hf
    have m0 : f0.name ≠ "_" := by simpa using n0
    have m1 : f1.name ≠ "_" := by simpa using n1
    simp only [Op.eqFields, t0, t1, o0, o1, if_pos m0, if_pos m1]
    have p1 : ∀ w, (part 32 #[.int .i64 a, .int .i64 b, .int .i64 c, .int .i64 d] 0).run Try.prog w = .ok (.agg #[.int .i64 a, .int .i64 b]) w := fun w => by go_simp
    have p2 : ∀ w, (part 32 #[.int .i64 a', .int .i64 b', .int .i64 c', .int .i64 d'] 0).run Try.prog w = .ok (.agg #[.int .i64 a', .int .i64 b']) w := fun w => by go_simp
    have p3 : ∀ w, (part 32 #[.int .i64 a, .int .i64 b, .int .i64 c, .int .i64 d] 2).run Try.prog w = .ok (.agg #[.int .i64 c, .int .i64 d]) w := fun w => by go_simp
    have p4 : ∀ w, (part 32 #[.int .i64 a', .int .i64 b', .int .i64 c', .int .i64 d'] 2).run Try.prog w = .ok (.agg #[.int .i64 c', .int .i64 d']) w := fun w => by go_simp
    simp only [Sem.run_bind, p1, p2, p3, p4, e1, e2, Result.andThen_ok]
    cases z1 <;> cases z2 <;> simp [Sem.run_pure, Result.andThen_ok, p3, p4, e2]
  · simp at hf
theorem eql37 (a b c d a' b' c' d' : Int) (w : World) : (binOp .eql 37 (.agg #[.int .i64 a, .int .i64 b, .int .i64 c, .int .i64 d]) (.agg #[.int .i64 a', .int .i64 b', .int .i64 c', .int .i64 d'])).run Try.prog w = .ok (.bool (decide (((a, b) : F) = (a', b')) && decide (((c, d) : F) = (c', d')))) w := by
  rw [run_eql_struct, show (10000 : Nat) = 9997 + 1 + 1 + 1 from rfl, eqI4 37 (by kernel_rfl) (by kernel_rfl) (by kernel_rfl)]; rfl

set_option maxRecDepth 100000 in
set_option maxHeartbeats 4000000 in
theorem halves_of (A : Option Addr) (n c : Nat) (fs : List F) (fx fy : Int) (a b cc d ec : Int) (w : World) (h : Fs w w.heap.size A n c fs)
    (hc : ∀ W, Fs W W.heap.size A n c fs → Calls Try.prog 69 #[.int .i64 2, .slice A n c, .agg #[.int .i64 fx, .int .i64 fy]] W fun e w' => e = .returned (.tuple #[.agg #[.int .i64 a, .int .i64 b, .int .i64 cc, .int .i64 d], .int .i64 ec]) ∧ Below W.heap.size W w') :
    Calls Try.prog 44 #[.slice A n c, .agg #[.int .i64 fx, .int .i64 fy]] w fun e w' => e = .returned (.tuple #[.agg #[.int .i64 a, .int .i64 b, .int .i64 cc, .int .i64 d], .int .i64 ec]) ∧ Below w.heap.size w w' := by
  obtain ⟨W0, hW0⟩ : ∃ W0, W0 = (w.alloc (.cells #[.int .i64 fx, .int .i64 fy] 30)).alloc (.cells #[.int .i64 0, .int .i64 0, .int .i64 0, .int .i64 0] 37) := ⟨_, rfl⟩
  have HB0 := hide (show Below w.heap.size w W0 from by rw [hW0]; exact ((Below.refl _ w).alloc (Nat.le_refl _) _).alloc (by simp) _)
  obtain ⟨x0, x1⟩ := two_at (show W0.heap[w.heap.size]? = some (.cells #[.int .i64 fx, .int .i64 fy] 30 (0, 0)) from by rw [hW0, Below.heap_alloc _ _ _ (by simp)]; exact heap_new_ w _)
  have HR0 := hide (show W0.heap[w.heap.size + 1]? = some (.cells #[.int .i64 0, .int .i64 0, .int .i64 0, .int .i64 0] 37 (0, 0)) from by
    rw [hW0]
    have := heap_new_ (w.alloc (.cells #[.int .i64 fx, .int .i64 fy] 30)) (.cells #[.int .i64 0, .int .i64 0, .int .i64 0, .int .i64 0] 37)
    rwa [World.size_alloc] at this)
  have HC := hide (hc W0 ((h.below (unhide HB0)).more (unhide HB0).size))
  have hW : (w.alloc (.cells #[.int .i64 fx, .int .i64 fy] 30)).alloc (.cells #[.int .i64 0, .int .i64 0, .int .i64 0, .int .i64 0] 37) = W0 := hW0.symm
  clear hW0 h hc
  go_enter Try.func44, Try.ntmps44
  go_upto_region 1 with fail
  clear hW
  go_wp2_with fail
  refine (unhide HC).mono ?_
  rintro e w1 ⟨rfl, b1⟩
  have hr3 := (b1.block _ (Array.getElem?_eq_some_iff.1 (unhide HR0)).1).trans (unhide HR0)
  have HBc := hide ((unhide HB0).trans (b1.mono (unhide HB0).size))
  clear b1 x0 x1
  have f0 := free_at hr3 0; have f1 := free_at hr3 1; have f2 := free_at hr3 2; have f3 := free_at hr3 3
  obtain ⟨q0, q1, q2, q3⟩ := four_at hr3
  have HP := hide (put4 hr3 (.int .i64 a) (.int .i64 b) (.int .i64 cc) (.int .i64 d))
  have HBz := hide (below_put4 (unhide HBc) (b := w.heap.size + 1) (by omega) (.int .i64 a) (.int .i64 b) (.int .i64 cc) (.int .i64 d))
  clear hr3
  go_wp2_with fail
  obtain ⟨s0, s1, s2, s3⟩ := four_at (unhide HP)
  exact bodyPost_ret (v := .tuple #[.agg #[.int .i64 a, .int .i64 b, .int .i64 cc, .int .i64 d], .int .i64 ec]) (by simp [results, Try.results44, go_sem, s0, s1, s2, s3]) rfl ⟨rfl, unhide HBz⟩

def awF : List F := [(0, 10), (10, 0)]
theorem aw_off : offB awF = true := by decide +kernel
theorem aw_pr : prB ((0 : Int), (0 : Int)) = true := by decide +kernel
theorem aw_lim : limG awF ((0 : Int), (0 : Int)) = [(0, 1, 10), (1, 0, 10), (10, 10, 100)] := by decide +kernel
theorem aw_room : (limG awF ((0 : Int), (0 : Int))).any noRoom = false := by rw [aw_lim]; decide +kernel
theorem aw_min : IsMin 1 1 (limG awF ((0 : Int), (0 : Int))) 5 := by
  rw [aw_lim]
  refine ⟨⟨(10, 10, 100), by simp, by decide +kernel, by decide +kernel⟩, ?_⟩
  intro l hl hp
  simp at hl
  rcases hl with rfl | rfl | rfl <;> decide +kernel
theorem aw_fr : Fr ((5 : Rat) + ((0 : Int) : Rat)) 5 1 := ⟨by decide +kernel, by decide +kernel⟩

theorem fs_two (w : World) (a b c d : Int) : Fs (w.alloc (.cells #[.int .i64 a, .int .i64 b, .int .i64 c, .int .i64 d] 30)) (w.heap.size + 1) (some ⟨w.heap.size, 0, none⟩) 2 2 [(a, b), (c, d)] := by
  obtain ⟨c0, c1, c2, c3⟩ := four_at (heap_new_ w (.cells #[.int .i64 a, .int .i64 b, .int .i64 c, .int .i64 d] 30))
  refine ⟨rfl, Nat.le_refl _, by omega, (fun e => by cases e), fun j hj => ?_⟩
  rcases j with _ | _ | j
  · exact ⟨_, _, rfl, by omega, c0, c1⟩
  · exact ⟨_, _, rfl, by omega, c2, c3⟩
  · omega
set_option maxRecDepth 100000 in
set_option maxHeartbeats 4000000 in
theorem awake_any (w : World) : Calls Try.prog 18 #[] w fun e w' => e = .returned (.bool true) ∧ Below w.heap.size w w' := by
  have HG := hide (fs_two w 0 10 10 0)
  have HB := hide ((Below.refl w.heap.size w).alloc (Nat.le_refl _) (.cells #[.int .i64 0, .int .i64 10, .int .i64 10, .int .i64 0] 30))
  have HC := hide (halves_of (some ⟨w.heap.size, 0, none⟩) 2 2 awF 0 0 5 1 5 1 0 (w.alloc (.cells #[.int .i64 0, .int .i64 10, .int .i64 10, .int .i64 0] 30)) ((unhide HG).more (by simp)) (fun W hW => settle2_ok _ _ _ awF 0 0 W hW (hide aw_off) (hide aw_pr) (hide aw_room) 5 (hide aw_min) 5 1 5 1 (hide aw_fr) (hide aw_fr)))
  have he := eql37 5 1 5 1 5 1 5 1
  have hd : (decide ((((5 : Int), (1 : Int)) : F) = (5, 1)) && decide ((((5 : Int), (1 : Int)) : F) = (5, 1))) = true := by decide
  rw [hd] at he
  clear hd HG
  go_enter Try.func18, Try.ntmps18
  go_wp2_with fail
  refine (unhide HC).mono ?_
  rintro e w1 ⟨rfl, b1⟩
  have HB1 := hide ((unhide HB).trans (b1.mono (unhide HB).size))
  have HB2 := hide ((unhide HB1).alloc (unhide HB1).size (.cells #[.int .i64 5, .int .i64 1, .int .i64 5, .int .i64 1] 37))
  clear b1
  go_wp2_with fail
  go_ret
  exact ⟨rfl, unhide HB2⟩
end Go.Proofs.Ytbgfiejaehpffaa
