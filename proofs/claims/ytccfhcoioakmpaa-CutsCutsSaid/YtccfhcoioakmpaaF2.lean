/-
  divide of the program.
-/
import Derived.Test.YtccfhcoioakmpaaF1
import Derived.StillTailTactics
namespace Go.Proofs.Ytccfhcoioakmpaa
open Go.RowKit

set_option maxHeartbeats 400000 in
theorem floor_big (a b : Int) (w : World) (hb : 0 < b) (hb2 : b ≤ 1000000000000) (ha : -100000000000000000 ≤ a ∧ a ≤ 100000000000000000) :
    Calls Try.prog 112 #[.int .i64 a, .int .i64 b] w fun e w' => e = .returned (.int .i64 (a / b)) ∧ w = w' := by
  have q1 := (tdiv_bd (b := b) ha).1; have q2 := (tdiv_bd (b := b) ha).2
  have ha1 := ha.1; have ha2 := ha.2
  have hb0 : b ≠ 0 := by omega
  have hb1 : (b == 0) = false := by simp; omega
  by_cases h : a.tmod b < 0
  · have HE := hide (fdiv_no hb h)
    go_enter Try.func112, Try.ntmps112
    go_wp2_with fail
    go_ret
    exact ⟨ret_int HE.out, rfl⟩
  · have HE := hide (fdiv_yes hb h)
    go_enter Try.func112, Try.ntmps112
    go_wp2_with fail
    go_ret
    exact ⟨ret_int HE.out, rfl⟩

/-- The cut that s divided by den is, if it is one. -/
def divG (den : Int) (s : G) : Option G := if (s.1 = 0 ∧ s.2.1 = 0) ∨ s.1.tmod den ≠ 0 ∨ s.2.1.tmod den ≠ 0 then none else some (s.1.tdiv den, s.2.1.tdiv den, s.2.2 / den)

set_option maxRecDepth 4000 in
set_option maxHeartbeats 3200000 in
theorem divide_no (a b c den : Int) (w : World) (hs : Bd 100000000000000000 (a, b, c)) (hd : 1 ≤ den ∧ den ≤ 1000000000000) (hn : Hid (divG den (a, b, c) = none)) :
    Calls Try.prog 101 #[.agg #[.int .i64 a, .int .i64 b, .int .i64 c], .int .i64 den] w fun e w' => e = .returned (.tuple #[.agg #[.int .i64 0, .int .i64 0, .int .i64 0], .bool false]) ∧ Below w.heap.size w w' := by
  obtain ⟨⟨a1, a2⟩, ⟨b1, b2⟩, c1, c2⟩ := hs
  obtain ⟨d1, d2⟩ := hd
  simp only at a1 a2 b1 b2 c1 c2
  have HB := hide (((Below.refl w.heap.size w).alloc (Nat.le_refl _) (.cells #[.int .i64 a, .int .i64 b, .int .i64 c] 57)).alloc (by simp) (.cells #[.int .i64 0, .int .i64 0, .int .i64 0] 57))
  have s0 := gth_alloc3 (w.alloc (.cells #[.int .i64 a, .int .i64 b, .int .i64 c] 57)) 0 0 0 57
  simp only [World.size_alloc] at s0
  have HS := hide s0; clear s0
  have hden : ¬ den = 0 := by omega
  have hden2 : (den == 0) = false := by simp; omega
  have hcase : (a = 0 ∧ b = 0) ∨ ((a = 0 ∧ ¬ b = 0) ∧ (a.tmod den ≠ 0 ∨ (a.tmod den = 0 ∧ b.tmod den ≠ 0))) ∨ (¬ a = 0 ∧ (a.tmod den ≠ 0 ∨ (a.tmod den = 0 ∧ b.tmod den ≠ 0))) := by
    have h := hn.out
    unfold divG at h
    simp only at h
    by_cases hc : (a = 0 ∧ b = 0) ∨ a.tmod den ≠ 0 ∨ b.tmod den ≠ 0
    · by_cases h1 : a = 0 <;> by_cases h2 : b = 0 <;> by_cases h3 : a.tmod den = 0 <;> by_cases h4 : b.tmod den = 0 <;> simp_all
    · rw [if_neg hc] at h; cases h
  rcases hcase with ⟨rfl, rfl⟩ | ⟨⟨rfl, hb⟩, h | ⟨h, h2⟩⟩ | ⟨ha, h | ⟨h, h2⟩⟩
  · go_enter Try.func101, Try.ntmps101
    go_wp2_with fail
    obtain ⟨s0, s1, s2⟩ := HS.out
    exact bodyPost_ret (v := .tuple #[.agg #[.int .i64 0, .int .i64 0, .int .i64 0], .bool false]) (by simp [results, Try.results101, go_sem, s0, s1, s2]) rfl ⟨rfl, unhide HB⟩
  · simp at h
  · have e1 : (b == 0) = false := by simp [hb]
    obtain ⟨y, hy⟩ : ∃ y, b.tmod den = y := ⟨_, rfl⟩
    rw [hy] at h2
    have e2 : (y != 0) = true := by simp [h2]
    go_enter Try.func101, Try.ntmps101
    go_wp2_with fail
    obtain ⟨s0, s1, s2⟩ := HS.out
    exact bodyPost_ret (v := .tuple #[.agg #[.int .i64 0, .int .i64 0, .int .i64 0], .bool false]) (by simp [results, Try.results101, go_sem, s0, s1, s2]) rfl ⟨rfl, unhide HB⟩
  · have e0 : (a == 0) = false := by simp [ha]
    obtain ⟨y, hy⟩ : ∃ y, a.tmod den = y := ⟨_, rfl⟩
    rw [hy] at h
    have e2 : (y != 0) = true := by simp [h]
    go_enter Try.func101, Try.ntmps101
    go_wp2_with fail
    obtain ⟨s0, s1, s2⟩ := HS.out
    exact bodyPost_ret (v := .tuple #[.agg #[.int .i64 0, .int .i64 0, .int .i64 0], .bool false]) (by simp [results, Try.results101, go_sem, s0, s1, s2]) rfl ⟨rfl, unhide HB⟩
  · have e0 : (a == 0) = false := by simp [ha]
    obtain ⟨y, hy⟩ : ∃ y, b.tmod den = y := ⟨_, rfl⟩
    rw [hy] at h2
    have e2 : (y != 0) = true := by simp [h2]
    go_enter Try.func101, Try.ntmps101
    go_wp2_with fail
    obtain ⟨s0, s1, s2⟩ := HS.out
    exact bodyPost_ret (v := .tuple #[.agg #[.int .i64 0, .int .i64 0, .int .i64 0], .bool false]) (by simp [results, Try.results101, go_sem, s0, s1, s2]) rfl ⟨rfl, unhide HB⟩

set_option maxRecDepth 4000 in
set_option maxHeartbeats 3200000 in
theorem divide_yes (a b c den x y z : Int) (w : World) (hs : Bd 100000000000000000 (a, b, c)) (hd : 1 ≤ den ∧ den ≤ 1000000000000) (hn : Hid (divG den (a, b, c) = some (x, y, z))) :
    Calls Try.prog 101 #[.agg #[.int .i64 a, .int .i64 b, .int .i64 c], .int .i64 den] w fun e w' => e = .returned (.tuple #[.agg #[.int .i64 x, .int .i64 y, .int .i64 z], .bool true]) ∧ Below w.heap.size w w' := by
  obtain ⟨⟨a1, a2⟩, ⟨b1, b2⟩, c1, c2⟩ := hs
  obtain ⟨d1, d2⟩ := hd
  simp only at a1 a2 b1 b2 c1 c2
  have HB := hide (((Below.refl w.heap.size w).alloc (Nat.le_refl _) (.cells #[.int .i64 a, .int .i64 b, .int .i64 c] 57)).alloc (by simp) (.cells #[.int .i64 0, .int .i64 0, .int .i64 0] 57))
  obtain ⟨W, hW⟩ : ∃ W, W = (w.alloc (.cells #[.int .i64 a, .int .i64 b, .int .i64 c] 57)).alloc (.cells #[.int .i64 0, .int .i64 0, .int .i64 0] 57) := ⟨_, rfl⟩
  have HH := hide (show W.heap[w.heap.size + 1]? = some (.cells #[.int .i64 0, .int .i64 0, .int .i64 0] 57 (0, 0)) from by
    rw [hW]; have := heap_new_ (w.alloc (.cells #[.int .i64 a, .int .i64 b, .int .i64 c] 57)) (.cells #[.int .i64 0, .int .i64 0, .int .i64 0] 57); rwa [World.size_alloc] at this)
  have HS := hide (show W.heap[w.heap.size]? = some (.cells #[.int .i64 a, .int .i64 b, .int .i64 c] 57 (0, 0)) from by
    rw [hW]; exact (Below.heap_alloc _ _ _ (by simp)).trans (heap_new_ _ _))
  rw [← hW] at HB
  have hden : ¬ den = 0 := by omega
  have hden2 : (den == 0) = false := by simp; omega
  have h := hn.out
  unfold divG at h
  simp only at h
  by_cases hc : (a = 0 ∧ b = 0) ∨ a.tmod den ≠ 0 ∨ b.tmod den ≠ 0
  · rw [if_pos hc] at h; cases h
  rw [if_neg hc] at h
  simp only [Option.some.injEq, Prod.mk.injEq] at h
  obtain ⟨ex, ey, ez⟩ := h
  have ha0 : a.tmod den = 0 := Decidable.byContradiction fun e => hc (.inr (.inl e))
  have hb0 : b.tmod den = 0 := Decidable.byContradiction fun e => hc (.inr (.inr e))
  have HN := hide (show ¬ (a = 0 ∧ b = 0) from fun e => hc (.inl e))
  clear hc
  have tx := tdiv_bd (b := den) (show -100000000000000000 ≤ a ∧ a ≤ 100000000000000000 from ⟨a1, a2⟩)
  have ty := tdiv_bd (b := den) (show -100000000000000000 ≤ b ∧ b ≤ 100000000000000000 from ⟨b1, b2⟩)
  obtain ⟨tx1, tx2⟩ := tx; obtain ⟨ty1, ty2⟩ := ty
  have HF := hide (fun W' => floor_big c den W' (by omega) (by omega) (by omega))
  rw [ez] at HF
  rw [ex] at tx1 tx2; rw [ey] at ty1 ty2
  clear ez
  by_cases ha : a = 0
  · subst ha
    have hb : ¬ b = 0 := fun e => HN.out ⟨rfl, e⟩
    have e1 : (b == 0) = false := by simp [hb]
    go_enter Try.func101, Try.ntmps101
    go_wp2_with fail
    rw [← hW]
    clear hW
    obtain ⟨z0, z1, z2⟩ := three_at (unhide HS)
    have wx : IntKind.i64.wrap x = x := IntWalk.i64_in _ (by omega)
    have wy : IntKind.i64.wrap y = y := IntWalk.i64_in _ (by omega)
    go_still_tail 13, (by kernel_rfl)
    still_call (((unhide HF) _).mono fun _ _ ⟨he, hw⟩ => ⟨he, hw.symm⟩)
    still_step
    refine wpStill_nil ?_
    have HHd := hide (show W.drew.heap[w.heap.size + 1]? = some (.cells #[.int .i64 0, .int .i64 0, .int .i64 0] 57 (0, 0)) from unhide HH)
    have HBd := hide (show Below w.heap.size w W.drew from (unhide HB).drew)
    change wpList _ _ _ _ _ W.drew
    generalize W.drew = w2 at HHd HBd ⊢
    obtain ⟨q0, q1, q2⟩ := three_at (unhide HHd)
    have f0 := free_at (unhide HHd) 0; have f1 := free_at (unhide HHd) 1; have f2 := free_at (unhide HHd) 2
    clear z0 z1 z2 wx wy
    go_wp2_with fail
    have HPq := hide (put3 (unhide HHd) (.int .i64 x) (.int .i64 y) (.int .i64 z))
    have HBq := hide (below_put3 (unhide HBd) (b := w.heap.size + 1) (by omega) (.int .i64 x) (.int .i64 y) (.int .i64 z))
    obtain ⟨s0, s1, s2⟩ := three_at (unhide HPq)
    exact bodyPost_ret (v := .tuple #[.agg #[.int .i64 x, .int .i64 y, .int .i64 z], .bool true]) (by simp [results, Try.results101, go_sem, s0, s1, s2]) rfl ⟨rfl, unhide HBq⟩
  · have e1 : (a == 0) = false := by simp [ha]
    go_enter Try.func101, Try.ntmps101
    go_wp2_with fail
    rw [← hW]
    clear hW
    obtain ⟨z0, z1, z2⟩ := three_at (unhide HS)
    have wx : IntKind.i64.wrap x = x := IntWalk.i64_in _ (by omega)
    have wy : IntKind.i64.wrap y = y := IntWalk.i64_in _ (by omega)
    go_still_tail 13, (by kernel_rfl)
    still_call (((unhide HF) _).mono fun _ _ ⟨he, hw⟩ => ⟨he, hw.symm⟩)
    still_step
    refine wpStill_nil ?_
    have HHd := hide (show W.drew.heap[w.heap.size + 1]? = some (.cells #[.int .i64 0, .int .i64 0, .int .i64 0] 57 (0, 0)) from unhide HH)
    have HBd := hide (show Below w.heap.size w W.drew from (unhide HB).drew)
    change wpList _ _ _ _ _ W.drew
    generalize W.drew = w2 at HHd HBd ⊢
    obtain ⟨q0, q1, q2⟩ := three_at (unhide HHd)
    have f0 := free_at (unhide HHd) 0; have f1 := free_at (unhide HHd) 1; have f2 := free_at (unhide HHd) 2
    clear z0 z1 z2 wx wy
    go_wp2_with fail
    have HPq := hide (put3 (unhide HHd) (.int .i64 x) (.int .i64 y) (.int .i64 z))
    have HBq := hide (below_put3 (unhide HBd) (b := w.heap.size + 1) (by omega) (.int .i64 x) (.int .i64 y) (.int .i64 z))
    obtain ⟨s0, s1, s2⟩ := three_at (unhide HPq)
    exact bodyPost_ret (v := .tuple #[.agg #[.int .i64 x, .int .i64 y, .int .i64 z], .bool true]) (by simp [results, Try.results101, go_sem, s0, s1, s2]) rfl ⟨rfl, unhide HBq⟩
end Go.Proofs.Ytccfhcoioakmpaa
