/-
  lastOn of the program; the corners by name.
-/
import Derived.Test.YtbgfiejaehpffaaY2
import Derived.Test.YtbgfiejaehpffaaX4
namespace Go.Proofs.Ytbgfiejaehpffaa
open Go.RowKit

theorem put4 {W : World} {b : Nat} {u0 u1 u2 u3 : Value} {t : TypeId} (h : W.heap[b]? = some (.cells #[u0, u1, u2, u3] t (0, 0))) (v0 v1 v2 v3 : Value) :
    ((((W.setCell ⟨b, 0, none⟩ v0).setCell ⟨b, 1, none⟩ v1).setCell ⟨b, 2, none⟩ v2).setCell ⟨b, 3, none⟩ v3).heap[b]? = some (.cells #[v0, v1, v2, v3] t (0, 0)) :=
  set_at (set_at (set_at (set_at h v0) v1) v2) v3
theorem below_put4 {W0 W : World} {B b : Nat} (h : Below B W0 W) (hb : B ≤ b) (v0 v1 v2 v3 : Value) : Below B W0 ((((W.setCell ⟨b, 0, none⟩ v0).setCell ⟨b, 1, none⟩ v1).setCell ⟨b, 2, none⟩ v2).setCell ⟨b, 3, none⟩ v3) :=
  (((h.setCell (p := ⟨b, 0, none⟩) hb v0).setCell (p := ⟨b, 1, none⟩) hb v1).setCell (p := ⟨b, 2, none⟩) hb v2).setCell (p := ⟨b, 3, none⟩) hb v3
theorem Cor.list {fs L : List F} (h : Cor fs (fth L) L.length) (hL : ∀ q, q ∈ fs → (0 ≤ q.1 ∧ q.1 ≤ 30) ∧ 0 ≤ q.2) : edgeR fs = L := by
  rw [h.edge hL]
  apply List.ext_getElem
  · simp
  · intro i h1 h2
    simp [fth, List.getD, h2]

set_option maxRecDepth 100000 in
set_option maxHeartbeats 8000000 in
theorem lastOn_any (xn xd yn yd : Int) (X Y : Rat) (hX : Hid (Fr X xn xd)) (hY : Hid (Fr Y yn yd)) (bX : Hid (Bd 4000 60 X)) (bY : Hid (Bd 4000 60 Y)) (A : Option Addr) (n c : Nat) (gs : List G) (w : World) (h : Gs w w.heap.size A n c gs) (hgs : Hid (∀ l, l ∈ gs → okL l)) (hn : n ≤ 1000)
    (r : Rat) (hr : Hid (IsMin X Y gs r)) (un ud vn vd : Int) (hu : Hid (Fr (X * r) un ud)) (hv : Hid (Fr (Y * r) vn vd)) :
    Calls Try.prog 85 #[.agg #[.int .i64 xn, .int .i64 xd, .int .i64 yn, .int .i64 yd], .slice A n c] w fun e w' => e = .returned (.agg #[.int .i64 un, .int .i64 ud, .int .i64 vn, .int .i64 vd]) ∧ Below w.heap.size w w' := by
  obtain ⟨W0, hW0⟩ : ∃ W0, W0 = (w.alloc (.cells #[.int .i64 xn, .int .i64 xd, .int .i64 yn, .int .i64 yd] 37)).alloc (.cells #[.int .i64 0, .int .i64 0, .int .i64 0, .int .i64 0] 37) := ⟨_, rfl⟩
  have HB0 := hide (show Below w.heap.size w W0 from by rw [hW0]; exact ((Below.refl _ w).alloc (Nat.le_refl _) _).alloc (by simp) _)
  have HP0 := hide (show W0.heap[w.heap.size]? = some (.cells #[.int .i64 xn, .int .i64 xd, .int .i64 yn, .int .i64 yd] 37 (0, 0)) from by rw [hW0, Below.heap_alloc _ _ _ (by simp)]; exact heap_new_ w _)
  have HR0 := hide (show W0.heap[w.heap.size + 1]? = some (.cells #[.int .i64 0, .int .i64 0, .int .i64 0, .int .i64 0] 37 (0, 0)) from by
    rw [hW0]
    have := heap_new_ (w.alloc (.cells #[.int .i64 xn, .int .i64 xd, .int .i64 yn, .int .i64 yd] 37)) (.cells #[.int .i64 0, .int .i64 0, .int .i64 0, .int .i64 0] 37)
    rwa [World.size_alloc] at this)
  have HI0 := hide ((h.below (unhide HB0)).more (unhide HB0).size)
  have hW : (w.alloc (.cells #[.int .i64 xn, .int .i64 xd, .int .i64 yn, .int .i64 yd] 37)).alloc (.cells #[.int .i64 0, .int .i64 0, .int .i64 0, .int .i64 0] 37) = W0 := hW0.symm
  clear hW0 h
  obtain ⟨fn_, fd_, hf⟩ := exists_fr r
  obtain ⟨x0, x1, x2, x3⟩ := four_at (unhide HP0)
  have HRe := hide (reach_any xn xd yn yd X Y hX hY bX bY A n c gs W0 (unhide HI0) hgs hn r hr fn_ fd_ (hide hf))
  have hbr : Bd 14400000 28800000 r := by
    obtain ⟨l, hl, hp, e⟩ := hr.out.1
    rw [← e]; exact bd_v bX.out bY.out (hgs.out l hl) hp
  have HT1 := hide (fun W => times_q W hX (hide hf) bX (hide hbr) (hide ⟨by decide, by decide⟩) (hide rfl) hu)
  have HT2 := hide (fun W => times_q W hY (hide hf) bY (hide hbr) (hide ⟨by decide, by decide⟩) (hide rfl) hv)
  clear hf hbr
  go_enter Try.func85, Try.ntmps85
  go_upto_region 1 with fail
  clear hW
  go_wp2_with fail
  refine (unhide HRe).mono ?_
  rintro e w1 ⟨rfl, b1⟩
  have hp1 := (b1.block _ (Array.getElem?_eq_some_iff.1 (unhide HP0)).1).trans (unhide HP0)
  have hr1 := (b1.block _ (Array.getElem?_eq_some_iff.1 (unhide HR0)).1).trans (unhide HR0)
  have HB1 := hide ((unhide HB0).trans (b1.mono (unhide HB0).size))
  clear b1 x0 x1 x2 x3
  obtain ⟨W2, hW2⟩ : ∃ W2, W2 = w1.alloc (.cells #[.int .i64 fn_, .int .i64 fd_] 32) := ⟨_, rfl⟩
  have hB2 : Below w1.heap.size w1 W2 := by rw [hW2]; exact (Below.refl _ _).alloc (Nat.le_refl _) _
  have hf2 : W2.heap[w1.heap.size]? = some (.cells #[.int .i64 fn_, .int .i64 fd_] 32 (0, 0)) := by rw [hW2]; exact heap_new_ _ _
  have hp2 := (hB2.block _ (Array.getElem?_eq_some_iff.1 hp1).1).trans hp1
  have HR2 := hide ((hB2.block _ (Array.getElem?_eq_some_iff.1 hr1).1).trans hr1)
  have HB2 := hide ((unhide HB1).trans (hB2.mono (unhide HB1).size))
  have HS := hide (show ∀ W', Below W2.heap.size W2 W' → ((W'.cell? ⟨w1.heap.size, 0, none⟩ = some (.int .i64 fn_) ∧ W'.cell? ⟨w1.heap.size, 1, none⟩ = some (.int .i64 fd_)) ∧ (W'.cell? ⟨w.heap.size, 0, none⟩ = some (.int .i64 xn) ∧ W'.cell? ⟨w.heap.size, 1, none⟩ = some (.int .i64 xd) ∧ W'.cell? ⟨w.heap.size, 2, none⟩ = some (.int .i64 yn) ∧ W'.cell? ⟨w.heap.size, 3, none⟩ = some (.int .i64 yd))) from fun W' hb' =>
    ⟨two_at ((hb'.block _ (Array.getElem?_eq_some_iff.1 hf2).1).trans hf2), four_at ((hb'.block _ (Array.getElem?_eq_some_iff.1 hp2).1).trans hp2)⟩)
  have HWd := hide (show Below W2.heap.size W2 W2.drew from (Below.refl _ _).drew)
  have hW : w1.alloc (.cells #[.int .i64 fn_, .int .i64 fd_] 32) = W2 := hW2.symm
  clear hW2 hB2 hf2 hp2 hp1 hr1
  go_upto_region 2 with fail
  clear hW
  refine wp_region_quietT 9 (fun W' => Below W2.heap.size W2 W') (by kernel_rfl) (by kernel_rfl) (unhide HWd) ?_
  simp only [List.take_succ_cons, List.take_zero, List.drop_succ_cons, List.drop_zero]
  repeat (first
    | go_big_quiet_skip
    | (go_big_quiet_want
       apply Exists.intro
       refine ⟨fun W hW => ?_, ?_⟩
       · obtain ⟨⟨k1, k2⟩, ⟨m1, m2, m3, m4⟩⟩ := (unhide HS) W hW
         go_simp
         first | rfl | ((with_reducible refine ((unhide HT1) W).mono ?_); exact fun _ _ h => ⟨h.1, hW.trans (h.2.mono hW.size)⟩) | ((with_reducible refine ((unhide HT2) W).mono ?_); exact fun _ _ h => ⟨h.1, hW.trans (h.2.mono hW.size)⟩)
       go_big_quiet_on
       simp only [Act.put, List.setIfInBounds_toArray, List.set_cons_zero, List.set_cons_succ]))
  refine wpQuiet_nil ?_
  intro wc hWc
  have HBc := hide ((unhide HB2).trans (hWc.mono (unhide HB2).size))
  have hr3 := (hWc.block _ (Array.getElem?_eq_some_iff.1 (unhide HR2)).1).trans (unhide HR2)
  clear hWc
  have f0 := free_at hr3 0; have f1 := free_at hr3 1; have f2 := free_at hr3 2; have f3 := free_at hr3 3
  obtain ⟨q0, q1, q2, q3⟩ := four_at hr3
  have HP := hide (put4 hr3 (.int .i64 un) (.int .i64 ud) (.int .i64 vn) (.int .i64 vd))
  have HBz := hide (below_put4 (unhide HBc) (b := w.heap.size + 1) (by omega) (.int .i64 un) (.int .i64 ud) (.int .i64 vn) (.int .i64 vd))
  clear hr3
  go_wp2_with fail
  obtain ⟨s0, s1, s2, s3⟩ := four_at (unhide HP)
  exact bodyPost_ret (v := .agg #[.int .i64 un, .int .i64 ud, .int .i64 vn, .int .i64 vd]) (by simp [results, Try.results85, go_sem, s0, s1, s2, s3]) rfl ⟨rfl, unhide HBz⟩
end Go.Proofs.Ytbgfiejaehpffaa
