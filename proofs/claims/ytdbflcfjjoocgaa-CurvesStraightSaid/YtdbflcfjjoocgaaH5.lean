/-
  Value of the program.
-/
import Derived.Test.YtdbflcfjjoocgaaH4
namespace Go.Proofs.Ytdbflcfjjoocgaa
open Go.RowKit

/-- The i-th pole as a rational number. -/
def PQ (ps : List Int) (i : Nat) : Rat := ((nth ps i : Int) : Rat)
/-- The value. -/
def VQ (d : Nat) (ks ps : List Int) (p : Nat) (t : Rat) : Rat := sumF (fun i => bas (KQ ks) p t d i * PQ ps i) ps.length
theorem term_sm {d : Nat} {ks ps : List Int} {tn td : Int} {t : Rat} {p : Nat} (h : At d ks ps tn td t p) (i : Nat) (hi : i < ps.length) : Sm (DD (kn ks) p td.toNat d) (DD (kn ks) p td.toNat d * 50) (bas (KQ ks) p t d i * PQ ps i) := by
  have h1 := h.sm d i (Nat.le_refl _)
  have hb := h.ok.pole i hi
  have h2 := (Sm.int (nth ps i)).mono (show (nth ps i).natAbs ≤ 50 by omega)
  have := h1.mul h2
  rwa [Nat.mul_one] at this
theorem part_sm {d : Nat} {ks ps : List Int} {tn td : Int} {t : Rat} {p : Nat} (h : At d ks ps tn td t p) (k : Nat) (hk : k ≤ ps.length) : Sm (DD (kn ks) p td.toNat d) (DD (kn ks) p td.toNat d * 50 * k) (sumF (fun i => bas (KQ ks) p t d i * PQ ps i) k) := by
  induction k with
  | zero => exact Sm.zero _ _
  | succ k ih =>
    rw [sumF, Nat.mul_succ]
    exact (ih (by omega)).add (term_sm h k (by omega))

set_option maxRecDepth 100000 in
set_option maxHeartbeats 2000000 in
theorem Value_no (dg tn td : Int) (A A' : Option Addr) (n c n' c' : Nat) (ks ps : List Int) (w : World) (hk : Ints w w.heap.size A n c ks) (hp : Ints w w.heap.size A' n' c' ps) (hV : Hid (okT dg ks ps tn td = false)) :
    Calls Try.prog 16 #[.agg #[.int .i64 dg, .slice A n c, .slice A' n' c'], .agg #[.int .i64 tn, .int .i64 td]] w fun e w' => e = .returned (.tuple #[.agg #[.int .i64 0, .int .i64 0], .int .i64 2]) ∧ Below w.heap.size w w' := by
  obtain ⟨W0, hW0⟩ : ∃ W0, W0 = (layT w (.int .i64 dg) (.slice A n c) (.slice A' n' c') tn td).alloc (.cells #[.int .i64 0, .int .i64 0] 26) := ⟨_, rfl⟩
  have HB0 := hide (show Below w.heap.size w W0 from by rw [hW0]; exact (layT_below _ _ _ _ _ _).alloc (by rw [layT_size]; omega) _)
  have HC0 := hide (show W0.heap[w.heap.size]? = some (.cells #[.int .i64 dg, .slice A n c, .slice A' n' c'] 31 (0, 0)) from by rw [hW0, Below.heap_alloc _ _ _ (by rw [layT_size]; omega)]; exact layT_0 _ _ _ _ _ _)
  have HT0 := hide (show W0.heap[w.heap.size + 1]? = some (.cells #[.int .i64 tn, .int .i64 td] 26 (0, 0)) from by rw [hW0, Below.heap_alloc _ _ _ (by rw [layT_size]; omega)]; exact layT_1 _ _ _ _ _ _)
  have HR0 := hide (show W0.heap[w.heap.size + 1 + 1]? = some (.cells #[.int .i64 0, .int .i64 0] 26 (0, 0)) from by
    rw [hW0]; have := heap_new_ (layT w (.int .i64 dg) (.slice A n c) (.slice A' n' c') tn td) (.cells #[.int .i64 0, .int .i64 0] 26); rwa [layT_size] at this)
  have HK := hide ((hk.below (unhide HB0)).more (unhide HB0).size)
  have HP := hide ((hp.below (unhide HB0)).more (unhide HB0).size)
  have hlen := hide hp.len
  clear hk hp
  obtain ⟨x0, x1, x2⟩ := three_at (unhide HC0)
  obtain ⟨t0, t1⟩ := two_at (unhide HT0)
  have hW1 : ((w.alloc (.cells #[.int .i64 dg, .slice A n c, .slice A' n' c'] 31)).alloc (.cells #[.int .i64 tn, .int .i64 td] 26)).alloc (.cells #[.int .i64 0, .int .i64 0] 26) = W0 := hW0.symm
  clear hW0
  have HZ := hide (fun (W : World) (h : W.heap[w.heap.size + 1 + 1]? = some (.cells #[.int .i64 0, .int .i64 0] 26 (0, 0))) => put2 h (.int .i64 0) (.int .i64 0))
  rcases okT_no hV.out with h | ⟨d, rfl, hC, h⟩
  · have H1 := hide h; clear h
    go_enter Try.func16, Try.ntmps16
    go_upto_region 1 with fail
    clear hW1
    go_wp2_with fail
    refine (isCurve_any dg _ _ _ _ _ _ ks ps W0 (unhide HK) (unhide HP) false H1).mono ?_
    rintro e w1 ⟨rfl, b1⟩
    have HB1 := hide ((unhide HB0).trans (b1.mono (unhide HB0).size))
    have hr := (b1.block _ (Array.getElem?_eq_some_iff.1 (unhide HR0)).1).trans (unhide HR0)
    clear b1 x0 x1 x2 t0 t1
    have f0 := free_at hr 0; have f1 := free_at hr 1
    obtain ⟨q0, q1⟩ := two_at hr
    have HPq := hide ((unhide HZ) _ hr)
    have HBq := hide (below_put2 (unhide HB1) (b := w.heap.size + 1 + 1) (by omega) (.int .i64 0) (.int .i64 0))
    clear hr
    go_wp2_with fail
    obtain ⟨s0, s1⟩ := two_at (unhide HPq)
    exact bodyPost_ret (v := .tuple #[.agg #[.int .i64 0, .int .i64 0], .int .i64 2]) (by simp [results, Try.results16, go_sem, s0, s1]) rfl ⟨rfl, unhide HBq⟩
  · have H1 := hide h; clear h
    have HOK := hide (show okC (d : Int) ks ps = true from (okC_iff _ _ _).2 ⟨d, rfl, hC⟩)
    have HCC := hide hC; clear hC
    rw [hlen.out] at H1
    go_enter Try.func16, Try.ntmps16
    go_upto_region 1 with fail
    clear hW1
    go_wp2_with fail
    refine (isCurve_any (d : Int) _ _ _ _ _ _ ks ps W0 (unhide HK) (unhide HP) true HOK).mono ?_
    rintro e w1 ⟨rfl, b1⟩
    have HB1 := hide ((unhide HB0).trans (b1.mono (unhide HB0).size))
    have HC1 := hide ((b1.block _ (Array.getElem?_eq_some_iff.1 (unhide HC0)).1).trans (unhide HC0))
    have HT1 := hide ((b1.block _ (Array.getElem?_eq_some_iff.1 (unhide HT0)).1).trans (unhide HT0))
    have HR1 := hide ((b1.block _ (Array.getElem?_eq_some_iff.1 (unhide HR0)).1).trans (unhide HR0))
    have HK1 := hide (((unhide HK).below b1).more b1.size)
    have HP1 := hide (((unhide HP).below b1).more b1.size)
    clear b1 x0 x1 x2 t0 t1
    obtain ⟨x0, x1, x2⟩ := three_at (unhide HC1)
    obtain ⟨t0, t1⟩ := two_at (unhide HT1)
    go_wp2_with fail
    refine (isWithin_any tn td d _ _ _ _ _ _ ks ps w1 (unhide HK1) (unhide HP1) HCC false H1).mono ?_
    rintro e w2 ⟨rfl, b2⟩
    have HB2 := hide ((unhide HB1).trans (b2.mono (unhide HB1).size))
    have hr := (b2.block _ (Array.getElem?_eq_some_iff.1 (unhide HR1)).1).trans (unhide HR1)
    clear b2 x0 x1 x2 t0 t1
    have f0 := free_at hr 0; have f1 := free_at hr 1
    obtain ⟨q0, q1⟩ := two_at hr
    have HPq := hide ((unhide HZ) _ hr)
    have HBq := hide (below_put2 (unhide HB2) (b := w.heap.size + 1 + 1) (by omega) (.int .i64 0) (.int .i64 0))
    clear hr
    go_wp2_with fail
    obtain ⟨s0, s1⟩ := two_at (unhide HPq)
    exact bodyPost_ret (v := .tuple #[.agg #[.int .i64 0, .int .i64 0], .int .i64 2]) (by simp [results, Try.results16, go_sem, s0, s1]) rfl ⟨rfl, unhide HBq⟩
end Go.Proofs.Ytdbflcfjjoocgaa
