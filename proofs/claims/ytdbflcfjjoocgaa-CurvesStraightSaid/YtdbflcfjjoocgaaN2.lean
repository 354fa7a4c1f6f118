/-
  Means of the program, of what is no curve or of degree 0; the means times the basic curves sum to the point.
-/
import Derived.Test.YtdbflcfjjoocgaaN1
namespace Go.Proofs.Ytdbflcfjjoocgaa
open Go.RowKit

set_option maxRecDepth 100000 in
set_option maxHeartbeats 8000000 in
theorem Means_no (dg : Int) (A A' : Option Addr) (n c n' c' : Nat) (ks ps : List Int) (w : World) (hk : Ints w w.heap.size A n c ks) (hp : Ints w w.heap.size A' n' c' ps) (hC : Hid (okC dg ks ps = false)) :
    Calls Try.prog 24 #[.agg #[.int .i64 dg, .slice A n c, .slice A' n' c']] w fun e w' => e = .returned (.tuple #[.slice none 0 0, .int .i64 2]) ∧ Below w.heap.size w w' := by
  obtain ⟨W0, hW0⟩ : ∃ W0, W0 = w.alloc (.cells #[.int .i64 dg, .slice A n c, .slice A' n' c'] 31) := ⟨_, rfl⟩
  have HB0 := hide (show Below w.heap.size w W0 from by rw [hW0]; exact (Below.refl _ w).alloc (Nat.le_refl _) _)
  have HC0 := hide (show W0.heap[w.heap.size]? = some (.cells #[.int .i64 dg, .slice A n c, .slice A' n' c'] 31 (0, 0)) from by rw [hW0]; exact heap_new_ w _)
  have HK := hide ((hk.below (unhide HB0)).more (unhide HB0).size)
  have HP := hide ((hp.below (unhide HB0)).more (unhide HB0).size)
  have HOK := hC
  clear hk hp
  obtain ⟨x0, x1, x2⟩ := three_at (unhide HC0)
  have hW1 : w.alloc (.cells #[.int .i64 dg, .slice A n c, .slice A' n' c'] 31) = W0 := hW0.symm
  clear hW0
  go_enter Try.func24, Try.ntmps24
  go_upto_region 1 with fail
  clear hW1
  go_wp2_with fail
  refine (isCurve_any dg _ _ _ _ _ _ ks ps W0 (unhide HK) (unhide HP) false HOK).mono ?_
  rintro e w1 ⟨rfl, b1⟩
  have HB1 := hide ((unhide HB0).trans (b1.mono (unhide HB0).size))
  have HC1 := hide ((b1.block _ (Array.getElem?_eq_some_iff.1 (unhide HC0)).1).trans (unhide HC0))
  clear b1 x0 x1 x2 HK HP HC0 HB0
  obtain ⟨x0, x1, x2⟩ := three_at (unhide HC1)
  go_wp2_with fail
  refine bodyPost_ret (v := .tuple #[.slice none 0 0, .int .i64 2]) (by simp [results, Try.results24, go_sem]) rfl ?_
  exact ⟨rfl, unhide HB1⟩

set_option maxRecDepth 100000 in
set_option maxHeartbeats 8000000 in
theorem Means_0  (A A' : Option Addr) (n c n' c' : Nat) (ks ps : List Int) (w : World) (hk : Ints w w.heap.size A n c ks) (hp : Ints w w.heap.size A' n' c' ps) (hC : Hid (OkC 0 ks ps)) :
    Calls Try.prog 24 #[.agg #[.int .i64 (0 : Int), .slice A n c, .slice A' n' c']] w fun e w' => e = .returned (.tuple #[.slice none 0 0, .int .i64 4]) ∧ Below w.heap.size w w' := by
  obtain ⟨W0, hW0⟩ : ∃ W0, W0 = w.alloc (.cells #[.int .i64 (0 : Int), .slice A n c, .slice A' n' c'] 31) := ⟨_, rfl⟩
  have HB0 := hide (show Below w.heap.size w W0 from by rw [hW0]; exact (Below.refl _ w).alloc (Nat.le_refl _) _)
  have HC0 := hide (show W0.heap[w.heap.size]? = some (.cells #[.int .i64 (0 : Int), .slice A n c, .slice A' n' c'] 31 (0, 0)) from by rw [hW0]; exact heap_new_ w _)
  have HK := hide ((hk.below (unhide HB0)).more (unhide HB0).size)
  have HP := hide ((hp.below (unhide HB0)).more (unhide HB0).size)
  have HOK := hide (show okC (0 : Int) ks ps = true from (okC_iff _ _ _).2 ⟨0, rfl, hC.out⟩)
  clear hk hp
  obtain ⟨x0, x1, x2⟩ := three_at (unhide HC0)
  have hW1 : w.alloc (.cells #[.int .i64 (0 : Int), .slice A n c, .slice A' n' c'] 31) = W0 := hW0.symm
  clear hW0
  go_enter Try.func24, Try.ntmps24
  go_upto_region 1 with fail
  clear hW1
  go_wp2_with fail
  refine (isCurve_any (0 : Int) _ _ _ _ _ _ ks ps W0 (unhide HK) (unhide HP) true HOK).mono ?_
  rintro e w1 ⟨rfl, b1⟩
  have HB1 := hide ((unhide HB0).trans (b1.mono (unhide HB0).size))
  have HC1 := hide ((b1.block _ (Array.getElem?_eq_some_iff.1 (unhide HC0)).1).trans (unhide HC0))
  clear b1 x0 x1 x2 HK HP HC0 HB0
  obtain ⟨x0, x1, x2⟩ := three_at (unhide HC1)
  go_wp2_with fail
  refine bodyPost_ret (v := .tuple #[.slice none 0 0, .int .i64 4]) (by simp [results, Try.results24, go_sem]) rfl ?_
  exact ⟨rfl, unhide HB1⟩

theorem kS_knotSum {d : Nat} {ks ps : List Int} (h : OkC d ks ps) (i : Nat) : ∀ r, i + r ≤ ks.length → ((kS ks i r : Int) : Rat) = knotSum (KQ ks) i r
  | 0, _ => by simp [kS, knotSum]
  | r + 1, hr => by
    rw [kS, knotSum, Rat.intCast_add, kS_knotSum h i r (by omega)]
    unfold KQ; rw [kn_at (by omega)]
theorem mQ_eq {d : Nat} {ks ps : List Int} (h : OkC d ks ps) (hd : 0 < d) {i : Nat} (hi : i < ps.length) : mQ d ks i = (1 / (d : Rat)) * knotSum (KQ ks) (i + 1) d + 0 := by
  rw [← kS_knotSum h (i + 1) d (by have := h.len; omega), mQ, Rat.divInt_eq_div]
  simp only [Rat.intCast_natCast]
  grind
theorem mQ_sm {d : Nat} {ks ps : List Int} (h : OkC d ks ps) (hd : 0 < d) {i : Nat} (hi : i < ps.length) : Sm d 36 (mQ d ks i) := by
  have hb := kS_bd (ks := ks) (i := i + 1) d (fun j hj => h.knot j (by have := h.len; omega))
  have := h.d3
  refine ⟨kS ks (i + 1) d, ?_, by omega⟩
  have hd2 : ((d : Nat) : Rat) ≠ 0 := by intro e; have : d = 0 := by exact_mod_cast e
                                         omega
  rw [mQ, Rat.divInt_eq_div]
  simp only [Rat.intCast_natCast]
  exact Rat.div_mul_cancel hd2
theorem straight_sum {d p : Nat} {ks ps : List Int} {tn td : Int} {t : Rat} (h : At d ks ps tn td t p) (hd : 0 < d) : sumF (fun i => mQ d ks i * bas (KQ ks) p t d i) ps.length = t := by
  obtain ⟨b, rfl⟩ : ∃ b, p = b + d := ⟨p - d, by have := h.dp; omega⟩
  rw [sumF_ext (g := fun i => ((1 / (d : Rat)) * knotSum (KQ ks) (i + 1) d + 0) * bas (KQ ks) (b + d) t d i) (fun i hi => by rw [mQ_eq h.ok hd hi]),
    sum_val d (KQ ks) (fun i => (1 / (d : Rat)) * knotSum (KQ ks) (i + 1) d + 0) b ps.length t h.piece h.pl.lt, val_knots d (KQ ks) b t _ 0 h.piece]
  have hd2 : ((d : Nat) : Rat) ≠ 0 := by intro e; have : d = 0 := by exact_mod_cast e
                                         omega
  grind
end Go.Proofs.Ytdbflcfjjoocgaa
