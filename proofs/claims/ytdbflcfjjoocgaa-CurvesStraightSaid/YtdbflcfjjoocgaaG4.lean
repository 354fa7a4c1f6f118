/-
  isWithin of the program.
-/
import Derived.Test.YtdbflcfjjoocgaaG3
namespace Go.Proofs.Ytdbflcfjjoocgaa
open Go.RowKit

theorem field81 (u v : Int) (W : World) : (Instr.field 81 (.agg #[.int .i64 u, .int .i64 v]) 0).run Try.prog W = .ok (.agg #[.int .i64 u, .int .i64 v]) W := by
  have u81 := Try.underlying81
  simp [Instr.field, go_sem, asAgg]
/-- In lowest terms. -/
def frB (a b : Int) : Bool := decide ((((Rat.divInt a b).num, ((Rat.divInt a b).den : Int)) : F) = (a, b))
/-- A fraction from x to y, with a Den up to 12. -/
def inB (x y a b : Int) : Bool := decide (1 ≤ b) && decide (b ≤ 12) && decide (x * b ≤ a) && decide (a ≤ y * b) && frB a b
theorem inB_iff (x y a b : Int) : inB x y a b = true ↔ (1 ≤ b ∧ b ≤ 12) ∧ (x * b ≤ a ∧ a ≤ y * b) ∧ Fr (Rat.divInt a b) a b := by
  simp [inB, frB, Fr, and_assoc]

set_option maxRecDepth 100000 in
set_option maxHeartbeats 4000000 in
theorem isWithin_any (tn td : Int) (d : Nat) (A A' : Option Addr) (n c n' c' : Nat) (ks ps : List Int) (w : World) (hk : Ints w w.heap.size A n c ks) (hp : Ints w w.heap.size A' n' c' ps) (hC : Hid (OkC d ks ps)) (b : Bool) (hb : Hid (inB (nth ks d) (nth ks n') tn td = b)) :
    Calls Try.prog 48 #[.agg #[.int .i64 tn, .int .i64 td], .agg #[.int .i64 (d : Int), .slice A n c, .slice A' n' c']] w fun e w' => e = .returned (.bool b) ∧ Below w.heap.size w w' := by
  have hl := hide hp.len
  have hd := hC.out.dn; rw [hp.len] at hd
  have hn := hC.out.len; rw [hp.len, hk.len] at hn
  have hx := hC.out.knot d (by rw [hk.len]; omega)
  have hy := hC.out.knot n' (by rw [hk.len]; omega)
  have hd1 : d < n := by omega
  have hn1 : n' < n := by omega
  clear hn hl hC
  obtain ⟨x, ex⟩ : ∃ x, nth ks d = x := ⟨_, rfl⟩
  obtain ⟨y, ey⟩ : ∃ x, nth ks n' = x := ⟨_, rfl⟩
  rw [ex, ey] at hb
  rw [ex] at hx; rw [ey] at hy
  have EX := hide ex; have EY := hide ey
  clear ex ey
  obtain ⟨hx1, hx2⟩ := hx; obtain ⟨hy1, hy2⟩ := hy
  obtain ⟨W0, hW0⟩ : ∃ W0, W0 = (w.alloc (.cells #[.int .i64 tn, .int .i64 td] 26)).alloc (.cells #[.int .i64 (d : Int), .slice A n c, .slice A' n' c'] 31) := ⟨_, rfl⟩
  have HB0 := hide (show Below w.heap.size w W0 from by rw [hW0]; exact ((Below.refl _ w).alloc (Nat.le_refl _) _).alloc (by simp) _)
  have HT0 := hide (show W0.heap[w.heap.size]? = some (.cells #[.int .i64 tn, .int .i64 td] 26 (0, 0)) from by rw [hW0]; exact (Below.heap_alloc _ _ _ (by simp)).trans (heap_new_ w _))
  have HC0 := hide (show W0.heap[w.heap.size + 1]? = some (.cells #[.int .i64 (d : Int), .slice A n c, .slice A' n' c'] 31 (0, 0)) from by
    rw [hW0]; have := heap_new_ (w.alloc (.cells #[.int .i64 tn, .int .i64 td] 26)) (.cells #[.int .i64 (d : Int), .slice A n c, .slice A' n' c'] 31); rwa [World.size_alloc] at this)
  have HK := hide ((hk.below (unhide HB0)).more (unhide HB0).size)
  have HP := hide ((hp.below (unhide HB0)).more (unhide HB0).size)
  clear hk hp
  obtain ⟨t0, t1⟩ := two_at (unhide HT0)
  obtain ⟨x0, x1, x2⟩ := three_at (unhide HC0)
  by_cases h1 : td < 1
  · have HF := hide (show false = b from bool_all hb.out (by have : ¬ 1 ≤ td := by omega
                                                             simp [inB, this]))
    go_enter Try.func48, Try.ntmps48
    go_upto_region 1 with fail
    rw [← hW0]
    clear hW0
    go_wp2_with fail
    go_ret
    exact ⟨ret_bool HF.out, unhide HB0⟩
  by_cases h2 : 12 < td
  · have HF := hide (show false = b from bool_all hb.out (by have : ¬ td ≤ 12 := by omega
                                                             simp [inB, this]))
    go_enter Try.func48, Try.ntmps48
    go_upto_region 1 with fail
    rw [← hW0]
    clear hW0
    go_wp2_with fail
    go_ret
    exact ⟨ret_bool HF.out, unhide HB0⟩
  have k1 := mul_bd (M := 12) (N := 12) (show -12 ≤ x ∧ x ≤ 12 by omega) (show -12 ≤ td ∧ td ≤ 12 by omega)
  have k2 := mul_bd (M := 12) (N := 12) (show -12 ≤ y ∧ y ≤ 12 by omega) (show -12 ≤ td ∧ td ≤ 12 by omega)
  have HI := hide (inB_iff x y tn td)
  revert k1 k2 hb HI
  obtain ⟨p, ep⟩ : ∃ p, x * td = p := ⟨_, rfl⟩
  obtain ⟨q, eq⟩ : ∃ p, y * td = p := ⟨_, rfl⟩
  rw [ep, eq]
  rintro hb ⟨k11, k12⟩ ⟨k21, k22⟩ HI
  by_cases h3 : tn < p
  · have HF := hide (show false = b from bool_all hb.out (by rw [Bool.eq_false_iff]; intro hc; have := (HI.out.1 hc).2.1.1; omega))
    go_enter Try.func48, Try.ntmps48
    go_upto_region 1 with fail
    rw [← hW0]
    clear hW0
    go_wp2_with fail
    refine (span_any d _ _ _ _ _ _ ks ps W0 (unhide HK) (unhide HP) hd1 hn1 x y EX EY).mono ?_
    rintro e w1 ⟨rfl, b1⟩
    have HT1 := hide ((b1.block _ (Array.getElem?_eq_some_iff.1 (unhide HT0)).1).trans (unhide HT0))
    have HB1 := hide ((unhide HB0).trans (b1.mono (unhide HB0).size))
    clear b1 t0 t1 x0 x1 x2
    obtain ⟨t0, t1⟩ := two_at (unhide HT1)
    go_wp2_with fail
    go_ret
    exact ⟨ret_bool HF.out, unhide HB1⟩
  by_cases h4 : q < tn
  · have HF := hide (show false = b from bool_all hb.out (by rw [Bool.eq_false_iff]; intro hc; have := (HI.out.1 hc).2.1.2; omega))
    go_enter Try.func48, Try.ntmps48
    go_upto_region 1 with fail
    rw [← hW0]
    clear hW0
    go_wp2_with fail
    refine (span_any d _ _ _ _ _ _ ks ps W0 (unhide HK) (unhide HP) hd1 hn1 x y EX EY).mono ?_
    rintro e w1 ⟨rfl, b1⟩
    have HT1 := hide ((b1.block _ (Array.getElem?_eq_some_iff.1 (unhide HT0)).1).trans (unhide HT0))
    have HB1 := hide ((unhide HB0).trans (b1.mono (unhide HB0).size))
    clear b1 t0 t1 x0 x1 x2
    obtain ⟨t0, t1⟩ := two_at (unhide HT1)
    go_wp2_with fail
    go_ret
    exact ⟨ret_bool HF.out, unhide HB1⟩
  obtain ⟨u, hu⟩ : ∃ u, (Rat.divInt tn td).num = u := ⟨_, rfl⟩
  obtain ⟨v, hv⟩ : ∃ u, ((Rat.divInt tn td).den : Int) = u := ⟨_, rfl⟩
  have HR := hide (show decide (((tn, td) : F) = (u, v)) = b from by
    rw [← hb.out, inB, frB, hu, hv, ep, eq]
    simp only [show 1 ≤ td by omega, show td ≤ 12 by omega, show p ≤ tn by omega, show tn ≤ q by omega, decide_true, Bool.true_and]
    congr 1; simp only [eq_comm])
  have HFR := hide (show Fr (Rat.divInt tn td) u v from ⟨hu, hv⟩)
  have HQ := hide (fun W => quotient_any tn td W (by omega) (by omega) (by omega) u v HFR)
  clear hu hv HI hb
  have heq := eql26 tn td u v
  have hfi := field81 u v
  rw [HR.out] at heq
  go_enter Try.func48, Try.ntmps48
  go_upto_region 1 with fail
  rw [← hW0]
  clear hW0
  go_wp2_with fail
  refine (span_any d _ _ _ _ _ _ ks ps W0 (unhide HK) (unhide HP) hd1 hn1 x y EX EY).mono ?_
  rintro e w1 ⟨rfl, b1⟩
  have HT1 := hide ((b1.block _ (Array.getElem?_eq_some_iff.1 (unhide HT0)).1).trans (unhide HT0))
  have HB1 := hide ((unhide HB0).trans (b1.mono (unhide HB0).size))
  clear b1 t0 t1 x0 x1 x2
  obtain ⟨t0, t1⟩ := two_at (unhide HT1)
  go_wp2_with fail
  have HT1d := hide (show w1.drew.heap[w.heap.size]? = some (.cells #[.int .i64 tn, .int .i64 td] 26 (0, 0)) from unhide HT1)
  have HB1d := hide (show Below w.heap.size w w1.drew from (unhide HB1).drew)
  go_region_held3 (fun W => W.cell? ⟨w.heap.size, 0, none⟩ = some (.int .i64 tn) ∧ W.cell? ⟨w.heap.size, 1, none⟩ = some (.int .i64 td)) (first | exact ⟨t0, t1⟩ | exact ⟨z0, z1⟩) ((go_at_call 61; refine ((unhide HQ) _).mono ?_; rintro e w2 ⟨rfl, b2⟩; have HZ2 := hide ((b2.block _ (Array.getElem?_eq_some_iff.1 (unhide HT1d)).1).trans (unhide HT1d)); obtain ⟨z0, z1⟩ := two_at (unhide HZ2); have HB2 := hide ((unhide HB1d).trans (b2.mono (unhide HB1d).size)); clear b2))
  all_goals (go_wp2_with fail; go_ret; exact ⟨rfl, unhide HB2⟩)
end Go.Proofs.Ytdbflcfjjoocgaa
