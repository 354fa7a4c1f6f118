/-
  isCurve, span of the program.
-/
import Derived.Test.YtdbflcfjjoocgaaG2
namespace Go.Proofs.Ytdbflcfjjoocgaa
open Go.RowKit

/-- A curve. -/
def okC (dg : Int) (ks ps : List Int) : Bool := decide (0 ≤ dg) && decide (dg ≤ 3) && decide (dg < ps.length) && decide (ps.length ≤ 8) && allIn (-50) 50 ps && knotsB ks dg.toNat ps.length

set_option maxRecDepth 100000 in
set_option maxHeartbeats 2000000 in
theorem isCurve_any (dg : Int) (A A' : Option Addr) (n c n' c' : Nat) (ks ps : List Int) (w : World) (hk : Ints w w.heap.size A n c ks) (hp : Ints w w.heap.size A' n' c' ps) (b : Bool) (hb : Hid (okC dg ks ps = b)) :
    Calls Try.prog 47 #[.agg #[.int .i64 dg, .slice A n c, .slice A' n' c']] w fun e w' => e = .returned (.bool b) ∧ Below w.heap.size w w' := by
  have hm := hp.most; have hcap := hp.cap
  have hl := hide hp.len
  obtain ⟨W0, hW0⟩ : ∃ W0, W0 = w.alloc (.cells #[.int .i64 dg, .slice A n c, .slice A' n' c'] 31) := ⟨_, rfl⟩
  have HB0 := hide (show Below w.heap.size w W0 from by rw [hW0]; exact (Below.refl _ w).alloc (Nat.le_refl _) _)
  obtain ⟨x0, x1, x2⟩ := three_at (show W0.heap[w.heap.size]? = some (.cells #[.int .i64 dg, .slice A n c, .slice A' n' c'] 31 (0, 0)) from by rw [hW0]; exact heap_new_ w _)
  have HK := hide ((hk.below (unhide HB0)))
  have HP := hide ((hp.below (unhide HB0)))
  clear hk hp
  by_cases h1 : dg < 0
  · have HF := hide (show false = b from bool_all hb.out (by have : ¬ 0 ≤ dg := by omega
                                                             simp [okC, this]))
    go_enter Try.func47, Try.ntmps47
    go_upto_region 1 with fail
    rw [← hW0]
    clear hW0
    go_wp2_with fail
    go_ret
    exact ⟨ret_bool HF.out, unhide HB0⟩
  by_cases h2 : 3 < dg
  · have HF := hide (show false = b from bool_all hb.out (by have : ¬ dg ≤ 3 := by omega
                                                             simp [okC, this]))
    go_enter Try.func47, Try.ntmps47
    go_upto_region 1 with fail
    rw [← hW0]
    clear hW0
    go_wp2_with fail
    go_ret
    exact ⟨ret_bool HF.out, unhide HB0⟩
  obtain ⟨d, rfl⟩ : ∃ d : Nat, dg = d := ⟨dg.toNat, by omega⟩
  have hd3 : d ≤ 3 := by omega
  by_cases h3 : d < n'
  · by_cases h4 : n' ≤ 8
    · rcases h5 : allIn (-50) 50 ps
      · have HF := hide (show false = b from bool_all hb.out (by simp [okC, h5]))
        have H5 := hide h5; clear h5
        go_enter Try.func47, Try.ntmps47
        go_upto_region 1 with fail
        rw [← hW0]
        clear hW0
        go_wp2_with fail
        refine (arePoles_any _ _ _ ps _ _ (unhide HP)).mono ?_
        rintro e w1 ⟨rfl, rfl⟩
        rw [H5.out]
        go_wp2_with fail
        go_ret
        exact ⟨ret_bool HF.out, unhide HB0⟩
      · have HKB := hide (show knotsB ks d n' = b from by rw [← hb.out, okC, h5, hl.out]; simp [h4, hd3, h3]; intro _; omega)
        have H5 := hide h5; clear h5
        go_enter Try.func47, Try.ntmps47
        go_upto_region 1 with fail
        rw [← hW0]
        clear hW0
        go_wp2_with fail
        refine (arePoles_any _ _ _ ps _ _ (unhide HP)).mono ?_
        rintro e w1 ⟨rfl, rfl⟩
        rw [H5.out]
        go_wp2_with fail
        refine (areKnots_any _ _ _ ks d n' _ _ (unhide HK) hd3 h4 h3 b HKB).mono ?_
        rintro e w1 ⟨rfl, q, rfl⟩
        go_wp2_with fail
        go_ret
        exact ⟨rfl, below_dN (unhide HB0) q⟩
    · have HF := hide (show false = b from bool_all hb.out (by have : ¬ ps.length ≤ 8 := by rw [hl.out]; omega
                                                               simp [okC, this]))
      have e4 : ¬ (n' : Int) ≤ 8 := by omega
      go_enter Try.func47, Try.ntmps47
      go_upto_region 1 with fail
      rw [← hW0]
      clear hW0
      go_wp2_with fail
      go_ret
      exact ⟨ret_bool HF.out, unhide HB0⟩
  · have HF := hide (show false = b from bool_all hb.out (by have : ¬ d < ps.length := by rw [hl.out]; omega
                                                             simp [okC, this]))
    go_enter Try.func47, Try.ntmps47
    go_upto_region 1 with fail
    rw [← hW0]
    clear hW0
    go_wp2_with fail
    go_ret
    exact ⟨ret_bool HF.out, unhide HB0⟩

/-- What a curve keeps. -/
structure OkC (d : Nat) (ks ps : List Int) : Prop where
  d3 : d ≤ 3
  dn : d < ps.length
  n8 : ps.length ≤ 8
  pole : ∀ i, i < ps.length → -50 ≤ nth ps i ∧ nth ps i ≤ 50
  len : ks.length = ps.length + d + 1
  knot : ∀ i, i < ks.length → 0 ≤ nth ks i ∧ nth ks i ≤ 12
  rise : ∀ i, i + 1 < ks.length → nth ks i ≤ nth ks (i + 1)
  gap : ∀ i, i + (d + 1) < ks.length → nth ks (i + (d + 1)) ≠ nth ks i
  span : nth ks d < nth ks ps.length
theorem allIn_iff (lo hi : Int) (xs : List Int) : allIn lo hi xs = true ↔ ∀ i, i < xs.length → lo ≤ nth xs i ∧ nth xs i ≤ hi := by
  constructor
  · intro h k hk; exact allIn_bd h k hk
  · intro h
    simp only [allIn, List.all_eq_true, Bool.and_eq_true, decide_eq_true_eq]
    intro x hx
    obtain ⟨i, hi, rfl⟩ := List.getElem_of_mem hx
    have := h i hi
    simpa [nth, List.getD, hi] using this
theorem okC_iff (dg : Int) (ks ps : List Int) : okC dg ks ps = true ↔ ∃ d : Nat, dg = d ∧ OkC d ks ps := by
  simp only [okC, knotsB, Bool.and_eq_true, decide_eq_true_eq, allIn_iff, sortB_iff, gapB_iff]
  constructor
  · rintro ⟨⟨⟨⟨⟨h1, h2⟩, h3⟩, h4⟩, h5⟩, ⟨⟨⟨h6, h7⟩, h8⟩, h9⟩, h10⟩
    exact ⟨dg.toNat, by omega, by omega, by omega, h4, h5, h6, h7, h8, h9, h10⟩
  · rintro ⟨d, rfl, h⟩
    exact ⟨⟨⟨⟨⟨by omega, by have := h.d3; omega⟩, by have := h.dn; omega⟩, h.n8⟩, h.pole⟩, ⟨⟨⟨h.len, h.knot⟩, h.rise⟩, h.gap⟩, h.span⟩

set_option maxRecDepth 100000 in
set_option maxHeartbeats 2000000 in
theorem span_any (d : Nat) (A A' : Option Addr) (n c n' c' : Nat) (ks ps : List Int) (w : World) (hk : Ints w w.heap.size A n c ks) (hp : Ints w w.heap.size A' n' c' ps) (hd : d < n) (hn : n' < n) (x y : Int) (hx : Hid (nth ks d = x)) (hy : Hid (nth ks n' = y)) :
    Calls Try.prog 62 #[.agg #[.int .i64 (d : Int), .slice A n c, .slice A' n' c']] w fun e w' => e = .returned (.tuple #[.int .i64 x, .int .i64 y]) ∧ Below w.heap.size w w' := by
  have hm := hk.most; have hcap := hk.cap
  obtain ⟨W0, hW0⟩ : ∃ W0, W0 = w.alloc (.cells #[.int .i64 (d : Int), .slice A n c, .slice A' n' c'] 31) := ⟨_, rfl⟩
  have HB0 := hide (show Below w.heap.size w W0 from by rw [hW0]; exact (Below.refl _ w).alloc (Nat.le_refl _) _)
  obtain ⟨x0, x1, x2⟩ := three_at (show W0.heap[w.heap.size]? = some (.cells #[.int .i64 (d : Int), .slice A n c, .slice A' n' c'] 31 (0, 0)) from by rw [hW0]; exact heap_new_ w _)
  have HK := hide ((hk.below (unhide HB0)))
  clear hp hk
  obtain ⟨b1, off, rfl, hbb, e1⟩ := (unhide HK).at_ d hd
  obtain ⟨b2, off2, e0, _, e2⟩ := (unhide HK).at_ n' hn
  simp only [Option.some.injEq, Addr.mk.injEq, and_true] at e0
  obtain ⟨rfl, rfl⟩ := e0
  rw [hx.out] at e1; rw [hy.out] at e2
  clear hx hy
  go_enter Try.func62, Try.ntmps62
  go_upto_region 1 with fail
  rw [← hW0]
  clear hW0
  go_big_quiet (fail)
  go_wp2_with fail
  go_ret2
  refine ⟨rfl, ?_⟩
  first | exact below_dN (unhide HB0) _ | exact (unhide HB0).drew
end Go.Proofs.Ytdbflcfjjoocgaa
