/-
  fine, none of the law; slices.Equal of fractions; what a curve cut to 23 numbers keeps.
-/
import Derived.Test.YtdbflcfjjoocgaaJ4
namespace Go.Proofs.Ytdbflcfjjoocgaa
open Go.RowKit

theorem OkC.lens {d : Nat} {ks ps : List Int} (h : OkC d ks ps) : ks.length ≤ 12 ∧ ps.length ≤ 8 := by
  have := h.len; have := h.n8; have := h.d3; omega
theorem OkC.takes {d : Nat} {ks ps : List Int} (h : OkC d ks ps) : ks.take 23 = ks ∧ ps.take 23 = ps :=
  ⟨List.take_of_length_le (by have := h.lens; omega), List.take_of_length_le (by have := h.lens; omega)⟩
theorem take_short {xs : List Int} {k : Nat} (hk : k < 23) (h : (xs.take 23).length ≤ k) : xs.take 23 = xs :=
  List.take_of_length_le (by rw [List.length_take] at h; omega)
theorem okC_take (dg : Int) (ks ps : List Int) : okC dg (ks.take 23) (ps.take 23) = okC dg ks ps := by
  rcases h1 : okC dg ks ps
  · rw [Bool.eq_false_iff]
    intro hc
    obtain ⟨d, rfl, hC⟩ := (okC_iff _ _ _).1 hc
    have e1 := take_short (k := 12) (by omega) hC.lens.1
    have e2 := take_short (k := 8) (by omega) hC.lens.2
    rw [e1, e2] at hc
    rw [hc] at h1; cases h1
  · obtain ⟨d, rfl, hC⟩ := (okC_iff _ _ _).1 h1
    rw [hC.takes.1, hC.takes.2]; exact h1
theorem okT_take (dg : Int) (ks ps : List Int) (tn td : Int) : okT dg (ks.take 23) (ps.take 23) tn td = okT dg ks ps tn td := by
  unfold okT
  rw [okC_take]
  rcases h1 : okC dg ks ps
  · rfl
  · obtain ⟨d, rfl, hC⟩ := (okC_iff _ _ _).1 h1
    rw [hC.takes.1, hC.takes.2]

set_option maxRecDepth 100000 in
set_option maxHeartbeats 2000000 in
theorem fine_any (dg tn td : Int) (A A' : Option Addr) (n c n' c' : Nat) (ks ps : List Int) (w : World) (hk : Ints w w.heap.size A n c ks) (hp : Ints w w.heap.size A' n' c' ps) (b : Bool) (hV : Hid (okT dg ks ps tn td = b)) :
    Calls Try.prog 17 #[.agg #[.int .i64 dg, .slice A n c, .slice A' n' c'], .agg #[.int .i64 tn, .int .i64 td]] w fun e w' => e = .returned (.bool b) ∧ Below w.heap.size w w' := by
  obtain ⟨W0, hW0⟩ : ∃ W0, W0 = (w.alloc (.cells #[.int .i64 dg, .slice A n c, .slice A' n' c'] 24)).alloc (.cells #[.int .i64 tn, .int .i64 td] 26) := ⟨_, rfl⟩
  have HB0 := hide (show Below w.heap.size w W0 from by rw [hW0]; exact ((Below.refl _ w).alloc (Nat.le_refl _) _).alloc (by simp) _)
  have HC0 := hide (show W0.heap[w.heap.size]? = some (.cells #[.int .i64 dg, .slice A n c, .slice A' n' c'] 24 (0, 0)) from by rw [hW0]; exact (Below.heap_alloc _ _ _ (by simp)).trans (heap_new_ w _))
  have HT0 := hide (show W0.heap[w.heap.size + 1]? = some (.cells #[.int .i64 tn, .int .i64 td] 26 (0, 0)) from by
    rw [hW0]; have := heap_new_ (w.alloc (.cells #[.int .i64 dg, .slice A n c, .slice A' n' c'] 24)) (.cells #[.int .i64 tn, .int .i64 td] 26); rwa [World.size_alloc] at this)
  have HK := hide ((hk.below (unhide HB0)).more (unhide HB0).size)
  have HP := hide ((hp.below (unhide HB0)).more (unhide HB0).size)
  have hlen := hide hp.len
  clear hk hp
  obtain ⟨x0, x1, x2⟩ := three_at (unhide HC0)
  obtain ⟨t0, t1⟩ := two_at (unhide HT0)
  have hW1 : (w.alloc (.cells #[.int .i64 dg, .slice A n c, .slice A' n' c'] 24)).alloc (.cells #[.int .i64 tn, .int .i64 td] 26) = W0 := hW0.symm
  clear hW0
  rcases h1 : okC dg ks ps
  · have H1 := hide h1
    have HF := hide (show false = b from by rw [← hV.out, okT, h1]; rfl)
    clear h1
    go_enter Try.func17, Try.ntmps17
    go_upto_region 1 with fail
    clear hW1
    go_wp2_with fail
    refine (RValid_any dg _ _ _ _ _ _ ks ps W0 (unhide HK) (unhide HP) false H1).mono ?_
    rintro e w1 ⟨rfl, b1⟩
    have HB1 := hide ((unhide HB0).trans (b1.mono (unhide HB0).size))
    clear b1 x0 x1 x2 t0 t1
    go_wp2_with fail
    go_ret
    exact ⟨ret_bool HF.out, unhide HB1⟩
  · obtain ⟨d, rfl, hC⟩ := (okC_iff _ _ _).1 h1
    have H1 := hide h1
    have HCC := hide hC
    have HI := hide (show inB (nth ks d) (nth ks n') tn td = b from by rw [← hV.out, okT, h1, hlen.out]; rfl)
    clear h1 hC
    go_enter Try.func17, Try.ntmps17
    go_upto_region 1 with fail
    clear hW1
    go_wp2_with fail
    refine (RValid_any (d : Int) _ _ _ _ _ _ ks ps W0 (unhide HK) (unhide HP) true H1).mono ?_
    rintro e w1 ⟨rfl, b1⟩
    have HB1 := hide ((unhide HB0).trans (b1.mono (unhide HB0).size))
    have HC1 := hide ((b1.block _ (Array.getElem?_eq_some_iff.1 (unhide HC0)).1).trans (unhide HC0))
    have HT1 := hide ((b1.block _ (Array.getElem?_eq_some_iff.1 (unhide HT0)).1).trans (unhide HT0))
    have HK1 := hide (((unhide HK).below b1).more b1.size)
    have HP1 := hide (((unhide HP).below b1).more b1.size)
    clear b1 x0 x1 x2 t0 t1
    obtain ⟨x0, x1, x2⟩ := three_at (unhide HC1)
    obtain ⟨t0, t1⟩ := two_at (unhide HT1)
    go_wp2_with fail
    refine (RIn_any tn td d _ _ _ _ _ _ ks ps w1 (unhide HK1) (unhide HP1) HCC b HI).mono ?_
    rintro e w2 ⟨rfl, b2⟩
    have HB2 := hide ((unhide HB1).trans (b2.mono (unhide HB1).size))
    clear b2 x0 x1 x2 t0 t1
    go_wp2_with fail
    go_ret
    exact ⟨rfl, unhide HB2⟩

set_option maxRecDepth 8000 in
theorem none_any (a b : Int) (w : World) (r : Bool) (hr : Hid (decide (((a, b) : F) = (0, 0)) = r)) :
    Calls Try.prog 18 #[.agg #[.int .i64 a, .int .i64 b]] w fun e w' => e = .returned (.bool r) ∧ Below w.heap.size w w' := by
  have heq := eql26 a b 0 0
  rw [hr.out] at heq
  have HB := hide ((Below.refl _ w).alloc (Nat.le_refl _) (.cells #[.int .i64 a, .int .i64 b] 26))
  go_enter Try.func18, Try.ntmps18
  go_wp2_with fail
  go_ret
  exact ⟨rfl, unhide HB⟩

theorem fth_ext {xs ys : List F} (hl : xs.length = ys.length) (h : ∀ i, i < xs.length → fth xs i = fth ys i) : xs = ys := by
  apply List.ext_getElem hl
  intro i h1 h2
  have := h i h1
  simpa [fth, List.getD, h1, h2] using this

set_option maxRecDepth 8000 in
set_option maxHeartbeats 1600000 in
theorem equalQ_any (A A' : Option Addr) (n c n' c' : Nat) (xs ys : List F) (w : World) (B : Nat) (h : Fs w B A n c xs) (h' : Fs w B A' n' c' ys) (b : Bool) (hb : Hid (decide (xs = ys) = b)) :
    Calls Try.prog 20 #[.slice A n c, .slice A' n' c'] w fun e w' => e = .returned (.bool b) ∧ ∃ q, w' = w.drewN q := by
  have hm := h.most; have hcap := h.cap
  have hm' := h'.most; have hcap' := h'.cap
  have hl := hide h.len; have hl' := hide h'.len
  have H := hide h; have H' := hide h'; clear h h'
  by_cases hn : n = n'
  · subst hn
    have e1 : ((n : Int) != (n : Int)) = false := by simp
    have HNO := hide (fun (k : Nat) (hk : k < n) (hx : fth xs k ≠ fth ys k) => show false = b from by rw [← hb.out, eq_comm, decide_eq_false_iff_not]; intro e; exact hx (by rw [e]))
    have HYES := hide (fun (hx : ∀ k, k < n → fth xs k = fth ys k) => show true = b from by rw [← hb.out, eq_comm, decide_eq_true_iff]; exact fth_ext (by rw [hl.out, hl'.out]) (fun i hi => hx i (by rw [← hl.out]; exact hi)))
    clear hb
    go_enter Try.func20, Try.ntmps20
    go_wp2_with fail
    go_loopw [5, 13] (fun _ i wr => ∃ k : Nat, k ≤ n ∧ i = .int .i64 k ∧ Hid (∀ j, j < k → fth xs j = fth ys j) ∧ ∃ q, wr = w.drewN q) (fun _ i _ => n - (intOf i).toNat)
    case atStart => exact ⟨0, Nat.zero_le _, rfl, hide (fun j hj => absurd hj (by omega)), 0, rfl⟩
    case round =>
      obtain ⟨k, hk, rfl, HJ, q, rfl⟩ := hrel
      by_cases hlt : k < n
      · obtain ⟨b1, o1, rfl, _, c1, c2⟩ := (unhide H).at_ k hlt
        obtain ⟨b2, o2, rfl, _, d1, d2⟩ := (unhide H').at_ k hlt
        have HX := hide (HNO.out k hlt)
        have HJ2 := hide (fun (hx : fth xs k = fth ys k) => show ∀ j, j < k + 1 → fth xs j = fth ys j from fun j hj => by
          by_cases e : j = k
          · subst e; exact hx
          · exact HJ.out j (by omega))
        revert c1 c2 d1 d2 HX HJ2
        obtain ⟨⟨u, v⟩, e1⟩ : ∃ f, fth xs k = f := ⟨_, rfl⟩
        obtain ⟨⟨u', v'⟩, e2⟩ : ∃ f, fth ys k = f := ⟨_, rfl⟩
        rw [e1, e2]
        clear e1 e2
        intro c1 c2 d1 d2 HX HJ2
        simp only at c1 c2 d1 d2
        have hne := neq26 u v u' v'
        have hkI : (k : Int) < n := by omega
        by_cases he : ((u, v) : F) = (u', v')
        · have HJ3 := hide (HJ2.out he)
          rw [decide_eq_true he] at hne
          clear he
          go_wp2_with fail
          go_big_quiet (fail)
          go_wp2_with fail
          go_roundw
          case rel => exact ⟨k + 1, by omega, by go_num, HJ3, (by first | exact ⟨_, rfl⟩ | exact quiet_q _ _ _)⟩
          case measure => simp [intOf]; omega
        · have HR := hide (HX.out he)
          rw [decide_eq_false he] at hne
          clear he
          go_wp2_with fail
          go_big_quiet (fail)
          go_wp2_with fail
          go_ret
          exact ⟨ret_bool HR.out, (by first | exact ⟨_, rfl⟩ | exact quiet_q _ _ _)⟩
      · have HR := hide (HYES.out (fun j hj => HJ.out j (by omega)))
        go_wp2_with fail
        go_ret
        exact ⟨ret_bool HR.out, _, rfl⟩
  · have e1 : ((n : Int) != (n' : Int)) = true := by simp; omega
    have HF := hide (show false = b from by rw [← hb.out, eq_comm, decide_eq_false_iff_not]; intro e; exact hn (by rw [← hl.out, ← hl'.out, e]))
    go_enter Try.func20, Try.ntmps20
    go_wp2_with fail
    go_ret
    exact ⟨ret_bool HF.out, 0, rfl⟩
end Go.Proofs.Ytdbflcfjjoocgaa
