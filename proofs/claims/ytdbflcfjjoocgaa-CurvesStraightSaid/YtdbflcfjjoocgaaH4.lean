/-
  Basic of the program.
-/
import Derived.Test.YtdbflcfjjoocgaaH3
namespace Go.Proofs.Ytdbflcfjjoocgaa
open Go.RowKit

/-- A curve and a point of its span. -/
def okT (dg : Int) (ks ps : List Int) (tn td : Int) : Bool := okC dg ks ps && inB (nth ks dg.toNat) (nth ks ps.length) tn td
theorem okT_at {dg : Int} {ks ps : List Int} {tn td : Int} (h : okT dg ks ps tn td = true) : ∃ d p t, dg = (d : Nat) ∧ At d ks ps tn td t p := by
  simp only [okT, Bool.and_eq_true] at h
  obtain ⟨d, rfl, hC⟩ := (okC_iff _ _ _).1 h.1
  obtain ⟨⟨h1, h2⟩, ⟨h3, h4⟩, h5⟩ := (inB_iff _ _ _ _).1 h.2
  rw [Int.toNat_natCast] at h3
  obtain ⟨p, hp, hdp⟩ := hC.place h3
  exact ⟨d, p, _, rfl, hC, h5, h2, hp, hdp, h4, h3⟩
theorem At.okT {d : Nat} {ks ps : List Int} {tn td : Int} {t : Rat} {p : Nat} (h : At d ks ps tn td t p) : Go.Proofs.Ytdbflcfjjoocgaa.okT (d : Int) ks ps tn td = true := by
  simp only [Go.Proofs.Ytdbflcfjjoocgaa.okT, Bool.and_eq_true]
  refine ⟨(okC_iff _ _ _).2 ⟨d, rfl, h.ok⟩, (inB_iff _ _ _ _).2 ⟨⟨h.fr.pos, h.td12⟩, ⟨by rw [Int.toNat_natCast]; exact h.bot, h.top⟩, ?_⟩⟩
  rw [← h.fr.eq]; exact h.fr
theorem okT_no {dg : Int} {ks ps : List Int} {tn td : Int} (h : okT dg ks ps tn td = false) : okC dg ks ps = false ∨ ∃ d : Nat, dg = d ∧ OkC d ks ps ∧ inB (nth ks d) (nth ks ps.length) tn td = false := by
  rcases h1 : okC dg ks ps
  · exact .inl rfl
  · obtain ⟨d, rfl, hC⟩ := (okC_iff _ _ _).1 h1
    refine .inr ⟨d, rfl, hC, ?_⟩
    simpa [okT, h1] using h

/-- The world with the curve and the point laid. -/
def layT (w : World) (v : Value) (x y : Value) (tn td : Int) : World := (w.alloc (.cells #[v, x, y] 31)).alloc (.cells #[.int .i64 tn, .int .i64 td] 26)
theorem layT_below (w : World) (v x y : Value) (tn td : Int) : Below w.heap.size w (layT w v x y tn td) := ((Below.refl _ w).alloc (Nat.le_refl _) _).alloc (by simp) _
theorem layT_size (w : World) (v x y : Value) (tn td : Int) : (layT w v x y tn td).heap.size = w.heap.size + 2 := by simp [layT]
theorem layT_0 (w : World) (v x y : Value) (tn td : Int) : (layT w v x y tn td).heap[w.heap.size]? = some (.cells #[v, x, y] 31 (0, 0)) := by
  unfold layT; rw [Below.heap_alloc _ _ _ (by simp)]; exact heap_new_ w _
theorem layT_1 (w : World) (v x y : Value) (tn td : Int) : (layT w v x y tn td).heap[w.heap.size + 1]? = some (.cells #[.int .i64 tn, .int .i64 td] 26 (0, 0)) := by
  unfold layT
  have := heap_new_ (w.alloc (.cells #[v, x, y] 31)) (.cells #[.int .i64 tn, .int .i64 td] 26); rwa [World.size_alloc] at this

set_option maxRecDepth 100000 in
set_option maxHeartbeats 2000000 in
theorem Basic_no (dg tn td : Int) (A A' : Option Addr) (n c n' c' : Nat) (ks ps : List Int) (w : World) (hk : Ints w w.heap.size A n c ks) (hp : Ints w w.heap.size A' n' c' ps) (hV : Hid (okT dg ks ps tn td = false)) :
    Calls Try.prog 14 #[.agg #[.int .i64 dg, .slice A n c, .slice A' n' c'], .agg #[.int .i64 tn, .int .i64 td]] w fun e w' => e = .returned (.tuple #[.slice none 0 0, .int .i64 2]) ∧ Below w.heap.size w w' := by
  obtain ⟨W0, hW0⟩ : ∃ W0, W0 = layT w (.int .i64 dg) (.slice A n c) (.slice A' n' c') tn td := ⟨_, rfl⟩
  have HB0 := hide (show Below w.heap.size w W0 from by rw [hW0]; exact layT_below _ _ _ _ _ _)
  have HC0 := hide (show W0.heap[w.heap.size]? = some (.cells #[(.int .i64 dg), .slice A n c, .slice A' n' c'] 31 (0, 0)) from by rw [hW0]; exact layT_0 _ _ _ _ _ _)
  have HT0 := hide (show W0.heap[w.heap.size + 1]? = some (.cells #[.int .i64 tn, .int .i64 td] 26 (0, 0)) from by rw [hW0]; exact layT_1 _ _ _ _ _ _)
  have HK := hide ((hk.below (unhide HB0)).more (unhide HB0).size)
  have HP := hide ((hp.below (unhide HB0)).more (unhide HB0).size)
  have hlen := hide hp.len
  clear hk hp
  obtain ⟨x0, x1, x2⟩ := three_at (unhide HC0)
  obtain ⟨t0, t1⟩ := two_at (unhide HT0)
  have hW1 : (w.alloc (.cells #[.int .i64 dg, .slice A n c, .slice A' n' c'] 31)).alloc (.cells #[.int .i64 tn, .int .i64 td] 26) = W0 := hW0.symm
  clear hW0
  rcases okT_no hV.out with h | ⟨d, rfl, hC, h⟩
  · have H1 := hide h; clear h
    go_enter Try.func14, Try.ntmps14
    go_upto_region 1 with fail
    clear hW1
    go_wp2_with fail
    refine (isCurve_any dg _ _ _ _ _ _ ks ps W0 (unhide HK) (unhide HP) false H1).mono ?_
    rintro e w1 ⟨rfl, b1⟩
    have HB1 := hide ((unhide HB0).trans (b1.mono (unhide HB0).size))
    clear b1 x0 x1 x2 t0 t1
    go_wp2_with fail
    go_ret2
    exact ⟨rfl, unhide HB1⟩
  · have H1 := hide h; clear h
    have HOK := hide (show okC (d : Int) ks ps = true from (okC_iff _ _ _).2 ⟨d, rfl, hC⟩)
    have HCC := hide hC; clear hC
    rw [hlen.out] at H1
    go_enter Try.func14, Try.ntmps14
    go_upto_region 1 with fail
    clear hW1
    go_wp2_with fail
    refine (isCurve_any (d : Int) _ _ _ _ _ _ ks ps W0 (unhide HK) (unhide HP) true HOK).mono ?_
    rintro e w1 ⟨rfl, b1⟩
    have HB1 := hide ((unhide HB0).trans (b1.mono (unhide HB0).size))
    have HC1 := hide ((b1.block _ (Array.getElem?_eq_some_iff.1 (unhide HC0)).1).trans (unhide HC0))
    have HT1 := hide ((b1.block _ (Array.getElem?_eq_some_iff.1 (unhide HT0)).1).trans (unhide HT0))
    have HK1 := hide (((unhide HK).below b1).more b1.size)
    have HP1 := hide (((unhide HP).below b1).more b1.size)
    clear b1 x0 x1 x2 t0 t1
    obtain ⟨x0, x1, x2⟩ := three_at (unhide HC1)
    obtain ⟨t0, t1⟩ := two_at (unhide HT1)
    go_wp2_with fail
    refine (isWithin_any tn td d _ _ _ _ _ _ ks ps w1 (unhide HK1) (unhide HP1) HCC false H1).mono ?_
    rintro e w2 ⟨rfl, b2⟩
    have HB2 := hide ((unhide HB1).trans (b2.mono (unhide HB1).size))
    clear b2 x0 x1 x2 t0 t1
    go_wp2_with fail
    go_ret2
    exact ⟨rfl, unhide HB2⟩

set_option maxRecDepth 100000 in
set_option maxHeartbeats 4000000 in
theorem Basic_ok (d p : Nat) (tn td : Int) (t : Rat) (A A' : Option Addr) (n c n' c' : Nat) (ks ps : List Int) (w : World) (hk : Ints w w.heap.size A n c ks) (hp : Ints w w.heap.size A' n' c' ps) (hA : Hid (At d ks ps tn td t p)) :
    Calls Try.prog 14 #[.agg #[.int .i64 (d : Int), .slice A n c, .slice A' n' c'], .agg #[.int .i64 tn, .int .i64 td]] w fun e w' => ∃ (g : Nat) (L : List F), e = .returned (.tuple #[.slice (some ⟨g, 0, none⟩) n' n', .int .i64 0]) ∧ PB w' g 26 L ∧ L.length = n' ∧ Hid (HasQ L (bas (KQ ks) p t d) 0 n') ∧ Below w.heap.size w w' := by
  obtain ⟨W0, hW0⟩ : ∃ W0, W0 = layT w (.int .i64 (d : Int)) (.slice A n c) (.slice A' n' c') tn td := ⟨_, rfl⟩
  have HB0 := hide (show Below w.heap.size w W0 from by rw [hW0]; exact layT_below _ _ _ _ _ _)
  have HC0 := hide (show W0.heap[w.heap.size]? = some (.cells #[(.int .i64 (d : Int)), .slice A n c, .slice A' n' c'] 31 (0, 0)) from by rw [hW0]; exact layT_0 _ _ _ _ _ _)
  have HT0 := hide (show W0.heap[w.heap.size + 1]? = some (.cells #[.int .i64 tn, .int .i64 td] 26 (0, 0)) from by rw [hW0]; exact layT_1 _ _ _ _ _ _)
  have HK := hide ((hk.below (unhide HB0)).more (unhide HB0).size)
  have HP := hide ((hp.below (unhide HB0)).more (unhide HB0).size)
  have hn8 := hA.out.ok.n8; rw [hp.len] at hn8
  have hnn := hA.out.ok.len; rw [hp.len, hk.len] at hnn
  have hd3 := hA.out.ok.d3
  have hle : n' ≤ n - 1 := by omega
  have hle2 : n ≤ 100 := by omega
  have HOK := hide (show okC (d : Int) ks ps = true from (okC_iff _ _ _).2 ⟨d, rfl, hA.out.ok⟩)
  have HCC := hide hA.out.ok
  have HT := hide (show 1 ≤ td ∧ td ≤ 12 from ⟨hA.out.fr.pos, hA.out.td12⟩)
  have HPL := hide (show Pl ks n' tn td p from by rw [← hp.len]; exact hA.out.pl)
  have HIN := hide (show inB (nth ks d) (nth ks n') tn td = true from by
    have := hA.out.okT
    simp only [okT, Bool.and_eq_true] at this
    rw [← hp.len]; simpa using this.2)
  clear hk hp hnn
  obtain ⟨x0, x1, x2⟩ := three_at (unhide HC0)
  obtain ⟨t0, t1⟩ := two_at (unhide HT0)
  have hW1 : (w.alloc (.cells #[.int .i64 (d : Int), .slice A n c, .slice A' n' c'] 31)).alloc (.cells #[.int .i64 tn, .int .i64 td] 26) = W0 := hW0.symm
  clear hW0
  go_enter Try.func14, Try.ntmps14
  go_upto_region 1 with fail
  clear hW1
  go_wp2_with fail
  refine (isCurve_any (d : Int) _ _ _ _ _ _ ks ps W0 (unhide HK) (unhide HP) true HOK).mono ?_
  rintro e w1 ⟨rfl, b1⟩
  have HB1 := hide ((unhide HB0).trans (b1.mono (unhide HB0).size))
  have HC1 := hide ((b1.block _ (Array.getElem?_eq_some_iff.1 (unhide HC0)).1).trans (unhide HC0))
  have HT1 := hide ((b1.block _ (Array.getElem?_eq_some_iff.1 (unhide HT0)).1).trans (unhide HT0))
  have HK1 := hide (((unhide HK).below b1).more b1.size)
  have HP1 := hide (((unhide HP).below b1).more b1.size)
  clear b1 x0 x1 x2 t0 t1 HK HP
  obtain ⟨x0, x1, x2⟩ := three_at (unhide HC1)
  obtain ⟨t0, t1⟩ := two_at (unhide HT1)
  go_wp2_with fail
  refine (isWithin_any tn td d _ _ _ _ _ _ ks ps w1 (unhide HK1) (unhide HP1) HCC true HIN).mono ?_
  rintro e w2 ⟨rfl, b2⟩
  have HB2 := hide ((unhide HB1).trans (b2.mono (unhide HB1).size))
  have HC2 := hide ((b2.block _ (Array.getElem?_eq_some_iff.1 (unhide HC1)).1).trans (unhide HC1))
  have HT2 := hide ((b2.block _ (Array.getElem?_eq_some_iff.1 (unhide HT1)).1).trans (unhide HT1))
  have HK2 := hide (((unhide HK1).below b2).more b2.size)
  have HP2 := hide (((unhide HP1).below b2).more b2.size)
  clear b2 x0 x1 x2 t0 t1 HK1 HP1 HC1 HT1 HB1
  have HS := hide (show ∀ W', Below w2.heap.size w2 W' → (W'.cell? ⟨w.heap.size, 0, none⟩ = some (.int .i64 (d : Int)) ∧ W'.cell? ⟨w.heap.size, 1, none⟩ = some (.slice A n c) ∧ W'.cell? ⟨w.heap.size, 2, none⟩ = some (.slice A' n' c') ∧ W'.cell? ⟨w.heap.size + 1, 0, none⟩ = some (.int .i64 tn) ∧ W'.cell? ⟨w.heap.size + 1, 1, none⟩ = some (.int .i64 td)) from fun W' hb => by
    obtain ⟨a0, a1, a2⟩ := three_at ((hb.block _ (Array.getElem?_eq_some_iff.1 (unhide HC2)).1).trans (unhide HC2))
    obtain ⟨a3, a4⟩ := two_at ((hb.block _ (Array.getElem?_eq_some_iff.1 (unhide HT2)).1).trans (unhide HT2))
    exact ⟨a0, a1, a2, a3, a4⟩)
  have HWd := hide (show Below w2.heap.size w2 w2.drew from (Below.refl _ _).drew)
  have HKd := hide (show Ints w2.drew w2.drew.heap.size A n c ks from ((unhide HK2).below (unhide HWd)).more (Nat.le_refl _))
  have HPd := hide (show Ints w2.drew w2.drew.heap.size A' n' c' ps from ((unhide HP2).below (unhide HWd)).more (Nat.le_refl _))
  obtain ⟨x0, x1, x2, t0, t1⟩ := (unhide HS) _ (Below.refl _ _)
  go_wp2_with fail
  go_region_held3 (fun W => W.cell? ⟨w.heap.size, 0, none⟩ = some (.int .i64 (d : Int)) ∧ W.cell? ⟨w.heap.size, 1, none⟩ = some (.slice A n c) ∧ W.cell? ⟨w.heap.size, 2, none⟩ = some (.slice A' n' c') ∧ W.cell? ⟨w.heap.size + 1, 0, none⟩ = some (.int .i64 tn) ∧ W.cell? ⟨w.heap.size + 1, 1, none⟩ = some (.int .i64 td)) (first | exact ⟨x0, x1, x2, t0, t1⟩ | exact (unhide HS) _ (unhide HWa) | exact (unhide HS) _ (unhide HWb) | exact (unhide HS) _ (unhide HWc)) (first
    | (go_at_call 51; refine (placeOf_any tn td d _ _ _ _ _ _ ks ps w2.drew (unhide HKd) (unhide HPd) HCC HT.out p HPL).mono ?_; rintro e wa ⟨rfl, ba⟩; have HWa := hide ((unhide HWd).trans (ba.mono (unhide HWd).size)); have HKa := hide (((unhide HKd).below ba).more ba.size); have HPa := hide (((unhide HPd).below ba).more ba.size); clear ba)
    | (go_at_call 50; refine (basics_any tn td d p t _ _ _ _ _ _ ks ps wa (unhide HKa) (unhide HPa) hA).mono ?_; rintro e wb ⟨g, L, rfl, hpb, hL, HQ, bb, hg⟩; have HWb := hide ((unhide HWa).trans (bb.mono (unhide HWa).size)); have HFs := hide (hpb.fs (m := n') (c := n - 1) (B := wb.heap.size) (by rw [hL]; exact hle) hle (by omega) hpb.lt); have HL := hide hL; clear bb hL hpb)
    | (go_at_call 49; refine (fracs_any _ _ _ (L.take n') wb (unhide HFs) (by omega)).mono ?_; rintro e wc ⟨rfl, hpc, bc⟩; have HWc := hide ((unhide HWb).trans (bc.mono (unhide HWb).size)); have HPC := hide hpc; clear hpc bc))
  all_goals (go_wp2_with fail; go_ret2)
  all_goals refine ⟨wb.heap.size, L.take n', rfl, unhide HPC, by rw [List.length_take, HL.out]; omega, ?_, (unhide HB2).trans ((unhide HWc).mono (unhide HB2).size)⟩
  all_goals (intro j h1 h2; have e : fth (L.take n') j = fth L j := by simp [fth, List.getD, List.getElem?_take, h2]
             rw [e]; exact HQ.out j h1 h2)
end Go.Proofs.Ytdbflcfjjoocgaa
