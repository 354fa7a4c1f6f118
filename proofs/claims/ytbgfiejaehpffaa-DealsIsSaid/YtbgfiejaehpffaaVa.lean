/-
  Is of the program.
-/
import Derived.Test.YtbgfiejaehpffaaV9
namespace Go.Proofs.Ytbgfiejaehpffaa
open Go.RowKit

/-- Beyond a limit. -/
def beyB (xn xd yn yd : Int) (l : G) : Bool := decide (l.2.2 * xd * yd < l.1 * xn * yd + l.2.1 * yn * xd)
def plOk (x d : Int) : Prop := (0 ≤ x ∧ x ≤ 30000000) ∧ (1 ≤ d ∧ d ≤ 1000000)
theorem plB_ok {x d : Int} (h : plB x d = true) : plOk x d := by
  unfold plB at h
  rw [Bool.and_eq_true, Bool.and_eq_true, allIn_1, allIn_1] at h
  obtain ⟨h1, h2, _⟩ := h
  simp at h1 h2
  unfold plOk; omega

set_option maxRecDepth 100000 in
set_option maxHeartbeats 4000000 in
theorem bey_c (xn xd yn yd : Int) (b : Nat) (w : World) (L : List G) (hx : plOk xn xd) (hy : plOk yn yd) (hL : ∀ l, l ∈ L → okL l) (hc : w.heap[b]? = some (.cells #[.int .i64 xn, .int .i64 xd, .int .i64 yn, .int .i64 yd] 37 (0, 0))) :
    TellAt 53 #[.pointer (some ⟨b, 0, none⟩)] (beyB xn xd yn yd) w L := by
  rintro ⟨p, q, r⟩ W hl hWb
  have hok := hL _ hl
  have hcW := (hWb.block b (Array.getElem?_eq_some_iff.1 hc).1).trans hc
  simp only [okL] at hok
  clear hL hl hc
  obtain ⟨⟨p1, p2⟩, ⟨q1, q2⟩, r1, r2⟩ := hok
  obtain ⟨⟨xn1, xn2⟩, xd1, xd2⟩ := hx
  obtain ⟨⟨yn1, yn2⟩, yd1, yd2⟩ := hy
  obtain ⟨z, hz⟩ : ∃ z, beyB xn xd yn yd (p, q, r) = z := ⟨_, rfl⟩
  rw [hz]
  have HZ := hide hz
  clear hz
  show Calls Try.prog 53 #[.agg #[.int .i64 p, .int .i64 q, .int .i64 r], .pointer (some ⟨b, 0, none⟩)] W _
  obtain ⟨W0, hW0⟩ : ∃ W0, W0 = W.alloc (.cells #[.int .i64 p, .int .i64 q, .int .i64 r] 73) := ⟨_, rfl⟩
  have HB0 := hide (show Below W.heap.size W W0 from by rw [hW0]; exact (Below.refl _ W).alloc (Nat.le_refl _) _)
  obtain ⟨l0, l1, l2⟩ := three_at (show W0.heap[W.heap.size]? = some (.cells #[.int .i64 p, .int .i64 q, .int .i64 r] 73 (0, 0)) from by rw [hW0]; exact heap_new_ _ _)
  obtain ⟨c0, c1, c2, c3⟩ := four_at (((unhide HB0).block b (Array.getElem?_eq_some_iff.1 hcW).1).trans hcW)
  have hW : W.alloc (.cells #[.int .i64 p, .int .i64 q, .int .i64 r] 73) = W0 := hW0.symm
  clear hW0 hcW hWb
  have e1 := mul_bd (M := 60) (N := 30000000) (a := p) (b := xn) (by omega) (by omega)
  obtain ⟨m1, hm1⟩ : ∃ m1, p * xn = m1 := ⟨_, rfl⟩
  rw [hm1] at e1
  have e2 := mul_bd (M := 60 * 30000000) (N := 1000000) (a := m1) (b := yd) (by omega) (by omega)
  obtain ⟨m2, hm2⟩ : ∃ m2, m1 * yd = m2 := ⟨_, rfl⟩
  rw [hm2] at e2
  have e3 := mul_bd (M := 60) (N := 30000000) (a := q) (b := yn) (by omega) (by omega)
  obtain ⟨m3, hm3⟩ : ∃ m3, q * yn = m3 := ⟨_, rfl⟩
  rw [hm3] at e3
  have e4 := mul_bd (M := 60 * 30000000) (N := 1000000) (a := m3) (b := xd) (by omega) (by omega)
  obtain ⟨m4, hm4⟩ : ∃ m4, m3 * xd = m4 := ⟨_, rfl⟩
  rw [hm4] at e4
  have e5 := mul_bd (M := 4000) (N := 1000000) (a := r) (b := xd) (by omega) (by omega)
  obtain ⟨m5, hm5⟩ : ∃ m5, r * xd = m5 := ⟨_, rfl⟩
  rw [hm5] at e5
  have e6 := mul_bd (M := 4000 * 1000000) (N := 1000000) (a := m5) (b := yd) (by omega) (by omega)
  obtain ⟨m6, hm6⟩ : ∃ m6, m5 * yd = m6 := ⟨_, rfl⟩
  rw [hm6] at e6
  have HF := hide (show decide (m6 < m2 + m4) = z from by rw [← HZ.out]; unfold beyB; simp only [hm1, hm2, hm3, hm4, hm5, hm6])
  clear p1 p2 q1 q2 r1 r2 xn1 xn2 yn1 yn2
  go_enter Try.func53, Try.ntmps53
  go_upto_region 1 with fail
  clear hW
  go_wp2_with fail
  go_ret
  exact ⟨ret_bool HF.out, unhide HB0⟩
theorem enter53 : ∀ args w, (callFunc 53 args).run Try.prog w = .ok (.enter 53 args) w := enters_of Try.func53 (by kernel_rfl) rfl

theorem okL_lims0 {fs : List F} {L : List F} (hO : Off fs) (hC : Cor fs (fth L) L.length) : ∀ l, l ∈ limsF L → okL l := by
  have := okL_lims hO hC (0, 0) (by simp)
  rwa [show L.map (subF (0, 0)) = L from by
    have : subF (0, 0) = id := by funext p; simp [subF]
    rw [this, List.map_id]] at this

set_option maxRecDepth 100000 in
set_option maxHeartbeats 8000000 in
theorem Is_no1 (A : Option Addr) (n c : Nat) (fs : List F) (xn xd yn yd : Int) (w : World) (h : Fs w w.heap.size A n c fs) (hb : Hid (offB fs = false)) :
    Calls Try.prog 21 #[.slice A n c, .agg #[.int .i64 xn, .int .i64 xd, .int .i64 yn, .int .i64 yd]] w fun e w' => e = .returned (.tuple #[.bool false, .int .i64 2]) ∧ Below w.heap.size w w' := by
  have hm := h.most; have hcap := h.cap
  have HL := hide h.len
  obtain ⟨W0, hW0⟩ : ∃ W0, W0 = w.alloc (.cells #[.int .i64 xn, .int .i64 xd, .int .i64 yn, .int .i64 yd] 37) := ⟨_, rfl⟩
  have HB0 := hide (show Below w.heap.size w W0 from by rw [hW0]; exact (Below.refl _ w).alloc (Nat.le_refl _) _)
  have HV0 := hide (show W0.heap[w.heap.size]? = some (.cells #[.int .i64 xn, .int .i64 xd, .int .i64 yn, .int .i64 yd] 37 (0, 0)) from by rw [hW0]; exact heap_new_ w _)
  have HI0 := hide ((h.below (unhide HB0)).more (unhide HB0).size)
  have hW : w.alloc (.cells #[.int .i64 xn, .int .i64 xd, .int .i64 yn, .int .i64 yd] 37) = W0 := hW0.symm
  clear hW0 h
  have HA := hide (areOffers_any A n c fs W0 (unhide HI0) false hb)
  go_enter Try.func21, Try.ntmps21
  go_upto_region 1 with fail
  clear hW
  go_wp2_with fail
  refine (unhide HA).mono ?_
  rintro e w1 ⟨rfl, b1⟩
  have HB1 := hide ((unhide HB0).trans (b1.mono (unhide HB0).size))
  have HV1 := hide ((b1.block _ (Array.getElem?_eq_some_iff.1 (unhide HV0)).1).trans (unhide HV0))
  have HI1 := hide (((unhide HI0).below b1).more b1.size)
  clear b1
  go_wp2_with fail
  exact bodyPost_ret (v := .tuple #[.bool false, .int .i64 2]) (by simp [results, Try.results21, go_sem]) rfl ⟨rfl, unhide HB1⟩

set_option maxRecDepth 100000 in
set_option maxHeartbeats 8000000 in
theorem Is_no2 (A : Option Addr) (n c : Nat) (fs : List F) (xn xd yn yd : Int) (w : World) (h : Fs w w.heap.size A n c fs) (hb : Hid (offB fs = true)) (hx : Hid (plB xn xd = false)) :
    Calls Try.prog 21 #[.slice A n c, .agg #[.int .i64 xn, .int .i64 xd, .int .i64 yn, .int .i64 yd]] w fun e w' => e = .returned (.tuple #[.bool false, .int .i64 2]) ∧ Below w.heap.size w w' := by
  have hm := h.most; have hcap := h.cap
  have HL := hide h.len
  obtain ⟨W0, hW0⟩ : ∃ W0, W0 = w.alloc (.cells #[.int .i64 xn, .int .i64 xd, .int .i64 yn, .int .i64 yd] 37) := ⟨_, rfl⟩
  have HB0 := hide (show Below w.heap.size w W0 from by rw [hW0]; exact (Below.refl _ w).alloc (Nat.le_refl _) _)
  have HV0 := hide (show W0.heap[w.heap.size]? = some (.cells #[.int .i64 xn, .int .i64 xd, .int .i64 yn, .int .i64 yd] 37 (0, 0)) from by rw [hW0]; exact heap_new_ w _)
  have HI0 := hide ((h.below (unhide HB0)).more (unhide HB0).size)
  have hW : w.alloc (.cells #[.int .i64 xn, .int .i64 xd, .int .i64 yn, .int .i64 yd] 37) = W0 := hW0.symm
  clear hW0 h
  have HA := hide (areOffers_any A n c fs W0 (unhide HI0) true hb)
  go_enter Try.func21, Try.ntmps21
  go_upto_region 1 with fail
  clear hW
  go_wp2_with fail
  refine (unhide HA).mono ?_
  rintro e w1 ⟨rfl, b1⟩
  have HB1 := hide ((unhide HB0).trans (b1.mono (unhide HB0).size))
  have HV1 := hide ((b1.block _ (Array.getElem?_eq_some_iff.1 (unhide HV0)).1).trans (unhide HV0))
  have HI1 := hide (((unhide HI0).below b1).more b1.size)
  clear b1
  obtain ⟨x0, x1, x2, x3⟩ := four_at (unhide HV1)
  go_wp2_with fail
  refine (isPlace_any xn xd w1 false hx).mono ?_
  rintro e w2 ⟨rfl, b2⟩
  have HB2 := hide ((unhide HB1).trans (b2.mono (unhide HB1).size))
  have HV2 := hide ((b2.block _ (Array.getElem?_eq_some_iff.1 (unhide HV1)).1).trans (unhide HV1))
  have HI2 := hide (((unhide HI1).below b2).more b2.size)
  clear b2 x0 x1 x2 x3
  go_wp2_with fail
  exact bodyPost_ret (v := .tuple #[.bool false, .int .i64 2]) (by simp [results, Try.results21, go_sem]) rfl ⟨rfl, unhide HB2⟩

set_option maxRecDepth 100000 in
set_option maxHeartbeats 8000000 in
theorem Is_no3 (A : Option Addr) (n c : Nat) (fs : List F) (xn xd yn yd : Int) (w : World) (h : Fs w w.heap.size A n c fs) (hb : Hid (offB fs = true)) (hx : Hid (plB xn xd = true)) (hy : Hid (plB yn yd = false)) :
    Calls Try.prog 21 #[.slice A n c, .agg #[.int .i64 xn, .int .i64 xd, .int .i64 yn, .int .i64 yd]] w fun e w' => e = .returned (.tuple #[.bool false, .int .i64 2]) ∧ Below w.heap.size w w' := by
  have hm := h.most; have hcap := h.cap
  have HL := hide h.len
  obtain ⟨W0, hW0⟩ : ∃ W0, W0 = w.alloc (.cells #[.int .i64 xn, .int .i64 xd, .int .i64 yn, .int .i64 yd] 37) := ⟨_, rfl⟩
  have HB0 := hide (show Below w.heap.size w W0 from by rw [hW0]; exact (Below.refl _ w).alloc (Nat.le_refl _) _)
  have HV0 := hide (show W0.heap[w.heap.size]? = some (.cells #[.int .i64 xn, .int .i64 xd, .int .i64 yn, .int .i64 yd] 37 (0, 0)) from by rw [hW0]; exact heap_new_ w _)
  have HI0 := hide ((h.below (unhide HB0)).more (unhide HB0).size)
  have hW : w.alloc (.cells #[.int .i64 xn, .int .i64 xd, .int .i64 yn, .int .i64 yd] 37) = W0 := hW0.symm
  clear hW0 h
  have HA := hide (areOffers_any A n c fs W0 (unhide HI0) true hb)
  go_enter Try.func21, Try.ntmps21
  go_upto_region 1 with fail
  clear hW
  go_wp2_with fail
  refine (unhide HA).mono ?_
  rintro e w1 ⟨rfl, b1⟩
  have HB1 := hide ((unhide HB0).trans (b1.mono (unhide HB0).size))
  have HV1 := hide ((b1.block _ (Array.getElem?_eq_some_iff.1 (unhide HV0)).1).trans (unhide HV0))
  have HI1 := hide (((unhide HI0).below b1).more b1.size)
  clear b1
  obtain ⟨x0, x1, x2, x3⟩ := four_at (unhide HV1)
  go_wp2_with fail
  refine (isPlace_any xn xd w1 true hx).mono ?_
  rintro e w2 ⟨rfl, b2⟩
  have HB2 := hide ((unhide HB1).trans (b2.mono (unhide HB1).size))
  have HV2 := hide ((b2.block _ (Array.getElem?_eq_some_iff.1 (unhide HV1)).1).trans (unhide HV1))
  have HI2 := hide (((unhide HI1).below b2).more b2.size)
  clear b2 x0 x1 x2 x3
  obtain ⟨x0, x1, x2, x3⟩ := four_at (unhide HV2)
  go_wp2_with fail
  refine (isPlace_any yn yd w2 false hy).mono ?_
  rintro e w3 ⟨rfl, b3⟩
  have HB3 := hide ((unhide HB2).trans (b3.mono (unhide HB2).size))
  have HV3 := hide ((b3.block _ (Array.getElem?_eq_some_iff.1 (unhide HV2)).1).trans (unhide HV2))
  have HI3 := hide (((unhide HI2).below b3).more b3.size)
  clear b3 x0 x1 x2 x3
  go_wp2_with fail
  exact bodyPost_ret (v := .tuple #[.bool false, .int .i64 2]) (by simp [results, Try.results21, go_sem]) rfl ⟨rfl, unhide HB3⟩

set_option maxRecDepth 100000 in
set_option maxHeartbeats 8000000 in
theorem Is_ok (A : Option Addr) (n c : Nat) (fs : List F) (xn xd yn yd : Int) (w : World) (h : Fs w w.heap.size A n c fs) (hb : Hid (offB fs = true)) (hx : Hid (plB xn xd = true)) (hy : Hid (plB yn yd = true)) (b : Bool) (hr : Hid ((limsF (edgeR fs)).any (beyB xn xd yn yd) = b)) :
    Calls Try.prog 21 #[.slice A n c, .agg #[.int .i64 xn, .int .i64 xd, .int .i64 yn, .int .i64 yd]] w fun e w' => e = .returned (.tuple #[.bool (!b), .int .i64 0]) ∧ Below w.heap.size w w' := by
  have hm := h.most; have hcap := h.cap
  have HL := hide h.len
  obtain ⟨W0, hW0⟩ : ∃ W0, W0 = w.alloc (.cells #[.int .i64 xn, .int .i64 xd, .int .i64 yn, .int .i64 yd] 37) := ⟨_, rfl⟩
  have HB0 := hide (show Below w.heap.size w W0 from by rw [hW0]; exact (Below.refl _ w).alloc (Nat.le_refl _) _)
  have HV0 := hide (show W0.heap[w.heap.size]? = some (.cells #[.int .i64 xn, .int .i64 xd, .int .i64 yn, .int .i64 yd] 37 (0, 0)) from by rw [hW0]; exact heap_new_ w _)
  have HI0 := hide ((h.below (unhide HB0)).more (unhide HB0).size)
  have hW : w.alloc (.cells #[.int .i64 xn, .int .i64 xd, .int .i64 yn, .int .i64 yd] 37) = W0 := hW0.symm
  clear hW0 h
  have HA := hide (areOffers_any A n c fs W0 (unhide HI0) true hb)
  go_enter Try.func21, Try.ntmps21
  go_upto_region 1 with fail
  clear hW
  go_wp2_with fail
  refine (unhide HA).mono ?_
  rintro e w1 ⟨rfl, b1⟩
  have HB1 := hide ((unhide HB0).trans (b1.mono (unhide HB0).size))
  have HV1 := hide ((b1.block _ (Array.getElem?_eq_some_iff.1 (unhide HV0)).1).trans (unhide HV0))
  have HI1 := hide (((unhide HI0).below b1).more b1.size)
  clear b1
  obtain ⟨x0, x1, x2, x3⟩ := four_at (unhide HV1)
  go_wp2_with fail
  refine (isPlace_any xn xd w1 true hx).mono ?_
  rintro e w2 ⟨rfl, b2⟩
  have HB2 := hide ((unhide HB1).trans (b2.mono (unhide HB1).size))
  have HV2 := hide ((b2.block _ (Array.getElem?_eq_some_iff.1 (unhide HV1)).1).trans (unhide HV1))
  have HI2 := hide (((unhide HI1).below b2).more b2.size)
  clear b2 x0 x1 x2 x3
  obtain ⟨x0, x1, x2, x3⟩ := four_at (unhide HV2)
  go_wp2_with fail
  refine (isPlace_any yn yd w2 true hy).mono ?_
  rintro e w3 ⟨rfl, b3⟩
  have HB3 := hide ((unhide HB2).trans (b3.mono (unhide HB2).size))
  have HV3 := hide ((b3.block _ (Array.getElem?_eq_some_iff.1 (unhide HV2)).1).trans (unhide HV2))
  have HI3 := hide (((unhide HI2).below b3).more b3.size)
  clear b3 x0 x1 x2 x3
  have HO := hide ((offB_iff fs).1 hb.out)
  have hn1 : 0 < n := by have := HO.out.pos; have := HL.out; omega
  have hn2 : n ≤ 8 := by have := HO.out.most; have := HL.out; omega
  go_wp2_with fail
  refine (corners_any A n c fs w3 (unhide HI3) hn1 (by omega) (hide (fun q hq => HO.out.small q hq)) (hide HO.out.nd)).mono ?_
  rintro e w4 ⟨v4, L, rfl, ho, hc, hl, b4⟩
  have HB4 := hide ((unhide HB3).trans (b4.mono (unhide HB3).size))
  have HV4 := hide ((b4.block _ (Array.getElem?_eq_some_iff.1 (unhide HV3)).1).trans (unhide HV3))
  have HE := hide (hc.list (fun q hq => by have := HO.out.pr q hq; omega))
  have HOk := hide (okL_lims0 HO.out hc)
  obtain ⟨A4, n4, c4, rfl, hf4⟩ := ho.to
  have HF4 := hide hf4
  have HCp := hide hc.pos
  have HCs := hide (show ∀ k, k < L.length → smallP 1000 (fth L k) from fun k hk => HO.out.small _ (hc.mem k hk))
  have HL4 := hide hf4.len
  have hm4 := hf4.most; have hcap4 := hf4.cap
  have HLn := hide hl
  clear b4 ho hc hl hf4
  go_wp2_with fail
  refine (limits_any A4 n4 c4 L w4 (unhide HF4) (fun k hk => HCs.out k (by rw [HL4.out]; exact hk)) (by have := HCp.out; rw [HL4.out] at this; exact this) (by have := HLn.out; rw [HL4.out] at this; omega)).mono ?_
  rintro e w5 ⟨v5, rfl, ho5, b5⟩
  have HB5 := hide ((unhide HB4).trans (b5.mono (unhide HB4).size))
  have HV5 := hide ((b5.block _ (Array.getElem?_eq_some_iff.1 (unhide HV4)).1).trans (unhide HV4))
  obtain ⟨A5, n5, c5, rfl, hg5⟩ := ho5.to
  have HG5 := hide hg5
  clear b5 ho5 hg5
  go_wp2_with fail
  refine (containsL_any 53 #[.pointer (some ⟨w.heap.size, 0, none⟩)] (beyB xn xd yn yd) A5 n5 c5 (limsF L) w5 (unhide HG5) enter53 (bey_c xn xd yn yd w.heap.size w5 (limsF L) (plB_ok hx.out) (plB_ok hy.out) HOk.out (unhide HV5)) b (hide (by rw [← HE.out]; exact hr.out))).mono ?_
  rintro e w6 ⟨rfl, b6⟩
  have HB6 := hide ((unhide HB5).trans (b6.mono (unhide HB5).size))
  clear b6
  go_wp2_with fail
  exact bodyPost_ret (v := .tuple #[.bool (!b), .int .i64 0]) (by simp [results, Try.results21, go_sem]) rfl ⟨rfl, unhide HB6⟩

end Go.Proofs.Ytbgfiejaehpffaa
