/-
  Hidden of the program.
-/
import Derived.Test.YtabgifpenegofaaX9
import Derived.Test.YtabgifpenegofaaL1
namespace Go.Proofs.Ytabgifpenegofaa
open Go.RowKit

theorem under74 : Try.prog.underlying 74 = some (.array 3 3) := by kernel_rfl
theorem cells3' : Try.prog.cellsOf 3 = 1 := by kernel_rfl
theorem eql74 (a b c a' b' c' : Int) (w : World) : (binOp .eql 74 (.agg #[.int .i64 a, .int .i64 b, .int .i64 c]) (.agg #[.int .i64 a', .int .i64 b', .int .i64 c'])).run Try.prog w = .ok (.bool (decide (a = a' ∧ b = b' ∧ c = c'))) w := by
  obtain ⟨i0, h0, hz0, hz1, hz2⟩ := info_parts info3
  have u3 := Try.underlying3
  have a3 := Try.isAgg3
  have z3 := Try.sizeOf3
  rw [run_eql_struct, show (10000 : Nat) = 9998 + 1 + 1 from rfl, run_equalIn_array w _ _ _ under74 h0]
  rw [cells3']
  simp only [show List.range 3 = [0, 1, 2] from rfl, Op.eqItems]
  go_simp
  by_cases h1 : a = a' <;> by_cases h2 : b = b' <;> by_cases h3 : c = c' <;> simp [h1, h2, h3]

theorem index102 (a b c : Value) (w : World) : (Instr.index 102 (.agg #[a, b, c]) (.int .i64 0)).run Try.prog w = .ok a w ∧ (Instr.index 102 (.agg #[a, b, c]) (.int .i64 1)).run Try.prog w = .ok b w ∧ (Instr.index 102 (.agg #[a, b, c]) (.int .i64 2)).run Try.prog w = .ok c w := by
  have u : Try.prog.underlying 102 = some (.array 3 22) := by kernel_rfl
  have a1 : (isAgg 22).run Try.prog w = .ok false w := Try.isAgg22 w
  have s1 : (sizeOf 22).run Try.prog w = .ok 1 w := Try.sizeOf22 w
  refine ⟨?_, ?_, ?_⟩ <;> simp [Instr.index, run_underlying u, asIntOf, s1, part, Sem.run_bind, a1]
def sgT (t : List (List Int)) : Int := sgn (odN t) (odD t)
def gtB (t : List (List Int)) : Bool := decide (odD t < odN t)
def ltB (t : List (List Int)) : Bool := decide (odN t < odD t)
theorem sgT_gt (t : List (List Int)) : decide (sgT t = 1) = gtB t := by
  unfold sgT sgn gtB
  by_cases h1 : odN t < odD t
  · rw [if_pos h1, Bool.eq_iff_iff]; simp; omega
  · rw [if_neg h1]
    by_cases h2 : odD t < odN t
    · rw [if_pos h2]; simp [h2]
    · rw [if_neg h2]; simp [h2]
theorem sgT_lt (t : List (List Int)) : decide (sgT t = -1) = ltB t := by
  unfold sgT sgn ltB
  by_cases h1 : odN t < odD t
  · rw [if_pos h1]; simp [h1]
  · rw [if_neg h1]
    by_cases h2 : odD t < odN t
    · rw [if_pos h2]; simp [h1]
    · rw [if_neg h2]; simp [h1]
def plT (s t : List (List Int)) : List (List Int) := tabL 2 2 (plK s t)
def hdOk (s t : List (List Int)) : Bool := decide (tot (plK s t) ≤ 16) && (okO s && (okO t && okO (plT s t)))
def twB (s t : List (List Int)) : Bool := isTwo s && isTwo t
def hdW (s t : List (List Int)) : Bool := (gtB s && (gtB t && ltB (plT s t))) || (ltB s && (ltB t && gtB (plT s t)))
def hdE (s t : List (List Int)) : Int := if twB s t then (if hdOk s t then 0 else 5) else 2
def hdV (s t : List (List Int)) : Bool := twB s t && (hdOk s t && hdW s t)
theorem plT_two {s t : List (List Int)} (hs : isTwo s = true) (ht : isTwo t = true) (h : tot (plK s t) ≤ 16) : isTwo (plT s t) = true := by
  have hb : Tb (plT s t) 2 2 := plT_tb (two_tb hs) (two_tb ht) h
  unfold isTwo
  rw [isT_of hb, hb.len, hb.rows 0 (by omega)]
  simp

set_option maxRecDepth 100000 in
set_option maxHeartbeats 4000000 in
theorem Hidden_no (A A' : Option Addr) (n c n' c' : Nat) (s t : List (List Int)) (w : World) (h : Rows_ w w.heap.size A n c s) (h' : Rows_ w w.heap.size A' n' c' t) (hr : Hid (twB s t = false)) :
    Calls Try.prog 55 #[.slice A n c, .slice A' n' c'] w fun e w' => e = .returned (.tuple #[.bool false, .int .i64 2]) ∧ Below w.heap.size w w' := by
  cases h0 : isTwo s with
  | false =>
    have H0 := hide h0
    clear h0
    go_enter Try.func55, Try.ntmps55
    go_wp2_with fail
    refine (isFourfold_any _ _ _ _ _ h _ H0).mono ?_
    rintro e w1 ⟨rfl, b1⟩
    go_wp2_with fail
    go_ret2
    exact ⟨rfl, b1⟩
  | true =>
    have H0 := hide h0
    have H1 := hide (show isTwo t = false from by have := hr.out; unfold twB at this; rw [h0] at this; simpa using this)
    clear h0
    go_enter Try.func55, Try.ntmps55
    go_wp2_with fail
    refine (isFourfold_any _ _ _ _ _ h _ H0).mono ?_
    rintro e w1 ⟨rfl, b1⟩
    have HB1 := hide b1
    have h1' := (h'.below b1).more b1.size
    clear b1
    go_wp2_with fail
    refine (isFourfold_any _ _ _ _ _ h1' _ H1).mono ?_
    rintro e w2 ⟨rfl, b2⟩
    have HB2 := hide ((unhide HB1).trans (b2.mono (unhide HB1).size))
    go_wp2_with fail
    go_ret2
    exact ⟨rfl, unhide HB2⟩

set_option maxRecDepth 100000 in
set_option maxHeartbeats 8000000 in
theorem Hidden_ok (b off c b' off' c' : Nat) (s t : List (List Int)) (w : World) (h : Rows_ w w.heap.size (some ⟨b, off, none⟩) 2 c s) (h' : Rows_ w w.heap.size (some ⟨b', off', none⟩) 2 c' t) (hs : Hid (isTwo s = true)) (ht : Hid (isTwo t = true)) (r : Bool) (z : Int) (hr : Hid ((hdOk s t && hdW s t) = r)) (hz : Hid ((if hdOk s t then 0 else 5) = z)) :
    Calls Try.prog 55 #[.slice (some ⟨b, off, none⟩) 2 c, .slice (some ⟨b', off', none⟩) 2 c'] w fun e w' => e = .returned (.tuple #[.bool r, .int .i64 z]) ∧ Below w.heap.size w w' := by
  have HS := hide (two_tb hs.out); have HT := hide (two_tb ht.out)
  go_enter Try.func55, Try.ntmps55
  go_wp2_with fail
  refine (isFourfold_any _ _ _ _ _ h _ hs).mono ?_
  rintro e w1 ⟨rfl, b1⟩
  have HB1 := hide b1
  have h1' := (h'.below b1).more b1.size
  clear b1
  go_wp2_with fail
  refine (isFourfold_any _ _ _ _ _ h1' _ ht).mono ?_
  rintro e w2 ⟨rfl, b2⟩
  have HB2 := hide ((unhide HB1).trans (b2.mono (unhide HB1).size))
  have j1 := hide ((h.below (unhide HB2)).more (unhide HB2).size)
  have j2 := hide ((h'.below (unhide HB2)).more (unhide HB2).size)
  clear b2 h1'
  cases h16 : decide (tot (plK s t) ≤ 16) with
  | false =>
    obtain ⟨rfl, rfl⟩ : false = r ∧ 5 = z := by
      have e : hdOk s t = false := by unfold hdOk; rw [h16]; rfl
      rw [← hr.out, ← hz.out, e]; exact ⟨rfl, rfl⟩
    have H16 := hide h16
    clear h16
    go_wp2_with fail
    refine (Plus_ok _ _ _ _ _ _ _ _ _ _ _ (unhide j1) (unhide j2) HS HT false H16).mono ?_
    rintro e w3 ⟨A3, n3, c3, rfl, r3, b3⟩
    have HB3 := hide ((unhide HB2).trans (b3.mono (unhide HB2).size))
    simp only [Bool.false_eq_true, if_false]
    go_wp2_with fail
    go_ret2
    exact ⟨rfl, unhide HB3⟩
  | true =>
    have hrr := hr.out; have hzz := hz.out
    unfold hdOk at hrr hzz
    rw [h16, Bool.true_and] at hrr hzz
    have HU := hide (plT_two hs.out ht.out (of_decide_eq_true h16))
    have H16 := hide h16
    have HRR := hide hrr; have HZZ := hide hzz
    clear h16 hrr hzz
    go_wp2_with fail
    refine (Plus_ok _ _ _ _ _ _ _ _ _ _ _ (unhide j1) (unhide j2) HS HT true H16).mono ?_
    rintro e w3 ⟨A3, n3, c3, rfl, r3, b3⟩
    rw [if_pos rfl] at r3
    have HB3 := hide ((unhide HB2).trans (b3.mono (unhide HB2).size))
    have R3 := hide (show Rows_ w3 w3.heap.size A3 n3 c3 (plT s t) from r3)
    clear b3 r3 j1 j2
    simp only [if_true]
    obtain ⟨W4, hW4⟩ : ∃ W4, W4 = w3.alloc (.cells #[.int .i64 0, .int .i64 0, .int .i64 0] 74) := ⟨_, rfl⟩
    obtain ⟨g, hg⟩ : ∃ g, w3.heap.size = g := ⟨_, rfl⟩
    have HG := hide (show w.heap.size ≤ g from by rw [← hg]; exact (unhide HB3).size)
    have HB4 := hide (show Below w.heap.size w W4 from by rw [hW4]; exact (unhide HB3).alloc (unhide HB3).size _)
    have R4 := hide (show Rows_ W4 g A3 n3 c3 (plT s t) from by rw [hW4, ← hg]; exact ((unhide R3).below ((Below.refl _ w3).alloc (Nat.le_refl _) _)))
    have K4 := hide (show W4.heap[g]? = some (.cells #[.int .i64 0, .int .i64 0, .int .i64 0] 74 (0, 0)) from by rw [hW4, ← hg]; exact heap_new_ w3 _)
    have e4 := hW4.symm
    have HGE := hide hg
    clear hW4 hg R3
    go_upto_region 7 with fail
    simp only [HGE.out]
    clear e4 HGE
    go_wp2_with fail
    go_loopw [9, 10, 11, 12, 33] (fun _ _ _ _ q wr => ∃ k : Nat, ∃ x0 x1 x2 : Int, k ≤ 3 ∧ q = .int .i64 k ∧ Hid (wr.heap[g]? = some (.cells #[.int .i64 x0, .int .i64 x1, .int .i64 x2] 74 (0, 0))) ∧ Hid (Rows_ wr g A3 n3 c3 (plT s t)) ∧ Hid ((0 < k → x0 = sgT s ∧ okO s = true) ∧ (1 < k → x1 = sgT t ∧ okO t = true) ∧ (2 < k → x2 = sgT (plT s t) ∧ okO (plT s t) = true)) ∧ Hid (Below w.heap.size w wr)) (fun _ _ _ _ q _ => 3 - (intOf q).toNat)
    case atStart => exact ⟨0, 0, 0, 0, by omega, rfl, K4, R4, hide ⟨fun h => absurd h (by omega), fun h => absurd h (by omega), fun h => absurd h (by omega)⟩, HB4⟩
    case round =>
      obtain ⟨k, x0, x1, x2, hk, rfl, HK, HR, HX, HB⟩ := hrel
      have hx0 := fun W => (index102 (.slice (some ⟨b, off, none⟩) 2 c) (.slice (some ⟨b', off', none⟩) 2 c') (.slice A3 n3 c3) W).1
      have hx1 := fun W => (index102 (.slice (some ⟨b, off, none⟩) 2 c) (.slice (some ⟨b', off', none⟩) 2 c') (.slice A3 n3 c3) W).2.1
      have hx2 := fun W => (index102 (.slice (some ⟨b, off, none⟩) 2 c) (.slice (some ⟨b', off', none⟩) 2 c') (.slice A3 n3 c3) W).2.2
      rcases (show k = 0 ∨ k = 1 ∨ k = 2 ∨ k = 3 by omega) with rfl | rfl | rfl | rfl
      · cases h0 : okO s with
        | false =>
          obtain ⟨rfl, rfl⟩ : false = r ∧ 5 = z := by
            rw [← HRR.out, ← HZZ.out]
            rw [h0]; exact ⟨rfl, rfl⟩
          have HE := hide (show odE s = 5 from by rw [odE_ok hs.out, h0]; rfl)
          clear h0
          have ROW := hide ((h.below (unhide HB)).more (unhide HB).size)
          go_wp2_with fail
          refine (Odds_all _ _ _ _ _ (unhide ROW)).mono ?_
          rintro e w5 ⟨rfl, b5⟩
          rw [HE.out]
          have HB5 := hide ((unhide HB).trans (b5.mono (unhide HB).size))
          clear b5
          have HB6 := hide ((unhide HB5).alloc (unhide HB5).size (.cells #[.int .i64 (odN s), .int .i64 (odD s)] 47))
          go_wp2_with fail
          go_ret2
          exact ⟨rfl, unhide HB6⟩
        | true =>
          have OK := hide h0
          have HE := hide (show odE s = 0 from by rw [odE_ok hs.out, h0]; rfl)
          clear h0
          have ROW := hide ((h.below (unhide HB)).more (unhide HB).size)
          go_wp2_with fail
          refine (Odds_all _ _ _ _ _ (unhide ROW)).mono ?_
          rintro e w5 ⟨rfl, b5⟩
          rw [HE.out]
          have HB5 := hide ((unhide HB).trans (b5.mono (unhide HB).size))
          have HK5 := hide ((b5.block _ (Array.getElem?_eq_some_iff.1 (unhide HK)).1).trans (unhide HK))
          have HR5 := hide ((unhide HR).below (b5.mono (by have := (Array.getElem?_eq_some_iff.1 (unhide HK)).1; omega)))
          clear b5
          have HSg := hide (show sgn (odN s) (odD s) = sgT s from rfl)
          generalize odN s = un at HSg ⊢
          generalize odD s = ud at HSg ⊢
          obtain ⟨W6, hW6, hF6, hB6⟩ := new_frac w5 un ud
          have HB6 := hide ((unhide HB5).trans (hB6.mono (unhide HB5).size))
          have HK6 := hide ((hB6.block _ (Array.getElem?_eq_some_iff.1 (unhide HK5)).1).trans (unhide HK5))
          have HR6 := hide ((unhide HR5).below (hB6.mono (by have := (Array.getElem?_eq_some_iff.1 (unhide HK5)).1; omega)))
          obtain ⟨y0, y1⟩ := two_at hF6
          obtain ⟨q0, q1, q2⟩ := three_at (unhide HK6)
          have f0 := free_at (unhide HK6) 0
          have HKn := hide (set_at (unhide HK6) (k := 0) (.int .i64 (sgT s)))
          have HRn := hide (show Rows_ (W6.setCell ⟨g, 0, none⟩ (.int .i64 (sgT s))) g A3 n3 c3 (plT s t) from (unhide HR6).below ((Below.refl g W6).setCell (Nat.le_refl _) _))
          have HBn := hide ((unhide HB6).setCell (p := ⟨g, 0, none⟩) HG.out (.int .i64 (sgT s)))
          clear hF6 hB6
          go_upto_region 11 with fail
          clear hW6
          go_wp2_with (go_at_call 99; refine (Compare_any _ _ _ _ HSg).mono ?_; rintro e w' ⟨rfl, rfl⟩)
          go_roundw
          case rel => exact ⟨1, (sgT s), x1, x2, by omega, by go_num, HKn, HRn, hide ⟨fun _ => ⟨rfl, by first | exact OK.out | trivial⟩, fun h => absurd h (by omega), fun h => absurd h (by omega)⟩, HBn⟩
          case measure => simp [intOf]
      · cases h0 : okO t with
        | false =>
          obtain ⟨rfl, rfl⟩ : false = r ∧ 5 = z := by
            rw [← HRR.out, ← HZZ.out]
            rw [(HX.out.1 (by omega)).2, h0]; exact ⟨rfl, rfl⟩
          have HE := hide (show odE t = 5 from by rw [odE_ok ht.out, h0]; rfl)
          clear h0
          have ROW := hide ((h'.below (unhide HB)).more (unhide HB).size)
          go_wp2_with fail
          refine (Odds_all _ _ _ _ _ (unhide ROW)).mono ?_
          rintro e w5 ⟨rfl, b5⟩
          rw [HE.out]
          have HB5 := hide ((unhide HB).trans (b5.mono (unhide HB).size))
          clear b5
          have HB6 := hide ((unhide HB5).alloc (unhide HB5).size (.cells #[.int .i64 (odN t), .int .i64 (odD t)] 47))
          go_wp2_with fail
          go_ret2
          exact ⟨rfl, unhide HB6⟩
        | true =>
          have OK := hide h0
          have HE := hide (show odE t = 0 from by rw [odE_ok ht.out, h0]; rfl)
          clear h0
          have ROW := hide ((h'.below (unhide HB)).more (unhide HB).size)
          go_wp2_with fail
          refine (Odds_all _ _ _ _ _ (unhide ROW)).mono ?_
          rintro e w5 ⟨rfl, b5⟩
          rw [HE.out]
          have HB5 := hide ((unhide HB).trans (b5.mono (unhide HB).size))
          have HK5 := hide ((b5.block _ (Array.getElem?_eq_some_iff.1 (unhide HK)).1).trans (unhide HK))
          have HR5 := hide ((unhide HR).below (b5.mono (by have := (Array.getElem?_eq_some_iff.1 (unhide HK)).1; omega)))
          clear b5
          have HSg := hide (show sgn (odN t) (odD t) = sgT t from rfl)
          generalize odN t = un at HSg ⊢
          generalize odD t = ud at HSg ⊢
          obtain ⟨W6, hW6, hF6, hB6⟩ := new_frac w5 un ud
          have HB6 := hide ((unhide HB5).trans (hB6.mono (unhide HB5).size))
          have HK6 := hide ((hB6.block _ (Array.getElem?_eq_some_iff.1 (unhide HK5)).1).trans (unhide HK5))
          have HR6 := hide ((unhide HR5).below (hB6.mono (by have := (Array.getElem?_eq_some_iff.1 (unhide HK5)).1; omega)))
          obtain ⟨y0, y1⟩ := two_at hF6
          obtain ⟨q0, q1, q2⟩ := three_at (unhide HK6)
          have f1 := free_at (unhide HK6) 1
          have HKn := hide (set_at (unhide HK6) (k := 1) (.int .i64 (sgT t)))
          have HRn := hide (show Rows_ (W6.setCell ⟨g, 1, none⟩ (.int .i64 (sgT t))) g A3 n3 c3 (plT s t) from (unhide HR6).below ((Below.refl g W6).setCell (Nat.le_refl _) _))
          have HBn := hide ((unhide HB6).setCell (p := ⟨g, 1, none⟩) HG.out (.int .i64 (sgT t)))
          clear hF6 hB6
          go_upto_region 11 with fail
          clear hW6
          go_wp2_with (go_at_call 99; refine (Compare_any _ _ _ _ HSg).mono ?_; rintro e w' ⟨rfl, rfl⟩)
          go_roundw
          case rel => exact ⟨2, x0, (sgT t), x2, by omega, by go_num, HKn, HRn, hide ⟨fun _ => HX.out.1 (by omega), fun _ => ⟨rfl, by first | exact OK.out | trivial⟩, fun h => absurd h (by omega)⟩, HBn⟩
          case measure => simp [intOf]
      · cases h0 : okO (plT s t) with
        | false =>
          obtain ⟨rfl, rfl⟩ : false = r ∧ 5 = z := by
            rw [← HRR.out, ← HZZ.out]
            rw [(HX.out.1 (by omega)).2, (HX.out.2.1 (by omega)).2, h0]; exact ⟨rfl, rfl⟩
          have HE := hide (show odE (plT s t) = 5 from by rw [odE_ok HU.out, h0]; rfl)
          clear h0
          have ROW := hide (show Rows_ wr wr.heap.size A3 n3 c3 (plT s t) from (unhide HR).more (by have := (Array.getElem?_eq_some_iff.1 (unhide HK)).1; omega))
          go_wp2_with fail
          refine (Odds_all _ _ _ _ _ (unhide ROW)).mono ?_
          rintro e w5 ⟨rfl, b5⟩
          rw [HE.out]
          have HB5 := hide ((unhide HB).trans (b5.mono (unhide HB).size))
          clear b5
          have HB6 := hide ((unhide HB5).alloc (unhide HB5).size (.cells #[.int .i64 (odN (plT s t)), .int .i64 (odD (plT s t))] 47))
          go_wp2_with fail
          go_ret2
          exact ⟨rfl, unhide HB6⟩
        | true =>
          have OK := hide h0
          have HE := hide (show odE (plT s t) = 0 from by rw [odE_ok HU.out, h0]; rfl)
          clear h0
          have ROW := hide (show Rows_ wr wr.heap.size A3 n3 c3 (plT s t) from (unhide HR).more (by have := (Array.getElem?_eq_some_iff.1 (unhide HK)).1; omega))
          go_wp2_with fail
          refine (Odds_all _ _ _ _ _ (unhide ROW)).mono ?_
          rintro e w5 ⟨rfl, b5⟩
          rw [HE.out]
          have HB5 := hide ((unhide HB).trans (b5.mono (unhide HB).size))
          have HK5 := hide ((b5.block _ (Array.getElem?_eq_some_iff.1 (unhide HK)).1).trans (unhide HK))
          have HR5 := hide ((unhide HR).below (b5.mono (by have := (Array.getElem?_eq_some_iff.1 (unhide HK)).1; omega)))
          clear b5
          have HSg := hide (show sgn (odN (plT s t)) (odD (plT s t)) = sgT (plT s t) from rfl)
          generalize odN (plT s t) = un at HSg ⊢
          generalize odD (plT s t) = ud at HSg ⊢
          obtain ⟨W6, hW6, hF6, hB6⟩ := new_frac w5 un ud
          have HB6 := hide ((unhide HB5).trans (hB6.mono (unhide HB5).size))
          have HK6 := hide ((hB6.block _ (Array.getElem?_eq_some_iff.1 (unhide HK5)).1).trans (unhide HK5))
          have HR6 := hide ((unhide HR5).below (hB6.mono (by have := (Array.getElem?_eq_some_iff.1 (unhide HK5)).1; omega)))
          obtain ⟨y0, y1⟩ := two_at hF6
          obtain ⟨q0, q1, q2⟩ := three_at (unhide HK6)
          have f2 := free_at (unhide HK6) 2
          have HKn := hide (set_at (unhide HK6) (k := 2) (.int .i64 (sgT (plT s t))))
          have HRn := hide (show Rows_ (W6.setCell ⟨g, 2, none⟩ (.int .i64 (sgT (plT s t)))) g A3 n3 c3 (plT s t) from (unhide HR6).below ((Below.refl g W6).setCell (Nat.le_refl _) _))
          have HBn := hide ((unhide HB6).setCell (p := ⟨g, 2, none⟩) HG.out (.int .i64 (sgT (plT s t))))
          clear hF6 hB6
          go_upto_region 11 with fail
          clear hW6
          go_wp2_with (go_at_call 99; refine (Compare_any _ _ _ _ HSg).mono ?_; rintro e w' ⟨rfl, rfl⟩)
          go_roundw
          case rel => exact ⟨3, x0, x1, (sgT (plT s t)), by omega, by go_num, HKn, HRn, hide ⟨fun _ => HX.out.1 (by omega), fun _ => HX.out.2.1 (by omega), fun _ => ⟨rfl, by first | exact OK.out | trivial⟩⟩, HBn⟩
          case measure => simp [intOf]
      · obtain ⟨rfl, o1⟩ := HX.out.1 (by omega)
        obtain ⟨rfl, o2⟩ := HX.out.2.1 (by omega)
        obtain ⟨rfl, o3⟩ := HX.out.2.2 (by omega)
        have hR2 := HRR.out; have hZ2 := HZZ.out
        rw [o1, o2, o3] at hR2 hZ2
        obtain rfl : 0 = z := hZ2
        have hR3 : hdW s t = r := hR2
        obtain ⟨q0, q1, q2⟩ := three_at (unhide HK)
        have g1 := eql74 (sgT s) (sgT t) (sgT (plT s t)) 1 1 (-1)
        have g2 := eql74 (sgT s) (sgT t) (sgT (plT s t)) (-1) (-1) 1
        have d1 : decide (sgT s = 1 ∧ sgT t = 1 ∧ sgT (plT s t) = -1) = (gtB s && (gtB t && ltB (plT s t))) := by
          rw [← sgT_gt, ← sgT_gt, ← sgT_lt, Bool.eq_iff_iff]; simp
        have d2 : decide (sgT s = -1 ∧ sgT t = -1 ∧ sgT (plT s t) = 1) = (ltB s && (ltB t && gtB (plT s t))) := by
          rw [← sgT_lt, ← sgT_lt, ← sgT_gt, Bool.eq_iff_iff]; simp
        rw [d1] at g1
        rw [d2] at g2
        unfold hdW at hR3
        clear d1 d2 hR2 o1 o2 o3
        generalize sgT s = v0 at q0 g1 g2
        generalize sgT t = v1 at q1 g1 g2
        generalize sgT (plT s t) = v2 at q2 g1 g2
        generalize (gtB s && (gtB t && ltB (plT s t))) = u1 at g1 hR3
        generalize (ltB s && (ltB t && gtB (plT s t))) = u2 at g2 hR3
        cases u1 with
        | false =>
          have HF := hide (show u2 = r from by rw [← hR3]; rfl)
          clear hR3
          go_wp2_with fail
          go_ret2
          first | exact ⟨rfl, unhide HB⟩ | exact ⟨by rw [← HF.out]; rfl, unhide HB⟩ | exact ⟨by rw [HF.out]; rfl, unhide HB⟩
        | true =>
          have HF := hide (show true = r from by rw [← hR3]; rfl)
          clear hR3
          go_wp2_with fail
          go_ret2
          first | exact ⟨rfl, unhide HB⟩ | exact ⟨by rw [← HF.out]; rfl, unhide HB⟩ | exact ⟨by rw [HF.out]; rfl, unhide HB⟩
end Go.Proofs.Ytabgifpenegofaa
