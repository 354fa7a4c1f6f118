import Derived.Test.YtdlbahoenhhkdaaDh
import Derived.Test.YtdlbahoenhhkdaaL1
/-
  The law SketchTogether walked.
-/
namespace Go.Proofs.Ytdlbahoenhhkdaa
open Go.RowKit

set_option maxHeartbeats 1000000 in
theorem cloneC_any (A : Option Addr) (n c : Nat) (gs : List G) (w : World) (h : Gs w w.heap.size A n c gs) (hn : n ≤ 1000) :
    Calls Try.prog 51 #[.slice A n c] w fun e w' => ∃ A' n' c', e = .returned (.slice A' n' c') ∧ Gs w' w'.heap.size A' n' c' gs ∧ Below w.heap.size w w' := by
  have hl := hide h.len
  have hm := h.most; have hcap := h.cap
  have hnil := fun (W : World) (m m' q q' : Nat) (D : Option Addr) => Lib.run_eql_slice_nil (P := Try.prog) W 23 68 D m q m' q' Try.underlying23
  cases A with
  | none =>
    have hc0 := h.bare rfl
    obtain rfl : n = 0 := by omega
    have hx : gs = [] := List.eq_nil_of_length_eq_zero hl.out
    subst hx
    go_enter Try.func51, Try.ntmps51
    go_wp2
    go_ret
    exact ⟨none, 0, 0, rfl, Gs.none_ _ _, Below.refl _ _⟩
  | some a =>
    have b0 : Below w.heap.size w (w.alloc (.cells #[] 68)) := (Below.refl _ _).alloc (Nat.le_refl _) _
    have h1 := hide (h.below b0)
    have B0 := hide b0
    have hlen : ([] : List G).length + gs.length ≤ 1000000 := by rw [hl.out]; simp; omega
    have o0 := hide (show OwnedG (w.alloc (.cells #[] 68)) w.heap.size 68 (.slice (some ⟨w.heap.size, 0, none⟩) 0 0) [] from ⟨rfl, .inr ⟨w.heap.size, 0, #[], rfl, Nat.le_refl _, heap_alloc_new w _, Nat.le_refl _, by unfold maxLen; omega, rfl, rfl⟩⟩)
    clear b0
    go_enter Try.func51, Try.ntmps51
    go_wp2_with (at_builtin; refine wpList_appGs rfl _ _ 23 68 rfl Try.underlying23 info68 rfl rfl (unhide o0) (unhide h1) hlen (by simp) ?_; intro v' w2 ho2 hb2; obtain ⟨A3, n3, c3, e3, g3⟩ := ho2.to; subst e3; have G3 := hide g3; have B3 := hide ((unhide B0).trans hb2); clear ho2 hb2 g3)
    go_ret
    exact ⟨A3, n3, c3, rfl, by simpa using unhide G3, unhide B3⟩

theorem and3 {a b c : Bool} (h : (a && b && c) = false) : a = false ∨ b = false ∨ c = false := by cases a <;> cases b <;> cases c <;> simp_all

set_option maxRecDepth 100000 in
set_option maxHeartbeats 3000000 in
theorem LTog_ok (A A' : Option Addr) (n c n' c' : Nat) (xs ys : List Int) (K : Nat) (w : World) (h : Ints w w.heap.size A n c xs) (h' : Ints w w.heap.size A' n' c' ys) (H1 : Hid (cntB (K : Int) = true)) (H2 : Hid (isStr xs = true)) (H3 : Hid (isStr ys = true)) :
    Calls Try.prog 11 #[.int .i64 (K : Int), .slice A n c, .slice A' n' c'] w fun e w' => e = .returned (.bool true) ∧ Below w.heap.size w w' := by
  have hm := h.most; have hcap := h.cap; have hm' := h'.most; have hcap' := h'.cap
  have hl := hide h.len; have hl' := hide h'.len
  obtain ⟨k1, k2⟩ := cntB_bd H1.out
  have hn40 : n ≤ 40 := by rw [← hl.out]; exact isStr_len H2.out
  have hn40' : n' ≤ 40 := by rw [← hl'.out]; exact isStr_len H3.out
  have hk8 : K ≤ 8 := by omega
  have hk0 : 0 < K := by omega
  have hbd : ∀ j, j < xs.length → 0 ≤ nth xs j ∧ nth xs j ≤ 15 := fun j hj => isStr_bd H2.out j hj
  have hbd' : ∀ j, j < ys.length → 0 ≤ nth ys j ∧ nth ys j ≤ 15 := fun j hj => isStr_bd H3.out j hj
  have ha := hide (lstL_inv true (K := K) hk0 hbd xs.length (Nat.le_refl _))
  have hb := hide (lstL_inv true (K := K) hk0 hbd' ys.length (Nat.le_refl _))
  obtain ⟨D, hD⟩ := lstL_sh (K := K) hk0 hbd xs.length (Nat.le_refl _)
  obtain ⟨E, hE⟩ := lstL_sh (K := K) hk0 hbd' ys.length (Nat.le_refl _)
  have hD := hide hD; have hE := hide hE
  clear hbd hbd'
  obtain ⟨gs, hgs⟩ : ∃ gs, lstL true K xs xs.length = gs := ⟨_, rfl⟩
  rw [hgs] at ha hD
  have hgs := hide hgs
  obtain ⟨ts, hts⟩ : ∃ ts, lstL true K ys ys.length = ts := ⟨_, rfl⟩
  rw [hts] at hb hE
  have hts := hide hts
  have L1 : Hid (lstOk (K : Int) gs = true) := hide (inv_lst ha.out (by rw [hl.out]; exact hn40) hD.out.off)
  have L2 : Hid (lstOk (K : Int) ts = true) := hide (inv_lst hb.out (by rw [hl'.out]; exact hn40') hE.out.off)
  obtain ⟨F, hF⟩ : ∃ F, F = kF (gs ++ ts) := ⟨_, rfl⟩
  have hF2 : kF (ts ++ gs) = F := by rw [hF]; funext key; rw [kF_app, kF_app]; omega
  have hFv : ∀ key : Nat, F key = S (nF key) gs + S (nF key) ts := fun key => by rw [hF, kF_app, kF_S, kF_S]
  have hF0 : ∀ key : Nat, 0 ≤ F key := fun key => by
    rw [hFv]
    have a1 : 0 ≤ S (nF key) gs := S_nonneg fun g hg => by have := ha.out.all g hg; simp only [nF]; split <;> omega
    have a2 : 0 ≤ S (nF key) ts := S_nonneg fun g hg => by have := hb.out.all g hg; simp only [nF]; split <;> omega
    omega
  obtain ⟨ls, hls⟩ : ∃ ls, nth (srt F) (15 - K) = ls := ⟨_, rfl⟩
  have hls0 : 0 ≤ ls := by rw [← hls]; obtain ⟨j, _, e⟩ := srt_mem F (15 - K) (by omega); rw [e]; exact hF0 j
  have hlb := less_bd F K (by omega) (by rw [hls]; exact hls0) hF0
  rw [hls, show F = fun key : Nat => S (nF key) gs + S (nF key) ts from funext hFv, sm_add, sm_S gs (fun g hg => ⟨(ha.out.all g hg).1, (ha.out.all g hg).2.1⟩), sm_S ts (fun g hg => ⟨(hb.out.all g hg).1, (hb.out.all g hg).2.1⟩)] at hlb
  have hfew := merge_few F K (by omega)
  rw [hls] at hfew
  have hmm := merge_mem F ls 16
  have hmr := merge_rise F ls 16
  have hmv := fun key => merge_val F ls key 16
  obtain ⟨ms, hms⟩ : ∃ ms, ms = mergeTo F ls 16 := ⟨_, rfl⟩
  rw [← hms] at hfew hmm hmr hmv
  have t1 := hD.out.tot; have t2 := hE.out.tot
  rw [hl.out] at t1; rw [hl'.out] at t2
  have n1 := hD.out.nn; have n2 := hE.out.nn
  have HT : Hid ((D + E + ls) * ((K : Int) + 1) ≤ (n : Int) + (n' : Int)) := hide (by rw [Int.add_mul, Int.add_mul]; omega)
  have HLS := hide hls0; have HD0 := hide n1; have HE0 := hide n2
  have HFV := hide hFv; have HF0 := hide hF0; have HMV := hide hmv; have HMR := hide hmr; have HMM := hide hmm
  have HF1 := hide hF; have HF2 := hide hF2; have HLs := hide hls; have HMs := hide hms
  clear t1 t2 hlb n1 n2 hFv hF0 hmv hmr hmm hF hF2 hls hms hls0
  have H := hide h; have H' := hide h'; clear h h'
  go_enter Try.func11, Try.ntmps11
  go_wp2_with fail
  refine (list_ints _ _ _ _ _ _ (unhide H) (Nat.le_refl _)).mono ?_
  rintro e w1 ⟨A1, n1, c1, rfl, i1, b1⟩
  rw [take_of_str H2.out] at i1
  go_wp2_with fail
  refine (Short_ok _ _ _ _ _ _ i1 H1 H2).mono ?_
  rintro e w2 ⟨v2, rfl, o2, b2⟩
  rw [hgs.out] at o2
  obtain ⟨A2, n2, c2, rfl, g2⟩ := o2.to
  have b2' := b1.trans (b2.mono b1.size)
  go_wp2_with fail
  refine (list_ints _ _ _ _ _ _ ((unhide H').below b2') b2'.size).mono ?_
  rintro e w3 ⟨A3, n3, c3, rfl, i3, b3⟩
  rw [take_of_str H3.out] at i3
  have b3' := b2'.trans (b3.mono b2'.size)
  have g3 := (g2.below b3).more b3.size
  go_wp2_with fail
  refine (Short_ok _ _ _ _ _ _ i3 H1 H3).mono ?_
  rintro e w4 ⟨v4, rfl, o4, b4⟩
  rw [hts.out] at o4
  obtain ⟨A4, n4, c4, rfl, s4⟩ := o4.to
  have b4' := b3'.trans (b4.mono b3'.size)
  have g4 := (g3.below b4).more b4.size
  clear i1 i3 o2 o4 g2 g3 b1 b2 b3 b4 b2' b3'
  go_wp2_with fail
  refine (RCounters_is _ _ _ H1).mono ?_
  rintro e w5 ⟨rfl, rfl⟩
  have hn2 : n2 ≤ 8 := by have := ha.out.few; rw [g4.len] at this; omega
  have hn4 : n4 ≤ 8 := by have := hb.out.few; rw [s4.len] at this; omega
  go_wp2_with fail
  refine (cloneC_any _ _ _ _ _ g4 (by omega)).mono ?_
  rintro e w5 ⟨A5, n5, c5, rfl, g5, b5⟩
  have s5 := (s4.below b5).more b5.size
  have b5' := b4'.trans (b5.mono b4'.size)
  go_wp2_with fail
  refine (cloneC_any _ _ _ _ _ s5 (by omega)).mono ?_
  rintro e w6 ⟨A6, n6, c6, rfl, s6, b6⟩
  have g6 := (g5.below b6).more b6.size
  have b6' := b5'.trans (b6.mono b5'.size)
  go_wp2_with fail
  refine (Merge_ok _ _ _ _ _ _ _ _ _ _ g6 s6 H1 L1 L2).mono ?_
  rintro e w7 ⟨v7, rfl, o7, b7⟩
  rw [← HF1.out, HLs.out, ← HMs.out] at o7
  obtain ⟨A7, n7, c7, rfl, m7⟩ := o7.to
  have b7' := b6'.trans (b7.mono b6'.size)
  have g7 := ((((g4.below b5).more b5.size).below b6).more b6.size |>.below b7).more b7.size
  have s7 := ((s5.below b6).more b6.size |>.below b7).more b7.size
  go_wp2_with fail
  refine (Merge_ok _ _ _ _ _ _ _ _ _ _ s7 g7 H1 L2 L1).mono ?_
  rintro e w8 ⟨v8, rfl, o8, b8⟩
  rw [HF2.out, HLs.out, ← HMs.out] at o8
  obtain ⟨A8, n8, c8, rfl, m8⟩ := o8.to
  have b8' := b7'.trans (b8.mono b7'.size)
  have M7 := hide ((m7.below b8).more b8.size)
  have M8 := hide m8
  have HX := hide (((unhide H).below b8').more b8'.size)
  have HY := hide (((unhide H').below b8').more b8'.size)
  have B8 := hide b8'
  clear g4 s4 g5 s5 s6 g6 o7 m7 g7 s7 o8 m8 b4' b5 b6 b7 b8 b5' b6' b7' b8'
  go_wp2_with fail
  refine (equalC_any _ _ _ _ _ _ _ _ _ _ _ (unhide M7) (unhide M8)).mono ?_
  rintro e w9 ⟨rfl, q, rfl⟩
  have hn7 : n7 ≤ K := by rw [← (unhide M7).len]; exact hfew
  go_wp2_with fail
  refine (order_any _ _ _ ms K _ ((unhide M7).keep (w' := w8.drewN q) fun _ _ => rfl) HMR (hide (fun g hg => ⟨(HMM.out g hg).1, by have := (HMM.out g hg).2.1; omega⟩)) hn7).mono ?_
  rintro e w9 ⟨rfl, b9⟩
  have B9 := hide (show Below w8.heap.size w8 w9 from (Below.drewN' (Below.refl w8.heap.size w8) q).trans b9)
  clear b9 hfew
  go_wp2_with fail
  go_loopw [13, 14, 15, 16, 17, 18, 87] (fun _ _ _ _ _ _ a wr => ∃ (k : Nat), k ≤ 16 ∧ a = .int .i64 k ∧ Below w8.heap.size w8 wr) (fun _ _ _ _ _ _ a _ => 16 - (intOf a).toNat)
  case atStart => exact ⟨0, by omega, rfl, unhide B9⟩
  case round =>
    obtain ⟨key, hk, rfl, hb0⟩ := hrel
    by_cases hlt : key < 16
    · have hkey : Hid (isKeyB (key : Int) = true) := hide (by simp [isKeyB]; omega)
      go_wp2_with fail
      refine (list_ints _ _ _ _ _ _ ((unhide HX).below hb0) hb0.size).mono ?_
      rintro e u1 ⟨Aa, na, ca, rfl, ia, ba⟩
      rw [take_of_str H2.out] at ia
      have da := hb0.trans (ba.mono hb0.size)
      go_wp2_with fail
      refine (Often_ok _ _ _ _ _ _ ia H2 hkey).mono ?_
      rintro e u2 ⟨rfl, bb⟩
      have db := da.trans (bb.mono da.size)
      go_wp2_with fail
      refine (list_ints _ _ _ _ _ _ ((unhide HY).below db) db.size).mono ?_
      rintro e u3 ⟨Ac, nc, cc, rfl, ic, bc⟩
      rw [take_of_str H3.out] at ic
      have dc := db.trans (bc.mono db.size)
      go_wp2_with fail
      refine (Often_ok _ _ _ _ _ _ ic H3 hkey).mono ?_
      rintro e u4 ⟨rfl, bd⟩
      have dd := dc.trans (bd.mono dc.size)
      go_wp2_with fail
      refine (of_any _ _ _ ms (key : Int) _ (((unhide M7).below dd).more dd.size) HMR).mono ?_
      rintro e u5 ⟨d, o, rfl, hd, ho, be⟩
      have de := dd.trans (be.mono dd.size)
      obtain ⟨t, ht⟩ : ∃ t, often xs (key : Int) = t := ⟨_, rfl⟩
      obtain ⟨s, hs⟩ : ∃ s, often ys (key : Int) = s := ⟨_, rfl⟩
      have e1 : S (nF (key : Int)) gs ≤ t := by rw [← ht]; exact hD.out.lo key
      have e2 : t ≤ S (nF (key : Int)) gs + D := by rw [← ht]; exact hD.out.hi key
      have e3 : S (nF (key : Int)) ts ≤ s := by rw [← hs]; exact hE.out.lo key
      have e4 : s ≤ S (nF (key : Int)) ts + E := by rw [← hs]; exact hE.out.hi key
      have e5 := HFV.out key
      have e6 := HF0.out key
      have e7 := HLS.out
      have e8 : F key - ls ≤ d ∧ d ≤ F key ∧ 0 ≤ d := by
        rw [hd.out, HMV.out key, if_pos hlt]
        split <;> omega
      have e9 := HT.out
      have e10 := HD0.out
      have e11 := HE0.out
      have f9 : 0 ≤ t ∧ t ≤ 40 := by rw [← ht]; have := often_bd (xs := xs) (key : Int); rw [hl.out] at this; omega
      have f10 : 0 ≤ s ∧ s ≤ 40 := by rw [← hs]; have := often_bd (xs := ys) (key : Int); rw [hl'.out] at this; omega
      obtain ⟨q2, hq2⟩ : ∃ q2, Int.tdiv ((n : Int) + (n' : Int)) ((K : Int) + 1) = q2 := ⟨_, rfl⟩
      have f7 : D + E + ls ≤ q2 := by
        rw [← hq2, Int.tdiv_eq_ediv_of_nonneg (by omega)]
        exact (Int.le_ediv_iff_mul_le (by omega)).2 e9
      have f8 : 0 ≤ q2 ∧ q2 ≤ 80 := by
        refine ⟨by omega, ?_⟩
        rw [← hq2, Int.tdiv_eq_ediv_of_nonneg (by omega)]
        exact Int.le_trans (Int.ediv_le_self _ (by omega)) (by omega)
      have f11 : 0 ≤ (t + s) * ((K : Int) + 1) ∧ (t + s) * ((K : Int) + 1) ≤ 80 * 9 :=
        ⟨Int.mul_nonneg (by omega) (by omega), Int.mul_le_mul (by omega) (by omega) (by omega) (by omega)⟩
      obtain ⟨bv, hbv⟩ : ∃ bv, decide ((n : Int) + (n' : Int) < (t + s) * ((K : Int) + 1)) = bv := ⟨_, rfl⟩
      have f12 : bv = true → 1 ≤ d := by
        intro e
        rw [e] at hbv
        have h0 := of_decide_eq_true hbv
        rcases Int.lt_or_le d 1 with h1 | h1
        · exfalso
          have h2 : t + s ≤ D + E + ls := by omega
          have h3 : (t + s) * ((K : Int) + 1) ≤ (D + E + ls) * ((K : Int) + 1) := Int.mul_le_mul_of_nonneg_right h2 (by omega)
          omega
        · exact h1
      have p1 : decide (t + s < d) = false := by simp; omega
      have p2 : decide (d < t + s - q2) = false := by simp; omega
      have w1 : IntKind.i64.wrap ((K : Int) + 1) = (K : Int) + 1 := by rw [IntKind.wrap_i64]; omega
      have w2 : IntKind.i64.wrap (t + s) = t + s := by rw [IntKind.wrap_i64]; omega
      have w3 : IntKind.i64.wrap ((t + s) * ((K : Int) + 1)) = (t + s) * ((K : Int) + 1) := by rw [IntKind.wrap_i64]; omega
      have w4 : IntKind.i64.wrap (t + s - q2) = t + s - q2 := by rw [IntKind.wrap_i64]; omega
      have w5 : IntKind.i64.wrap q2 = q2 := by rw [IntKind.wrap_i64]; omega
      have w6 : IntKind.i64.wrap ((n : Int) + (n' : Int)) = (n : Int) + (n' : Int) := by rw [IntKind.wrap_i64]; omega
      have hk1 : ¬ ((K : Int) + 1 = 0) := by omega
      have hk2 : ¬ (K + 1 = 0) := by omega
      have Bz := hide (de.alloc de.size (.cells #[.int .i64 (key : Int), .int .i64 d, .int .i64 o] 68))
      rw [ht, hs]
      clear e1 e2 e3 e4 e5 e6 e7 e8 e9 e10 e11 f7 f8 f9 f10 f11 hb0 ia ba da bb db ic bc dc bd dd be de
      go_wp2_with fail
      cases bv with
      | true =>
        have p3 : decide (d < 1) = false := by have := f12 rfl; simp; omega
        clear f12
        go_big_quiet (fail)
        go_wp2_with fail
        go_roundw
        case rel => exact ⟨key + 1, by omega, by go_num, by first | exact unhide Bz | exact Below.drewN' (unhide Bz) _⟩
        case measure => simp [intOf]; omega
      | false =>
        clear f12
        go_big_quiet (fail)
        go_wp2_with fail
        go_roundw
        case rel => exact ⟨key + 1, by omega, by go_num, by first | exact unhide Bz | exact Below.drewN' (unhide Bz) _⟩
        case measure => simp [intOf]; omega
    · obtain rfl : key = 16 := by omega
      go_wp2_with fail
      refine (awake_any _).mono ?_
      rintro e u5 ⟨rfl, b5⟩
      have d5 := hb0.trans (b5.mono hb0.size)
      go_wp2_with fail
      go_ret
      exact ⟨rfl, (unhide B8).trans (d5.mono (unhide B8).size)⟩

def shE (k : Int) (xs : List Int) : Int := if (cntB k && isStr xs) then 0 else 2
/-- Short, either way. -/
theorem Short_all (A : Option Addr) (n c : Nat) (xs : List Int) (k : Int) (w : World) (h : Ints w w.heap.size A n c xs) :
    Calls Try.prog 16 #[.int .i64 k, .slice A n c] w fun e w' => ∃ v, e = .returned (.tuple #[v, .int .i64 (shE k xs)]) ∧ Below w.heap.size w w' := by
  cases hv : (cntB k && isStr xs) with
  | false =>
    refine (Short_no A n c xs k w h (hide hv)).mono ?_
    rintro e w' ⟨rfl, hb⟩
    exact ⟨_, by rw [shE, hv, if_neg (by simp)], hb⟩
  | true =>
    have hv2 := hv
    rw [Bool.and_eq_true] at hv2
    obtain ⟨k1, k2⟩ := cntB_bd hv2.1
    obtain ⟨K, rfl⟩ : ∃ K : Nat, k = (K : Int) := ⟨k.toNat, by omega⟩
    refine (Short_ok A n c xs K w h (hide hv2.1) (hide hv2.2)).mono ?_
    rintro e w' ⟨v, rfl, _, hb⟩
    exact ⟨v, by rw [shE, hv, if_pos rfl], hb⟩

set_option maxHeartbeats 1000000 in
theorem LTog_no (A A' : Option Addr) (n c n' c' : Nat) (xs ys : List Int) (k : Int) (w : World) (h : Ints w w.heap.size A n c xs) (h' : Ints w w.heap.size A' n' c' ys) (hv : Hid ((cntB k && isStr xs && isStr ys) = false)) :
    Calls Try.prog 11 #[.int .i64 k, .slice A n c, .slice A' n' c'] w fun e w' => e = .returned (.bool true) ∧ Below w.heap.size w w' := by
  have hcase : (shE k (xs.take 45) = 2) ∨ (shE k (xs.take 45) = 0 ∧ shE k (ys.take 45) = 2) := by
    have := hv.out
    unfold shE
    rw [isStr_take, isStr_take]
    cases h1 : cntB k <;> cases h2 : isStr xs <;> cases h3 : isStr ys <;> simp_all
  go_enter Try.func11, Try.ntmps11
  go_wp2_with fail
  refine (list_ints _ _ _ _ _ _ h (Nat.le_refl _)).mono ?_
  rintro e w1 ⟨A1, n1, c1, rfl, i1, b1⟩
  go_wp2_with fail
  refine (Short_all _ _ _ _ _ _ i1).mono ?_
  rintro e w2 ⟨v2, rfl, b2⟩
  have b2' := b1.trans (b2.mono b1.size)
  go_wp2_with fail
  refine (list_ints _ _ _ _ _ _ (h'.below b2') b2'.size).mono ?_
  rintro e w3 ⟨A3, n3, c3, rfl, i3, b3⟩
  have b3' := b2'.trans (b3.mono b2'.size)
  go_wp2_with fail
  refine (Short_all _ _ _ _ _ _ i3).mono ?_
  rintro e w4 ⟨v4, rfl, b4⟩
  have b4' := b3'.trans (b4.mono b3'.size)
  rcases hcase with h1 | ⟨h1, h2⟩
  · rw [h1]
    go_wp2_with fail
    refine (awake_any _).mono ?_
    rintro e w5 ⟨rfl, b5⟩
    go_wp2_with fail
    go_ret
    exact ⟨rfl, b4'.trans (b5.mono b4'.size)⟩
  · rw [h1, h2]
    go_wp2_with fail
    refine (awake_any _).mono ?_
    rintro e w5 ⟨rfl, b5⟩
    go_wp2_with fail
    go_ret
    exact ⟨rfl, b4'.trans (b5.mono b4'.size)⟩

theorem LTogether_any (A A' : Option Addr) (n c n' c' : Nat) (xs ys : List Int) (k : Int) (w : World) (h : Ints w w.heap.size A n c xs) (h' : Ints w w.heap.size A' n' c' ys) :
    Calls Try.prog 11 #[.int .i64 k, .slice A n c, .slice A' n' c'] w fun e w' => e = .returned (.bool true) ∧ Below w.heap.size w w' := by
  cases hv : (cntB k && isStr xs && isStr ys) with
  | false => exact LTog_no A A' n c n' c' xs ys k w h h' (hide hv)
  | true =>
    rw [Bool.and_eq_true, Bool.and_eq_true] at hv
    obtain ⟨k1, k2⟩ := cntB_bd hv.1.1
    obtain ⟨K, rfl⟩ : ∃ K : Nat, k = (K : Int) := ⟨k.toNat, by omega⟩
    exact LTog_ok A A' n c n' c' xs ys K w h h' (hide hv.1.1) (hide hv.1.2) (hide hv.2)
end Go.Proofs.Ytdlbahoenhhkdaa
