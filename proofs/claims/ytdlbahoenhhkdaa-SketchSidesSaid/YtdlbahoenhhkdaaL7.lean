import Derived.Test.YtdlbahoenhhkdaaTi
import Derived.Deep.DeepCutAuto
/-
  The law SketchAsks walked.
-/
namespace Go.Proofs.Ytdlbahoenhhkdaa
open Go.RowKit

def okA (xss : List (List Int)) (key : Int) : Bool := isTab xss && isKeyB key
def askV (xss : List (List Int)) (key : Int) : Int := if okA xss key then ask xss key.toNat else 0
def okS (xss yss : List (List Int)) : Bool := isTab xss && isTab yss && decide (xss.length = yss.length) && decide ((row xss 0).length = (row yss 0).length)
def addE (xss yss : List (List Int)) : Int := if okS xss yss then addErr xss.length (row xss 0).length (addF xss yss) else 2
def addO (xss yss : List (List Int)) : List (List Int) := if okS xss yss then addOut xss.length (row xss 0).length (addF xss yss) else []

theorem okA_cut (xss : List (List Int)) (key : Int) : okA (cutT xss) key = okA xss key := by rw [okA, okA, isTab_cut]
theorem askV_cut (xss : List (List Int)) (key : Int) : askV (cutT xss) key = askV xss key := by
  unfold askV
  rw [okA_cut]
  rcases h : okA xss key
  · rfl
  · simp only [okA, Bool.and_eq_true] at h
    rw [cutT_of_tab h.1]
theorem okS_cut (xss yss : List (List Int)) : okS (cutT xss) (cutT yss) = okS xss yss := by
  unfold okS
  rw [isTab_cut, isTab_cut]
  rcases h1 : isTab xss
  · simp
  rcases h2 : isTab yss
  · simp
  rw [cutT_of_tab h1, cutT_of_tab h2]
theorem okS_parts {xss yss : List (List Int)} (h : okS xss yss = true) : isTab xss = true ∧ isTab yss = true ∧ xss.length = yss.length ∧ (row xss 0).length = (row yss 0).length := by
  simp only [okS, Bool.and_eq_true, decide_eq_true_eq] at h
  exact ⟨h.1.1.1, h.1.1.2, h.1.2, h.2⟩
theorem addE_cut (xss yss : List (List Int)) : addE (cutT xss) (cutT yss) = addE xss yss := by
  unfold addE
  rw [okS_cut]
  rcases h : okS xss yss
  · rfl
  · obtain ⟨h1, h2, _, _⟩ := okS_parts h
    rw [cutT_of_tab h1, cutT_of_tab h2]
theorem addO_cut (xss yss : List (List Int)) : addO (cutT xss) (cutT yss) = addO xss yss := by
  unfold addO
  rw [okS_cut]
  rcases h : okS xss yss
  · rfl
  · obtain ⟨h1, h2, _, _⟩ := okS_parts h
    rw [cutT_of_tab h1, cutT_of_tab h2]

theorem Ask_all (A : Option Addr) (n c : Nat) (xss : List (List Int)) (key : Int) (w : World) (B : Nat) (h : Rows_ w B A n c xss) :
    Calls Try.prog 39 #[.slice A n c, .int .i64 key] w fun e w' => e = .returned (.tuple #[.int .i64 (askV xss key), .int .i64 (errOf (okA xss key))]) ∧ w = w' := by
  rcases hv : okA xss key
  · refine (Ask_no _ _ _ _ _ _ _ h (hide hv)).mono ?_
    rintro e w' ⟨rfl, rfl⟩
    exact ⟨by rw [askV, hv]; rfl, rfl⟩
  · have hv' := hv
    simp only [okA, Bool.and_eq_true] at hv
    obtain ⟨h1, h2⟩ := hv
    have hb : 0 ≤ key := by simp only [isKeyB, Bool.and_eq_true, decide_eq_true_eq] at h2; omega
    obtain ⟨k, rfl⟩ : ∃ k : Nat, key = k := ⟨key.toNat, by omega⟩
    refine (Ask_ok _ _ _ _ _ _ _ h (hide h1) (hide h2)).mono ?_
    rintro e w' ⟨rfl, rfl⟩
    exact ⟨by rw [askV, hv']; rfl, rfl⟩

theorem Add_all (A A' : Option Addr) (n c n' c' : Nat) (xss yss : List (List Int)) (w : World) (h : Rows_ w w.heap.size A n c xss) (h' : Rows_ w w.heap.size A' n' c' yss) :
    Calls Try.prog 41 #[.slice A n c, .slice A' n' c'] w fun e w' => ∃ A3 n3 c3, e = .returned (.tuple #[.slice A3 n3 c3, .int .i64 (addE xss yss)]) ∧ Rows_ w' w'.heap.size A3 n3 c3 (addO xss yss) ∧ Below w.heap.size w w' := by
  rcases hv : okS xss yss
  · refine (Add_no _ _ _ _ _ _ _ _ _ _ _ h h' (hide hv)).mono ?_
    rintro e w' ⟨rfl, q, rfl⟩
    refine ⟨none, 0, 0, by rw [addE, hv]; rfl, by rw [addO, hv]; exact Rows_.none_ _ _, Below.drewN' (Below.refl _ _) q⟩
  · obtain ⟨h1, h2, h3, h4⟩ := okS_parts hv
    have e1 := h.len; have e2 := h'.len
    obtain rfl : n = n' := by omega
    refine (Add_ok _ _ _ _ _ _ _ _ _ h h' (hide h1) (hide h2) (hide rfl) (hide h4.symm)).mono ?_
    rintro e w' ⟨A3, n3, c3, rfl, h5, h6⟩
    refine ⟨A3, n3, c3, by rw [addE, hv, if_pos rfl, e1], ?_, h6⟩
    rw [addO, hv, if_pos rfl, e1]
    exact h5
theorem RAdd_all (A A' : Option Addr) (n c n' c' : Nat) (xss yss : List (List Int)) (w : World) (h : Rows_ w w.heap.size A n c xss) (h' : Rows_ w w.heap.size A' n' c' yss) (hv : Hid (okS xss yss = true)) :
    Calls Try.prog 44 #[.slice A n c, .slice A' n' c'] w fun e w' => ∃ A3 n3 c3, e = .returned (.tuple #[.slice A3 n3 c3, .int .i64 (addE xss yss)]) ∧ Rows_ w' w'.heap.size A3 n3 c3 (addO xss yss) ∧ Below w.heap.size w w' := by
  have hv := hv.out
  obtain ⟨h1, h2, h3, h4⟩ := okS_parts hv
  have e1 := h.len; have e2 := h'.len
  obtain rfl : n = n' := by omega
  refine (RAdd_any _ _ _ _ _ _ _ _ _ h h' (hide h1) (hide h2) (hide rfl) (hide h4.symm)).mono ?_
  rintro e w' ⟨A3, n3, c3, rfl, h5, h6⟩
  refine ⟨A3, n3, c3, by rw [addE, hv, if_pos rfl, e1], ?_, h6⟩
  rw [addO, hv, if_pos rfl, e1]
  exact h5
theorem RIsTable_q {A : Option Addr} {n c : Nat} {xss : List (List Int)} {w : World} {B : Nat} (h : Rows_ w B A n c xss) {b : Bool} (hb : Hid (isTab xss = b)) (k : Nat) :
    Calls Try.prog 42 #[.slice A n c] (w.drewN k) fun e w'' => e = .returned (.bool b) ∧ ∃ m, w'' = w.drewN m := quiet_left (RIsTable_is _ _ _ _ _ _ (h.drewN k) _ hb)

set_option maxRecDepth 100000 in
set_option maxHeartbeats 2000000 in
theorem LAsks_any {A A' : Option Addr} {n c n' c' : Nat} {xss yss : List (List Int)} {w : World} (h : Rows_ w w.heap.size A n c xss) (h' : Rows_ w w.heap.size A' n' c' yss) (key : Int) :
    Calls Try.prog 7 #[.slice A n c, .slice A' n' c', .int .i64 key] w fun e w' => e = .returned (.bool true) ∧ Below w.heap.size w w' := by
  have hl := hide h.len; have hl' := hide h'.len
  have HC1 := hide (askV_cut xss key); have HC2 := hide (okA_cut xss key); have HC3 := hide (addE_cut xss yss); have HC4 := hide (addO_cut xss yss)
  go_enter Try.func7, Try.ntmps7
  go_wp2_with fail
  refine (tableC_any _ _ _ _ _ h).mono ?_
  rintro e w1 ⟨v1, rfl, o1, b1⟩
  obtain ⟨A1, n1, c1, rfl, i1⟩ := o1.to
  go_wp2_with fail
  refine (Ask_all _ _ _ _ _ _ _ i1).mono ?_
  rintro e w2 ⟨rfl, rfl⟩
  rw [HC1.out, HC2.out]
  go_wp2_with fail
  refine (tableC_any _ _ _ _ _ ((h.below b1).more b1.size)).mono ?_
  rintro e w2 ⟨v2, rfl, o2, b2⟩
  obtain ⟨A2, n2, c2, rfl, i2⟩ := o2.to
  have b2' := b1.trans (b2.mono b1.size)
  go_wp2_with fail
  refine (tableC_any _ _ _ _ _ ((h'.below b2').more b2'.size)).mono ?_
  rintro e w3 ⟨v3, rfl, o3, b3⟩
  obtain ⟨A3, n3, c3, rfl, i3⟩ := o3.to
  have b3' := b2'.trans (b3.mono b2'.size)
  go_wp2_with fail
  refine (Add_all _ _ _ _ _ _ _ _ _ ((i2.below b3).more b3.size) i3).mono ?_
  rintro e w4 ⟨A4, n4, c4, rfl, i4, b4⟩
  rw [HC3.out]
  rw [HC4.out] at i4
  have b4' := b3'.trans (b4.mono b3'.size)
  have j1 := h.below b4'
  have j2 := h'.below b4'
  clear i1 i2 i3 o1 o2 o3 b1 b2 b3 b4 b2' b3'
  obtain ⟨bk, hbk⟩ : ∃ bk, okA xss key = bk := ⟨_, rfl⟩
  obtain ⟨a0, ha0⟩ : ∃ a0, askV xss key = a0 := ⟨_, rfl⟩
  obtain ⟨e0, he0⟩ : ∃ e0, errOf bk = e0 := ⟨_, rfl⟩
  rw [hbk, ha0, he0]
  have HBK := hide hbk; have HA0 := hide ha0; have HE0 := hide he0
  clear hbk ha0 he0
  go_upto_region 3 with fail
  go_cut [38] (fun s wc => s = .bool (!bk) ∧ w4 = wc)
  case first =>
    rcases hT : isTab xss
    · have HT := hide hT
      obtain rfl : bk = false := by rw [← HBK.out, okA, hT]; rfl
      clear hT
      go_wp2_with (go_at_call 42; refine (RIsTable_is _ _ _ _ _ _ j1 _ HT).mono ?_; rintro e w5 ⟨rfl, rfl⟩)
      go_meet
      exact ⟨rfl, rfl⟩
    · have HT := hide hT
      by_cases h0 : key < 0
      · obtain rfl : bk = false := by rw [← HBK.out, okA, isKeyB]; simp; omega
        clear hT
        go_wp2_with (go_at_call 42; refine (RIsTable_is _ _ _ _ _ _ j1 _ HT).mono ?_; rintro e w5 ⟨rfl, rfl⟩)
        go_meet
        exact ⟨rfl, rfl⟩
      · have h0' : decide (key < 0) = false := by simpa using h0
        by_cases h15 : 15 < key
        · obtain rfl : bk = false := by rw [← HBK.out, okA, isKeyB]; simp; omega
          clear hT
          go_wp2_with (go_at_call 42; refine (RIsTable_is _ _ _ _ _ _ j1 _ HT).mono ?_; rintro e w5 ⟨rfl, rfl⟩)
          go_meet
          exact ⟨rfl, rfl⟩
        · obtain rfl : bk = true := by rw [← HBK.out, okA, isKeyB, hT]; simp; omega
          have h15' : decide (15 < key) = false := by simpa using h15
          clear hT
          go_wp2_with (go_at_call 42; refine (RIsTable_is _ _ _ _ _ _ j1 _ HT).mono ?_; rintro e w5 ⟨rfl, rfl⟩)
          go_meet
          exact ⟨rfl, rfl⟩
  case rest =>
    obtain ⟨rfl, rfl⟩ := hcut
    go_upto_if 38 with (fail)
    go_cut [] (fun wc => w4 = wc)
    case first =>
      rcases bk
      · obtain rfl : a0 = 0 := by rw [← HA0.out, askV, HBK.out]; rfl
        obtain rfl : e0 = 2 := HE0.out.symm
        go_wp2_with fail
        go_meet
        exact rfl
      · have hk := HBK.out
        simp only [okA, Bool.and_eq_true] at hk
        obtain ⟨k1, k2⟩ := hk
        obtain ⟨k, rfl⟩ : ∃ k : Nat, key = k := ⟨key.toNat, by simp only [isKeyB, Bool.and_eq_true, decide_eq_true_eq] at k2; omega⟩
        obtain rfl : ask xss k = a0 := by rw [← HA0.out, askV, HBK.out]; rfl
        obtain rfl : e0 = 0 := HE0.out.symm
        have HT := hide k1; have HKB := hide k2
        clear k1 k2
        go_wp2_with (go_at_call 43; refine (RAsk_any _ _ _ _ _ _ _ j1 HT HKB).mono ?_; rintro e w5 ⟨rfl, rfl⟩)
        go_meet
        exact rfl
    case rest =>
      obtain rfl := hcut
      go_upto_region 8 with (fail)
      rcases hS : okS xss yss
      · have hO : addO xss yss = [] := by rw [addO, hS]; rfl
        have hE : addE xss yss = 2 := by rw [addE, hS]; rfl
        rw [hE]
        rw [hO] at i4
        obtain rfl : n4 = 0 := i4.len.symm
        have HS := hide hS; clear hS hE hO
        rcases h1 : isTab xss
        · have K1 := hide h1; clear h1
          go_big_quiet (first | (with_reducible exact RIsTable_q j1 K1 _))
          go_wp2_with (go_at_call 21; refine (awake_any _).mono ?_; rintro e w6 ⟨rfl, b6⟩)
          go_ret
          exact ⟨rfl, (Below.drewN' b4' nq).trans (b6.mono b4'.size)⟩
        rcases h2 : isTab yss
        · have K1 := hide h1; clear h1
          have K2 := hide h2; clear h2
          go_big_quiet (first | (with_reducible exact RIsTable_q j1 K1 _) | (with_reducible exact RIsTable_q j2 K2 _))
          go_wp2_with (go_at_call 21; refine (awake_any _).mono ?_; rintro e w6 ⟨rfl, b6⟩)
          go_ret
          exact ⟨rfl, (Below.drewN' b4' nq).trans (b6.mono b4'.size)⟩
        by_cases h3 : n = n'
        · subst h3
          have hn := isTab_parts h1
          have h4 : ¬ (row xss 0).length = (row yss 0).length := by
            have := HS.out
            simp only [okS, h1, h2, hl.out, hl'.out, decide_true, Bool.and_true, Bool.true_and, decide_eq_false_iff_not] at this
            exact this
          obtain ⟨b0, off0, A0, n0, c0, rfl, hb0, hc0, hi0⟩ := j1.at_ 0 (by have := hl.out; omega)
          obtain ⟨b0', off0', A0', n0', c0', rfl, hb0', hc0', hi0'⟩ := j2.at_ 0 (by have := hl.out; omega)
          simp only [Nat.add_zero] at hc0 hc0'
          have hne : ((n0 : Int) != (n0' : Int)) = true := by have := hi0.len; have := hi0'.len; simp; omega
          have h1n : 1 ≤ n := by have := hl.out; omega
          have K1 := hide h1; clear h1
          have K2 := hide h2; clear h2
          clear hn h4
          go_big_quiet (first | (with_reducible exact RIsTable_q j1 K1 _) | (with_reducible exact RIsTable_q j2 K2 _))
          go_wp2_with (go_at_call 21; refine (awake_any _).mono ?_; rintro e w6 ⟨rfl, b6⟩)
          go_ret
          exact ⟨rfl, (Below.drewN' b4' nq).trans (b6.mono b4'.size)⟩
        · have hne : ((n : Int) != (n' : Int)) = true := by simp; omega
          have K1 := hide h1; clear h1
          have K2 := hide h2; clear h2
          go_big_quiet (first | (with_reducible exact RIsTable_q j1 K1 _) | (with_reducible exact RIsTable_q j2 K2 _))
          go_wp2_with (go_at_call 21; refine (awake_any _).mono ?_; rintro e w6 ⟨rfl, b6⟩)
          go_ret
          exact ⟨rfl, (Below.drewN' b4' nq).trans (b6.mono b4'.size)⟩
      · obtain ⟨h1, h2, h3, h4⟩ := okS_parts hS
        have hn := isTab_parts h1
        obtain rfl : n = n' := by have := hl.out; have := hl'.out; omega
        have K1 := hide h1; have K2 := hide h2; have HS := hide hS
        obtain ⟨b0, off0, A0, n0, c0, rfl, hb0, hc0, hi0⟩ := j1.at_ 0 (by have := hl.out; omega)
        obtain ⟨b0', off0', A0', n0', c0', rfl, hb0', hc0', hi0'⟩ := j2.at_ 0 (by have := hl.out; omega)
        simp only [Nat.add_zero] at hc0 hc0'
        obtain rfl : n0 = n0' := by have := hi0.len; have := hi0'.len; omega
        have h1n : 1 ≤ n := by have := hl.out; omega
        clear h1 h2 h3 h4 hS hn
        go_big_quiet (first | (with_reducible exact RIsTable_q j1 K1 _) | (with_reducible exact RIsTable_q j2 K2 _))
        have b5 := Below.drewN' b4' nq
        go_wp2_with fail
        refine (RAdd_all _ _ _ _ _ _ _ _ _ ((j1.drewN nq).more b4'.size) ((j2.drewN nq).more b4'.size) HS).mono ?_
        rintro e w6 ⟨A6, n6, c6, rfl, i6, b6⟩
        have b6' := b5.trans (b6.mono b5.size)
        have ee : (addE xss yss == addE xss yss) = true := by simp
        go_wp2_with fail
        refine (equalT_is _ _ _ _ _ _ _ _ _ _ _ ((i4.drewN nq).below b6) i6 (hide rfl)).mono ?_
        rintro e w7 ⟨rfl, q, rfl⟩
        have b7 := Below.drewN' b6' q
        go_wp2_with (go_at_call 21; refine (awake_any _).mono ?_; rintro e w8 ⟨rfl, b8⟩)
        go_ret
        exact ⟨rfl, b7.trans (b8.mono b7.size)⟩
end Go.Proofs.Ytdlbahoenhhkdaa
