/-
  The law CountsHidden walked.
-/
import Derived.Test.YtabgifpenegofaaY2
import Derived.BigQuiet
namespace Go.Proofs.Ytabgifpenegofaa
open Go.RowKit

theorem Plus_all (A A' : Option Addr) (n c n' c' : Nat) (s t : List (List Int)) (w : World) (h : Rows_ w w.heap.size A n c s) (h' : Rows_ w w.heap.size A' n' c' t) :
    Calls Try.prog 54 #[.slice A n c, .slice A' n' c'] w fun e w' => ∃ A3 n3 c3, e = .returned (.tuple #[.slice A3 n3 c3, .int .i64 (plE s t)]) ∧ Rows_ w' w'.heap.size A3 n3 c3 (plO s t) ∧ Below w.heap.size w w' := by
  cases hr : okP s t with
  | false =>
    refine (Plus_no A A' n c n' c' s t w h h' (hide hr)).mono ?_
    rintro e w1 ⟨rfl, b1⟩
    exact ⟨none, 0, 0, by unfold plE; rw [hr]; rfl, by unfold plO; rw [hr]; exact Rows_.none_ _ _, b1⟩
  | true =>
    have hr0 := hr
    simp only [okP, Bool.and_eq_true] at hr0
    have hs := tb_of hr0.1
    have ht := okP_parts hr hs
    have e1 := h.len; have e2 := h'.len; have e3 := ht.len
    obtain rfl : n' = n := by rw [← e2, e3, e1]
    obtain ⟨b, off, rfl⟩ := h.addr (show 0 < n' by have := hs.n1; omega)
    obtain ⟨b', off', rfl⟩ := h'.addr (show 0 < n' by have := hs.n1; omega)
    rw [e1] at hs ht
    refine (Plus_ok b off n' c _ b' off' c' s t w h h' (hide hs) (hide ht) _ (hide rfl)).mono ?_
    rintro e w1 ⟨A3, n3, c3, rfl, r3, b3⟩
    refine ⟨A3, n3, c3, ?_, ?_, b3⟩
    · unfold plE; rw [hr]; by_cases h16 : tot (plK s t) ≤ 16 <;> simp [h16]
    · unfold plO; rw [hr, e1]; by_cases h16 : tot (plK s t) ≤ 16 <;> simpa [h16] using r3
theorem Hidden_all (A A' : Option Addr) (n c n' c' : Nat) (s t : List (List Int)) (w : World) (h : Rows_ w w.heap.size A n c s) (h' : Rows_ w w.heap.size A' n' c' t) :
    Calls Try.prog 55 #[.slice A n c, .slice A' n' c'] w fun e w' => e = .returned (.tuple #[.bool (hdV s t), .int .i64 (hdE s t)]) ∧ Below w.heap.size w w' := by
  cases hr : twB s t with
  | false =>
    refine (Hidden_no A A' n c n' c' s t w h h' (hide hr)).mono ?_
    rintro e w1 ⟨rfl, b1⟩
    exact ⟨by unfold hdV hdE; rw [hr]; rfl, b1⟩
  | true =>
    have hr0 := hr
    simp only [twB, Bool.and_eq_true] at hr0
    have hs := two_tb hr0.1; have ht := two_tb hr0.2
    obtain rfl : n = 2 := by rw [← h.len]; exact hs.len
    obtain rfl : n' = 2 := by rw [← h'.len]; exact ht.len
    obtain ⟨b, off, rfl⟩ := h.addr (show 0 < 2 by omega)
    obtain ⟨b', off', rfl⟩ := h'.addr (show 0 < 2 by omega)
    refine (Hidden_ok b off c b' off' c' s t w h h' (hide hr0.1) (hide hr0.2) _ _ (hide rfl) (hide rfl)).mono ?_
    rintro e w1 ⟨rfl, b1⟩
    exact ⟨by unfold hdV hdE; rw [hr]; rfl, b1⟩
theorem pl_cut (s t : List (List Int)) : plE (cutT s) (cutT t) = plE s t ∧ plO (cutT s) (cutT t) = plO s t ∧ hdV (cutT s) (cutT t) = hdV s t ∧ hdE (cutT s) (cutT t) = hdE s t := by
  cases hs : isT s with
  | false =>
    have e1 : okP s t = false := by unfold okP; rw [hs]; rfl
    have e2 : okP (cutT s) (cutT t) = false := by unfold okP; rw [isT_cut, hs]; rfl
    have e3 : twB s t = false := by unfold twB isTwo; rw [hs]; rfl
    have e4 : twB (cutT s) (cutT t) = false := by unfold twB isTwo; rw [isT_cut, hs]; rfl
    unfold plE plO hdV hdE
    rw [e1, e2, e3, e4]; exact ⟨rfl, rfl, rfl, rfl⟩
  | true =>
    rw [cutT_of hs]
    cases ht : isT t with
    | false =>
      have e1 : okP s t = false := by unfold okP; rw [hs, ht]; rfl
      have e2 : okP s (cutT t) = false := by unfold okP; rw [isT_cut, hs, ht]; rfl
      have e3 : twB s t = false := by unfold twB isTwo; rw [ht]; simp
      have e4 : twB s (cutT t) = false := by unfold twB; rw [isTwo_cut]; unfold isTwo; rw [ht]; simp
      unfold plE plO hdV hdE
      rw [e1, e2, e3, e4]; exact ⟨rfl, rfl, rfl, rfl⟩
    | true => rw [cutT_of ht]; exact ⟨rfl, rfl, rfl, rfl⟩
theorem quiet_left {P : Program} {f : FuncId} {args : Array Value} {w : World} {n : Nat} {v : Value}
    (h : Calls P f args (w.drewN n) fun e w' => e = .returned v ∧ w.drewN n = w') : Calls P f args (w.drewN n) fun e w' => e = .returned v ∧ ∃ m, w' = w.drewN m := h.mono fun _ _ ⟨he, hw⟩ => ⟨he, n, hw.symm⟩
theorem RTable_q {A : Option Addr} {n c : Nat} {t : List (List Int)} {w : World} {B : Nat} (h : Rows_ w B A n c t) {b : Bool} (hb : Hid (isT t = b)) (k : Nat) :
    Calls Try.prog 22 #[.slice A n c] (w.drewN k) fun e w'' => e = .returned (.bool b) ∧ ∃ m, w'' = w.drewN m := quiet_left (RTable_is _ _ _ _ _ _ (h.drewN k) _ hb)

set_option maxRecDepth 100000 in
set_option maxHeartbeats 8000000 in
/-- The law behind its first test. -/
theorem LHidden_any {A A' : Option Addr} {n c n' c' : Nat} {s t : List (List Int)} {w : World} (h : Rows_ w w.heap.size A n c s) (h' : Rows_ w w.heap.size A' n' c' t) :
    Calls Try.prog 11 #[.slice A n c, .slice A' n' c'] w fun e w' => e = .returned (.bool true) ∧ Below w.heap.size w w' := by
  have hln := hide h.len; have hln' := hide h'.len
  have HC := hide (pl_cut s t)
  have hm := h.most; have hcap := h.cap; have hm' := h'.most; have hcap' := h'.cap
  go_enter Try.func11, Try.ntmps11
  go_wp2_with fail
  refine (table_any _ _ _ _ _ h).mono ?_
  rintro e w1 ⟨v1, rfl, o1, b1⟩
  obtain ⟨A1, n1, c1, rfl, i1⟩ := o1.to
  go_wp2_with fail
  refine (table_any _ _ _ _ _ ((h'.below b1).more b1.size)).mono ?_
  rintro e w2 ⟨v2, rfl, o2, b2⟩
  obtain ⟨A2, n2, c2, rfl, i2⟩ := o2.to
  have HB2 := hide (b1.trans (b2.mono b1.size))
  have I1 := hide ((i1.below b2).more b2.size)
  have I2 := hide i2
  clear o1 i1 b1 o2 i2 b2
  go_wp2_with fail
  refine (Plus_all _ _ _ _ _ _ _ _ _ (unhide I1) (unhide I2)).mono ?_
  rintro e w3 ⟨A3, n3, c3, rfl, r3, b3⟩
  rw [HC.out.1]
  rw [HC.out.2.1] at r3
  have HB3 := hide ((unhide HB2).trans (b3.mono (unhide HB2).size))
  have R3 := hide r3
  clear r3 b3 I1 I2
  go_wp2_with fail
  refine (table_any _ _ _ _ _ ((h.below (unhide HB3)).more (unhide HB3).size)).mono ?_
  rintro e w4 ⟨v4, rfl, o4, b4⟩
  obtain ⟨A4, n4, c4, rfl, i4⟩ := o4.to
  have HB4 := hide ((unhide HB3).trans (b4.mono (unhide HB3).size))
  have R4 := hide (((unhide R3).below b4).more b4.size)
  have I4 := hide i4
  clear o4 i4 b4 R3
  go_wp2_with fail
  refine (table_any _ _ _ _ _ ((h'.below (unhide HB4)).more (unhide HB4).size)).mono ?_
  rintro e w5 ⟨v5, rfl, o5, b5⟩
  obtain ⟨A5, n5, c5, rfl, i5⟩ := o5.to
  have HB5 := hide ((unhide HB4).trans (b5.mono (unhide HB4).size))
  have R5 := hide (((unhide R4).below b5).more b5.size)
  have I4' := hide (((unhide I4).below b5).more b5.size)
  have I5 := hide i5
  clear o5 i5 b5 R4 I4
  go_wp2_with fail
  refine (Hidden_all _ _ _ _ _ _ _ _ _ (unhide I4') (unhide I5)).mono ?_
  rintro e w6 ⟨rfl, b6⟩
  rw [HC.out.2.2.1, HC.out.2.2.2]
  have HB6 := hide ((unhide HB5).trans (b6.mono (unhide HB5).size))
  have R6 := hide (((unhide R5).below b6).more b6.size)
  clear b6 R5 I4' I5 HC
  have J1 := hide ((h.below (unhide HB6)).more (unhide HB6).size)
  have J2 := hide ((h'.below (unhide HB6)).more (unhide HB6).size)
  obtain ⟨hv, hhv⟩ : ∃ x, hdV s t = x := ⟨_, rfl⟩
  obtain ⟨he, hhe⟩ : ∃ x, hdE s t = x := ⟨_, rfl⟩
  obtain ⟨pe, hpe⟩ : ∃ x, plE s t = x := ⟨_, rfl⟩
  rw [hhv, hhe, hpe]
  have HV := hide hhv; have HE := hide hhe; have PE := hide hpe
  clear hhv hhe hpe
  go_upto_region 3 with fail
  go_cut [54] (fun q wc => q = .bool (!okP s t) ∧ ∃ k, wc = w6.drewN k)
  case first =>
    cases h1 : isT s with
    | false =>
      have H1 := hide h1
      have HF := hide (show okP s t = false from by unfold okP; rw [h1]; rfl)
      clear h1
      go_big_quiet (first | (with_reducible exact RTable_q (unhide J1) H1 _))
      go_wp2_with fail
      go_meet
      exact ⟨by rw [HF.out]; rfl, _, rfl⟩
    | true =>
      cases h2 : isT t with
      | false =>
        have H1 := hide h1; have H2 := hide h2
        have HF := hide (show okP s t = false from by unfold okP; rw [h1, h2]; rfl)
        clear h1 h2
        go_big_quiet (first | (with_reducible exact RTable_q (unhide J1) H1 _) | (with_reducible exact RTable_q (unhide J2) H2 _))
        go_wp2_with fail
        go_meet
        exact ⟨by rw [HF.out]; rfl, _, rfl⟩
      | true =>
        have H1 := hide h1; have H2 := hide h2
        have hs := tb_of h1; have ht := tb_of h2
        rw [hln.out] at hs; rw [hln'.out] at ht
        have hn0 : 0 < n := by have := hs.n1; omega
        have hn0' : 0 < n' := by have := ht.n1; omega
        obtain ⟨b, off, rfl⟩ := h.addr hn0
        obtain ⟨b', off', rfl⟩ := h'.addr hn0'
        obtain ⟨A0, c0, hc0, hi0⟩ := hs.get (unhide J1) hn0
        obtain ⟨A0', c0', hc0', hi0'⟩ := ht.get (unhide J2) hn0'
        simp only [Nat.add_zero] at hc0 hc0'
        have HL := hide (show likeB s t = (decide (n = n') && decide ((row s 0).length = (row t 0).length)) from by unfold likeB; rw [hln.out, hln'.out])
        have HOK := hide (show okP s t = likeB s t from by unfold okP; rw [h1, h2]; rfl)
        obtain ⟨m, hmm⟩ : ∃ x, (row s 0).length = x := ⟨_, rfl⟩
        obtain ⟨m', hmm'⟩ : ∃ x, (row t 0).length = x := ⟨_, rfl⟩
        rw [hmm] at hc0; rw [hmm'] at hc0'
        rw [hmm, hmm'] at HL
        clear hi0 hi0' hs ht h1 h2
        by_cases e1 : n = n'
        · have e1' : ((n : Int) != (n' : Int)) = false := by simp; omega
          have hq : ((m : Int) != (m' : Int)) = !okP s t := by
            rw [HOK.out, HL.out, e1]
            by_cases e2 : m = m'
            · simp [e2]
            · have : ¬ (m : Int) = (m' : Int) := by omega
              simp [e2, this]
          have HF := hide hq
          clear hmm hmm' hq e1
          obtain ⟨q, hq⟩ : ∃ q, (!okP s t) = q := ⟨_, rfl⟩
          have hq2 : ((m : Int) != (m' : Int)) = q := by rw [HF.out, hq]
          have HQ := hide hq
          clear hq HF
          go_big_quiet (first | (with_reducible exact RTable_q (unhide J1) H1 _) | (with_reducible exact RTable_q (unhide J2) H2 _))
          go_wp2_with fail
          go_meet
          exact ⟨by rw [HQ.out], _, rfl⟩
        · have e1' : ((n : Int) != (n' : Int)) = true := by simp; omega
          have HF := hide (show okP s t = false from by rw [HOK.out, HL.out]; simp [e1])
          clear hmm hmm' e1
          go_big_quiet (first | (with_reducible exact RTable_q (unhide J1) H1 _) | (with_reducible exact RTable_q (unhide J2) H2 _))
          go_wp2_with fail
          go_meet
          exact ⟨by rw [HF.out]; rfl, _, rfl⟩
  case rest =>
    obtain ⟨rfl, k, hk⟩ := hcut
    have HBc := hide (show Below w.heap.size w wc from by rw [hk]; exact Below.drewN' (unhide HB6) k)
    have Rc := hide (show Rows_ wc wc.heap.size A3 n3 c3 (plO s t) from by rw [hk]; exact (unhide R6).drewN k)
    clear hk R6 J1 J2 HB6
    go_upto_if 54 with (fail)
    go_cut [] (fun wd => Hid (Below w.heap.size w wd))
    case first =>
      cases hok : okP s t with
      | false =>
        obtain rfl : 2 = pe := by rw [← PE.out]; unfold plE; rw [hok]; rfl
        obtain rfl : n3 = 0 := by
          rw [← (unhide Rc).len]; unfold plO; rw [hok]; rfl
        clear hok
        go_wp2_with fail
        go_meet
        exact HBc
      | true =>
        have hr0 := hok
        simp only [okP, Bool.and_eq_true] at hr0
        have hs := tb_of hr0.1
        have ht := okP_parts hok hs
        rw [hln.out] at hs ht
        obtain rfl : n' = n := by rw [← hln'.out, ht.len]
        have HS := hide hs; have HT := hide ht
        obtain ⟨b, off, rfl⟩ := h.addr (show 0 < n' by have := hs.n1; omega)
        obtain ⟨b', off', rfl⟩ := h'.addr (show 0 < n' by have := hs.n1; omega)
        have HPE := hide (show pe = if decide (tot (plK s t) ≤ 16) then 0 else 4 from by rw [← PE.out]; unfold plE; rw [hok]; by_cases h16 : tot (plK s t) ≤ 16 <;> simp [h16])
        have HPO := hide (show plO s t = if decide (tot (plK s t) ≤ 16) then tabL n' (row s 0).length (plK s t) else [] from by unfold plO; rw [hok, hln.out]; rfl)
        clear hok hr0 hs ht
        have J1 := hide ((h.below (unhide HBc)).more (unhide HBc).size)
        have J2 := hide ((h'.below (unhide HBc)).more (unhide HBc).size)
        go_wp2_with fail
        refine (RPlus_any _ _ _ _ _ _ _ _ _ _ _ (unhide J1) (unhide J2) HS HT _ (hide rfl)).mono ?_
        rintro e w7 ⟨A7, n7, c7, rfl, r7, b7⟩
        have HB7 := hide ((unhide HBc).trans (b7.mono (unhide HBc).size))
        have R7 := hide r7
        have S7 := hide (((unhide Rc).below b7).more b7.size)
        rw [HPO.out] at S7
        clear b7 r7
        have HPE2 := HPE.out
        rw [← HPE2]
        obtain ⟨L, hL⟩ : ∃ L, (if decide (tot (plK s t) ≤ 16) = true then tabL n' (row s 0).length (plK s t) else []) = L := ⟨_, rfl⟩
        rw [hL] at R7 S7
        clear hL HPE2 HPE
        have dpe : (pe != pe) = false := by simp
        go_wp2_with (go_at_call 26; refine (RSame_is _ _ _ _ _ _ _ _ _ _ _ (unhide S7) (unhide R7) true (hide (by simp))).mono ?_; rintro e w' ⟨rfl, rfl⟩)
        go_meet
        exact HB7
    case rest =>
      have HBd := hcut
      have J1 := hide ((h.below (unhide HBd)).more (unhide HBd).size)
      have J2 := hide ((h'.below (unhide HBd)).more (unhide HBd).size)
      cases h1 : isTwo s with
      | false =>
        have H1 := hide h1
        obtain ⟨rfl, rfl⟩ : false = hv ∧ 2 = he := by rw [← HV.out, ← HE.out]; unfold hdV hdE twB; rw [h1]; exact ⟨rfl, rfl⟩
        clear h1
        go_wp2_with fail
        refine (RTwo_any _ _ _ _ _ (unhide J1) _ H1).mono ?_
        rintro e w8 ⟨rfl, b8⟩
        have HB8 := hide ((unhide HBd).trans (b8.mono (unhide HBd).size))
        clear b8
        go_wp2_with fail
        refine (awake_any _).mono ?_
        rintro e w9 ⟨rfl, b9⟩
        have HB9 := hide ((unhide HB8).trans (b9.mono (unhide HB8).size))
        go_wp2_with fail
        go_ret
        exact ⟨rfl, unhide HB9⟩
      | true =>
        cases h2 : isTwo t with
        | false =>
          have H1 := hide h1; have H2 := hide h2
          obtain ⟨rfl, rfl⟩ : false = hv ∧ 2 = he := by rw [← HV.out, ← HE.out]; unfold hdV hdE twB; rw [h1, h2]; exact ⟨rfl, rfl⟩
          clear h1 h2
          go_wp2_with fail
          refine (RTwo_any _ _ _ _ _ (unhide J1) _ H1).mono ?_
          rintro e w8 ⟨rfl, b8⟩
          have HB8 := hide ((unhide HBd).trans (b8.mono (unhide HBd).size))
          have J8 := hide (((unhide J2).below b8).more b8.size)
          clear b8
          go_wp2_with fail
          refine (RTwo_any _ _ _ _ _ (unhide J8) _ H2).mono ?_
          rintro e wa ⟨rfl, ba⟩
          have HBa := hide ((unhide HB8).trans (ba.mono (unhide HB8).size))
          clear ba
          go_wp2_with fail
          refine (awake_any _).mono ?_
          rintro e w9 ⟨rfl, b9⟩
          have HB9 := hide ((unhide HBa).trans (b9.mono (unhide HBa).size))
          go_wp2_with fail
          go_ret
          exact ⟨rfl, unhide HB9⟩
        | true =>
          have H1 := hide h1; have H2 := hide h2
          have hs := two_tb h1; have ht := two_tb h2
          obtain rfl : n = 2 := by rw [← hln.out]; exact hs.len
          obtain rfl : n' = 2 := by rw [← hln'.out]; exact ht.len
          obtain ⟨b, off, rfl⟩ := h.addr (show 0 < 2 by omega)
          obtain ⟨b', off', rfl⟩ := h'.addr (show 0 < 2 by omega)
          have K1 := hide (show (hdOk s t && hdW s t) = hv from by rw [← HV.out]; unfold hdV twB; rw [h1, h2]; rfl)
          have K2 := hide (show (if hdOk s t then 0 else 5) = he from by rw [← HE.out]; unfold hdE twB; rw [h1, h2]; rfl)
          clear h1 h2 hs ht
          go_wp2_with fail
          refine (RTwo_any _ _ _ _ _ (unhide J1) _ H1).mono ?_
          rintro e w8 ⟨rfl, b8⟩
          have HB8 := hide ((unhide HBd).trans (b8.mono (unhide HBd).size))
          have J8 := hide (((unhide J2).below b8).more b8.size)
          clear b8
          go_wp2_with fail
          refine (RTwo_any _ _ _ _ _ (unhide J8) _ H2).mono ?_
          rintro e wa ⟨rfl, ba⟩
          have HBa := hide ((unhide HB8).trans (ba.mono (unhide HB8).size))
          have Ja := hide (((unhide J8).below ba).more ba.size)
          have Jb := hide ((h.below (unhide HBa)).more (unhide HBa).size)
          clear ba
          go_wp2_with fail
          refine (RHidden_ok _ _ _ _ _ _ _ _ _ (unhide Jb) (unhide Ja) H1 H2 _ _ K1 K2).mono ?_
          rintro e wb ⟨rfl, bb⟩
          have HBb := hide ((unhide HBa).trans (bb.mono (unhide HBa).size))
          clear bb
          have d1 : (hv == hv) = true := by simp
          have d2 : (he == he) = true := by simp
          go_wp2_with fail
          refine (awake_any _).mono ?_
          rintro e w9 ⟨rfl, b9⟩
          have HB9 := hide ((unhide HBb).trans (b9.mono (unhide HBb).size))
          go_wp2_with fail
          go_ret
          exact ⟨rfl, unhide HB9⟩
end Go.Proofs.Ytabgifpenegofaa
