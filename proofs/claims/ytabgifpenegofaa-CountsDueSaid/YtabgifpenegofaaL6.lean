/-
  The law CountsDue walked.
-/
import Derived.Test.YtabgifpenegofaaY7
import Derived.Test.YtabgifpenegofaaL5
namespace Go.Proofs.Ytabgifpenegofaa
open Go.RowKit

theorem hide_dec {p : Prop} [Decidable p] {b : Bool} (h : Hid (decide p = b)) : decide p = b := h.out
set_option maxRecDepth 100000 in
set_option maxHeartbeats 16000000 in
theorem LDue_any {A : Option Addr} {n c : Nat} {t : List (List Int)} {w : World} (h : Rows_ w w.heap.size A n c t) :
    Calls Try.prog 14 #[.slice A n c] w fun e w' => e = .returned (.bool true) ∧ Below w.heap.size w w' := by
  have HC := hide (of_cut t)
  have hln := hide h.len
  obtain ⟨a, ha⟩ : ∃ a, ofN t = a := ⟨_, rfl⟩
  obtain ⟨b, hb⟩ : ∃ b, ofD t = b := ⟨_, rfl⟩
  obtain ⟨z, hz⟩ : ∃ z, ofE t = z := ⟨_, rfl⟩
  have HA := hide ha; have HBB := hide hb; have HZ := hide hz
  rw [ha, hb, hz] at HC
  clear ha hb hz
  go_enter Try.func14, Try.ntmps14
  go_wp2_with fail
  refine (table_any _ _ _ _ _ h).mono ?_
  rintro e w1 ⟨v1, rfl, o1, b1⟩
  obtain ⟨A1, n1, c1, rfl, i1⟩ := o1.to
  go_wp2_with fail
  refine (Off_all _ _ _ _ _ i1).mono ?_
  rintro e w2 ⟨rfl, b2⟩
  rw [HC.out.1, HC.out.2.1, HC.out.2.2]
  have b2' := b1.trans (b2.mono b1.size)
  clear o1 i1 b1 b2
  obtain ⟨W, hW, hF, hBW⟩ := new_frac w2 a b
  have HB := hide (b2'.trans (hBW.mono b2'.size))
  have HF := hide hF
  clear hBW hF b2'
  have HR := hide ((h.below (unhide HB)).more (unhide HB).size)
  go_upto_region 2 with fail
  clear hW
  cases hr : isT t with
  | false =>
    have HT := hide hr
    obtain rfl : 2 = z := by rw [← HZ.out]; unfold ofE; rw [hr]; simp
    clear hr
    go_wp2_with (go_at_call 22; refine (RTable_is _ _ _ _ _ _ (unhide HR) _ HT).mono ?_; rintro e w' ⟨rfl, rfl⟩)
    refine (awake_any _).mono ?_
    rintro e w5 ⟨rfl, b5⟩
    have HB5 := hide ((unhide HB).trans (b5.mono (unhide HB).size))
    go_wp2_with fail
    go_ret
    exact ⟨rfl, unhide HB5⟩
  | true =>
    have HT := hide hr
    have ht := tb_of hr
    obtain ⟨m, hm⟩ : ∃ m, (row t 0).length = m := ⟨_, rfl⟩
    have hzz : ∃ zz, (zrB t || zcB t) = zz := ⟨_, rfl⟩
    obtain ⟨zz, hzz⟩ := hzz
    have HFR := hide (show if zz = true then z = 5 else Fr (Rat.divInt (zT (at2 t) n m n) (dD (at2 t) n m)) a b ∧ z = 0 from by
      rw [← HA.out, ← HBB.out, ← HZ.out]
      unfold ofN ofD ofE ofOk
      rw [hr, hzz]
      cases zz with
      | true => simp
      | false =>
        simp only [Bool.true_and, Bool.not_false, if_true, Bool.false_eq_true, if_false]
        unfold ofQ
        rw [hln.out, hm]
        exact ⟨⟨rfl, rfl⟩, trivial⟩)
    rw [hln.out, hm] at ht
    have HTB := hide ht
    have HZZ := hide hzz
    have HRL := hide (show (List.range n).map (rS (at2 t)) = rowsL t from by unfold rowsL; rw [hln.out])
    have HCL := hide (show (List.range m).map (cS (at2 t)) = colsL t from by unfold colsL; rw [hm])
    obtain ⟨bb, off, rfl⟩ := h.addr (show 0 < n by have := ht.n1; omega)
    have n1 := ht.n1; have n3 := ht.n3; have m1 := ht.m1; have m3 := ht.m3
    have hbl : bb < w.heap.size := by
      obtain ⟨bx, ox, _, _, _, ex, hbl, _⟩ := h.at_ 0 (show 0 < n by omega)
      cases ex; exact hbl
    have hms := h.most; have hcap := h.cap
    clear hr ht hm hzz
    go_wp2_with (go_at_call 22; refine (RTable_is _ _ _ _ _ _ (unhide HR) _ HT).mono ?_; rintro e w' ⟨rfl, rfl⟩)
    refine (RSums_any _ _ _ _ _ _ _ (unhide HR) HTB).mono ?_
    rintro e w5 ⟨g1, g2, rfl, k1, k2, _, _, _, b5⟩
    have HF5 := hide ((b5.block _ (Array.getElem?_eq_some_iff.1 (unhide HF)).1).trans (unhide HF))
    have HB5 := hide ((unhide HB).trans (b5.mono (unhide HB).size))
    have K1 := ints_rowC k1 (by omega); have K2 := ints_rowC k2 (by omega)
    rw [HRL.out] at K1; rw [HCL.out] at K2
    have K1 := hide K1; have K2 := hide K2
    clear b5 k1 k2 HR HT
    have HL1 := hide (rowsL_len HTB.out); have HL2 := hide (colsL_len HTB.out)
    have HW0 := hide (show ∃ q, w5 = w5.drewN q from ⟨0, rfl⟩)
    have HRB := hide (fun i => rS_bd HTB.out i)
    go_wp2_with fail
    go_loopw [7, 9, 36] (fun y _ q wr => ∃ k : Nat, k ≤ n ∧ q = .int .i64 k ∧ y = .int .i64 (s3 (rS (at2 t)) k) ∧ w5 = wr) (fun _ _ q _ => n - (intOf q).toNat)
    case atStart => exact ⟨0, Nat.zero_le _, rfl, rfl, rfl⟩
    case round =>
      obtain ⟨k, hk, rfl, rfl, rfl⟩ := hrel
      by_cases hlt : k < n
      · obtain ⟨bR', oR', e1, _, hx⟩ := (unhide K1).cells (show 0 < n by omega)
        cases e1
        have hx := hx k (by rw [HL1.out]; exact hlt)
        rw [show (rowsL t).getD k 0 = nth (rowsL t) k from rfl, rowsL_nth HTB.out, Nat.zero_add] at hx
        have HS3 := hide (show s3 (rS (at2 t)) (k + 1) = s3 (rS (at2 t)) k + rS (at2 t) k from rfl)
        have bd := s3_bd0 (f := rS (at2 t)) (fun i _ => by have := HRB.out i; omega) k (by omega)
        have bd2 := HRB.out k
        obtain ⟨sv, hsv⟩ : ∃ y, s3 (rS (at2 t)) k = y := ⟨_, rfl⟩
        rw [hsv] at HS3 bd ⊢
        clear hsv
        go_wp2_with fail
        go_roundw
        case rel => exact ⟨k + 1, by omega, by go_num, by rw [HS3.out], trivial⟩
        case measure => simp [intOf]; omega
      · obtain rfl : n = k := by omega
        rw [show s3 (rS (at2 t)) n = tot (at2 t) from by
          rw [s3_full n3 (fun j hj => by unfold rS; rw [HTB.out.zero_row j 0 hj, HTB.out.zero_row j 1 hj, HTB.out.zero_row j 2 hj]; rfl)]; rfl]
        have hsb := tot_bd HTB.out
        cases z1 : zrB t with
        | true =>
          have Z1 := hide (show decide ((0 : Int) ∈ rowsL t) = true from z1)
          obtain rfl : 5 = z := by
            have e : zz = true := by rw [← HZZ.out, z1]; rfl
            have := HFR.out; rw [if_pos e] at this; exact this.symm
          clear z1
          go_wp2_with (go_at_call 65; refine (contains_is _ _ _ _ _ _ _ (unhide K1) _ Z1).mono ?_; rintro e w' ⟨rfl, rfl⟩)
          refine (awake_any _).mono ?_
          rintro e w6 ⟨rfl, b6⟩
          have HB6 := hide ((unhide HB5).trans (b6.mono (unhide HB5).size))
          go_wp2_with fail
          go_ret
          exact ⟨rfl, unhide HB6⟩
        | false =>
          have Z1 := hide (show decide ((0 : Int) ∈ rowsL t) = false from z1)
          cases z2 : zcB t with
          | true =>
            have Z2 := hide (show decide ((0 : Int) ∈ colsL t) = true from z2)
            obtain rfl : 5 = z := by
              have e : zz = true := by rw [← HZZ.out, z1, z2]; rfl
              have := HFR.out; rw [if_pos e] at this; exact this.symm
            clear z1 z2
            go_wp2_with (first
              | (go_at_call 65; (with_reducible refine (contains_is (some ⟨g1, 0, none⟩) _ _ _ _ _ _ (unhide K1) _ Z1).mono ?_); rintro e w' ⟨rfl, rfl⟩)
              | (go_at_call 65; (with_reducible refine (contains_is (some ⟨g2, 0, none⟩) _ _ _ _ _ _ (unhide K2) _ Z2).mono ?_); rintro e w' ⟨rfl, rfl⟩))
            refine (awake_any _).mono ?_
            rintro e w6 ⟨rfl, b6⟩
            have HB6 := hide ((unhide HB5).trans (b6.mono (unhide HB5).size))
            go_wp2_with fail
            go_ret
            exact ⟨rfl, unhide HB6⟩
          | false =>
            have Z2 := hide (show decide ((0 : Int) ∈ colsL t) = false from z2)
            obtain ⟨hff, rfl⟩ : Fr (Rat.divInt (zT (at2 t) n m n) (dD (at2 t) n m)) a b ∧ 0 = z := by
              have e : ¬ zz = true := by rw [← HZZ.out, z1, z2]; simp
              have := HFR.out; rw [if_neg e] at this; exact ⟨this.1, this.2.symm⟩
            have HPz := hide (pz_of HTB.out z1 z2)
            have HKB := hide HTB.out.kb
            obtain ⟨fa, fb, fz, fr1, fr2⟩ := HPz.out.fr HKB.out hff
            have HFZ := hide fz
            clear z1 z2 hff fz
            obtain ⟨S, hS⟩ : ∃ S, tot (at2 t) = S := ⟨_, rfl⟩
            have HS := hide hS
            rw [hS] at hsb fr1 fr2 ⊢
            have FR1 := hide fr1; have FR2 := hide fr2
            clear hS fr1 fr2
            go_upto_region 14 with (first
              | (go_at_call 65; (with_reducible refine (contains_is (some ⟨g1, 0, none⟩) _ _ _ _ _ _ (unhide K1) _ Z1).mono ?_); rintro e w' ⟨rfl, rfl⟩)
              | (go_at_call 65; (with_reducible refine (contains_is (some ⟨g2, 0, none⟩) _ _ _ _ _ _ (unhide K2) _ Z2).mono ?_); rintro e w' ⟨rfl, rfl⟩))
            go_wp2_with fail
            go_loopw [10, 11, 12, 13, 14, 57] (fun y _ _ _ _ q wr => ∃ i : Nat, ∃ o : Bool, i ≤ n ∧ q = .int .i64 i ∧ y = .bool o ∧ Hid (o = true ↔ zT (at2 t) n m i = 0) ∧ Hid (∃ q, wr = w5.drewN q)) (fun _ _ _ _ _ q _ => n - (intOf q).toNat)
            case atStart => exact ⟨0, true, Nat.zero_le _, rfl, rfl, hide (by simp [zT]), HW0⟩
            case round =>
              obtain ⟨wo, rfl⟩ : ∃ wo : World, wo = wr := ⟨_, rfl⟩
              obtain ⟨i, o, hi, rfl, rfl, HO, HQ⟩ := hrel
              by_cases hit : i < n
              · obtain ⟨A3, c3, hcw, hi1⟩ := HTB.out.get h hit
                have HBo := hide (show Below w.heap.size w wo from by obtain ⟨q, e⟩ := HQ.out; rw [e]; exact Below.drewN' (unhide HB5) q)
                have hc1 := ((unhide HBo).cell (p := ⟨bb, off + i, none⟩) hbl).trans hcw
                have hm1 := hi1.most; have hcap1 := hi1.cap
                obtain ⟨b1, o1, rfl, hb1, _⟩ := hi1.cells (show 0 < m by omega)
                have HI1 := hide hi1
                clear hi1 hcw
                go_wp2_with fail
                clear hc1
                go_loopw [10, 13, 14, 64] (fun y _ _ q wr => ∃ k : Nat, ∃ o : Bool, k ≤ m ∧ q = .int .i64 k ∧ y = .bool o ∧ Hid (o = true ↔ zT (at2 t) n m i + zR (at2 t) n m i k = 0) ∧ Hid (∃ q, wr = w5.drewN q)) (fun _ _ _ q _ => m - (intOf q).toNat)
                case atStart => exact ⟨0, o, Nat.zero_le _, rfl, rfl, hide (by rw [zR, Int.add_zero]; exact HO.out), HQ⟩
                case round =>
                  obtain ⟨k, o2, hk, rfl, rfl, HO2, HQa⟩ := hrel
                  by_cases hkt : k < m
                  · have HBk := hide (show Below w.heap.size w wr from by obtain ⟨q, e⟩ := HQa.out; rw [e]; exact Below.drewN' (unhide HB5) q)
                    have hx := ((unhide HI1).below (unhide HBk)).cells (show 0 < m by omega)
                    obtain ⟨b1', o1', e1, _, hx⟩ := hx
                    cases e1
                    have hx := hx k (by rw [HTB.out.rows i hit]; exact hkt)
                    rw [show (row t i).getD k 0 = at2 t i k from rfl] at hx
                    have M1 : Ints wr w5.heap.size (some ⟨g1, 0, none⟩) n n (rowsL t) := by obtain ⟨q, e⟩ := HQa.out; rw [e]; exact (unhide K1).drewN q
                    have M2 : Ints wr w5.heap.size (some ⟨g2, 0, none⟩) m m (colsL t) := by obtain ⟨q, e⟩ := HQa.out; rw [e]; exact (unhide K2).drewN q
                    obtain ⟨bR', oR', e1, _, hr1⟩ := M1.cells (show 0 < n by omega)
                    cases e1
                    have hr1 := hr1 i (by rw [HL1.out]; exact hit)
                    rw [show (rowsL t).getD i 0 = nth (rowsL t) i from rfl, rowsL_nth HTB.out, Nat.zero_add] at hr1
                    obtain ⟨bC', oC', e1, _, hr2⟩ := M2.cells (show 0 < m by omega)
                    cases e1
                    have hr2 := hr2 k (by rw [HL2.out]; exact hkt)
                    rw [show (colsL t).getD k 0 = nth (colsL t) k from rfl, colsL_nth HTB.out, Nat.zero_add] at hr2
                    clear M1 M2
                    obtain ⟨p1, p2⟩ := HPz.out.rc_bd hit hkt
                    obtain ⟨u1, u2⟩ := HPz.out.sk_bd i k
                    have HST := hide (HPz.out.zero_step hit hkt o2 HO2.out)
                    rw [HS.out, Int.mul_comm] at u1 u2
                    rw [HS.out] at HST
                    obtain ⟨du, hdu⟩ : ∃ y, rS (at2 t) i * cS (at2 t) k = y := ⟨_, rfl⟩
                    obtain ⟨sk, hsk⟩ : ∃ y, at2 t i k * S = y := ⟨_, rfl⟩
                    rw [hdu] at p1 p2 HST
                    rw [hsk] at u1 u2 HST
                    have wdu : IntKind.i64.wrap du = du := by rw [IntKind.wrap_i64]; omega
                    have wsk : IntKind.i64.wrap sk = sk := by rw [IntKind.wrap_i64]; omega
                    generalize at2 t i k = kv at hx hsk
                    generalize rS (at2 t) i = rv at hr1 hdu
                    generalize cS (at2 t) k = cv at hr2 hdu
                    cases o2 with
                    | true =>
                      rw [Bool.true_and] at HST
                      obtain ⟨dq, hdq⟩ : ∃ y, decide (sk = du) = y := ⟨_, rfl⟩
                      rw [hdq] at HST
                      have hbe : (sk == du) = dq := by rw [← hdq]; by_cases h : sk = du <;> simp [h]
                      go_upto_region 20 with fail
                      go_big_quiet (fail)
                      have HQn := hide (show ∃ q, wr.drewN nq = w5.drewN q from by
                        obtain ⟨q, e⟩ := HQa.out
                        rw [e]
                        exact quiet_q w5 q nq)
                      go_wp2_with fail
                      go_roundw
                      case rel => exact ⟨k + 1, dq, by omega, by go_num, rfl, HST, HQn⟩
                      case measure => simp [intOf]; omega
                    | false =>
                      rw [Bool.false_and] at HST
                      go_upto_region 20 with fail
                      go_big_quiet (fail)
                      have HQn := hide (show ∃ q, wr.drewN nq = w5.drewN q from by
                        obtain ⟨q, e⟩ := HQa.out
                        rw [e]
                        exact quiet_q w5 q nq)
                      go_wp2_with fail
                      go_roundw
                      case rel => exact ⟨k + 1, false, by omega, by go_num, rfl, HST, HQn⟩
                      case measure => simp [intOf]; omega
                  · obtain rfl : m = k := by omega
                    go_wp2_with fail
                    go_roundw
                    case rel => exact ⟨i + 1, o2, by omega, by go_num, rfl, hide (by rw [zT]; exact HO2.out), HQa⟩
                    case measure => simp [intOf]; omega
              · obtain rfl : n = i := by omega
                have HBo := hide (show Below w.heap.size w wo from by obtain ⟨q, e⟩ := HQ.out; rw [e]; exact Below.drewN' (unhide HB5) q)
                have HFo := hide (show wo.heap[w2.heap.size]? = some (.cells #[.int .i64 a, .int .i64 b] 47 (0, 0)) from by obtain ⟨q, e⟩ := HQ.out; rw [e]; exact unhide HF5)
                obtain ⟨x0, x1⟩ := two_at (unhide HFo)
                have hoa : decide (a = 0) = o := by
                  cases o with
                  | true => simp [HFZ.out, HO.out.1 rfl]
                  | false => simp only [decide_eq_false_iff_not, HFZ.out]; intro hz0; simpa using HO.out.2 hz0
                have hmin := fun W => run_min' (n : Int) (m : Int) W
                obtain ⟨mn, hmn⟩ : ∃ y : Int, min (n : Int) (m : Int) = y := ⟨_, rfl⟩
                rw [hmn] at hmin
                have hle : a ≤ S * (mn - 1) * b := by
                  rcases Int.le_total (n : Int) m with h1 | h1
                  · have : mn = n := by omega
                    rw [this]; exact FR1.out
                  · have : mn = m := by omega
                    rw [this]; exact FR2.out
                have hmb : 0 ≤ mn - 1 ∧ mn - 1 ≤ 2 := by omega
                have e1 := mul_bd (M := 16) (N := 2) (a := S) (b := mn - 1) ⟨by omega, by omega⟩ ⟨by omega, by omega⟩
                obtain ⟨sm, hsm⟩ : ∃ y, S * (mn - 1) = y := ⟨_, rfl⟩
                rw [hsm] at e1 hle
                have e2 := mul_bd (M := 32) (N := 268435456) (a := sm) (b := b) ⟨by omega, by omega⟩ ⟨by omega, by omega⟩
                obtain ⟨sb, hsb2⟩ : ∃ y, sm * b = y := ⟨_, rfl⟩
                rw [hsb2] at e2 hle
                go_wp2_with fail
                refine (awake_any _).mono ?_
                rintro e w6 ⟨rfl, b6⟩
                have HB6 := hide ((unhide HBo).trans (b6.mono (unhide HBo).size))
                go_wp2_with fail
                go_ret
                exact ⟨rfl, unhide HB6⟩
end Go.Proofs.Ytabgifpenegofaa
