/-
  The law CountsOff walked.
-/
import Derived.Test.YtabgifpenegofaaY6
namespace Go.Proofs.Ytabgifpenegofaa
open Go.RowKit

theorem Off_all (A : Option Addr) (n c : Nat) (t : List (List Int)) (w : World) (h : Rows_ w w.heap.size A n c t) :
    Calls Try.prog 40 #[.slice A n c] w fun e w' => e = .returned (.tuple #[.agg #[.int .i64 (ofN t), .int .i64 (ofD t)], .int .i64 (ofE t)]) ∧ Below w.heap.size w w' := by
  cases h0 : isT t with
  | false =>
    refine (Off_no A n c t w h (hide h0)).mono ?_
    rintro e w1 ⟨rfl, b1⟩
    exact ⟨by unfold ofN ofD ofE ofOk; rw [h0]; rfl, b1⟩
  | true =>
    have ht := tb_of h0
    cases h1 : (zrB t || zcB t) with
    | true =>
      refine (Off_zero A n c _ t w h (hide (by rw [← h.len]; exact ht)) (hide h1)).mono ?_
      rintro e w1 ⟨rfl, b1⟩
      exact ⟨by unfold ofN ofD ofE ofOk; rw [h0, h1]; rfl, b1⟩
    | false =>
      have h2 := h1
      rw [Bool.or_eq_false_iff] at h2
      have hn := h.len
      obtain ⟨b, off, rfl⟩ := h.addr (show 0 < n by have := ht.n1; omega)
      have e1 : ofOk t = true := by unfold ofOk; rw [h0, h1]; rfl
      refine (Off_ok b off n c (row t 0).length t w h (hide (by rw [← hn]; exact ht)) (hide h2.1) (hide h2.2) (ofN t) (ofD t) (hide ?_)).mono ?_
      · unfold ofN ofD
        rw [e1, if_pos rfl, if_pos rfl]
        unfold ofQ
        rw [hn]
        exact ⟨rfl, rfl⟩
      · rintro e w1 ⟨rfl, b1⟩
        exact ⟨by unfold ofE; rw [h0, h1]; rfl, b1⟩
theorem of_cut (t : List (List Int)) : ofN (cutT t) = ofN t ∧ ofD (cutT t) = ofD t ∧ ofE (cutT t) = ofE t := by
  cases h : isT t with
  | true => rw [cutT_of h]; exact ⟨rfl, rfl, rfl⟩
  | false =>
    have e : ofOk t = false := by unfold ofOk; rw [h]; rfl
    have e2 : ofOk (cutT t) = false := by unfold ofOk; rw [isT_cut, h]; rfl
    unfold ofN ofD ofE
    rw [e, e2, isT_cut, h]
    exact ⟨rfl, rfl, rfl⟩

set_option maxRecDepth 100000 in
set_option maxHeartbeats 4000000 in
theorem LOff_any {A : Option Addr} {n c : Nat} {t : List (List Int)} {w : World} (h : Rows_ w w.heap.size A n c t) :
    Calls Try.prog 7 #[.slice A n c] w fun e w' => e = .returned (.bool true) ∧ Below w.heap.size w w' := by
  have HC := hide (of_cut t)
  have hln := hide h.len
  obtain ⟨a, ha⟩ : ∃ a, ofN t = a := ⟨_, rfl⟩
  obtain ⟨b, hb⟩ : ∃ b, ofD t = b := ⟨_, rfl⟩
  obtain ⟨z, hz⟩ : ∃ z, ofE t = z := ⟨_, rfl⟩
  have HA := hide ha; have HBB := hide hb; have HZ := hide hz
  rw [ha, hb, hz] at HC
  clear ha hb hz
  go_enter Try.func7, Try.ntmps7
  go_wp2_with fail
  refine (table_any _ _ _ _ _ h).mono ?_
  rintro e w1 ⟨v1, rfl, o1, b1⟩
  obtain ⟨A1, n1, c1, rfl, i1⟩ := o1.to
  go_wp2_with fail
  refine (Off_all _ _ _ _ _ i1).mono ?_
  rintro e w2 ⟨rfl, b2⟩
  rw [HC.out.1, HC.out.2.1, HC.out.2.2]
  have b2' := b1.trans (b2.mono b1.size)
  clear o1 i1 b1 b2
  obtain ⟨W, hW, hF, hBW⟩ := new_frac w2 a b
  have HB := hide (b2'.trans (hBW.mono b2'.size))
  have HF := hide hF
  clear hBW hF b2'
  have HR := hide ((h.below (unhide HB)).more (unhide HB).size)
  go_upto_region 2 with fail
  clear hW
  obtain ⟨x0, x1⟩ := two_at (unhide HF)
  cases hr : isT t with
  | false =>
    have HT := hide hr
    obtain ⟨rfl, rfl, rfl⟩ : 0 = a ∧ 0 = b ∧ 2 = z := by
      rw [← HA.out, ← HBB.out, ← HZ.out]; unfold ofN ofD ofE ofOk; rw [hr]; simp
    clear hr
    go_wp2_with (go_at_call 22; refine (RTable_is _ _ _ _ _ _ (unhide HR) _ HT).mono ?_; rintro e w' ⟨rfl, rfl⟩)
    refine (none_any 0 0 _ true (hide (by decide))).mono ?_
    rintro e w4 ⟨rfl, b4⟩
    have HB4 := hide ((unhide HB).trans (b4.mono (unhide HB).size))
    clear b4
    go_wp2_with fail
    refine (awake_any _).mono ?_
    rintro e w5 ⟨rfl, b5⟩
    have HB5 := hide ((unhide HB4).trans (b5.mono (unhide HB4).size))
    go_wp2_with fail
    go_ret
    exact ⟨rfl, unhide HB5⟩
  | true =>
    have HT := hide hr
    have ht := tb_of hr
    obtain ⟨m, hm⟩ : ∃ m, (row t 0).length = m := ⟨_, rfl⟩
    have HFR := hide (show if (zrB t || zcB t) = true then a = 0 ∧ b = 0 ∧ z = 5 else Fr (Rat.divInt (zT (at2 t) n m n) (dD (at2 t) n m)) a b ∧ z = 0 from by
      rw [← HA.out, ← HBB.out, ← HZ.out]
      unfold ofN ofD ofE ofOk
      rw [hr]
      cases h1 : (zrB t || zcB t) with
      | true => simp
      | false =>
        simp only [Bool.true_and, Bool.not_false, if_true, Bool.false_eq_true, if_false]
        unfold ofQ
        rw [hln.out, hm]
        exact ⟨⟨rfl, rfl⟩, trivial⟩)
    rw [hln.out, hm] at ht
    have HTB := hide ht
    obtain ⟨bb, off, rfl⟩ := h.addr (show 0 < n by have := ht.n1; omega)
    clear hr ht hm x0 x1
    go_wp2_with (go_at_call 22; refine (RTable_is _ _ _ _ _ _ (unhide HR) _ HT).mono ?_; rintro e w' ⟨rfl, rfl⟩)
    refine (ROff_any _ _ _ _ _ _ _ (unhide HR) HTB _ (hide rfl) a b z HFR).mono ?_
    rintro e w4 ⟨rfl, b4⟩
    have HF4 := hide ((b4.block _ (Array.getElem?_eq_some_iff.1 (unhide HF)).1).trans (unhide HF))
    have HB4 := hide ((unhide HB).trans (b4.mono (unhide HB).size))
    clear b4
    obtain ⟨W5, hW5, hF5, hB5⟩ := new_frac w4 a b
    have HB5 := hide ((unhide HB4).trans (hB5.mono (unhide HB4).size))
    obtain ⟨x0, x1⟩ := two_at ((hB5.block _ (Array.getElem?_eq_some_iff.1 (unhide HF4)).1).trans (unhide HF4))
    obtain ⟨y0, y1⟩ := two_at hF5
    clear hF5 hB5
    have heq := eql47 a b a b
    rw [show decide (((a, b) : F) = (a, b)) = true from by simp] at heq
    go_upto_region 5 with fail
    clear hW5
    go_wp2_with fail
    refine (awake_any _).mono ?_
    rintro e w6 ⟨rfl, b6⟩
    have HB6 := hide ((unhide HB5).trans (b6.mono (unhide HB5).size))
    go_wp2_with fail
    go_ret
    exact ⟨rfl, unhide HB6⟩
end Go.Proofs.Ytabgifpenegofaa
