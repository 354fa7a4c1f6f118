/-
  The law CountsOdds walked.
-/
import Derived.Test.YtabgifpenegofaaW8
namespace Go.Proofs.Ytabgifpenegofaa
open Go.RowKit

/-- A fraction that is laid into a variable. -/
theorem new_frac (w : World) (n d : Int) : ∃ W, w.alloc (.cells #[.int .i64 n, .int .i64 d] 47) = W ∧ W.heap[w.heap.size]? = some (.cells #[.int .i64 n, .int .i64 d] 47 (0, 0)) ∧ Below w.heap.size w W :=
  ⟨_, rfl, heap_new_ w _, (Below.refl _ w).alloc (Nat.le_refl _) _⟩
theorem odN_cut (t : List (List Int)) : odN (cutT t) = odN t ∧ odD (cutT t) = odD t ∧ odE (cutT t) = odE t := by
  cases h : isT t with
  | true => rw [cutT_of h]; exact ⟨rfl, rfl, rfl⟩
  | false =>
    have e : isTwo t = false := by unfold isTwo; rw [h]; rfl
    have e2 : isTwo (cutT t) = false := by rw [isTwo_cut]; exact e
    unfold odN odD odE
    rw [e, e2]
    exact ⟨rfl, rfl, rfl⟩

set_option maxRecDepth 100000 in
set_option maxHeartbeats 4000000 in
theorem LOdds_any {A : Option Addr} {n c : Nat} {t : List (List Int)} {w : World} (h : Rows_ w w.heap.size A n c t) :
    Calls Try.prog 10 #[.slice A n c] w fun e w' => e = .returned (.bool true) ∧ Below w.heap.size w w' := by
  have HC := hide (odN_cut t)
  obtain ⟨a, ha⟩ : ∃ a, odN t = a := ⟨_, rfl⟩
  obtain ⟨b, hb⟩ : ∃ b, odD t = b := ⟨_, rfl⟩
  obtain ⟨z, hz⟩ : ∃ z, odE t = z := ⟨_, rfl⟩
  have HA := hide ha; have HBB := hide hb; have HZ := hide hz
  rw [ha, hb, hz] at HC
  clear ha hb hz
  go_enter Try.func10, Try.ntmps10
  go_wp2_with fail
  refine (table_any _ _ _ _ _ h).mono ?_
  rintro e w1 ⟨v1, rfl, o1, b1⟩
  obtain ⟨A1, n1, c1, rfl, i1⟩ := o1.to
  go_wp2_with fail
  refine (Odds_all _ _ _ _ _ i1).mono ?_
  rintro e w2 ⟨rfl, b2⟩
  rw [HC.out.1, HC.out.2.1, HC.out.2.2]
  have b2' := b1.trans (b2.mono b1.size)
  clear o1 i1 b1 b2
  obtain ⟨W, hW, hF, hBW⟩ := new_frac w2 a b
  have HB := hide (b2'.trans (hBW.mono b2'.size))
  have HF := hide hF
  clear hBW hF b2'
  have HR := hide ((h.below (unhide HB)).more (unhide HB).size)
  go_upto_region 2 with fail

  clear hW
  obtain ⟨x0, x1⟩ := two_at (unhide HF)
  cases hr : isTwo t with
  | false =>
    have HT := hide hr
    obtain ⟨rfl, rfl, rfl⟩ : 0 = a ∧ 0 = b ∧ 2 = z := by
      rw [← HA.out, ← HBB.out, ← HZ.out]; unfold odN odD odE; rw [hr]; simp
    clear hr
    go_wp2_with fail
    refine (RTwo_any _ _ _ _ _ (unhide HR) _ HT).mono ?_
    rintro e w3 ⟨rfl, b3⟩
    have hF3 := (b3.block _ (Array.getElem?_eq_some_iff.1 (unhide HF)).1).trans (unhide HF)
    obtain ⟨y0, y1⟩ := two_at hF3
    have HB3 := hide ((unhide HB).trans (b3.mono (unhide HB).size))
    clear b3 hF3 x0 x1
    go_wp2_with fail
    refine (none_any 0 0 _ true (hide (by decide))).mono ?_
    rintro e w4 ⟨rfl, b4⟩
    have HB4 := hide ((unhide HB3).trans (b4.mono (unhide HB3).size))
    clear b4
    go_wp2_with fail
    refine (awake_any _).mono ?_
    rintro e w5 ⟨rfl, b5⟩
    have HB5 := hide ((unhide HB4).trans (b5.mono (unhide HB4).size))
    go_wp2_with fail
    go_ret
    exact ⟨rfl, unhide HB5⟩
  | true =>
    have HT := hide hr
    clear hr
    go_wp2_with fail
    refine (RTwo_any _ _ _ _ _ (unhide HR) _ HT).mono ?_
    rintro e w3 ⟨rfl, b3⟩
    have HF3 := hide ((b3.block _ (Array.getElem?_eq_some_iff.1 (unhide HF)).1).trans (unhide HF))
    have HB3 := hide ((unhide HB).trans (b3.mono (unhide HB).size))
    have HR3 := hide (((unhide HR).below b3).more b3.size)
    clear b3 x0 x1
    go_wp2_with fail
    refine (ROdds_ok _ _ _ _ _ (unhide HR3) HT).mono ?_
    rintro e w4 ⟨rfl, b4⟩
    rw [HA.out, HBB.out, HZ.out]
    have HF4 := hide ((b4.block _ (Array.getElem?_eq_some_iff.1 (unhide HF3)).1).trans (unhide HF3))
    have HB4 := hide ((unhide HB3).trans (b4.mono (unhide HB3).size))
    clear b4
    obtain ⟨W5, hW5, hF5, hB5⟩ := new_frac w4 a b
    have HB5 := hide ((unhide HB4).trans (hB5.mono (unhide HB4).size))
    obtain ⟨x0, x1⟩ := two_at ((hB5.block _ (Array.getElem?_eq_some_iff.1 (unhide HF4)).1).trans (unhide HF4))
    obtain ⟨y0, y1⟩ := two_at hF5
    clear hF5 hB5
    have heq := eql47 a b a b
    rw [show decide (((a, b) : F) = (a, b)) = true from by simp] at heq
    go_upto_region 5 with fail
    clear hW5
    go_wp2_with fail
    refine (awake_any _).mono ?_
    rintro e w6 ⟨rfl, b6⟩
    have HB6 := hide ((unhide HB5).trans (b6.mono (unhide HB5).size))
    go_wp2_with fail
    go_ret
    exact ⟨rfl, unhide HB6⟩
end Go.Proofs.Ytabgifpenegofaa
