/-
  The law CountsSwaps walked.
-/
import Derived.Test.YtabgifpenegofaaX4
import Derived.Test.YtabgifpenegofaaL1
namespace Go.Proofs.Ytabgifpenegofaa
open Go.RowKit

set_option maxRecDepth 100000 in
set_option maxHeartbeats 8000000 in
theorem RSwap_no (b off n c m : Nat) (t : List (List Int)) (i j k l : Nat) (w : World) (h : Rows_ w w.heap.size (some ⟨b, off, none⟩) n c t) (ht : Hid (Tb t n m)) (hi : i < n) (hj : j < n) (hk : k < m) (hl : l < m) (h1 : at2 t i l = 0 ∨ at2 t j k = 0) :
    Calls Try.prog 44 #[.slice (some ⟨b, off, none⟩) n c, .int .i64 (i : Int), .int .i64 (j : Int), .int .i64 (k : Int), .int .i64 (l : Int)] w fun e w' => e = .returned (.tuple #[.slice none 0 0, .int .i64 4]) ∧ w = w' := by
  have hm := h.most; have hcap := h.cap
  have n3 := ht.out.n3; have m3 := ht.out.m3
  obtain ⟨A0, c0, hc0, hi0⟩ := ht.out.get h hi
  obtain ⟨b0, o0, rfl, _, hx0⟩ := hi0.cells (show 0 < m by omega)
  have hx := hx0 l (by rw [ht.out.rows i hi]; exact hl)
  rw [show (row t i).getD l 0 = at2 t i l from rfl] at hx
  obtain ⟨A1, c1, hc1, hi1⟩ := ht.out.get h hj
  obtain ⟨b1, o1, rfl, _, hy0⟩ := hi1.cells (show 0 < m by omega)
  have hy := hy0 k (by rw [ht.out.rows j hj]; exact hk)
  rw [show (row t j).getD k 0 = at2 t j k from rfl] at hy
  have hm0 := hi0.most; have hcap0 := hi0.cap; have hm1 := hi1.most; have hcap1 := hi1.cap
  clear hx0 hy0 hi0 hi1 h
  by_cases h0 : at2 t i l = 0
  · have e1 : (at2 t i l == 0) = true := by simpa using h0
    clear h0 h1
    go_enter Try.func44, Try.ntmps44
    go_wp2_with fail
    go_ret2
    exact ⟨rfl, rfl⟩
  · have e1 : (at2 t i l == 0) = false := by simpa using h0
    have e2 : (at2 t j k == 0) = true := by simpa using h1.resolve_left h0
    clear h0 h1
    go_enter Try.func44, Try.ntmps44
    go_wp2_with fail
    go_ret2
    exact ⟨rfl, rfl⟩
theorem swO_cut (t : List (List Int)) (i j k l : Int) : swE (cutT t) i j k l = swE t i j k l ∧ swO (cutT t) i j k l = swO t i j k l := by
  cases h : isT t with
  | true => rw [cutT_of h]; exact ⟨rfl, rfl⟩
  | false =>
    have e : swOk t i j k l = false := by unfold swOk; rw [h]; rfl
    have e2 : swOk (cutT t) i j k l = false := by unfold swOk; rw [isT_cut, h]; rfl
    unfold swE swO
    rw [e, e2]
    exact ⟨rfl, rfl⟩

set_option maxRecDepth 100000 in
set_option maxHeartbeats 4000000 in
theorem LSwaps_any {A : Option Addr} {n c : Nat} {t : List (List Int)} (i j k l : Int) {w : World} (h : Rows_ w w.heap.size A n c t) :
    Calls Try.prog 8 #[.slice A n c, .int .i64 i, .int .i64 j, .int .i64 k, .int .i64 l] w fun e w' => e = .returned (.bool true) ∧ Below w.heap.size w w' := by
  have HC := hide (swO_cut t i j k l)
  have hln := hide h.len
  go_enter Try.func8, Try.ntmps8
  go_wp2_with fail
  refine (table_any _ _ _ _ _ h).mono ?_
  rintro e w1 ⟨v1, rfl, o1, b1⟩
  obtain ⟨A1, n1, c1, rfl, i1⟩ := o1.to
  go_wp2_with fail
  refine (Swap_all _ _ _ _ i j k l _ i1).mono ?_
  rintro e w2 ⟨A2, n2, c2, rfl, r2, b2⟩
  rw [HC.out.1]
  rw [HC.out.2] at r2
  have HB := hide (b1.trans (b2.mono b1.size))
  have HR := hide ((h.below (unhide HB)).more (unhide HB).size)
  have HO := hide r2
  clear o1 i1 b1 b2 r2 HC
  cases h0 : isT t with
  | false =>
    obtain ⟨e1, e2⟩ : swE t i j k l = 2 ∧ swO t i j k l = [] := by unfold swE swO swOk; rw [h0]; exact ⟨rfl, rfl⟩
    rw [e1]
    have HO2 := HO
    rw [e2] at HO2
    obtain rfl : n2 = 0 := by rw [← (unhide HO2).len]; rfl
    have H0 := hide h0
    clear h0 e1 e2 HO2
    go_wp2_with (go_at_call 22; refine (RTable_is _ _ _ _ _ _ (unhide HR) _ H0).mono ?_; rintro e w' ⟨rfl, rfl⟩)
    refine (awake_any _).mono ?_
    rintro e w5 ⟨rfl, b5⟩
    have HB5 := hide ((unhide HB).trans (b5.mono (unhide HB).size))
    go_wp2_with fail
    go_ret
    exact ⟨rfl, unhide HB5⟩
  | true =>
    have ht := tb_of h0
    rw [hln.out] at ht
    have HT := hide ht
    have H0 := hide h0
    obtain ⟨b, off, rfl⟩ := h.addr (show 0 < n by have := ht.n1; omega)
    cases h1 : (twoB i j n && twoB k l (row t 0).length) with
    | false =>
      obtain ⟨e1, e2⟩ : swE t i j k l = 2 ∧ swO t i j k l = [] := by unfold swE swO swOk; rw [h0, hln.out, h1]; exact ⟨rfl, rfl⟩
      rw [e1]
      have HO2 := HO
      rw [e2] at HO2
      obtain rfl : n2 = 0 := by rw [← (unhide HO2).len]; rfl
      have H1 := hide h1
      clear h0 h1 e1 e2 HO2 ht
      go_wp2_with (first
        | (go_at_call 22; refine (RTable_is _ _ _ _ _ _ (unhide HR) _ H0).mono ?_; rintro e w' ⟨rfl, rfl⟩)
        | (go_at_call 43; refine (RPlaces_any _ _ _ _ _ _ _ _ _ _ _ _ (unhide HR) HT _ H1).mono ?_; rintro e w' ⟨rfl, rfl⟩))
      refine (awake_any _).mono ?_
      rintro e w5 ⟨rfl, b5⟩
      have HB5 := hide ((unhide HB).trans (b5.mono (unhide HB).size))
      go_wp2_with fail
      go_ret
      exact ⟨rfl, unhide HB5⟩
    | true =>
      have H1 := hide h1
      rw [Bool.and_eq_true] at h1
      have a1 := twoB_iff.1 h1.1
      have a2 := twoB_iff.1 h1.2
      obtain ⟨i, rfl⟩ : ∃ x : Nat, i = x := ⟨i.toNat, by omega⟩
      obtain ⟨j, rfl⟩ : ∃ x : Nat, j = x := ⟨j.toNat, by omega⟩
      obtain ⟨k, rfl⟩ : ∃ x : Nat, k = x := ⟨k.toNat, by omega⟩
      obtain ⟨l, rfl⟩ : ∃ x : Nat, l = x := ⟨l.toNat, by omega⟩
      obtain ⟨m, hm⟩ : ∃ m, (row t 0).length = m := ⟨_, rfl⟩
      rw [hm] at HT a2 H1 ht
      have q1 : i < n := by omega
      have q2 : j < n := by omega
      have q3 : k < m := by omega
      have q4 : l < m := by omega
      have hok : swOk t (i : Int) j k l = true := by unfold swOk; rw [h0, hln.out, Bool.true_and, hm]; exact H1.out
      have hne : 0 < n := by have := ht.n1; omega
      clear h0 h1 a1 a2
      cases h5 : swNo t (i : Int) j k l with
      | true =>
        obtain ⟨e1, e2⟩ : swE t (i : Int) j k l = 4 ∧ swO t (i : Int) j k l = [] := by unfold swE swO; rw [hok, h5]; exact ⟨rfl, rfl⟩
        rw [e1]
        have HO2 := hide (show Rows_ w2 w2.heap.size A2 n2 c2 [] from by rw [← e2]; exact unhide HO)
        have hz : at2 t i l = 0 ∨ at2 t j k = 0 := by
          unfold swNo at h5
          simpa using h5
        have HN := hide (fun W hW => RSwap_no b off n c m t i j k l W hW HT q1 q2 q3 q4 hz)
        clear h5 e1 e2 hok hz HO
        go_wp2_with (first
          | (go_at_call 22; refine (RTable_is _ _ _ _ _ _ (unhide HR) _ H0).mono ?_; rintro e w' ⟨rfl, rfl⟩)
          | (go_at_call 43; refine (RPlaces_any _ _ _ _ _ _ _ _ _ _ _ _ (unhide HR) HT _ H1).mono ?_; rintro e w' ⟨rfl, rfl⟩)
          | (go_at_call 44; refine ((unhide HN) _ (unhide HR)).mono ?_; rintro e w' ⟨rfl, rfl⟩)
          | (go_at_call 26; refine (RSame_is _ _ _ _ _ _ _ _ _ _ _ (unhide HO2) (Rows_.none_ w2 0) true (hide rfl)).mono ?_; rintro e w' ⟨rfl, rfl⟩))
        refine (awake_any _).mono ?_
        rintro e w5 ⟨rfl, b5⟩
        have HB5 := hide ((unhide HB).trans (b5.mono (unhide HB).size))
        go_wp2_with fail
        go_ret
        exact ⟨rfl, unhide HB5⟩
      | false =>
        obtain ⟨e1, e2⟩ : swE t (i : Int) j k l = 0 ∧ swO t (i : Int) j k l = tabL n m (swF (at2 t) i j k l) := by unfold swE swO; rw [hok, h5, hln.out, hm]; exact ⟨rfl, rfl⟩
        rw [e1]
        have HO2 := hide (show Rows_ w2 w2.heap.size A2 n2 c2 (tabL n m (swF (at2 t) i j k l)) from by rw [← e2]; exact unhide HO)
        have hz : at2 t i l ≠ 0 ∧ at2 t j k ≠ 0 := by
          unfold swNo at h5
          simpa using h5
        have HN := hide (fun W hW => RSwap_ok b off n c m t i j k l W hW HT q1 q2 q3 q4 hz.1 hz.2)
        clear h5 e1 e2 hok hz HO
        go_wp2_with (first
          | (go_at_call 22; refine (RTable_is _ _ _ _ _ _ (unhide HR) _ H0).mono ?_; rintro e w' ⟨rfl, rfl⟩)
          | (go_at_call 43; refine (RPlaces_any _ _ _ _ _ _ _ _ _ _ _ _ (unhide HR) HT _ H1).mono ?_; rintro e w' ⟨rfl, rfl⟩))
        refine ((unhide HN) _ (unhide HR)).mono ?_
        rintro e w3 ⟨A3, c3, rfl, r3, b3⟩
        have HR3 := hide r3
        have HB3 := hide ((unhide HB).trans (b3.mono (unhide HB).size))
        have HO3 := hide ((unhide HO2).below b3)
        clear r3 b3
        go_wp2_with (go_at_call 26; refine (RSame_is _ _ _ _ _ _ _ _ _ _ _ (unhide HO3) (unhide HR3) true (hide (by simp))).mono ?_; rintro e w' ⟨rfl, rfl⟩)
        refine (awake_any _).mono ?_
        rintro e w5 ⟨rfl, b5⟩
        have HB5 := hide ((unhide HB3).trans (b5.mono (unhide HB3).size))
        go_wp2_with fail
        go_ret
        exact ⟨rfl, unhide HB5⟩
end Go.Proofs.Ytabgifpenegofaa
