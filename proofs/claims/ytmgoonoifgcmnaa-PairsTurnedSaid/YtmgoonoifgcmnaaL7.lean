/-
  The law PairsTurned.
-/
import Derived.Test.YtmgoonoifgcmnaaK1
import Derived.Test.YtmgoonoifgcmnaaS5
import Derived.Test.YtmgoonoifgcmnaaL4a
import Derived.Test.YtmgoonoifgcmnaaL6
namespace Go.Proofs.Ytmgoonoifgcmnaa
open Go.RowKit

set_option maxRecDepth 100000 in
set_option maxHeartbeats 2000000 in
theorem LTurned_bad (s : Int) (A : Option Addr) (n c : Nat) (xs : List Int) (w : World) (i0 : Ints w w.heap.size A n c xs) (hx : shB s = false ∨ 16 < (xs.take 20).length) (HF : Hid (rowB s (xs.take 20) = false)) :
    Calls Try.prog 11 #[.int .i64 s, .slice A n c] w fun e w' => e = .returned (.bool true) ∧ Below w.heap.size w w' := by
  replace i0 := hide i0
  have HB := hide (Below.refl w.heap.size w)
  go_enter Try.func11, Try.ntmps11
  go_wp2_with fail
  refine (list_ints _ _ _ _ _ _ (unhide i0) (Nat.le_refl _)).mono ?_
  rintro e w1 ⟨A2, n2, c2, rfl, i2, b1⟩
  replace i0 := hide ((unhide i0).on b1)
  replace i2 := hide i2
  replace HB := hide ((unhide HB).trans (b1.mono (unhide HB).size))
  clear b1
  have hn2 : n2 ≤ 1000 := by rw [← (unhide i2).len, List.length_take]; omega
  go_wp2_with fail
  refine (Turn_no _ _ _ _ _ _ _ (unhide i2) hn2 HF).mono ?_
  rintro e wq ⟨rfl, rfl⟩
  go_wp2_with fail
  refine (list_ints _ _ _ _ _ _ (unhide i0) (Nat.le_refl _)).mono ?_
  rintro e w2 ⟨A3, n3, c3, rfl, i3, b2⟩
  replace i0 := hide ((unhide i0).on b2)
  replace i2 := hide ((unhide i2).on b2)
  replace i3 := hide i3
  replace HB := hide ((unhide HB).trans (b2.mono (unhide HB).size))
  clear b2
  have hm3 := (unhide i3).most; have hcap3 := (unhide i3).cap
  have hn3 : shB s = false ∨ 16 < n3 := by rw [← (unhide i3).len]; exact hx
  go_wp2_with fail
  refine (IsRow_no _ _ _ _ _ hm3 hcap3 hn3).mono ?_
  rintro e wq ⟨rfl, rfl⟩
  go_wp2_with fail
  refine (awake_any _).mono ?_
  rintro e w3 ⟨rfl, b3⟩
  replace i0 := hide ((unhide i0).on b3)
  replace i2 := hide ((unhide i2).on b3)
  replace i3 := hide ((unhide i3).on b3)
  replace HB := hide ((unhide HB).trans (b3.mono (unhide HB).size))
  clear b3
  go_wp2_with fail
  go_ret
  exact ⟨rfl, unhide HB⟩

set_option maxRecDepth 100000 in
set_option maxHeartbeats 2000000 in
theorem LTurned_not (s : Int) (A : Option Addr) (n c : Nat) (xs : List Int) (w : World) (i0 : Ints w w.heap.size A n c xs) (hx : (xs.take 20).length ≤ 16) (HS : Hid (shB s = true)) (HF : Hid (rowB s (xs.take 20) = false)) :
    Calls Try.prog 11 #[.int .i64 s, .slice A n c] w fun e w' => e = .returned (.bool true) ∧ Below w.heap.size w w' := by
  replace i0 := hide i0
  have HB := hide (Below.refl w.heap.size w)
  go_enter Try.func11, Try.ntmps11
  go_wp2_with fail
  refine (list_ints _ _ _ _ _ _ (unhide i0) (Nat.le_refl _)).mono ?_
  rintro e w1 ⟨A2, n2, c2, rfl, i2, b1⟩
  replace i0 := hide ((unhide i0).on b1)
  replace i2 := hide i2
  replace HB := hide ((unhide HB).trans (b1.mono (unhide HB).size))
  clear b1
  have hn2 : n2 ≤ 1000 := by rw [← (unhide i2).len, List.length_take]; omega
  go_wp2_with fail
  refine (Turn_no _ _ _ _ _ _ _ (unhide i2) hn2 HF).mono ?_
  rintro e wq ⟨rfl, rfl⟩
  go_wp2_with fail
  refine (list_ints _ _ _ _ _ _ (unhide i0) (Nat.le_refl _)).mono ?_
  rintro e w2 ⟨A3, n3, c3, rfl, i3, b2⟩
  replace i0 := hide ((unhide i0).on b2)
  replace i2 := hide ((unhide i2).on b2)
  replace i3 := hide i3
  replace HB := hide ((unhide HB).trans (b2.mono (unhide HB).size))
  clear b2
  have hn3 : n3 ≤ 16 := by rw [← (unhide i3).len]; exact hx
  go_wp2_with fail
  refine (IsRow_ok _ _ _ _ _ _ _ (unhide i3) hn3 HS false HF).mono ?_
  rintro e wq ⟨rfl, rfl⟩
  go_wp2_with fail
  refine (awake_any _).mono ?_
  rintro e w3 ⟨rfl, b3⟩
  replace i0 := hide ((unhide i0).on b3)
  replace i2 := hide ((unhide i2).on b3)
  replace i3 := hide ((unhide i3).on b3)
  replace HB := hide ((unhide HB).trans (b3.mono (unhide HB).size))
  clear b3
  go_wp2_with fail
  go_ret
  exact ⟨rfl, unhide HB⟩

set_option maxRecDepth 100000 in
set_option maxHeartbeats 2000000 in
theorem LTurned_row (s : Int) (A : Option Addr) (n c : Nat) (xs : List Int) (w : World) (i0 : Ints w w.heap.size A n c xs) (TK : Hid (xs.take 20 = xs)) (HF : Hid (rowB s xs = true)) :
    Calls Try.prog 11 #[.int .i64 s, .slice A n c] w fun e w' => e = .returned (.bool true) ∧ Below w.heap.size w w' := by
  have hl := hide i0.len
  have hm := i0.most; have hcap := i0.cap
  have hn16 : n ≤ 16 := by rw [← i0.len]; exact row_len HF.out
  obtain ⟨m, hmn⟩ : ∃ m, n / 2 = m := ⟨_, rfl⟩
  have hmm : ((n : Int)).tdiv 2 = (m : Int) := by rw [Int.tdiv_eq_ediv_of_nonneg (by omega)]; omega
  have HM := hide (show xs.length / 2 = m from by rw [hl.out]; exact hmn)
  obtain ⟨sn, rfl, h1, h2⟩ := sh_nat (row_sh HF.out)
  have HS := hide (row_sh HF.out)
  have HFR := hide (row_rev HF.out)
  have hm18 : 1 ≤ m ∧ m ≤ 8 := by obtain ⟨m2, g1, g2, g3, g4, _⟩ := row_has HF.out; have := HM.out; omega
  obtain ⟨x, rest, hx1, hx2⟩ := first_le HF.out
  obtain ⟨x9, rest9, hx3, hx4⟩ := first_le HFR.out
  rw [HM.out] at hx1
  rw [List.length_reverse, HM.out, hx1] at hx3
  have hxx : x = x9 := (List.cons.inj hx3).1
  rw [← hxx] at hx4
  have HX := hide (show rowsL m sn = x :: rest from hx1)
  have hxl : x.length ≤ 16 := by
    have := fillL_each sn (m + 1) (List.replicate (2 * m) 0) x (by rw [hx1]; simp)
    rw [this]; simp; omega
  obtain ⟨r1, hr1⟩ : ∃ r, cmpL x xs = r := ⟨_, rfl⟩
  obtain ⟨r2, hr2⟩ : ∃ r, cmpL x xs.reverse = r := ⟨_, rfl⟩
  rw [hr1] at hx2
  rw [hr2] at hx4
  have HR1 := hide hr1
  have HR2 := hide hr2
  have dr1 : decide ((0 : Int) < r1) = false := by simp; omega
  have dr2 : decide ((0 : Int) < r2) = false := by simp; omega
  clear hmn hx1 hx3 hxx hr1 hr2
  replace i0 := hide i0
  have HB := hide (Below.refl w.heap.size w)
  go_enter Try.func11, Try.ntmps11
  go_wp2_with fail
  refine (list_ints _ _ _ _ _ _ (unhide i0) (Nat.le_refl _)).mono ?_
  rintro e w1 ⟨A2, n2, c2, rfl, i2, b1⟩
  replace i0 := hide ((unhide i0).on b1)
  replace i2 := hide i2
  replace HB := hide ((unhide HB).trans (b1.mono (unhide HB).size))
  clear b1
  rw [TK.out] at i2
  have e2 := (unhide i2).len
  rw [hl.out] at e2
  subst e2
  go_wp2_with fail
  refine (Turn_ok _ _ _ _ _ _ (unhide i2) HF).mono ?_
  rintro e w2 ⟨A3, c3, rfl, i3, b2⟩
  replace i0 := hide ((unhide i0).on b2)
  replace i2 := hide ((unhide i2).on b2)
  replace i3 := hide i3
  replace HB := hide ((unhide HB).trans (b2.mono (unhide HB).size))
  clear b2
  go_wp2_with fail
  refine (list_ints _ _ _ _ _ _ (unhide i0) (Nat.le_refl _)).mono ?_
  rintro e w3 ⟨A4, n4, c4, rfl, i4, b3⟩
  replace i0 := hide ((unhide i0).on b3)
  replace i2 := hide ((unhide i2).on b3)
  replace i3 := hide ((unhide i3).on b3)
  replace i4 := hide i4
  replace HB := hide ((unhide HB).trans (b3.mono (unhide HB).size))
  clear b3
  rw [TK.out] at i4
  have hn4 : n4 ≤ 16 := by rw [← (unhide i4).len, hl.out]; exact hn16
  go_wp2_with fail
  refine (IsRow_ok _ _ _ _ _ _ _ (unhide i4) hn4 HS true HF).mono ?_
  rintro e wq ⟨rfl, rfl⟩
  go_wp2_with fail
  refine (RIsRow_s sn ⟨h1, h2⟩ _ _ _ _ _ (unhide i0)).mono ?_
  rintro e w4 ⟨rfl, b4⟩
  replace i0 := hide ((unhide i0).on b4)
  replace i2 := hide ((unhide i2).on b4)
  replace i3 := hide ((unhide i3).on b4)
  replace i4 := hide ((unhide i4).on b4)
  replace HB := hide ((unhide HB).trans (b4.mono (unhide HB).size))
  clear b4
  rw [show rowR (sn : Int) xs = true from (row_same HS.out xs).trans HF.out]
  go_wp2_with fail
  refine (RShift_any _ _ true HS).mono ?_
  rintro e wq ⟨rfl, rfl⟩
  go_wp2_with fail
  refine (clone_any _ _ _ _ _ _ (unhide i3) (by omega) (Nat.le_refl _)).mono ?_
  rintro e w5 ⟨o5v, rfl, o5, b5⟩
  replace i0 := hide ((unhide i0).on b5)
  replace i2 := hide ((unhide i2).on b5)
  replace i3 := hide ((unhide i3).on b5)
  replace i4 := hide ((unhide i4).on b5)
  replace o5 := hide o5
  replace HB := hide ((unhide HB).trans (b5.mono (unhide HB).size))
  clear b5
  obtain ⟨A5, c5, eo5, i5⟩ := o5.out.toM (n := n) (by simpa using hl.out)
  subst eo5
  clear o5
  replace i5 := hide i5
  go_wp2_with fail
  refine (IsRow_ok _ _ _ _ _ _ _ (unhide i5) hn16 HS true HFR).mono ?_
  rintro e wq ⟨rfl, rfl⟩
  go_wp2_with fail
  refine (clone_any _ _ _ _ _ _ (unhide i3) (by omega) (Nat.le_refl _)).mono ?_
  rintro e w6 ⟨o6v, rfl, o6, b6⟩
  replace i0 := hide ((unhide i0).on b6)
  replace i2 := hide ((unhide i2).on b6)
  replace i3 := hide ((unhide i3).on b6)
  replace i4 := hide ((unhide i4).on b6)
  replace i5 := hide ((unhide i5).on b6)
  replace o6 := hide o6
  replace HB := hide ((unhide HB).trans (b6.mono (unhide HB).size))
  clear b6
  obtain ⟨A6, c6, eo6, i6⟩ := o6.out.toM (n := n) (by simpa using hl.out)
  subst eo6
  clear o6
  replace i6 := hide i6
  go_wp2_with fail
  refine (Turn_ok _ _ _ _ _ _ (unhide i6) HFR).mono ?_
  rintro e w7 ⟨A7, c7, rfl, i7, b7⟩
  replace i0 := hide ((unhide i0).on b7)
  replace i2 := hide ((unhide i2).on b7)
  replace i3 := hide ((unhide i3).on b7)
  replace i4 := hide ((unhide i4).on b7)
  replace i5 := hide ((unhide i5).on b7)
  replace i6 := hide ((unhide i6).on b7)
  replace i7 := hide i7
  replace HB := hide ((unhide HB).trans (b7.mono (unhide HB).size))
  clear b7
  rw [List.reverse_reverse] at i7
  go_wp2_with fail
  refine (First_ok m sn hm18 ⟨h1, h2⟩ x rest HX hxl _).mono ?_
  rintro e w8 ⟨A8, n8, c8, rfl, i8, b8⟩
  replace i0 := hide ((unhide i0).on b8)
  replace i2 := hide ((unhide i2).on b8)
  replace i3 := hide ((unhide i3).on b8)
  replace i4 := hide ((unhide i4).on b8)
  replace i5 := hide ((unhide i5).on b8)
  replace i6 := hide ((unhide i6).on b8)
  replace i7 := hide ((unhide i7).on b8)
  replace i8 := hide i8
  replace HB := hide ((unhide HB).trans (b8.mono (unhide HB).size))
  clear b8
  go_wp2_with fail
  refine (list_ints _ _ _ _ _ _ (unhide i0) (Nat.le_refl _)).mono ?_
  rintro e w9 ⟨A9, n9, c9, rfl, i9, b9⟩
  replace i0 := hide ((unhide i0).on b9)
  replace i2 := hide ((unhide i2).on b9)
  replace i3 := hide ((unhide i3).on b9)
  replace i4 := hide ((unhide i4).on b9)
  replace i5 := hide ((unhide i5).on b9)
  replace i6 := hide ((unhide i6).on b9)
  replace i7 := hide ((unhide i7).on b9)
  replace i8 := hide ((unhide i8).on b9)
  replace i9 := hide i9
  replace HB := hide ((unhide HB).trans (b9.mono (unhide HB).size))
  clear b9
  rw [TK.out] at i9
  have hn9 : n9 ≤ 1000 := by rw [← (unhide i9).len, hl.out]; omega
  go_wp2_with fail
  refine (Places_ok _ _ _ _ _ _ (unhide i9) hn9 HF).mono ?_
  rintro e w10 ⟨Aa, na, ca, rfl, ia, b10⟩
  replace i0 := hide ((unhide i0).on b10)
  replace i2 := hide ((unhide i2).on b10)
  replace i3 := hide ((unhide i3).on b10)
  replace i4 := hide ((unhide i4).on b10)
  replace i5 := hide ((unhide i5).on b10)
  replace i6 := hide ((unhide i6).on b10)
  replace i7 := hide ((unhide i7).on b10)
  replace i8 := hide ((unhide i8).on b10)
  replace i9 := hide ((unhide i9).on b10)
  replace ia := hide ia
  replace HB := hide ((unhide HB).trans (b10.mono (unhide HB).size))
  clear b10
  have ea := (unhide ia).len
  rw [plcL_len, HM.out] at ea
  subst ea
  go_wp2_with fail
  refine (equal_is _ _ _ _ _ _ _ _ _ _ _ (unhide i7) (unhide i0) (hide rfl)).mono ?_
  rintro e w11 ⟨rfl, qq11, hq11⟩
  have b11 : Below w10.heap.size w10 w11 := by rw [hq11]; exact Below.drewN' (Below.refl _ _) qq11
  clear hq11
  replace i0 := hide ((unhide i0).on b11)
  replace i2 := hide ((unhide i2).on b11)
  replace i3 := hide ((unhide i3).on b11)
  replace i4 := hide ((unhide i4).on b11)
  replace i5 := hide ((unhide i5).on b11)
  replace i6 := hide ((unhide i6).on b11)
  replace i7 := hide ((unhide i7).on b11)
  replace i8 := hide ((unhide i8).on b11)
  replace i9 := hide ((unhide i9).on b11)
  replace ia := hide ((unhide ia).on b11)
  replace HB := hide ((unhide HB).trans (b11.mono (unhide HB).size))
  clear b11
  go_wp2_with fail
  refine (Compare_any _ _ _ _ _ _ _ _ _ _ _ (unhide i8) (unhide i0) r1 HR1).mono ?_
  rintro e wq ⟨rfl, rfl⟩
  go_wp2_with fail
  refine (Compare_any _ _ _ _ _ _ _ _ _ _ _ (unhide i8) (unhide i3) r2 HR2).mono ?_
  rintro e wq ⟨rfl, rfl⟩
  have hma := (unhide ia).most; have hca := (unhide ia).cap
  go_wp2_with fail
  go_loop [16, 17, 139] (fun _ _ i => ∃ k : Nat, k ≤ m ∧ i = .int .i64 (k : Nat)) (fun _ _ i => m - (intOf i).toNat)
  case atStart => exact ⟨0, Nat.zero_le _, rfl⟩
  case round =>
    obtain ⟨k, hk, rfl⟩ := hrel
    by_cases hlt : k < m
    · obtain ⟨p, q, _, hq, hql, hp1, hq1, hix⟩ := row_places HF.out (q := k) (by rw [HM.out]; exact hlt)
      obtain ⟨ba, offa, rfl, _, hca0⟩ := (unhide ia).at_ k hlt
      rw [plcL_at (by rw [HM.out]; exact hlt), hix] at hca0
      rw [hl.out] at hql
      have hq' : (p : Int) + (k : Int) + (sn : Int) = (q : Int) := by omega
      have hpn : p < n := by omega
      obtain ⟨b0, off0, rfl, _, hcp⟩ := (unhide i0).at_ p hpn
      obtain ⟨_, _, ee, _, hcq⟩ := (unhide i0).at_ q hql
      cases ee
      rw [hp1] at hcp
      rw [hq1] at hcq
      have dq : decide ((n : Int) ≤ (q : Int)) = false := by simp; omega
      have hp16 : p < 16 := by omega
      clear hix hq hp1 hq1
      go_wp2_with fail
      go_round
      case rel => exact ⟨k + 1, by omega, by go_num⟩
      case measure => simp [intOf]; omega
    · go_wp2_with fail
      refine (awake_any _).mono ?_
      rintro e w99 ⟨rfl, b99⟩
      replace HB := hide ((unhide HB).trans (b99.mono (unhide HB).size))
      clear b99
      go_wp2_with fail
      go_ret
      exact ⟨rfl, unhide HB⟩

theorem LTurned_any (s : Int) {A : Option Addr} {n c : Nat} {xs : List Int} {w : World} (i0 : Ints w w.heap.size A n c xs) :
    Calls Try.prog 11 #[.int .i64 s, .slice A n c] w fun e w' => e = .returned (.bool true) ∧ Below w.heap.size w w' := by
  cases hr : rowB s xs with
  | false =>
    have h2 := (row_take (s := s) xs).trans hr
    cases hs : shB s with
    | false => exact LTurned_bad s A n c xs w i0 (.inl hs) (hide h2)
    | true =>
      rcases Nat.lt_or_ge 16 (xs.take 20).length with h | h
      · exact LTurned_bad s A n c xs w i0 (.inr h) (hide h2)
      · exact LTurned_not s A n c xs w i0 h (hide hs) (hide h2)
  | true => exact LTurned_row s A n c xs w i0 (hide (List.take_of_length_le (by have := row_len hr; omega))) (hide hr)
end Go.Proofs.Ytmgoonoifgcmnaa
