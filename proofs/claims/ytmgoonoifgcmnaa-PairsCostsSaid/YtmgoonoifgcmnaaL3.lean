/-
  The law PairsQuarters.
-/
import Derived.Test.YtmgoonoifgcmnaaS4
namespace Go.Proofs.Ytmgoonoifgcmnaa
open Go.RowKit

/-- Turned by a quarter, and again. -/
def qi (xs : List Int) : Nat → List Int
  | 0 => qtL xs
  | k + 1 => qtL (qi xs k)
theorem qi_facts {xs : List Int} (h : pinB xs = true) : (∀ k, k < 3 → pinB (qi xs k) = true) ∧ pinB xs.reverse = true ∧ qi xs 3 = xs := by
  have := qt_all h
  simp only [qtB, Bool.and_eq_true, decide_eq_true_eq] at this
  obtain ⟨h1, h2, h3, h4, h5⟩ := this
  refine ⟨fun k hk => ?_, h2, h5⟩
  rcases (show k = 0 ∨ k = 1 ∨ k = 2 by omega) with rfl | rfl | rfl
  · exact h1
  · exact h3
  · exact h4
theorem Owned.toN {w : World} {base : Nat} {v : Value} {xs : List Int} (h : Owned w base v xs) {n : Nat} (hn : xs.length = n) : ∃ A c, v = .slice A n c ∧ Ints w w.heap.size A n c xs := by
  subst hn; exact h.ints
theorem pin_take {xs : List Int} (h : pinB (xs.take 20) = true) : xs.take 20 = xs ∧ xs.length ≤ 6 := by
  have h1 := (pin_parts h).1
  rw [List.length_take] at h1
  exact ⟨List.take_of_length_le (by omega), by omega⟩
theorem pcB_of {xs : List Int} (h : pinB xs = true) : pcB xs.length = true := by unfold pinB at h; exact (and2 h).1

set_option maxRecDepth 100000 in
set_option maxHeartbeats 1000000 in
theorem LQuarters_len (A : Option Addr) (n c : Nat) (xs : List Int) (w : World) (i0 : Ints w w.heap.size A n c xs) (HN : Hid (pcB (xs.take 20).length = false)) (HF : Hid (pinB (xs.take 20) = false)) :
    Calls Try.prog 13 #[.slice A n c] w fun e w' => e = .returned (.bool true) ∧ Below w.heap.size w w' := by
  replace i0 := hide i0
  have HB := hide (Below.refl w.heap.size w)
  go_enter Try.func13, Try.ntmps13
  go_wp2_with fail
  refine (list_ints _ _ _ _ _ _ (unhide i0) (Nat.le_refl _)).mono ?_
  rintro e w1 ⟨A2, n2, c2, rfl, i2, b1⟩
  replace i0 := hide ((unhide i0).on b1)
  replace i2 := hide i2
  replace HB := hide ((unhide HB).trans (b1.mono (unhide HB).size))
  clear b1
  have hm2 := (unhide i2).most; have hcap2 := (unhide i2).cap
  have hl2 := hide (unhide i2).len
  go_wp2_with fail
  refine (IsPins_no _ _ _ _ hm2 hcap2 (hide (by rw [← hl2.out]; exact HN.out))).mono ?_
  rintro e wq ⟨rfl, rfl⟩
  go_wp2_with fail
  refine (list_ints _ _ _ _ _ _ (unhide i0) (Nat.le_refl _)).mono ?_
  rintro e w2 ⟨A3, n3, c3, rfl, i3, b2⟩
  replace i0 := hide ((unhide i0).on b2)
  replace i2 := hide ((unhide i2).on b2)
  replace i3 := hide i3
  replace HB := hide ((unhide HB).trans (b2.mono (unhide HB).size))
  clear b2
  go_wp2_with fail
  refine (Quarter_no _ _ _ _ _ (unhide i3) HF).mono ?_
  rintro e w3 ⟨rfl, b3⟩
  replace i0 := hide ((unhide i0).on b3)
  replace i2 := hide ((unhide i2).on b3)
  replace i3 := hide ((unhide i3).on b3)
  replace HB := hide ((unhide HB).trans (b3.mono (unhide HB).size))
  clear b3
  go_wp2_with fail
  refine (awake_any _).mono ?_
  rintro e w4 ⟨rfl, b4⟩
  replace i0 := hide ((unhide i0).on b4)
  replace i2 := hide ((unhide i2).on b4)
  replace i3 := hide ((unhide i3).on b4)
  replace HB := hide ((unhide HB).trans (b4.mono (unhide HB).size))
  clear b4
  go_wp2_with fail
  go_ret
  exact ⟨rfl, unhide HB⟩

set_option maxRecDepth 100000 in
set_option maxHeartbeats 1000000 in
theorem LQuarters_not (A : Option Addr) (n c : Nat) (xs : List Int) (w : World) (i0 : Ints w w.heap.size A n c xs) (HN : Hid (pcB (xs.take 20).length = true)) (HF : Hid (pinB (xs.take 20) = false)) :
    Calls Try.prog 13 #[.slice A n c] w fun e w' => e = .returned (.bool true) ∧ Below w.heap.size w w' := by
  replace i0 := hide i0
  have HB := hide (Below.refl w.heap.size w)
  go_enter Try.func13, Try.ntmps13
  go_wp2_with fail
  refine (list_ints _ _ _ _ _ _ (unhide i0) (Nat.le_refl _)).mono ?_
  rintro e w1 ⟨A2, n2, c2, rfl, i2, b1⟩
  replace i0 := hide ((unhide i0).on b1)
  replace i2 := hide i2
  replace HB := hide ((unhide HB).trans (b1.mono (unhide HB).size))
  clear b1
  have hl2 := hide (unhide i2).len
  go_wp2_with fail
  refine (IsPins_ok _ _ _ _ _ (unhide i2) (hide (by rw [← hl2.out]; exact HN.out)) false HF).mono ?_
  rintro e w2 ⟨rfl, b2⟩
  replace i0 := hide ((unhide i0).on b2)
  replace i2 := hide ((unhide i2).on b2)
  replace HB := hide ((unhide HB).trans (b2.mono (unhide HB).size))
  clear b2
  go_wp2_with fail
  refine (list_ints _ _ _ _ _ _ (unhide i0) (Nat.le_refl _)).mono ?_
  rintro e w3 ⟨A3, n3, c3, rfl, i3, b3⟩
  replace i0 := hide ((unhide i0).on b3)
  replace i2 := hide ((unhide i2).on b3)
  replace i3 := hide i3
  replace HB := hide ((unhide HB).trans (b3.mono (unhide HB).size))
  clear b3
  go_wp2_with fail
  refine (Quarter_no _ _ _ _ _ (unhide i3) HF).mono ?_
  rintro e w4 ⟨rfl, b4⟩
  replace i0 := hide ((unhide i0).on b4)
  replace i2 := hide ((unhide i2).on b4)
  replace i3 := hide ((unhide i3).on b4)
  replace HB := hide ((unhide HB).trans (b4.mono (unhide HB).size))
  clear b4
  go_wp2_with fail
  refine (awake_any _).mono ?_
  rintro e w5 ⟨rfl, b5⟩
  replace i0 := hide ((unhide i0).on b5)
  replace i2 := hide ((unhide i2).on b5)
  replace i3 := hide ((unhide i3).on b5)
  replace HB := hide ((unhide HB).trans (b5.mono (unhide HB).size))
  clear b5
  go_wp2_with fail
  go_ret
  exact ⟨rfl, unhide HB⟩

set_option maxRecDepth 100000 in
set_option maxHeartbeats 1000000 in
theorem LQuarters_pins (A : Option Addr) (n c : Nat) (xs : List Int) (w : World) (i0 : Ints w w.heap.size A n c xs) (hn6 : n ≤ 6) (TK : Hid (xs.take 20 = xs)) (HF : Hid (pinB xs = true)) :
    Calls Try.prog 13 #[.slice A n c] w fun e w' => e = .returned (.bool true) ∧ Below w.heap.size w w' := by
  have hl := hide i0.len
  have hm := i0.most; have hcap := i0.cap
  have d6 : decide ((6 : Int) < (n : Int)) = false := by simp; omega
  replace i0 := hide i0
  have HB := hide (Below.refl w.heap.size w)
  go_enter Try.func13, Try.ntmps13
  go_wp2_with fail
  refine (list_ints _ _ _ _ _ _ (unhide i0) (Nat.le_refl _)).mono ?_
  rintro e w1 ⟨A2, n2, c2, rfl, i2, b1⟩
  replace i0 := hide ((unhide i0).on b1)
  replace i2 := hide i2
  replace HB := hide ((unhide HB).trans (b1.mono (unhide HB).size))
  clear b1
  rw [TK.out] at i2
  have hl2 := hide (unhide i2).len
  go_wp2_with fail
  refine (IsPins_ok _ _ _ _ _ (unhide i2) (hide (by rw [← hl2.out]; exact pcB_of HF.out)) true HF).mono ?_
  rintro e w2 ⟨rfl, b2⟩
  replace i0 := hide ((unhide i0).on b2)
  replace i2 := hide ((unhide i2).on b2)
  replace HB := hide ((unhide HB).trans (b2.mono (unhide HB).size))
  clear b2
  go_wp2_with fail
  refine (list_ints _ _ _ _ _ _ (unhide i0) (Nat.le_refl _)).mono ?_
  rintro e w3 ⟨A3, n3, c3, rfl, i3, b3⟩
  replace i0 := hide ((unhide i0).on b3)
  replace i2 := hide ((unhide i2).on b3)
  replace i3 := hide i3
  replace HB := hide ((unhide HB).trans (b3.mono (unhide HB).size))
  clear b3
  rw [TK.out] at i3
  go_wp2_with fail
  refine (Quarter_ok _ _ _ _ _ (unhide i3) HF).mono ?_
  rintro e w4 ⟨A4, n4, c4, rfl, i4, b4⟩
  replace i0 := hide ((unhide i0).on b4)
  replace i2 := hide ((unhide i2).on b4)
  replace i3 := hide ((unhide i3).on b4)
  replace i4 := hide i4
  replace HB := hide ((unhide HB).trans (b4.mono (unhide HB).size))
  clear b4
  have hn4 : n4 ≤ 1000 := by rw [← (unhide i4).len]; unfold qtL; rw [qtT_len, hl.out]; omega
  go_wp2_with fail
  have i0p := i0; have i4p := i4
  have hbp := hide (unhide HB).size
  refine (list_any _ _ _ _ _ _ (unhide i0) (Nat.le_refl _)).mono ?_
  rintro e w5 ⟨v5, rfl, o5, b5⟩
  have hs5 := b5.size
  have i0a := hide ((unhide i0p).below b5)
  have i4a := hide ((unhide i4p).below b5)
  replace i0 := hide ((unhide i0).on b5)
  replace i2 := hide ((unhide i2).on b5)
  replace i3 := hide ((unhide i3).on b5)
  replace i4 := hide ((unhide i4).on b5)
  replace o5 := hide o5
  replace HB := hide ((unhide HB).trans (b5.mono (unhide HB).size))
  clear b5
  rw [TK.out] at o5
  go_wp2_with fail
  have hbs5 := (unhide HB).size
  refine (reverse_own (unhide o5) (by rw [hl.out]; have := (pin_parts HF.out).1; rw [hl.out] at this; omega) (by rw [hl.out]; omega) hs5).mono ?_
  rintro e w7 ⟨rfl, o6, b7⟩
  have HI7 := hide ((unhide i0a).below b7 |>.more (Nat.le_trans hs5 b7.size))
  have HI4 := hide ((unhide i4a).below b7 |>.more (Nat.le_trans hs5 b7.size))
  have HB7 := hide ((unhide HB).trans (b7.mono (Nat.le_trans hbp.out (Nat.le_refl _))))
  have HO6 := hide o6
  clear b7 o6 i0 i2 i3 i4 o5 i0a i4a i0p i4p HB
  go_wp2_with fail
  refine (clone_any _ _ _ _ _ _ (unhide HI4) (by omega) (Nat.le_refl _)).mono ?_
  rintro e w8 ⟨v8, rfl, o8, b8⟩
  obtain ⟨A8, c8, e8, i8⟩ := o8.toN (unhide HI4).len
  subst e8
  have HI8 := hide i8
  replace HI7 := hide ((unhide HI7).on b8)
  replace HI4 := hide ((unhide HI4).on b8)
  replace HO6 := hide ((unhide HO6).on b8)
  replace HB7 := hide ((unhide HB7).trans (b8.mono (unhide HB7).size))
  clear b8 o8 i8
  have HQ := hide (qi_facts HF.out)
  go_wp2_with fail
  go_loopw [4, 8, 57] (fun e4 q8 i wr => ∃ (k : Nat) (A9 : Option Addr) (n9 c9 : Nat), k ≤ 3 ∧ i = .int .i64 (k : Nat) ∧ e4 = .int .i64 0 ∧ q8 = .slice A9 n9 c9 ∧ Hid (Ints wr wr.heap.size A9 n9 c9 (qi xs k)) ∧ Hid (Below w8.heap.size w8 wr)) (fun _ _ i _ => 3 - (intOf i).toNat)
  case atStart => exact ⟨0, _, _, _, by omega, rfl, rfl, rfl, HI8, hide (Below.refl _ _)⟩
  case round =>
    obtain ⟨k, A9, n9, c9, hk, rfl, rfl, rfl, HI9, HB9⟩ := hrel
    by_cases hlt : k < 3
    · go_wp2_with fail
      refine (Quarter_ok _ _ _ _ _ (unhide HI9) (hide (HQ.out.1 k hlt))).mono ?_
      rintro e w9 ⟨A10, n10, c10, rfl, i10, b10⟩
      have HI10 := hide i10
      have HB10 := hide ((unhide HB9).trans (b10.mono (unhide HB9).size))
      clear i10 b10
      go_wp2_with fail
      go_roundw
      case rel => exact ⟨k + 1, _, _, _, by omega, by go_num, rfl, rfl, HI10, HB10⟩
      case measure => simp [intOf]; omega
    · have hk3 : k = 3 := by omega
      have HX := hide (show qi xs k = xs from by rw [hk3]; exact HQ.out.2.2)
      rw [HX.out] at HI9
      replace HI7 := hide ((unhide HI7).on (unhide HB9))
      replace HI4 := hide ((unhide HI4).on (unhide HB9))
      obtain ⟨A6, c6, e6, i6⟩ := ((unhide HO6).on (unhide HB9)).toN (n := n) (by simpa using hl.out)
      subst e6
      have HI6 := hide i6
      replace HB7 := hide ((unhide HB7).trans ((unhide HB9).mono (unhide HB7).size))
      have hn4p := hide (show pcB n4 = true from by rw [← (unhide HI4).len]; exact pcB_of (HQ.out.1 0 (by omega)))
      have hn6p := hide (show pcB n = true from by have := pcB_of HQ.out.2.1; rw [List.length_reverse, hl.out] at this; exact this)
      clear hk3 i6
      go_wp2_with fail
      refine (IsPins_ok _ _ _ _ _ (unhide HI4) hn4p true (hide (HQ.out.1 0 (by omega)))).mono ?_
      rintro e w11 ⟨rfl, b11⟩
      replace HI7 := hide ((unhide HI7).on b11)
      replace HI6 := hide ((unhide HI6).on b11)
      replace HI9 := hide ((unhide HI9).on b11)
      replace HB7 := hide ((unhide HB7).trans (b11.mono (unhide HB7).size))
      clear b11
      go_wp2_with fail
      refine (IsPins_ok _ _ _ _ _ (unhide HI6) hn6p true (hide HQ.out.2.1)).mono ?_
      rintro e w12 ⟨rfl, b12⟩
      replace HI7 := hide ((unhide HI7).on b12)
      replace HI9 := hide ((unhide HI9).on b12)
      replace HB7 := hide ((unhide HB7).trans (b12.mono (unhide HB7).size))
      clear b12
      go_wp2_with fail
      refine (equal_is _ _ _ _ _ _ _ _ _ _ _ (unhide HI9) (unhide HI7) (hide rfl)).mono ?_
      rintro e w13 ⟨rfl, q, rfl⟩
      replace HB7 := hide (Below.drewN' (unhide HB7) q)
      go_wp2_with fail
      refine (awake_any _).mono ?_
      rintro e w14 ⟨rfl, b14⟩
      replace HB7 := hide ((unhide HB7).trans (b14.mono (unhide HB7).size))
      clear b14
      go_wp2_with fail
      go_ret
      exact ⟨rfl, unhide HB7⟩

theorem LQuarters_any {A : Option Addr} {n c : Nat} {xs : List Int} {w : World} (i0 : Ints w w.heap.size A n c xs) :
    Calls Try.prog 13 #[.slice A n c] w fun e w' => e = .returned (.bool true) ∧ Below w.heap.size w w' := by
  cases hp : pinB (xs.take 20) with
  | false =>
    cases hn : pcB (xs.take 20).length with
    | false => exact LQuarters_len A n c xs w i0 (hide hn) (hide hp)
    | true => exact LQuarters_not A n c xs w i0 (hide hn) (hide hp)
  | true =>
    obtain ⟨h1, h2⟩ := pin_take hp
    rw [h1] at hp
    exact LQuarters_pins A n c xs w i0 (by rw [← i0.len]; exact h2) (hide h1) (hide hp)
end Go.Proofs.Ytmgoonoifgcmnaa
