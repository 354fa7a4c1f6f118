/-
  The law PairsCosts.
-/
import Derived.Test.YtmgoonoifgcmnaaG2
import Derived.Test.YtmgoonoifgcmnaaL9
import Derived.Test.YtmgoonoifgcmnaaV2
import Derived.Test.YtmgoonoifgcmnaaL2
namespace Go.Proofs.Ytmgoonoifgcmnaa
open Go.RowKit

theorem Blk.on {w w' : World} {g : Nat} {t : TypeId} {cs : Array Value} (h : Blk w g t cs) (hb : Below w.heap.size w w') : Blk w' g t cs := h.below hb h.lt
theorem Owned.to6 {w : World} {base : Nat} {v : Value} {xs : List Int} (h : Owned w base v xs) {n : Nat} (hn : xs.length = n) : ∃ A c, v = .slice A n c ∧ Ints w w.heap.size A n c xs := by
  subst hn; exact h.ints
set_option maxRecDepth 100000 in
set_option maxHeartbeats 2000000 in
theorem LCosts_other_no (x p g : Int) (a N : Nat) (ha : a < 6) (ea : (IntKind.u64.wrap x).tmod 6 = (a : Int)) (hNa : (1 : Int) + (a : Int) = (N : Int)) (hN : 1 ≤ N ∧ N ≤ 6) (A : Option Addr) (n c : Nat) (xs : List Int) (w : World) (i0 : Ints w w.heap.size A n c xs) (hne : n ≠ N) (hw : rtF p g = false) :
    Calls Try.prog 12 #[.int .i64 x, .slice A n c, .int .i64 p, .int .i64 g] w fun e w' => e = .returned (.bool true) ∧ Below w.heap.size w w' := by
  have hl := hide i0.len
  have hm := i0.most; have hcap := i0.cap
  have HPN := hide (show pcB N = true from by unfold pcB; simp <;> omega)
  obtain ⟨q1, q2, q3⟩ := pok_all hN
  have dn : ((n : Int) == (N : Int)) = false := by simp; omega
  have hL1 : 1 ≤ pcnt N := by
    rcases (show N = 1 ∨ N = 2 ∨ N = 3 ∨ N = 4 ∨ N = 5 ∨ N = 6 by omega) with rfl | rfl | rfl | rfl | rfl | rfl <;> decide
  have hix0 := fun W => idx73 N hN W
  obtain ⟨PL, hPL⟩ : ∃ PL, pinsL N = PL := ⟨_, rfl⟩
  obtain ⟨L, hL⟩ : ∃ L, pcnt N = L := ⟨_, rfl⟩
  rw [hPL] at q1 q2 q3
  rw [hL] at q1 hL1
  simp only [hL] at hix0
  have HPL := hide hPL
  replace q1 := hide q1
  replace q2 := hide q2
  replace q3 := hide q3
  have hix := hix0
  have hLL : ((L : Int) != (L : Int)) = false := by simp
  clear hPL hL hix0
  have HX := hide (show Blk (w.alloc (.cells #[.slice A n c] 22)) w.heap.size 22 #[.slice A n c] from Blk.new _ _ _)
  have HB0 := hide ((Below.refl w.heap.size w).alloc (Nat.le_refl _) (.cells #[.slice A n c] 22))
  replace i0 := hide ((i0.alloc (Nat.le_refl _) (.cells #[.slice A n c] 22)).more (show w.heap.size ≤ (w.alloc (.cells #[.slice A n c] 22)).heap.size by simp))
  go_enter Try.func12, Try.ntmps12
  go_wp2_with fail
  refine (Pins_rows N hN _).mono ?_
  rintro e w1 ⟨A4, n4, c4, rfl, r4, b1⟩
  rw [HPL.out] at r4
  have e4 := r4.len
  rw [q1.out] at e4
  subst e4
  have hm4 := r4.most; have hcap4 := r4.cap
  replace r4 := hide r4
  replace i0 := hide ((unhide i0).on b1)
  replace HX := hide ((unhide HX).on b1)
  have HBW := hide ((unhide HB0).trans (b1.mono (unhide HB0).size))
  clear b1
  go_wp2_with fail
  go_loopw [11, 12, 13, 14, 42] (fun _ _ _ _ i wr => ∃ k : Nat, k ≤ L ∧ i = .int .i64 (k : Nat) ∧ Hid (Below w1.heap.size w1 wr)) (fun _ _ _ _ i _ => L - (intOf i).toNat)
  case atStart => exact ⟨0, Nat.zero_le _, rfl, hide (Below.refl _ _)⟩
  case round =>
    obtain ⟨k, hk, rfl, HB⟩ := hrel
    by_cases hlt : k < L
    · by_cases hk0 : k = 0
      · subst hk0
        obtain ⟨b5, off5, A5, n5, c5, rfl, hbb5, hc5, hi5⟩ := ((unhide r4).below (unhide HB)).at_ 0 hlt
        rw [Nat.add_zero] at hc5
        obtain ⟨hpp, hpl⟩ := q3.out (row PL 0) (row_mem (by rw [q1.out]; exact hlt))
        have e5 := hi5.len
        rw [hpl] at e5
        subst e5
        have HPP := hide hpp
        have HPLN := hide hpl
        have HI5 := hide (hi5.more (unhide HB).size)
        clear hpp hpl
        go_wp2_with fail
        refine (clone_any _ _ _ _ _ _ (unhide HI5) (by omega) (Nat.le_refl _)).mono ?_
        rintro e w5 ⟨v5, rfl, o5, b5'⟩
        obtain ⟨A7, c7, e7, i7⟩ := o5.to6 HPLN.out
        subst e7
        have HI7 := hide i7
        have HB5 := hide ((unhide HB).trans (b5'.mono (unhide HB).size))
        have HI5b := hide ((unhide HI5).on b5')
        clear o5 i7 b5'
        go_wp2_with fail
        refine (IsPins_ok _ _ _ _ _ (unhide HI7) HPN true HPP).mono ?_
        rintro e w6 ⟨rfl, b6⟩
        have HB6 := hide ((unhide HB5).trans (b6.mono (unhide HB5).size))
        have HI5c := hide ((unhide HI5b).on b6)
        clear b6
        go_wp2_with fail
        go_roundw
        case rel => exact ⟨1, by omega, by go_num, HB6⟩
        case measure => simp [intOf]; omega
      · obtain ⟨j, rfl⟩ : ∃ j, k = j + 1 := ⟨k - 1, by omega⟩
        obtain ⟨b5, off5, A5, n5, c5, rfl, hbb5, hc5, hi5⟩ := ((unhide r4).below (unhide HB)).at_ (j + 1) hlt
        obtain ⟨r, hr⟩ : ∃ r, cmpL (row PL j) (row PL (j + 1)) = r := ⟨_, rfl⟩
        have hr0 := q2.out j (by rw [q1.out]; exact hlt)
        rw [hr] at hr0
        have HRR := hide hr
        have dr : decide (0 ≤ r) = false := by simp; omega
        have ej : ((j + 1 : Nat) : Int) - 1 = (j : Int) := by omega
        clear hr hr0
        obtain ⟨hpp, hpl⟩ := q3.out (row PL (j + 1)) (row_mem (by rw [q1.out]; exact hlt))
        have e5 := hi5.len
        rw [hpl] at e5
        subst e5
        have HPP := hide hpp
        have HPLN := hide hpl
        have HI5 := hide (hi5.more (unhide HB).size)
        clear hpp hpl
        go_wp2_with fail
        refine (clone_any _ _ _ _ _ _ (unhide HI5) (by omega) (Nat.le_refl _)).mono ?_
        rintro e w5 ⟨v5, rfl, o5, b5'⟩
        obtain ⟨A7, c7, e7, i7⟩ := o5.to6 HPLN.out
        subst e7
        have HI7 := hide i7
        have HB5 := hide ((unhide HB).trans (b5'.mono (unhide HB).size))
        have HI5b := hide ((unhide HI5).on b5')
        clear o5 i7 b5'
        go_wp2_with fail
        refine (IsPins_ok _ _ _ _ _ (unhide HI7) HPN true HPP).mono ?_
        rintro e w6 ⟨rfl, b6⟩
        have HB6 := hide ((unhide HB5).trans (b6.mono (unhide HB5).size))
        have HI5c := hide ((unhide HI5b).on b6)
        obtain ⟨b9, off9, A9, n9, c9, e9, hbb9, hc9, hi9⟩ := ((unhide r4).below (unhide HB6)).at_ j (by omega)
        cases e9
        have HI9c := hide (hi9.more (unhide HB6).size)
        clear hi9
        clear b6
        go_wp2_with fail
        refine (Compare_any _ _ _ _ _ _ _ _ _ _ _ (unhide HI9c) (unhide HI5c) r HRR).mono ?_
        rintro e wq ⟨rfl, rfl⟩
        go_wp2_with fail
        go_roundw
        case rel => exact ⟨j + 1 + 1, by omega, by go_num, HB6⟩
        case measure => simp [intOf]; omega
    · replace i0 := hide ((unhide i0).on (unhide HB))
      replace r4 := hide ((unhide r4).on (unhide HB))
      replace HX := hide ((unhide HX).on (unhide HB))
      replace HB := hide ((unhide HBW).trans ((unhide HB).mono (unhide HBW).size))
      have hbx := (unhide HX).cell 0
      go_wp2_with fail
      refine (Welch_no p g hw _).mono ?_
      rintro e w21 ⟨rfl, b21⟩
      replace i0 := hide ((unhide i0).on b21)
      replace r4 := hide ((unhide r4).on b21)
      replace HX := hide ((unhide HX).on b21)
      replace HB := hide ((unhide HB).trans (b21.mono (unhide HB).size))
      clear b21
      go_wp2_with fail
      refine (awake_any _).mono ?_
      rintro e w22 ⟨rfl, b22⟩
      replace i0 := hide ((unhide i0).on b22)
      replace r4 := hide ((unhide r4).on b22)
      replace HX := hide ((unhide HX).on b22)
      replace HB := hide ((unhide HB).trans (b22.mono (unhide HB).size))
      clear b22
      go_wp2_with fail
      go_ret
      exact ⟨rfl, unhide HB⟩

set_option maxRecDepth 100000 in
set_option maxHeartbeats 2000000 in
theorem LCosts_other_yes (x : Int) (P G : Nat) (a N : Nat) (ha : a < 6) (ea : (IntKind.u64.wrap x).tmod 6 = (a : Int)) (hNa : (1 : Int) + (a : Int) = (N : Int)) (hN : 1 ≤ N ∧ N ≤ 6) (A : Option Addr) (n c : Nat) (xs : List Int) (w : World) (i0 : Ints w w.heap.size A n c xs) (hne : n ≠ N) (hp : Hid (prI (P : Int) = true)) (hg : 1 ≤ G ∧ G < P) (he : Hid (eoB (wlL P G) = true)) :
    Calls Try.prog 12 #[.int .i64 x, .slice A n c, .int .i64 P, .int .i64 G] w fun e w' => e = .returned (.bool true) ∧ Below w.heap.size w w' := by
  have hl := hide i0.len
  have hm := i0.most; have hcap := i0.cap
  have HPN := hide (show pcB N = true from by unfold pcB; simp <;> omega)
  obtain ⟨q1, q2, q3⟩ := pok_all hN
  have dn : ((n : Int) == (N : Int)) = false := by simp; omega
  have hL1 : 1 ≤ pcnt N := by
    rcases (show N = 1 ∨ N = 2 ∨ N = 3 ∨ N = 4 ∨ N = 5 ∨ N = 6 by omega) with rfl | rfl | rfl | rfl | rfl | rfl <;> decide
  have hix0 := fun W => idx73 N hN W
  obtain ⟨PL, hPL⟩ : ∃ PL, pinsL N = PL := ⟨_, rfl⟩
  obtain ⟨L, hL⟩ : ∃ L, pcnt N = L := ⟨_, rfl⟩
  rw [hPL] at q1 q2 q3
  rw [hL] at q1 hL1
  simp only [hL] at hix0
  have HPL := hide hPL
  replace q1 := hide q1
  replace q2 := hide q2
  replace q3 := hide q3
  have hix := hix0
  have hLL : ((L : Int) != (L : Int)) = false := by simp
  clear hPL hL hix0
  have hwl := wl_pins hp.out hg he.out
  have HWP := hide hwl.1
  have hp7 : 2 ≤ P ∧ P ≤ 7 := by have := pr_cases hp.out; omega
  obtain ⟨M, hM⟩ : ∃ M, P - 1 = M := ⟨_, rfl⟩
  have HWL := hide (hwl.2.trans hM)
  have hPM : (P : Int) - 1 = (M : Int) := by omega
  have HPM := hide (show pcB M = true from by unfold pcB; simp <;> omega)
  have hM6 : M ≤ 6 := by omega
  clear hwl hM
  have HX := hide (show Blk (w.alloc (.cells #[.slice A n c] 22)) w.heap.size 22 #[.slice A n c] from Blk.new _ _ _)
  have HB0 := hide ((Below.refl w.heap.size w).alloc (Nat.le_refl _) (.cells #[.slice A n c] 22))
  replace i0 := hide ((i0.alloc (Nat.le_refl _) (.cells #[.slice A n c] 22)).more (show w.heap.size ≤ (w.alloc (.cells #[.slice A n c] 22)).heap.size by simp))
  go_enter Try.func12, Try.ntmps12
  go_wp2_with fail
  refine (Pins_rows N hN _).mono ?_
  rintro e w1 ⟨A4, n4, c4, rfl, r4, b1⟩
  rw [HPL.out] at r4
  have e4 := r4.len
  rw [q1.out] at e4
  subst e4
  have hm4 := r4.most; have hcap4 := r4.cap
  replace r4 := hide r4
  replace i0 := hide ((unhide i0).on b1)
  replace HX := hide ((unhide HX).on b1)
  have HBW := hide ((unhide HB0).trans (b1.mono (unhide HB0).size))
  clear b1
  go_wp2_with fail
  go_loopw [11, 12, 13, 14, 42] (fun _ _ _ _ i wr => ∃ k : Nat, k ≤ L ∧ i = .int .i64 (k : Nat) ∧ Hid (Below w1.heap.size w1 wr)) (fun _ _ _ _ i _ => L - (intOf i).toNat)
  case atStart => exact ⟨0, Nat.zero_le _, rfl, hide (Below.refl _ _)⟩
  case round =>
    obtain ⟨k, hk, rfl, HB⟩ := hrel
    by_cases hlt : k < L
    · by_cases hk0 : k = 0
      · subst hk0
        obtain ⟨b5, off5, A5, n5, c5, rfl, hbb5, hc5, hi5⟩ := ((unhide r4).below (unhide HB)).at_ 0 hlt
        rw [Nat.add_zero] at hc5
        obtain ⟨hpp, hpl⟩ := q3.out (row PL 0) (row_mem (by rw [q1.out]; exact hlt))
        have e5 := hi5.len
        rw [hpl] at e5
        subst e5
        have HPP := hide hpp
        have HPLN := hide hpl
        have HI5 := hide (hi5.more (unhide HB).size)
        clear hpp hpl
        go_wp2_with fail
        refine (clone_any _ _ _ _ _ _ (unhide HI5) (by omega) (Nat.le_refl _)).mono ?_
        rintro e w5 ⟨v5, rfl, o5, b5'⟩
        obtain ⟨A7, c7, e7, i7⟩ := o5.to6 HPLN.out
        subst e7
        have HI7 := hide i7
        have HB5 := hide ((unhide HB).trans (b5'.mono (unhide HB).size))
        have HI5b := hide ((unhide HI5).on b5')
        clear o5 i7 b5'
        go_wp2_with fail
        refine (IsPins_ok _ _ _ _ _ (unhide HI7) HPN true HPP).mono ?_
        rintro e w6 ⟨rfl, b6⟩
        have HB6 := hide ((unhide HB5).trans (b6.mono (unhide HB5).size))
        have HI5c := hide ((unhide HI5b).on b6)
        clear b6
        go_wp2_with fail
        go_roundw
        case rel => exact ⟨1, by omega, by go_num, HB6⟩
        case measure => simp [intOf]; omega
      · obtain ⟨j, rfl⟩ : ∃ j, k = j + 1 := ⟨k - 1, by omega⟩
        obtain ⟨b5, off5, A5, n5, c5, rfl, hbb5, hc5, hi5⟩ := ((unhide r4).below (unhide HB)).at_ (j + 1) hlt
        obtain ⟨r, hr⟩ : ∃ r, cmpL (row PL j) (row PL (j + 1)) = r := ⟨_, rfl⟩
        have hr0 := q2.out j (by rw [q1.out]; exact hlt)
        rw [hr] at hr0
        have HRR := hide hr
        have dr : decide (0 ≤ r) = false := by simp; omega
        have ej : ((j + 1 : Nat) : Int) - 1 = (j : Int) := by omega
        clear hr hr0
        obtain ⟨hpp, hpl⟩ := q3.out (row PL (j + 1)) (row_mem (by rw [q1.out]; exact hlt))
        have e5 := hi5.len
        rw [hpl] at e5
        subst e5
        have HPP := hide hpp
        have HPLN := hide hpl
        have HI5 := hide (hi5.more (unhide HB).size)
        clear hpp hpl
        go_wp2_with fail
        refine (clone_any _ _ _ _ _ _ (unhide HI5) (by omega) (Nat.le_refl _)).mono ?_
        rintro e w5 ⟨v5, rfl, o5, b5'⟩
        obtain ⟨A7, c7, e7, i7⟩ := o5.to6 HPLN.out
        subst e7
        have HI7 := hide i7
        have HB5 := hide ((unhide HB).trans (b5'.mono (unhide HB).size))
        have HI5b := hide ((unhide HI5).on b5')
        clear o5 i7 b5'
        go_wp2_with fail
        refine (IsPins_ok _ _ _ _ _ (unhide HI7) HPN true HPP).mono ?_
        rintro e w6 ⟨rfl, b6⟩
        have HB6 := hide ((unhide HB5).trans (b6.mono (unhide HB5).size))
        have HI5c := hide ((unhide HI5b).on b6)
        obtain ⟨b9, off9, A9, n9, c9, e9, hbb9, hc9, hi9⟩ := ((unhide r4).below (unhide HB6)).at_ j (by omega)
        cases e9
        have HI9c := hide (hi9.more (unhide HB6).size)
        clear hi9
        clear b6
        go_wp2_with fail
        refine (Compare_any _ _ _ _ _ _ _ _ _ _ _ (unhide HI9c) (unhide HI5c) r HRR).mono ?_
        rintro e wq ⟨rfl, rfl⟩
        go_wp2_with fail
        go_roundw
        case rel => exact ⟨j + 1 + 1, by omega, by go_num, HB6⟩
        case measure => simp [intOf]; omega
    · replace i0 := hide ((unhide i0).on (unhide HB))
      replace r4 := hide ((unhide r4).on (unhide HB))
      replace HX := hide ((unhide HX).on (unhide HB))
      replace HB := hide ((unhide HBW).trans ((unhide HB).mono (unhide HBW).size))
      have hbx := (unhide HX).cell 0
      go_wp2_with fail
      refine (Welch_yes P G hp hg he _).mono ?_
      rintro e w21 ⟨A6, n6, c6, rfl, i6, b21⟩
      replace i0 := hide ((unhide i0).on b21)
      replace r4 := hide ((unhide r4).on b21)
      replace HX := hide ((unhide HX).on b21)
      replace i6 := hide i6
      replace HB := hide ((unhide HB).trans (b21.mono (unhide HB).size))
      clear b21
      have en6 := (unhide i6).len
      rw [HWL.out] at en6
      subst en6
      go_wp2_with fail
      refine (clone_any _ _ _ _ _ _ (unhide i6) (by omega) (Nat.le_refl _)).mono ?_
      rintro e w22 ⟨v7, rfl, o7, b22⟩
      replace i0 := hide ((unhide i0).on b22)
      replace r4 := hide ((unhide r4).on b22)
      replace HX := hide ((unhide HX).on b22)
      replace i6 := hide ((unhide i6).on b22)
      replace o7 := hide o7
      replace HB := hide ((unhide HB).trans (b22.mono (unhide HB).size))
      clear b22
      obtain ⟨A7, c7, e7, i7⟩ := o7.out.to6 HWL.out
      subst e7
      clear o7
      replace i7 := hide i7
      go_wp2_with fail
      refine (IsPins_ok _ _ _ _ _ (unhide i7) HPM true HWP).mono ?_
      rintro e w23 ⟨rfl, b23⟩
      replace i0 := hide ((unhide i0).on b23)
      replace r4 := hide ((unhide r4).on b23)
      replace HX := hide ((unhide HX).on b23)
      replace i6 := hide ((unhide i6).on b23)
      replace i7 := hide ((unhide i7).on b23)
      replace HB := hide ((unhide HB).trans (b23.mono (unhide HB).size))
      clear b23
      go_wp2_with fail
      refine (awake_any _).mono ?_
      rintro e w24 ⟨rfl, b24⟩
      replace i0 := hide ((unhide i0).on b24)
      replace r4 := hide ((unhide r4).on b24)
      replace HX := hide ((unhide HX).on b24)
      replace i6 := hide ((unhide i6).on b24)
      replace i7 := hide ((unhide i7).on b24)
      replace HB := hide ((unhide HB).trans (b24.mono (unhide HB).size))
      clear b24
      go_wp2_with fail
      go_ret
      exact ⟨rfl, unhide HB⟩

set_option maxRecDepth 100000 in
set_option maxHeartbeats 2000000 in
theorem LCosts_true_no (x p g : Int) (a N : Nat) (ha : a < 6) (ea : (IntKind.u64.wrap x).tmod 6 = (a : Int)) (hNa : (1 : Int) + (a : Int) = (N : Int)) (hN : 1 ≤ N ∧ N ≤ 6) (A : Option Addr) (n c : Nat) (xs : List Int) (w : World) (i0 : Ints w w.heap.size A n c xs) (hne : n = N) (HF : Hid (pinB xs = true)) (hw : rtF p g = false) :
    Calls Try.prog 12 #[.int .i64 x, .slice A n c, .int .i64 p, .int .i64 g] w fun e w' => e = .returned (.bool true) ∧ Below w.heap.size w w' := by
  have hl := hide i0.len
  have hm := i0.most; have hcap := i0.cap
  have HPN := hide (show pcB N = true from by unfold pcB; simp <;> omega)
  obtain ⟨q1, q2, q3⟩ := pok_all hN
  have HIN := hide ((pin_iff hN (hl.out.trans hne)).trans HF.out)
  have TK := hide (show xs.take 20 = xs from List.take_of_length_le (by rw [hl.out]; omega))
  have dn : ((n : Int) == (N : Int)) = true := by simp; omega
  have hL1 : 1 ≤ pcnt N := by
    rcases (show N = 1 ∨ N = 2 ∨ N = 3 ∨ N = 4 ∨ N = 5 ∨ N = 6 by omega) with rfl | rfl | rfl | rfl | rfl | rfl <;> decide
  have hix0 := fun W => idx73 N hN W
  obtain ⟨PL, hPL⟩ : ∃ PL, pinsL N = PL := ⟨_, rfl⟩
  obtain ⟨L, hL⟩ : ∃ L, pcnt N = L := ⟨_, rfl⟩
  rw [hPL] at q1 q2 q3 HIN
  rw [hL] at q1 hL1
  simp only [hL] at hix0
  have HPL := hide hPL
  replace q1 := hide q1
  replace q2 := hide q2
  replace q3 := hide q3
  have hix := hix0
  have hLL : ((L : Int) != (L : Int)) = false := by simp
  clear hPL hL hix0
  replace hne := hne.symm
  subst hne
  have HX := hide (show Blk (w.alloc (.cells #[.slice A N c] 22)) w.heap.size 22 #[.slice A N c] from Blk.new _ _ _)
  have HB0 := hide ((Below.refl w.heap.size w).alloc (Nat.le_refl _) (.cells #[.slice A N c] 22))
  replace i0 := hide ((i0.alloc (Nat.le_refl _) (.cells #[.slice A N c] 22)).more (show w.heap.size ≤ (w.alloc (.cells #[.slice A N c] 22)).heap.size by simp))
  go_enter Try.func12, Try.ntmps12
  go_wp2_with fail
  refine (Pins_rows N hN _).mono ?_
  rintro e w1 ⟨A4, n4, c4, rfl, r4, b1⟩
  rw [HPL.out] at r4
  have e4 := r4.len
  rw [q1.out] at e4
  subst e4
  have hm4 := r4.most; have hcap4 := r4.cap
  replace r4 := hide r4
  replace i0 := hide ((unhide i0).on b1)
  replace HX := hide ((unhide HX).on b1)
  have HBW := hide ((unhide HB0).trans (b1.mono (unhide HB0).size))
  clear b1
  go_wp2_with fail
  go_loopw [11, 12, 13, 14, 42] (fun _ _ _ _ i wr => ∃ k : Nat, k ≤ L ∧ i = .int .i64 (k : Nat) ∧ Hid (Below w1.heap.size w1 wr)) (fun _ _ _ _ i _ => L - (intOf i).toNat)
  case atStart => exact ⟨0, Nat.zero_le _, rfl, hide (Below.refl _ _)⟩
  case round =>
    obtain ⟨k, hk, rfl, HB⟩ := hrel
    by_cases hlt : k < L
    · by_cases hk0 : k = 0
      · subst hk0
        obtain ⟨b5, off5, A5, n5, c5, rfl, hbb5, hc5, hi5⟩ := ((unhide r4).below (unhide HB)).at_ 0 hlt
        rw [Nat.add_zero] at hc5
        obtain ⟨hpp, hpl⟩ := q3.out (row PL 0) (row_mem (by rw [q1.out]; exact hlt))
        have e5 := hi5.len
        rw [hpl] at e5
        subst e5
        have HPP := hide hpp
        have HPLN := hide hpl
        have HI5 := hide (hi5.more (unhide HB).size)
        clear hpp hpl
        go_wp2_with fail
        refine (clone_any _ _ _ _ _ _ (unhide HI5) (by omega) (Nat.le_refl _)).mono ?_
        rintro e w5 ⟨v5, rfl, o5, b5'⟩
        obtain ⟨A7, c7, e7, i7⟩ := o5.to6 HPLN.out
        subst e7
        have HI7 := hide i7
        have HB5 := hide ((unhide HB).trans (b5'.mono (unhide HB).size))
        have HI5b := hide ((unhide HI5).on b5')
        clear o5 i7 b5'
        go_wp2_with fail
        refine (IsPins_ok _ _ _ _ _ (unhide HI7) HPN true HPP).mono ?_
        rintro e w6 ⟨rfl, b6⟩
        have HB6 := hide ((unhide HB5).trans (b6.mono (unhide HB5).size))
        have HI5c := hide ((unhide HI5b).on b6)
        clear b6
        go_wp2_with fail
        go_roundw
        case rel => exact ⟨1, by omega, by go_num, HB6⟩
        case measure => simp [intOf]; omega
      · obtain ⟨j, rfl⟩ : ∃ j, k = j + 1 := ⟨k - 1, by omega⟩
        obtain ⟨b5, off5, A5, n5, c5, rfl, hbb5, hc5, hi5⟩ := ((unhide r4).below (unhide HB)).at_ (j + 1) hlt
        obtain ⟨r, hr⟩ : ∃ r, cmpL (row PL j) (row PL (j + 1)) = r := ⟨_, rfl⟩
        have hr0 := q2.out j (by rw [q1.out]; exact hlt)
        rw [hr] at hr0
        have HRR := hide hr
        have dr : decide (0 ≤ r) = false := by simp; omega
        have ej : ((j + 1 : Nat) : Int) - 1 = (j : Int) := by omega
        clear hr hr0
        obtain ⟨hpp, hpl⟩ := q3.out (row PL (j + 1)) (row_mem (by rw [q1.out]; exact hlt))
        have e5 := hi5.len
        rw [hpl] at e5
        subst e5
        have HPP := hide hpp
        have HPLN := hide hpl
        have HI5 := hide (hi5.more (unhide HB).size)
        clear hpp hpl
        go_wp2_with fail
        refine (clone_any _ _ _ _ _ _ (unhide HI5) (by omega) (Nat.le_refl _)).mono ?_
        rintro e w5 ⟨v5, rfl, o5, b5'⟩
        obtain ⟨A7, c7, e7, i7⟩ := o5.to6 HPLN.out
        subst e7
        have HI7 := hide i7
        have HB5 := hide ((unhide HB).trans (b5'.mono (unhide HB).size))
        have HI5b := hide ((unhide HI5).on b5')
        clear o5 i7 b5'
        go_wp2_with fail
        refine (IsPins_ok _ _ _ _ _ (unhide HI7) HPN true HPP).mono ?_
        rintro e w6 ⟨rfl, b6⟩
        have HB6 := hide ((unhide HB5).trans (b6.mono (unhide HB5).size))
        have HI5c := hide ((unhide HI5b).on b6)
        obtain ⟨b9, off9, A9, n9, c9, e9, hbb9, hc9, hi9⟩ := ((unhide r4).below (unhide HB6)).at_ j (by omega)
        cases e9
        have HI9c := hide (hi9.more (unhide HB6).size)
        clear hi9
        clear b6
        go_wp2_with fail
        refine (Compare_any _ _ _ _ _ _ _ _ _ _ _ (unhide HI9c) (unhide HI5c) r HRR).mono ?_
        rintro e wq ⟨rfl, rfl⟩
        go_wp2_with fail
        go_roundw
        case rel => exact ⟨j + 1 + 1, by omega, by go_num, HB6⟩
        case measure => simp [intOf]; omega
    · replace i0 := hide ((unhide i0).on (unhide HB))
      replace r4 := hide ((unhide r4).on (unhide HB))
      replace HX := hide ((unhide HX).on (unhide HB))
      replace HB := hide ((unhide HBW).trans ((unhide HB).mono (unhide HBW).size))
      have hbx := (unhide HX).cell 0
      go_wp2_with fail
      refine (list_ints _ _ _ _ _ _ (unhide i0) (Nat.le_refl _)).mono ?_
      rintro e w21 ⟨A2, n2, c2, rfl, i2, b21⟩
      replace i0 := hide ((unhide i0).on b21)
      replace r4 := hide ((unhide r4).on b21)
      replace HX := hide ((unhide HX).on b21)
      replace i2 := hide i2
      replace HB := hide ((unhide HB).trans (b21.mono (unhide HB).size))
      clear b21
      rw [TK.out] at i2
      have en2 := (unhide i2).len
      rw [hl.out] at en2
      subst en2
      go_wp2_with fail
      refine (IsPins_ok _ _ _ _ _ (unhide i2) HPN true HF).mono ?_
      rintro e w22 ⟨rfl, b22⟩
      replace i0 := hide ((unhide i0).on b22)
      replace r4 := hide ((unhide r4).on b22)
      replace HX := hide ((unhide HX).on b22)
      replace i2 := hide ((unhide i2).on b22)
      replace HB := hide ((unhide HB).trans (b22.mono (unhide HB).size))
      clear b22
      have hbx2 := (unhide HX).cell 0
      go_wp2_with fail
      refine (containsR_any _ _ _ _ _ _ _ _ _ _ _ _ hbx2 (unhide r4) (unhide i0) true HIN).mono ?_
      rintro e w23 ⟨rfl, qq23, hq23⟩
      have b23 : Below w22.heap.size w22 w23 := by rw [hq23]; exact Below.drewN' (Below.refl _ _) qq23
      clear hq23
      replace i0 := hide ((unhide i0).on b23)
      replace r4 := hide ((unhide r4).on b23)
      replace HX := hide ((unhide HX).on b23)
      replace i2 := hide ((unhide i2).on b23)
      replace HB := hide ((unhide HB).trans (b23.mono (unhide HB).size))
      clear b23
      go_wp2_with fail
      refine (Welch_no p g hw _).mono ?_
      rintro e w24 ⟨rfl, b24⟩
      replace i0 := hide ((unhide i0).on b24)
      replace r4 := hide ((unhide r4).on b24)
      replace HX := hide ((unhide HX).on b24)
      replace i2 := hide ((unhide i2).on b24)
      replace HB := hide ((unhide HB).trans (b24.mono (unhide HB).size))
      clear b24
      go_wp2_with fail
      refine (awake_any _).mono ?_
      rintro e w25 ⟨rfl, b25⟩
      replace i0 := hide ((unhide i0).on b25)
      replace r4 := hide ((unhide r4).on b25)
      replace HX := hide ((unhide HX).on b25)
      replace i2 := hide ((unhide i2).on b25)
      replace HB := hide ((unhide HB).trans (b25.mono (unhide HB).size))
      clear b25
      go_wp2_with fail
      go_ret
      exact ⟨rfl, unhide HB⟩

set_option maxRecDepth 100000 in
set_option maxHeartbeats 2000000 in
theorem LCosts_true_yes (x : Int) (P G : Nat) (a N : Nat) (ha : a < 6) (ea : (IntKind.u64.wrap x).tmod 6 = (a : Int)) (hNa : (1 : Int) + (a : Int) = (N : Int)) (hN : 1 ≤ N ∧ N ≤ 6) (A : Option Addr) (n c : Nat) (xs : List Int) (w : World) (i0 : Ints w w.heap.size A n c xs) (hne : n = N) (HF : Hid (pinB xs = true)) (hp : Hid (prI (P : Int) = true)) (hg : 1 ≤ G ∧ G < P) (he : Hid (eoB (wlL P G) = true)) :
    Calls Try.prog 12 #[.int .i64 x, .slice A n c, .int .i64 P, .int .i64 G] w fun e w' => e = .returned (.bool true) ∧ Below w.heap.size w w' := by
  have hl := hide i0.len
  have hm := i0.most; have hcap := i0.cap
  have HPN := hide (show pcB N = true from by unfold pcB; simp <;> omega)
  obtain ⟨q1, q2, q3⟩ := pok_all hN
  have HIN := hide ((pin_iff hN (hl.out.trans hne)).trans HF.out)
  have TK := hide (show xs.take 20 = xs from List.take_of_length_le (by rw [hl.out]; omega))
  have dn : ((n : Int) == (N : Int)) = true := by simp; omega
  have hL1 : 1 ≤ pcnt N := by
    rcases (show N = 1 ∨ N = 2 ∨ N = 3 ∨ N = 4 ∨ N = 5 ∨ N = 6 by omega) with rfl | rfl | rfl | rfl | rfl | rfl <;> decide
  have hix0 := fun W => idx73 N hN W
  obtain ⟨PL, hPL⟩ : ∃ PL, pinsL N = PL := ⟨_, rfl⟩
  obtain ⟨L, hL⟩ : ∃ L, pcnt N = L := ⟨_, rfl⟩
  rw [hPL] at q1 q2 q3 HIN
  rw [hL] at q1 hL1
  simp only [hL] at hix0
  have HPL := hide hPL
  replace q1 := hide q1
  replace q2 := hide q2
  replace q3 := hide q3
  have hix := hix0
  have hLL : ((L : Int) != (L : Int)) = false := by simp
  clear hPL hL hix0
  have hwl := wl_pins hp.out hg he.out
  have HWP := hide hwl.1
  have hp7 : 2 ≤ P ∧ P ≤ 7 := by have := pr_cases hp.out; omega
  obtain ⟨M, hM⟩ : ∃ M, P - 1 = M := ⟨_, rfl⟩
  have HWL := hide (hwl.2.trans hM)
  have hPM : (P : Int) - 1 = (M : Int) := by omega
  have HPM := hide (show pcB M = true from by unfold pcB; simp <;> omega)
  have hM6 : M ≤ 6 := by omega
  clear hwl hM
  replace hne := hne.symm
  subst hne
  have HX := hide (show Blk (w.alloc (.cells #[.slice A N c] 22)) w.heap.size 22 #[.slice A N c] from Blk.new _ _ _)
  have HB0 := hide ((Below.refl w.heap.size w).alloc (Nat.le_refl _) (.cells #[.slice A N c] 22))
  replace i0 := hide ((i0.alloc (Nat.le_refl _) (.cells #[.slice A N c] 22)).more (show w.heap.size ≤ (w.alloc (.cells #[.slice A N c] 22)).heap.size by simp))
  go_enter Try.func12, Try.ntmps12
  go_wp2_with fail
  refine (Pins_rows N hN _).mono ?_
  rintro e w1 ⟨A4, n4, c4, rfl, r4, b1⟩
  rw [HPL.out] at r4
  have e4 := r4.len
  rw [q1.out] at e4
  subst e4
  have hm4 := r4.most; have hcap4 := r4.cap
  replace r4 := hide r4
  replace i0 := hide ((unhide i0).on b1)
  replace HX := hide ((unhide HX).on b1)
  have HBW := hide ((unhide HB0).trans (b1.mono (unhide HB0).size))
  clear b1
  go_wp2_with fail
  go_loopw [11, 12, 13, 14, 42] (fun _ _ _ _ i wr => ∃ k : Nat, k ≤ L ∧ i = .int .i64 (k : Nat) ∧ Hid (Below w1.heap.size w1 wr)) (fun _ _ _ _ i _ => L - (intOf i).toNat)
  case atStart => exact ⟨0, Nat.zero_le _, rfl, hide (Below.refl _ _)⟩
  case round =>
    obtain ⟨k, hk, rfl, HB⟩ := hrel
    by_cases hlt : k < L
    · by_cases hk0 : k = 0
      · subst hk0
        obtain ⟨b5, off5, A5, n5, c5, rfl, hbb5, hc5, hi5⟩ := ((unhide r4).below (unhide HB)).at_ 0 hlt
        rw [Nat.add_zero] at hc5
        obtain ⟨hpp, hpl⟩ := q3.out (row PL 0) (row_mem (by rw [q1.out]; exact hlt))
        have e5 := hi5.len
        rw [hpl] at e5
        subst e5
        have HPP := hide hpp
        have HPLN := hide hpl
        have HI5 := hide (hi5.more (unhide HB).size)
        clear hpp hpl
        go_wp2_with fail
        refine (clone_any _ _ _ _ _ _ (unhide HI5) (by omega) (Nat.le_refl _)).mono ?_
        rintro e w5 ⟨v5, rfl, o5, b5'⟩
        obtain ⟨A7, c7, e7, i7⟩ := o5.to6 HPLN.out
        subst e7
        have HI7 := hide i7
        have HB5 := hide ((unhide HB).trans (b5'.mono (unhide HB).size))
        have HI5b := hide ((unhide HI5).on b5')
        clear o5 i7 b5'
        go_wp2_with fail
        refine (IsPins_ok _ _ _ _ _ (unhide HI7) HPN true HPP).mono ?_
        rintro e w6 ⟨rfl, b6⟩
        have HB6 := hide ((unhide HB5).trans (b6.mono (unhide HB5).size))
        have HI5c := hide ((unhide HI5b).on b6)
        clear b6
        go_wp2_with fail
        go_roundw
        case rel => exact ⟨1, by omega, by go_num, HB6⟩
        case measure => simp [intOf]; omega
      · obtain ⟨j, rfl⟩ : ∃ j, k = j + 1 := ⟨k - 1, by omega⟩
        obtain ⟨b5, off5, A5, n5, c5, rfl, hbb5, hc5, hi5⟩ := ((unhide r4).below (unhide HB)).at_ (j + 1) hlt
        obtain ⟨r, hr⟩ : ∃ r, cmpL (row PL j) (row PL (j + 1)) = r := ⟨_, rfl⟩
        have hr0 := q2.out j (by rw [q1.out]; exact hlt)
        rw [hr] at hr0
        have HRR := hide hr
        have dr : decide (0 ≤ r) = false := by simp; omega
        have ej : ((j + 1 : Nat) : Int) - 1 = (j : Int) := by omega
        clear hr hr0
        obtain ⟨hpp, hpl⟩ := q3.out (row PL (j + 1)) (row_mem (by rw [q1.out]; exact hlt))
        have e5 := hi5.len
        rw [hpl] at e5
        subst e5
        have HPP := hide hpp
        have HPLN := hide hpl
        have HI5 := hide (hi5.more (unhide HB).size)
        clear hpp hpl
        go_wp2_with fail
        refine (clone_any _ _ _ _ _ _ (unhide HI5) (by omega) (Nat.le_refl _)).mono ?_
        rintro e w5 ⟨v5, rfl, o5, b5'⟩
        obtain ⟨A7, c7, e7, i7⟩ := o5.to6 HPLN.out
        subst e7
        have HI7 := hide i7
        have HB5 := hide ((unhide HB).trans (b5'.mono (unhide HB).size))
        have HI5b := hide ((unhide HI5).on b5')
        clear o5 i7 b5'
        go_wp2_with fail
        refine (IsPins_ok _ _ _ _ _ (unhide HI7) HPN true HPP).mono ?_
        rintro e w6 ⟨rfl, b6⟩
        have HB6 := hide ((unhide HB5).trans (b6.mono (unhide HB5).size))
        have HI5c := hide ((unhide HI5b).on b6)
        obtain ⟨b9, off9, A9, n9, c9, e9, hbb9, hc9, hi9⟩ := ((unhide r4).below (unhide HB6)).at_ j (by omega)
        cases e9
        have HI9c := hide (hi9.more (unhide HB6).size)
        clear hi9
        clear b6
        go_wp2_with fail
        refine (Compare_any _ _ _ _ _ _ _ _ _ _ _ (unhide HI9c) (unhide HI5c) r HRR).mono ?_
        rintro e wq ⟨rfl, rfl⟩
        go_wp2_with fail
        go_roundw
        case rel => exact ⟨j + 1 + 1, by omega, by go_num, HB6⟩
        case measure => simp [intOf]; omega
    · replace i0 := hide ((unhide i0).on (unhide HB))
      replace r4 := hide ((unhide r4).on (unhide HB))
      replace HX := hide ((unhide HX).on (unhide HB))
      replace HB := hide ((unhide HBW).trans ((unhide HB).mono (unhide HBW).size))
      have hbx := (unhide HX).cell 0
      go_wp2_with fail
      refine (list_ints _ _ _ _ _ _ (unhide i0) (Nat.le_refl _)).mono ?_
      rintro e w21 ⟨A2, n2, c2, rfl, i2, b21⟩
      replace i0 := hide ((unhide i0).on b21)
      replace r4 := hide ((unhide r4).on b21)
      replace HX := hide ((unhide HX).on b21)
      replace i2 := hide i2
      replace HB := hide ((unhide HB).trans (b21.mono (unhide HB).size))
      clear b21
      rw [TK.out] at i2
      have en2 := (unhide i2).len
      rw [hl.out] at en2
      subst en2
      go_wp2_with fail
      refine (IsPins_ok _ _ _ _ _ (unhide i2) HPN true HF).mono ?_
      rintro e w22 ⟨rfl, b22⟩
      replace i0 := hide ((unhide i0).on b22)
      replace r4 := hide ((unhide r4).on b22)
      replace HX := hide ((unhide HX).on b22)
      replace i2 := hide ((unhide i2).on b22)
      replace HB := hide ((unhide HB).trans (b22.mono (unhide HB).size))
      clear b22
      have hbx2 := (unhide HX).cell 0
      go_wp2_with fail
      refine (containsR_any _ _ _ _ _ _ _ _ _ _ _ _ hbx2 (unhide r4) (unhide i0) true HIN).mono ?_
      rintro e w23 ⟨rfl, qq23, hq23⟩
      have b23 : Below w22.heap.size w22 w23 := by rw [hq23]; exact Below.drewN' (Below.refl _ _) qq23
      clear hq23
      replace i0 := hide ((unhide i0).on b23)
      replace r4 := hide ((unhide r4).on b23)
      replace HX := hide ((unhide HX).on b23)
      replace i2 := hide ((unhide i2).on b23)
      replace HB := hide ((unhide HB).trans (b23.mono (unhide HB).size))
      clear b23
      go_wp2_with fail
      refine (Welch_yes P G hp hg he _).mono ?_
      rintro e w24 ⟨A6, n6, c6, rfl, i6, b24⟩
      replace i0 := hide ((unhide i0).on b24)
      replace r4 := hide ((unhide r4).on b24)
      replace HX := hide ((unhide HX).on b24)
      replace i2 := hide ((unhide i2).on b24)
      replace i6 := hide i6
      replace HB := hide ((unhide HB).trans (b24.mono (unhide HB).size))
      clear b24
      have en6 := (unhide i6).len
      rw [HWL.out] at en6
      subst en6
      go_wp2_with fail
      refine (clone_any _ _ _ _ _ _ (unhide i6) (by omega) (Nat.le_refl _)).mono ?_
      rintro e w25 ⟨v7, rfl, o7, b25⟩
      replace i0 := hide ((unhide i0).on b25)
      replace r4 := hide ((unhide r4).on b25)
      replace HX := hide ((unhide HX).on b25)
      replace i2 := hide ((unhide i2).on b25)
      replace i6 := hide ((unhide i6).on b25)
      replace o7 := hide o7
      replace HB := hide ((unhide HB).trans (b25.mono (unhide HB).size))
      clear b25
      obtain ⟨A7, c7, e7, i7⟩ := o7.out.to6 HWL.out
      subst e7
      clear o7
      replace i7 := hide i7
      go_wp2_with fail
      refine (IsPins_ok _ _ _ _ _ (unhide i7) HPM true HWP).mono ?_
      rintro e w26 ⟨rfl, b26⟩
      replace i0 := hide ((unhide i0).on b26)
      replace r4 := hide ((unhide r4).on b26)
      replace HX := hide ((unhide HX).on b26)
      replace i2 := hide ((unhide i2).on b26)
      replace i6 := hide ((unhide i6).on b26)
      replace i7 := hide ((unhide i7).on b26)
      replace HB := hide ((unhide HB).trans (b26.mono (unhide HB).size))
      clear b26
      go_wp2_with fail
      refine (awake_any _).mono ?_
      rintro e w27 ⟨rfl, b27⟩
      replace i0 := hide ((unhide i0).on b27)
      replace r4 := hide ((unhide r4).on b27)
      replace HX := hide ((unhide HX).on b27)
      replace i2 := hide ((unhide i2).on b27)
      replace i6 := hide ((unhide i6).on b27)
      replace i7 := hide ((unhide i7).on b27)
      replace HB := hide ((unhide HB).trans (b27.mono (unhide HB).size))
      clear b27
      go_wp2_with fail
      go_ret
      exact ⟨rfl, unhide HB⟩

set_option maxRecDepth 100000 in
set_option maxHeartbeats 2000000 in
theorem LCosts_false_no (x p g : Int) (a N : Nat) (ha : a < 6) (ea : (IntKind.u64.wrap x).tmod 6 = (a : Int)) (hNa : (1 : Int) + (a : Int) = (N : Int)) (hN : 1 ≤ N ∧ N ≤ 6) (A : Option Addr) (n c : Nat) (xs : List Int) (w : World) (i0 : Ints w w.heap.size A n c xs) (hne : n = N) (HF : Hid (pinB xs = false)) (hw : rtF p g = false) :
    Calls Try.prog 12 #[.int .i64 x, .slice A n c, .int .i64 p, .int .i64 g] w fun e w' => e = .returned (.bool true) ∧ Below w.heap.size w w' := by
  have hl := hide i0.len
  have hm := i0.most; have hcap := i0.cap
  have HPN := hide (show pcB N = true from by unfold pcB; simp <;> omega)
  obtain ⟨q1, q2, q3⟩ := pok_all hN
  have HIN := hide ((pin_iff hN (hl.out.trans hne)).trans HF.out)
  have TK := hide (show xs.take 20 = xs from List.take_of_length_le (by rw [hl.out]; omega))
  have dn : ((n : Int) == (N : Int)) = true := by simp; omega
  have hL1 : 1 ≤ pcnt N := by
    rcases (show N = 1 ∨ N = 2 ∨ N = 3 ∨ N = 4 ∨ N = 5 ∨ N = 6 by omega) with rfl | rfl | rfl | rfl | rfl | rfl <;> decide
  have hix0 := fun W => idx73 N hN W
  obtain ⟨PL, hPL⟩ : ∃ PL, pinsL N = PL := ⟨_, rfl⟩
  obtain ⟨L, hL⟩ : ∃ L, pcnt N = L := ⟨_, rfl⟩
  rw [hPL] at q1 q2 q3 HIN
  rw [hL] at q1 hL1
  simp only [hL] at hix0
  have HPL := hide hPL
  replace q1 := hide q1
  replace q2 := hide q2
  replace q3 := hide q3
  have hix := hix0
  have hLL : ((L : Int) != (L : Int)) = false := by simp
  clear hPL hL hix0
  replace hne := hne.symm
  subst hne
  have HX := hide (show Blk (w.alloc (.cells #[.slice A N c] 22)) w.heap.size 22 #[.slice A N c] from Blk.new _ _ _)
  have HB0 := hide ((Below.refl w.heap.size w).alloc (Nat.le_refl _) (.cells #[.slice A N c] 22))
  replace i0 := hide ((i0.alloc (Nat.le_refl _) (.cells #[.slice A N c] 22)).more (show w.heap.size ≤ (w.alloc (.cells #[.slice A N c] 22)).heap.size by simp))
  go_enter Try.func12, Try.ntmps12
  go_wp2_with fail
  refine (Pins_rows N hN _).mono ?_
  rintro e w1 ⟨A4, n4, c4, rfl, r4, b1⟩
  rw [HPL.out] at r4
  have e4 := r4.len
  rw [q1.out] at e4
  subst e4
  have hm4 := r4.most; have hcap4 := r4.cap
  replace r4 := hide r4
  replace i0 := hide ((unhide i0).on b1)
  replace HX := hide ((unhide HX).on b1)
  have HBW := hide ((unhide HB0).trans (b1.mono (unhide HB0).size))
  clear b1
  go_wp2_with fail
  go_loopw [11, 12, 13, 14, 42] (fun _ _ _ _ i wr => ∃ k : Nat, k ≤ L ∧ i = .int .i64 (k : Nat) ∧ Hid (Below w1.heap.size w1 wr)) (fun _ _ _ _ i _ => L - (intOf i).toNat)
  case atStart => exact ⟨0, Nat.zero_le _, rfl, hide (Below.refl _ _)⟩
  case round =>
    obtain ⟨k, hk, rfl, HB⟩ := hrel
    by_cases hlt : k < L
    · by_cases hk0 : k = 0
      · subst hk0
        obtain ⟨b5, off5, A5, n5, c5, rfl, hbb5, hc5, hi5⟩ := ((unhide r4).below (unhide HB)).at_ 0 hlt
        rw [Nat.add_zero] at hc5
        obtain ⟨hpp, hpl⟩ := q3.out (row PL 0) (row_mem (by rw [q1.out]; exact hlt))
        have e5 := hi5.len
        rw [hpl] at e5
        subst e5
        have HPP := hide hpp
        have HPLN := hide hpl
        have HI5 := hide (hi5.more (unhide HB).size)
        clear hpp hpl
        go_wp2_with fail
        refine (clone_any _ _ _ _ _ _ (unhide HI5) (by omega) (Nat.le_refl _)).mono ?_
        rintro e w5 ⟨v5, rfl, o5, b5'⟩
        obtain ⟨A7, c7, e7, i7⟩ := o5.to6 HPLN.out
        subst e7
        have HI7 := hide i7
        have HB5 := hide ((unhide HB).trans (b5'.mono (unhide HB).size))
        have HI5b := hide ((unhide HI5).on b5')
        clear o5 i7 b5'
        go_wp2_with fail
        refine (IsPins_ok _ _ _ _ _ (unhide HI7) HPN true HPP).mono ?_
        rintro e w6 ⟨rfl, b6⟩
        have HB6 := hide ((unhide HB5).trans (b6.mono (unhide HB5).size))
        have HI5c := hide ((unhide HI5b).on b6)
        clear b6
        go_wp2_with fail
        go_roundw
        case rel => exact ⟨1, by omega, by go_num, HB6⟩
        case measure => simp [intOf]; omega
      · obtain ⟨j, rfl⟩ : ∃ j, k = j + 1 := ⟨k - 1, by omega⟩
        obtain ⟨b5, off5, A5, n5, c5, rfl, hbb5, hc5, hi5⟩ := ((unhide r4).below (unhide HB)).at_ (j + 1) hlt
        obtain ⟨r, hr⟩ : ∃ r, cmpL (row PL j) (row PL (j + 1)) = r := ⟨_, rfl⟩
        have hr0 := q2.out j (by rw [q1.out]; exact hlt)
        rw [hr] at hr0
        have HRR := hide hr
        have dr : decide (0 ≤ r) = false := by simp; omega
        have ej : ((j + 1 : Nat) : Int) - 1 = (j : Int) := by omega
        clear hr hr0
        obtain ⟨hpp, hpl⟩ := q3.out (row PL (j + 1)) (row_mem (by rw [q1.out]; exact hlt))
        have e5 := hi5.len
        rw [hpl] at e5
        subst e5
        have HPP := hide hpp
        have HPLN := hide hpl
        have HI5 := hide (hi5.more (unhide HB).size)
        clear hpp hpl
        go_wp2_with fail
        refine (clone_any _ _ _ _ _ _ (unhide HI5) (by omega) (Nat.le_refl _)).mono ?_
        rintro e w5 ⟨v5, rfl, o5, b5'⟩
        obtain ⟨A7, c7, e7, i7⟩ := o5.to6 HPLN.out
        subst e7
        have HI7 := hide i7
        have HB5 := hide ((unhide HB).trans (b5'.mono (unhide HB).size))
        have HI5b := hide ((unhide HI5).on b5')
        clear o5 i7 b5'
        go_wp2_with fail
        refine (IsPins_ok _ _ _ _ _ (unhide HI7) HPN true HPP).mono ?_
        rintro e w6 ⟨rfl, b6⟩
        have HB6 := hide ((unhide HB5).trans (b6.mono (unhide HB5).size))
        have HI5c := hide ((unhide HI5b).on b6)
        obtain ⟨b9, off9, A9, n9, c9, e9, hbb9, hc9, hi9⟩ := ((unhide r4).below (unhide HB6)).at_ j (by omega)
        cases e9
        have HI9c := hide (hi9.more (unhide HB6).size)
        clear hi9
        clear b6
        go_wp2_with fail
        refine (Compare_any _ _ _ _ _ _ _ _ _ _ _ (unhide HI9c) (unhide HI5c) r HRR).mono ?_
        rintro e wq ⟨rfl, rfl⟩
        go_wp2_with fail
        go_roundw
        case rel => exact ⟨j + 1 + 1, by omega, by go_num, HB6⟩
        case measure => simp [intOf]; omega
    · replace i0 := hide ((unhide i0).on (unhide HB))
      replace r4 := hide ((unhide r4).on (unhide HB))
      replace HX := hide ((unhide HX).on (unhide HB))
      replace HB := hide ((unhide HBW).trans ((unhide HB).mono (unhide HBW).size))
      have hbx := (unhide HX).cell 0
      go_wp2_with fail
      refine (list_ints _ _ _ _ _ _ (unhide i0) (Nat.le_refl _)).mono ?_
      rintro e w21 ⟨A2, n2, c2, rfl, i2, b21⟩
      replace i0 := hide ((unhide i0).on b21)
      replace r4 := hide ((unhide r4).on b21)
      replace HX := hide ((unhide HX).on b21)
      replace i2 := hide i2
      replace HB := hide ((unhide HB).trans (b21.mono (unhide HB).size))
      clear b21
      rw [TK.out] at i2
      have en2 := (unhide i2).len
      rw [hl.out] at en2
      subst en2
      go_wp2_with fail
      refine (IsPins_ok _ _ _ _ _ (unhide i2) HPN false HF).mono ?_
      rintro e w22 ⟨rfl, b22⟩
      replace i0 := hide ((unhide i0).on b22)
      replace r4 := hide ((unhide r4).on b22)
      replace HX := hide ((unhide HX).on b22)
      replace i2 := hide ((unhide i2).on b22)
      replace HB := hide ((unhide HB).trans (b22.mono (unhide HB).size))
      clear b22
      have hbx2 := (unhide HX).cell 0
      go_wp2_with fail
      refine (containsR_any _ _ _ _ _ _ _ _ _ _ _ _ hbx2 (unhide r4) (unhide i0) false HIN).mono ?_
      rintro e w23 ⟨rfl, qq23, hq23⟩
      have b23 : Below w22.heap.size w22 w23 := by rw [hq23]; exact Below.drewN' (Below.refl _ _) qq23
      clear hq23
      replace i0 := hide ((unhide i0).on b23)
      replace r4 := hide ((unhide r4).on b23)
      replace HX := hide ((unhide HX).on b23)
      replace i2 := hide ((unhide i2).on b23)
      replace HB := hide ((unhide HB).trans (b23.mono (unhide HB).size))
      clear b23
      go_wp2_with fail
      refine (Welch_no p g hw _).mono ?_
      rintro e w24 ⟨rfl, b24⟩
      replace i0 := hide ((unhide i0).on b24)
      replace r4 := hide ((unhide r4).on b24)
      replace HX := hide ((unhide HX).on b24)
      replace i2 := hide ((unhide i2).on b24)
      replace HB := hide ((unhide HB).trans (b24.mono (unhide HB).size))
      clear b24
      go_wp2_with fail
      refine (awake_any _).mono ?_
      rintro e w25 ⟨rfl, b25⟩
      replace i0 := hide ((unhide i0).on b25)
      replace r4 := hide ((unhide r4).on b25)
      replace HX := hide ((unhide HX).on b25)
      replace i2 := hide ((unhide i2).on b25)
      replace HB := hide ((unhide HB).trans (b25.mono (unhide HB).size))
      clear b25
      go_wp2_with fail
      go_ret
      exact ⟨rfl, unhide HB⟩

set_option maxRecDepth 100000 in
set_option maxHeartbeats 2000000 in
theorem LCosts_false_yes (x : Int) (P G : Nat) (a N : Nat) (ha : a < 6) (ea : (IntKind.u64.wrap x).tmod 6 = (a : Int)) (hNa : (1 : Int) + (a : Int) = (N : Int)) (hN : 1 ≤ N ∧ N ≤ 6) (A : Option Addr) (n c : Nat) (xs : List Int) (w : World) (i0 : Ints w w.heap.size A n c xs) (hne : n = N) (HF : Hid (pinB xs = false)) (hp : Hid (prI (P : Int) = true)) (hg : 1 ≤ G ∧ G < P) (he : Hid (eoB (wlL P G) = true)) :
    Calls Try.prog 12 #[.int .i64 x, .slice A n c, .int .i64 P, .int .i64 G] w fun e w' => e = .returned (.bool true) ∧ Below w.heap.size w w' := by
  have hl := hide i0.len
  have hm := i0.most; have hcap := i0.cap
  have HPN := hide (show pcB N = true from by unfold pcB; simp <;> omega)
  obtain ⟨q1, q2, q3⟩ := pok_all hN
  have HIN := hide ((pin_iff hN (hl.out.trans hne)).trans HF.out)
  have TK := hide (show xs.take 20 = xs from List.take_of_length_le (by rw [hl.out]; omega))
  have dn : ((n : Int) == (N : Int)) = true := by simp; omega
  have hL1 : 1 ≤ pcnt N := by
    rcases (show N = 1 ∨ N = 2 ∨ N = 3 ∨ N = 4 ∨ N = 5 ∨ N = 6 by omega) with rfl | rfl | rfl | rfl | rfl | rfl <;> decide
  have hix0 := fun W => idx73 N hN W
  obtain ⟨PL, hPL⟩ : ∃ PL, pinsL N = PL := ⟨_, rfl⟩
  obtain ⟨L, hL⟩ : ∃ L, pcnt N = L := ⟨_, rfl⟩
  rw [hPL] at q1 q2 q3 HIN
  rw [hL] at q1 hL1
  simp only [hL] at hix0
  have HPL := hide hPL
  replace q1 := hide q1
  replace q2 := hide q2
  replace q3 := hide q3
  have hix := hix0
  have hLL : ((L : Int) != (L : Int)) = false := by simp
  clear hPL hL hix0
  have hwl := wl_pins hp.out hg he.out
  have HWP := hide hwl.1
  have hp7 : 2 ≤ P ∧ P ≤ 7 := by have := pr_cases hp.out; omega
  obtain ⟨M, hM⟩ : ∃ M, P - 1 = M := ⟨_, rfl⟩
  have HWL := hide (hwl.2.trans hM)
  have hPM : (P : Int) - 1 = (M : Int) := by omega
  have HPM := hide (show pcB M = true from by unfold pcB; simp <;> omega)
  have hM6 : M ≤ 6 := by omega
  clear hwl hM
  replace hne := hne.symm
  subst hne
  have HX := hide (show Blk (w.alloc (.cells #[.slice A N c] 22)) w.heap.size 22 #[.slice A N c] from Blk.new _ _ _)
  have HB0 := hide ((Below.refl w.heap.size w).alloc (Nat.le_refl _) (.cells #[.slice A N c] 22))
  replace i0 := hide ((i0.alloc (Nat.le_refl _) (.cells #[.slice A N c] 22)).more (show w.heap.size ≤ (w.alloc (.cells #[.slice A N c] 22)).heap.size by simp))
  go_enter Try.func12, Try.ntmps12
  go_wp2_with fail
  refine (Pins_rows N hN _).mono ?_
  rintro e w1 ⟨A4, n4, c4, rfl, r4, b1⟩
  rw [HPL.out] at r4
  have e4 := r4.len
  rw [q1.out] at e4
  subst e4
  have hm4 := r4.most; have hcap4 := r4.cap
  replace r4 := hide r4
  replace i0 := hide ((unhide i0).on b1)
  replace HX := hide ((unhide HX).on b1)
  have HBW := hide ((unhide HB0).trans (b1.mono (unhide HB0).size))
  clear b1
  go_wp2_with fail
  go_loopw [11, 12, 13, 14, 42] (fun _ _ _ _ i wr => ∃ k : Nat, k ≤ L ∧ i = .int .i64 (k : Nat) ∧ Hid (Below w1.heap.size w1 wr)) (fun _ _ _ _ i _ => L - (intOf i).toNat)
  case atStart => exact ⟨0, Nat.zero_le _, rfl, hide (Below.refl _ _)⟩
  case round =>
    obtain ⟨k, hk, rfl, HB⟩ := hrel
    by_cases hlt : k < L
    · by_cases hk0 : k = 0
      · subst hk0
        obtain ⟨b5, off5, A5, n5, c5, rfl, hbb5, hc5, hi5⟩ := ((unhide r4).below (unhide HB)).at_ 0 hlt
        rw [Nat.add_zero] at hc5
        obtain ⟨hpp, hpl⟩ := q3.out (row PL 0) (row_mem (by rw [q1.out]; exact hlt))
        have e5 := hi5.len
        rw [hpl] at e5
        subst e5
        have HPP := hide hpp
        have HPLN := hide hpl
        have HI5 := hide (hi5.more (unhide HB).size)
        clear hpp hpl
        go_wp2_with fail
        refine (clone_any _ _ _ _ _ _ (unhide HI5) (by omega) (Nat.le_refl _)).mono ?_
        rintro e w5 ⟨v5, rfl, o5, b5'⟩
        obtain ⟨A7, c7, e7, i7⟩ := o5.to6 HPLN.out
        subst e7
        have HI7 := hide i7
        have HB5 := hide ((unhide HB).trans (b5'.mono (unhide HB).size))
        have HI5b := hide ((unhide HI5).on b5')
        clear o5 i7 b5'
        go_wp2_with fail
        refine (IsPins_ok _ _ _ _ _ (unhide HI7) HPN true HPP).mono ?_
        rintro e w6 ⟨rfl, b6⟩
        have HB6 := hide ((unhide HB5).trans (b6.mono (unhide HB5).size))
        have HI5c := hide ((unhide HI5b).on b6)
        clear b6
        go_wp2_with fail
        go_roundw
        case rel => exact ⟨1, by omega, by go_num, HB6⟩
        case measure => simp [intOf]; omega
      · obtain ⟨j, rfl⟩ : ∃ j, k = j + 1 := ⟨k - 1, by omega⟩
        obtain ⟨b5, off5, A5, n5, c5, rfl, hbb5, hc5, hi5⟩ := ((unhide r4).below (unhide HB)).at_ (j + 1) hlt
        obtain ⟨r, hr⟩ : ∃ r, cmpL (row PL j) (row PL (j + 1)) = r := ⟨_, rfl⟩
        have hr0 := q2.out j (by rw [q1.out]; exact hlt)
        rw [hr] at hr0
        have HRR := hide hr
        have dr : decide (0 ≤ r) = false := by simp; omega
        have ej : ((j + 1 : Nat) : Int) - 1 = (j : Int) := by omega
        clear hr hr0
        obtain ⟨hpp, hpl⟩ := q3.out (row PL (j + 1)) (row_mem (by rw [q1.out]; exact hlt))
        have e5 := hi5.len
        rw [hpl] at e5
        subst e5
        have HPP := hide hpp
        have HPLN := hide hpl
        have HI5 := hide (hi5.more (unhide HB).size)
        clear hpp hpl
        go_wp2_with fail
        refine (clone_any _ _ _ _ _ _ (unhide HI5) (by omega) (Nat.le_refl _)).mono ?_
        rintro e w5 ⟨v5, rfl, o5, b5'⟩
        obtain ⟨A7, c7, e7, i7⟩ := o5.to6 HPLN.out
        subst e7
        have HI7 := hide i7
        have HB5 := hide ((unhide HB).trans (b5'.mono (unhide HB).size))
        have HI5b := hide ((unhide HI5).on b5')
        clear o5 i7 b5'
        go_wp2_with fail
        refine (IsPins_ok _ _ _ _ _ (unhide HI7) HPN true HPP).mono ?_
        rintro e w6 ⟨rfl, b6⟩
        have HB6 := hide ((unhide HB5).trans (b6.mono (unhide HB5).size))
        have HI5c := hide ((unhide HI5b).on b6)
        obtain ⟨b9, off9, A9, n9, c9, e9, hbb9, hc9, hi9⟩ := ((unhide r4).below (unhide HB6)).at_ j (by omega)
        cases e9
        have HI9c := hide (hi9.more (unhide HB6).size)
        clear hi9
        clear b6
        go_wp2_with fail
        refine (Compare_any _ _ _ _ _ _ _ _ _ _ _ (unhide HI9c) (unhide HI5c) r HRR).mono ?_
        rintro e wq ⟨rfl, rfl⟩
        go_wp2_with fail
        go_roundw
        case rel => exact ⟨j + 1 + 1, by omega, by go_num, HB6⟩
        case measure => simp [intOf]; omega
    · replace i0 := hide ((unhide i0).on (unhide HB))
      replace r4 := hide ((unhide r4).on (unhide HB))
      replace HX := hide ((unhide HX).on (unhide HB))
      replace HB := hide ((unhide HBW).trans ((unhide HB).mono (unhide HBW).size))
      have hbx := (unhide HX).cell 0
      go_wp2_with fail
      refine (list_ints _ _ _ _ _ _ (unhide i0) (Nat.le_refl _)).mono ?_
      rintro e w21 ⟨A2, n2, c2, rfl, i2, b21⟩
      replace i0 := hide ((unhide i0).on b21)
      replace r4 := hide ((unhide r4).on b21)
      replace HX := hide ((unhide HX).on b21)
      replace i2 := hide i2
      replace HB := hide ((unhide HB).trans (b21.mono (unhide HB).size))
      clear b21
      rw [TK.out] at i2
      have en2 := (unhide i2).len
      rw [hl.out] at en2
      subst en2
      go_wp2_with fail
      refine (IsPins_ok _ _ _ _ _ (unhide i2) HPN false HF).mono ?_
      rintro e w22 ⟨rfl, b22⟩
      replace i0 := hide ((unhide i0).on b22)
      replace r4 := hide ((unhide r4).on b22)
      replace HX := hide ((unhide HX).on b22)
      replace i2 := hide ((unhide i2).on b22)
      replace HB := hide ((unhide HB).trans (b22.mono (unhide HB).size))
      clear b22
      have hbx2 := (unhide HX).cell 0
      go_wp2_with fail
      refine (containsR_any _ _ _ _ _ _ _ _ _ _ _ _ hbx2 (unhide r4) (unhide i0) false HIN).mono ?_
      rintro e w23 ⟨rfl, qq23, hq23⟩
      have b23 : Below w22.heap.size w22 w23 := by rw [hq23]; exact Below.drewN' (Below.refl _ _) qq23
      clear hq23
      replace i0 := hide ((unhide i0).on b23)
      replace r4 := hide ((unhide r4).on b23)
      replace HX := hide ((unhide HX).on b23)
      replace i2 := hide ((unhide i2).on b23)
      replace HB := hide ((unhide HB).trans (b23.mono (unhide HB).size))
      clear b23
      go_wp2_with fail
      refine (Welch_yes P G hp hg he _).mono ?_
      rintro e w24 ⟨A6, n6, c6, rfl, i6, b24⟩
      replace i0 := hide ((unhide i0).on b24)
      replace r4 := hide ((unhide r4).on b24)
      replace HX := hide ((unhide HX).on b24)
      replace i2 := hide ((unhide i2).on b24)
      replace i6 := hide i6
      replace HB := hide ((unhide HB).trans (b24.mono (unhide HB).size))
      clear b24
      have en6 := (unhide i6).len
      rw [HWL.out] at en6
      subst en6
      go_wp2_with fail
      refine (clone_any _ _ _ _ _ _ (unhide i6) (by omega) (Nat.le_refl _)).mono ?_
      rintro e w25 ⟨v7, rfl, o7, b25⟩
      replace i0 := hide ((unhide i0).on b25)
      replace r4 := hide ((unhide r4).on b25)
      replace HX := hide ((unhide HX).on b25)
      replace i2 := hide ((unhide i2).on b25)
      replace i6 := hide ((unhide i6).on b25)
      replace o7 := hide o7
      replace HB := hide ((unhide HB).trans (b25.mono (unhide HB).size))
      clear b25
      obtain ⟨A7, c7, e7, i7⟩ := o7.out.to6 HWL.out
      subst e7
      clear o7
      replace i7 := hide i7
      go_wp2_with fail
      refine (IsPins_ok _ _ _ _ _ (unhide i7) HPM true HWP).mono ?_
      rintro e w26 ⟨rfl, b26⟩
      replace i0 := hide ((unhide i0).on b26)
      replace r4 := hide ((unhide r4).on b26)
      replace HX := hide ((unhide HX).on b26)
      replace i2 := hide ((unhide i2).on b26)
      replace i6 := hide ((unhide i6).on b26)
      replace i7 := hide ((unhide i7).on b26)
      replace HB := hide ((unhide HB).trans (b26.mono (unhide HB).size))
      clear b26
      go_wp2_with fail
      refine (awake_any _).mono ?_
      rintro e w27 ⟨rfl, b27⟩
      replace i0 := hide ((unhide i0).on b27)
      replace r4 := hide ((unhide r4).on b27)
      replace HX := hide ((unhide HX).on b27)
      replace i2 := hide ((unhide i2).on b27)
      replace i6 := hide ((unhide i6).on b27)
      replace i7 := hide ((unhide i7).on b27)
      replace HB := hide ((unhide HB).trans (b27.mono (unhide HB).size))
      clear b27
      go_wp2_with fail
      go_ret
      exact ⟨rfl, unhide HB⟩

theorem LCosts_any (x p g : Int) {A : Option Addr} {n c : Nat} {xs : List Int} {w : World} (i0 : Ints w w.heap.size A n c xs) :
    Calls Try.prog 12 #[.int .i64 x, .slice A n c, .int .i64 p, .int .i64 g] w fun e w' => e = .returned (.bool true) ∧ Below w.heap.size w w' := by
  obtain ⟨a, ha, ea⟩ := u64_mod x 6 (by omega)
  obtain ⟨N, hNa⟩ : ∃ N : Nat, (1 : Int) + (a : Int) = (N : Int) := ⟨a + 1, by omega⟩
  have hN : 1 ≤ N ∧ N ≤ 6 := by omega
  cases h : rtF p g with
  | false =>
    by_cases hne : n = N
    · cases hf : pinB xs with
      | true => exact LCosts_true_no x p g a N ha ea hNa hN A n c xs w i0 hne (hide hf) h
      | false => exact LCosts_false_no x p g a N ha ea hNa hN A n c xs w i0 hne (hide hf) h
    · exact LCosts_other_no x p g a N ha ea hNa hN A n c xs w i0 hne h
  | true =>
    obtain ⟨P, G, rfl, rfl, h1, h2, h3⟩ := rt_parts h
    by_cases hne : n = N
    · cases hf : pinB xs with
      | true => exact LCosts_true_yes x P G a N ha ea hNa hN A n c xs w i0 hne (hide hf) (hide h1) h2 (hide h3)
      | false => exact LCosts_false_yes x P G a N ha ea hNa hN A n c xs w i0 hne (hide hf) (hide h1) h2 (hide h3)
    · exact LCosts_other_yes x P G a N ha ea hNa hN A n c xs w i0 hne (hide h1) h2 (hide h3)
end Go.Proofs.Ytmgoonoifgcmnaa
