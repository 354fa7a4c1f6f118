/-
  Multipliers of the reference.
-/
import Derived.Test.YtccfhcoioakmpaaR1
import Derived.Deep.DeepCutAuto
import Derived.Deep.RegionHeld3
namespace Go.Proofs.Ytccfhcoioakmpaa
open Go.RowKit

theorem isFr_no {u v : Int} (h : v < 1 ∨ 100 < v ∨ u < 0 ∨ 100 * v < u) : isFr 0 100 100 (u, v) = false := by
  rw [Bool.eq_false_iff]; intro hc
  obtain ⟨h1, h2, _⟩ := (isFr_iff _ _ _ _).1 hc
  simp only at h1 h2
  omega
theorem isFr_same {u v : Int} (h1 : 1 ≤ v) (h2 : v ≤ 100) (h3 : 0 ≤ u) (h4 : u ≤ 100 * v) : isFr 0 100 100 (u, v) = decide (((frN u v, frD u v) : F) = (u, v)) := by
  by_cases hg : Nat.gcd u.natAbs v.natAbs = 1
  · have e1 : isFr 0 100 100 (u, v) = true := (isFr_iff _ _ _ _).2 ⟨⟨h1, h2⟩, ⟨by simp only; omega, h4⟩, hg⟩
    rw [e1]; simp [frN, frD, frG, hg]
  · have e1 : isFr 0 100 100 (u, v) = false := by
      rw [Bool.eq_false_iff]; intro hc; exact hg ((isFr_iff _ _ _ _).1 hc).2.2
    have e2 : ¬ frD u v = v := by
      intro he
      unfold frD at he
      have hp : 0 < frG u v := Nat.gcd_pos_of_pos_right _ (by omega)
      have hd : (frG u v : Int) ∣ v := Int.ofNat_dvd_left.2 (Nat.gcd_dvd_right _ _)
      obtain ⟨k, hk⟩ := hd
      have hne : frG u v ≠ 1 := hg
      revert hk he hp hne
      obtain ⟨g, hge⟩ : ∃ g, frG u v = g := ⟨_, rfl⟩
      rw [hge]
      intro he hp hk hne
      have h5 : v.tdiv (g : Int) = k := by rw [hk]; exact Int.mul_tdiv_cancel_left _ (by omega)
      rw [h5] at he
      have : (2 : Int) ≤ (g : Int) := by omega
      have hv : (2 : Int) * k ≤ (g : Int) * k := Int.mul_le_mul_of_nonneg_right this (by omega)
      omega
    rw [e1]; simp [e2]

set_option maxRecDepth 4000 in
set_option maxHeartbeats 3200000 in
theorem RMult_any (A : Option Addr) (n c : Nat) (fs : List F) (m : Int) (w : World) (h : Fs w w.heap.size A n c fs) (b : Bool) (hb : Hid ((decide ((fs.length : Int) = m) && mulOk fs) = b)) :
    Calls Try.prog 36 #[.slice A n c, .int .i64 m] w fun e w' => e = .returned (.bool b) ∧ Below w.heap.size w w' := by
  have hm := h.most; have hcap := h.cap
  have hl := hide h.len
  have H := hide h; clear h
  go_enter Try.func36, Try.ntmps36
  go_wp2_with fail
  go_loopw [9] (fun i wr => ∃ k : Nat, k ≤ n ∧ i = .int .i64 k ∧ Hid ((fs.take k).all (isFr 0 100 100) = true) ∧ Below w.heap.size w wr) (fun i _ => n - (intOf i).toNat)
  case atStart => exact ⟨0, Nat.zero_le _, rfl, (by simp [Hid]), Below.refl _ _⟩
  case round =>
    obtain ⟨k, hk, rfl, HL, hbl⟩ := hrel
    have HB := hide hbl; clear hbl
    by_cases hlt : k < n
    · have hkl : k < fs.length := by rw [hl.out]; exact hlt
      obtain ⟨b1, off, rfl, hbb, e1, e2⟩ := ((unhide H).below (unhide HB)).at_ k hlt
      have hst := hide (fall_take (p := isFr 0 100 100) fs k hkl)
      have hno := hide (fun hp => fall_no (p := isFr 0 100 100) hkl hp)
      revert hst hno
      obtain ⟨⟨u, v⟩, hgk⟩ : ∃ f, fth fs k = f := ⟨_, rfl⟩
      rw [hgk] at e1 e2 ⊢
      clear hgk
      simp only at e1 e2 ⊢
      intro hst hno
      have hbs := (unhide HB).size
      have HB1 := hide ((unhide HB).alloc hbs (.cells #[.int .i64 u, .int .i64 v] 37))
      have HF := hide (fun (hq : isFr 0 100 100 (u, v) = false) => show false = b from by rw [← hb.out, mulOk, hno.out hq, Bool.and_false])
      have HBd := hide (show ∀ q, Below w.heap.size w ((wr.alloc (.cells #[.int .i64 u, .int .i64 v] 37)).drewN q) from fun q => ⟨(unhide HB1).os, (unhide HB1).tape, (unhide HB1).output, (unhide HB1).size, (unhide HB1).block⟩)
      by_cases h1 : v < 1
      · have HF1 := hide (HF.out (isFr_no (.inl h1)))
        have d1 : decide (v < 1) = true := by simp [h1]
        go_wp2_with fail
        go_big_quiet (fail)
        go_wp2_with fail
        go_ret
        exact ⟨ret_bool HF1.out, (unhide HBd) _⟩
      have d1 : decide (v < 1) = false := by simp; omega
      by_cases h2 : 100 < v
      · have HF1 := hide (HF.out (isFr_no (.inr (.inl h2))))
        have d2 : decide (100 < v) = true := by simp [h2]
        go_wp2_with fail
        go_big_quiet (fail)
        go_wp2_with fail
        go_ret
        exact ⟨ret_bool HF1.out, (unhide HBd) _⟩
      have d2 : decide (100 < v) = false := by simp; omega
      by_cases h3 : u < 0
      · have HF1 := hide (HF.out (isFr_no (.inr (.inr (.inl h3)))))
        have d3 : decide (u < 0) = true := by simp [h3]
        go_wp2_with fail
        go_big_quiet (fail)
        go_wp2_with fail
        go_ret
        exact ⟨ret_bool HF1.out, (unhide HBd) _⟩
      have d3 : decide (u < 0) = false := by simp; omega
      by_cases h4 : 100 * v < u
      · have HF1 := hide (HF.out (isFr_no (.inr (.inr (.inr h4)))))
        have d4 : decide (100 * v < u) = true := by simp [h4]
        go_wp2_with fail
        go_big_quiet (fail)
        go_wp2_with fail
        go_ret
        exact ⟨ret_bool HF1.out, (unhide HBd) _⟩
      have d4 : decide (100 * v < u) = false := by simp; omega
      have hsm := hide (isFr_same (u := u) (v := v) (by omega) (by omega) (by omega) (by omega))
      obtain ⟨p, hp⟩ : ∃ p, frN u v = p := ⟨_, rfl⟩
      obtain ⟨q, hq⟩ : ∃ q, frD u v = q := ⟨_, rfl⟩
      rw [hp, hq] at hsm
      have HP := hide hp; have HQ := hide hq
      clear hp hq
      have h1' : 1 ≤ v := by omega
      have h2' : v ≤ 100 := by omega
      have h3' : 0 ≤ u := by omega
      have h4' : u ≤ 100 * v := by omega
      have hne := neq37 p q u v
      have wv : IntKind.i64.wrap (100 * v) = 100 * v := IntWalk.i64_in _ (by omega)
      have d5 : decide (IntKind.i64.wrap (100 * v) < u) = false := by rw [wv]; exact d4
      obtain ⟨W1, hW1⟩ : ∃ W1, W1 = wr.alloc (.cells #[.int .i64 u, .int .i64 v] 37) := ⟨_, rfl⟩
      have HZ1 := hide (show W1.drew.heap[wr.heap.size]? = some (.cells #[.int .i64 u, .int .i64 v] 37 (0, 0)) from by rw [hW1]; exact heap_new_ wr _)
      obtain ⟨y0, y1⟩ := two_at (unhide HZ1)
      have y0' : W1.cell? ⟨wr.heap.size, 0, none⟩ = some (.int .i64 u) := y0
      have y1' : W1.cell? ⟨wr.heap.size, 1, none⟩ = some (.int .i64 v) := y1
      have HBW := hide (show Below w.heap.size w W1.drew from by rw [hW1]; exact (unhide HB1).drew)
      clear HB1 HBd
      have HB1 := hide (show Below w.heap.size w W1.drew from unhide HBW)
      rcases hd : decide (((p, q) : F) = (u, v))
      · have HF1 := hide (HF.out (hsm.out.trans hd))
        rw [hd] at hne
        clear hd
        go_wp2_with fail
        rw [← hW1]
        clear hW1
        go_region_held3 (fun W => W.cell? ⟨wr.heap.size, 0, none⟩ = some (.int .i64 u) ∧ W.cell? ⟨wr.heap.size, 1, none⟩ = some (.int .i64 v)) (first | exact ⟨y0, y1⟩ | exact ⟨z0, z1⟩) ((go_at_call 53; refine (RFrac_any u v W1.drew (by omega) (by omega) p q HP HQ).mono ?_; rintro e w2 ⟨rfl, b2⟩; have HZ2 := hide ((b2.block _ (Array.getElem?_eq_some_iff.1 (unhide HZ1)).1).trans (unhide HZ1)); obtain ⟨z0, z1⟩ := two_at (unhide HZ2); have HB2 := hide ((unhide HBW).trans (b2.mono (unhide HBW).size)); have HB2' := hide ((unhide HB1).trans (b2.mono (unhide HB1).size)); clear b2))
        all_goals (go_wp2_with fail; go_ret; exact ⟨ret_bool HF1.out, unhide HB2⟩)
      · have HL2 := hide (show (fs.take (k + 1)).all (isFr 0 100 100) = true from by rw [hst.out, HL.out, hsm.out, hd]; rfl)
        rw [hd] at hne
        clear hd
        go_wp2_with fail
        rw [← hW1]
        clear hW1
        go_region_held3 (fun W => W.cell? ⟨wr.heap.size, 0, none⟩ = some (.int .i64 u) ∧ W.cell? ⟨wr.heap.size, 1, none⟩ = some (.int .i64 v)) (first | exact ⟨y0, y1⟩ | exact ⟨z0, z1⟩) ((go_at_call 53; refine (RFrac_any u v W1.drew (by omega) (by omega) p q HP HQ).mono ?_; rintro e w2 ⟨rfl, b2⟩; have HZ2 := hide ((b2.block _ (Array.getElem?_eq_some_iff.1 (unhide HZ1)).1).trans (unhide HZ1)); obtain ⟨z0, z1⟩ := two_at (unhide HZ2); have HB2 := hide ((unhide HBW).trans (b2.mono (unhide HBW).size)); have HB2' := hide ((unhide HB1).trans (b2.mono (unhide HB1).size)); clear b2))
        all_goals (go_wp2_with fail; go_roundw
                   case rel => exact ⟨k + 1, by omega, by go_num, HL2, unhide HB2⟩
                   case measure => simp [intOf]; omega)
    · obtain rfl : k = n := by omega
      have HF := hide (show b = decide ((k : Int) = m) from by
        have h1 := HL.out
        rw [List.take_of_length_le (by rw [hl.out]; exact Nat.le_refl _)] at h1
        rw [← hb.out, mulOk, h1, hl.out, Bool.and_true])
      go_wp2_with fail
      go_ret
      exact ⟨(by rw [HF.out]; rfl), unhide HB⟩
end Go.Proofs.Ytccfhcoioakmpaa
