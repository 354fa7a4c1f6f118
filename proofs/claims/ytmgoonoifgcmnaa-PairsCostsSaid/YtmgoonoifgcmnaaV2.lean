/-
  Powers, Root, Welch of the reference; the law PairsWelch.
-/
import Derived.Test.YtmgoonoifgcmnaaV1
namespace Go.Proofs.Ytmgoonoifgcmnaa
open Go.RowKit

set_option maxRecDepth 100000 in
set_option maxHeartbeats 1000000 in
theorem powers_any (p g : Nat) (hp7 : 2 ≤ p ∧ p ≤ 7) (hg : 1 ≤ g ∧ g < p) (w : World) :
    Calls Try.prog 82 #[.int .i64 p, .int .i64 g] w fun e w' => ∃ A n c, e = .returned (.slice A n c) ∧ Ints w' w'.heap.size A n c (pwL p g) ∧ Below w.heap.size w w' := by
  obtain ⟨m, hm⟩ : ∃ m, p - 1 = m := ⟨_, rfl⟩
  have hm2 : (p : Int) - 1 = (m : Int) := by omega
  have hmb : 1 ≤ m ∧ m ≤ 6 := by omega
  obtain ⟨F, hF⟩ : ∃ F : Nat → Int, F = fun j => ((pw p g (j + 1) : Nat) : Int) := ⟨_, rfl⟩
  have HE := hide (show pwL p g = fT F m from by unfold pwL; rw [hm, hF])
  have HFF := hide hF
  obtain ⟨g1, g2⟩ := hg
  clear hm hF
  go_enter Try.func82, Try.ntmps82
  go_wp2_with fail
  go_loopw [5, 6, 9] (fun v x i wr => ∃ k : Nat, k ≤ m ∧ i = .int .i64 (k : Nat) ∧ x = .int .i64 (pw p g k : Nat) ∧ Hid (Owned wr w.heap.size v (fT F k)) ∧ Hid (Below w.heap.size w wr)) (fun _ _ i _ => m - (intOf i).toNat)
  case atStart => exact ⟨0, Nat.zero_le _, rfl, rfl, hide (World.ownsRow_nil _ _ _ _), hide (Below.refl _ _)⟩
  case round =>
    obtain ⟨k, hk, rfl, rfl, HO, HB⟩ := hrel
    by_cases hlt : k < m
    · have HFk := hide (show F k = ((pw p g (k + 1) : Nat) : Int) from by rw [HFF.out])
      have hx := pw_lt (g := g) hp7.1 k
      have hz := pw_lt (g := g) hp7.1 (k + 1)
      have hxg : pw p g k * g ≤ 7 * 7 := Nat.mul_le_mul (by omega) (by omega)
      have ew : IntKind.i64.wrap (((pw p g k : Nat) : Int) * (g : Int)) = ((pw p g k * g : Nat) : Int) := by
        rw [← Int.natCast_mul]; simp [IntKind.wrap, IntKind.signed, IntKind.bits]; omega
      have e2 : ((pw p g k * g : Nat) : Int).tmod (p : Int) = ((pw p g (k + 1) : Nat) : Int) := by
        rw [Int.tmod_eq_emod_of_nonneg (by omega)]; simp [pw]
      have hpl : (fT F k).length ≤ 100000 := by rw [fT_len]; omega
      have hbase := (unhide HB).size
      revert HFk hx hz hxg ew e2
      obtain ⟨x, hxd⟩ : ∃ x, pw p g k = x := ⟨_, rfl⟩
      obtain ⟨z, hzd⟩ : ∃ z, pw p g (k + 1) = z := ⟨_, rfl⟩
      rw [hxd, hzd]
      have HZD := hide hzd
      clear hxd hzd
      obtain ⟨y, hy⟩ : ∃ y, x * g = y := ⟨_, rfl⟩
      rw [hy]
      clear hy
      intro HFk hx hz hxg ew e2
      go_wp2_with (at_builtin; refine wpList_app1 rfl _ _ rfl rfl rfl (unhide HO) hpl hbase ?_; intro v' w3 ho3 hb3)
      go_roundw
      case rel => exact ⟨k + 1, by omega, by go_num, by rw [HZD.out], hide (by rw [fT_succ, HFk.out]; exact ho3), hide ((unhide HB).trans hb3)⟩
      case measure => simp [intOf]; omega
    · have HL := hide (show fT F k = pwL p g from by rw [HE.out, show m = k by omega])
      have ho := unhide HO
      rw [HL.out] at ho
      obtain ⟨A', c', rfl, hi⟩ := ho.ints
      have HI := hide hi
      clear ho hi
      go_wp2_with fail
      go_ret
      exact ⟨A', _, c', rfl, unhide HI, unhide HB⟩
theorem pwL_len (p g : Nat) : (pwL p g).length = p - 1 := by simp [pwL, fT]
theorem pwL_at {p g k : Nat} (h : k < p - 1) : nth (pwL p g) k = (pw p g (k + 1) : Nat) := by simp [pwL, fT, nth, List.getD, h]

set_option maxRecDepth 100000 in
set_option maxHeartbeats 1000000 in
theorem Root_in (p g : Nat) (hp : Hid (prI (p : Int) = true)) (hg : 1 ≤ g ∧ g < p) (w : World) (b : Bool) (hb : Hid (rtT p g (p - 1) = b)) :
    Calls Try.prog 37 #[.int .i64 p, .int .i64 g] w fun e w' => e = .returned (.bool b) ∧ Below w.heap.size w w' := by
  rw [← hb.out]
  have hp7 : 2 ≤ p ∧ p ≤ 7 := by have := pr_cases hp.out; omega
  obtain ⟨m, hm⟩ : ∃ m, p - 1 = m := ⟨_, rfl⟩
  have hmb : 1 ≤ m ∧ m ≤ 6 := by omega
  have hpm : p = m + 1 := by omega
  have HPM := hide hpm
  have HM := hide hm
  obtain ⟨g1, g2⟩ := hg
  rw [hm]
  clear hm hpm
  have main : ∀ dd : Unit, Calls Try.prog 37 #[.int .i64 p, .int .i64 g] w fun e w' => e = .returned (.bool (rtT p g m)) ∧ Below w.heap.size w w' := by
    intro _
    have d : (p != 2 && p != 3 && p != 5 && p != 7) = false := by
      have := pr_cases hp.out
      simp; omega
    rcases (show p = 2 ∨ p = 3 ∨ p = 5 ∨ p = 7 by have := pr_cases hp.out; omega) with rfl | rfl | rfl | rfl
    all_goals
      clear d
      go_enter Try.func37, Try.ntmps37
      go_wp2_with fail
      go_loopw [5] (fun i wr => ∃ k : Nat, k ≤ m ∧ i = .int .i64 ((k : Int) + 1) ∧ Hid (rtT _ g k = true) ∧ Hid (Below w.heap.size w wr)) (fun i _ => (m + 1 - intOf i).toNat)
      case atStart => exact ⟨0, Nat.zero_le _, rfl, hide rfl, hide (Below.refl _ _)⟩
      case round =>
        obtain ⟨k, hk, rfl, HA, HB⟩ := hrel
        have hmp := HPM.out
        by_cases hlt : k < m
        · go_wp2_with fail
          refine (powers_any _ g hp7 ⟨g1, g2⟩ _).mono ?_
          rintro e w1 ⟨A1, n1, c1, rfl, hi1, hb1⟩
          have hn1 : n1 ≤ 100000 := by rw [← hi1.len, pwL_len]; omega
          go_wp2_with fail
          refine (rplaces_ints _ _ _ _ ((k : Int) + 1) _ hi1 hn1).mono ?_
          rintro e w2 ⟨A2, n2, c2, rfl, hi2, hb2⟩
          have hm2 := hi2.most; have hc2 := hi2.cap
          have HB2 := hide ((unhide HB).trans ((hb1.trans (hb2.mono hb1.size)).mono (unhide HB).size))
          have HL := hide hi2.len
          clear hi1 hi2 hb1 hb2
          by_cases hn : n2 = 1
          · subst hn
            have HN := hide (show rtT _ g (k + 1) = true from by
              have := HA.out
              unfold rtT at this ⊢
              rw [List.range_succ, List.all_append, this]
              simpa using HL.out)
            go_wp2_with fail
            go_roundw
            case rel => exact ⟨k + 1, by omega, by go_num, HN, HB2⟩
            case measure => simp [intOf]; omega
          · have d1 : ((n2 : Int) != 1) = true := by simp; omega
            have HF := hide (show rtT _ g m = false from by
              rw [Bool.eq_false_iff]; intro e
              have := List.all_eq_true.1 e k (List.mem_range.2 hlt)
              simp only [decide_eq_true_eq] at this
              exact hn (HL.out.symm.trans this))
            clear hn
            go_wp2_with fail
            go_ret
            exact ⟨ret_bool HF.out.symm, unhide HB2⟩
        · have HF := hide (show rtT _ g m = true from by rw [show m = k by omega]; exact HA.out)
          go_wp2_with fail
          go_ret
          exact ⟨ret_bool HF.out.symm, unhide HB⟩
  exact main ()
set_option maxHeartbeats 1000000 in
theorem Root_any (p g : Int) (w : World) (b : Bool) (hb : Hid (rtF p g = b)) :
    Calls Try.prog 37 #[.int .i64 p, .int .i64 g] w fun e w' => e = .returned (.bool b) ∧ Below w.heap.size w w' := by
  rw [← hb.out]
  clear hb
  cases h : rtF p g with
  | true =>
    obtain ⟨P, G, rfl, rfl, h1, h2, h3⟩ := rt_parts h
    have h5 := pr_cases h1
    exact Root_in P G (hide h1) h2 w true (hide ((rt_same P (by omega) G h2.2 h2.1 (by omega)).trans h3))
  | false =>
    rcases rt_not h with h1 | ⟨h1, h2⟩ | ⟨h1, h2, h3⟩ | ⟨P, G, rfl, rfl, h1, h2, h3⟩
    · obtain ⟨q1, q2, q3, q4⟩ := pr_not h1
      have d1 : (p != 2) = true := by simpa using q1
      have d2 : (p != 3) = true := by simpa using q2
      have d3 : (p != 5) = true := by simpa using q3
      have d4 : (p != 7) = true := by simpa using q4
      clear h h1 q1 q2 q3 q4
      go_enter Try.func37, Try.ntmps37
      go_wp2_with fail
      go_ret
      exact ⟨rfl, Below.refl _ _⟩
    · have d : decide (g < 1) = true := by simpa using h2
      rcases pr_cases h1 with rfl | rfl | rfl | rfl
      all_goals
        clear h h1 h2
        go_enter Try.func37, Try.ntmps37
        go_wp2_with fail
        go_ret
        exact ⟨rfl, Below.refl _ _⟩
    · have d : decide (g < 1) = false := by simp; omega
      rcases pr_cases h1 with rfl | rfl | rfl | rfl
      all_goals
        have d2 := decide_eq_true h3
        clear h h1 h2 h3
        go_enter Try.func37, Try.ntmps37
        go_wp2_with fail
        go_ret
        exact ⟨rfl, Below.refl _ _⟩
    · have h5 := pr_cases h1
      exact Root_in P G (hide h1) h2 w false (hide ((rt_same P (by omega) G h2.2 h2.1 (by omega)).trans h3))

set_option maxRecDepth 100000 in
set_option maxHeartbeats 1000000 in
theorem RWelch_any (p g : Nat) (hp7 : 2 ≤ p ∧ p ≤ 7) (hg : 1 ≤ g ∧ g < p) (w : World) :
    Calls Try.prog 38 #[.int .i64 p, .int .i64 g] w fun e w' => ∃ A n c, e = .returned (.slice A n c) ∧ Ints w' w'.heap.size A n c (wlL p g) ∧ Below w.heap.size w w' := by
  obtain ⟨F, hF⟩ : ∃ F : Nat → Int, F = fun j => ((pw p g (j + 1) : Nat) : Int) - 1 := ⟨_, rfl⟩
  have HFF := hide hF
  have HE := hide (show wlL p g = fT F (p - 1) from by unfold wlL; rw [hF])
  have hpg := hide hp7
  clear hF
  go_enter Try.func38, Try.ntmps38
  go_wp2_with fail
  refine (powers_any p g hp7 hg _).mono ?_
  rintro e w0 ⟨A1, n1, c1, rfl, hi1, hb1⟩
  have hm1 := hi1.most; have hc1 := hi1.cap
  have HN := hide (show n1 = p - 1 from by rw [← hi1.len, pwL_len])
  have hn6 : n1 ≤ 6 := by have := HN.out; omega
  have HI := hide hi1
  have HB1 := hide hb1
  clear hi1 hb1 hp7 hg
  go_wp2_with fail
  go_loopw [5, 7, 12] (fun v _ i wr => ∃ k : Nat, k ≤ n1 ∧ i = .int .i64 (k : Nat) ∧ Hid (Owned wr w0.heap.size v (fT F k)) ∧ Hid (Below w0.heap.size w0 wr)) (fun _ _ i _ => n1 - (intOf i).toNat)
  case atStart => exact ⟨0, Nat.zero_le _, rfl, hide (World.ownsRow_nil _ _ _ _), hide (Below.refl _ _)⟩
  case round =>
    obtain ⟨k, hk, rfl, HO, HB⟩ := hrel
    by_cases hlt : k < n1
    · obtain ⟨b, off, rfl, hbb, hc⟩ := ((unhide HI).below (unhide HB)).at_ k hlt
      rw [pwL_at (by rw [← HN.out]; exact hlt)] at hc
      have hz := pw_lt (p := p) (g := g) hpg.out.1 (k + 1)
      have HFk := hide (show F k = ((pw p g (k + 1) : Nat) : Int) - 1 from by rw [HFF.out])
      have hp8 := hpg.out.2
      have hpl : (fT F k).length ≤ 100000 := by rw [fT_len]; omega
      have hbase := (unhide HB).size
      revert HFk hz hc
      obtain ⟨z, hzd⟩ : ∃ z, pw p g (k + 1) = z := ⟨_, rfl⟩
      rw [hzd]
      clear hzd
      intro hc hz HFk
      go_wp2_with (at_builtin; refine wpList_app1 rfl _ _ rfl rfl rfl (unhide HO) hpl hbase ?_; intro v' w3 ho3 hb3)
      go_roundw
      case rel => exact ⟨k + 1, by omega, by go_num, hide (by rw [fT_succ, HFk.out]; exact ho3), hide ((unhide HB).trans hb3)⟩
      case measure => simp [intOf]; omega
    · have HL := hide (show fT F k = wlL p g from by rw [HE.out, ← HN.out, show k = n1 by omega])
      have ho := unhide HO
      rw [HL.out] at ho
      obtain ⟨A', c', rfl, hi⟩ := ho.ints
      have HI2 := hide hi
      clear ho hi
      go_wp2_with fail
      go_ret
      exact ⟨A', _, c', rfl, unhide HI2, (unhide HB1).trans ((unhide HB).mono (unhide HB1).size)⟩

set_option maxRecDepth 100000 in
set_option maxHeartbeats 1000000 in
theorem LWelch_no (p g : Int) (h : Hid (rtF p g = false)) (w : World) :
    Calls Try.prog 6 #[.int .i64 p, .int .i64 g] w fun e w' => e = .returned (.bool true) ∧ Below w.heap.size w w' := by
  have HB := hide (Below.refl w.heap.size w)
  go_enter Try.func6, Try.ntmps6
  go_wp2_with fail
  refine (Welch_no p g h.out _).mono ?_
  rintro e w1 ⟨rfl, b1⟩
  replace HB := hide ((unhide HB).trans (b1.mono (unhide HB).size))
  clear b1
  go_wp2_with fail
  refine (Root_any p g _ false h).mono ?_
  rintro e w2 ⟨rfl, b2⟩
  replace HB := hide ((unhide HB).trans (b2.mono (unhide HB).size))
  clear b2
  go_wp2_with fail
  refine (awake_any _).mono ?_
  rintro e w3 ⟨rfl, b3⟩
  replace HB := hide ((unhide HB).trans (b3.mono (unhide HB).size))
  clear b3
  go_wp2_with fail
  go_ret
  exact ⟨rfl, unhide HB⟩

set_option maxRecDepth 100000 in
set_option maxHeartbeats 1000000 in
theorem LWelch_yes (p g : Nat) (h : Hid (rtF (p : Int) (g : Int) = true)) (hp : Hid (prI (p : Int) = true)) (hg : 1 ≤ g ∧ g < p) (he : Hid (eoB (wlL p g) = true)) (w : World) :
    Calls Try.prog 6 #[.int .i64 p, .int .i64 g] w fun e w' => e = .returned (.bool true) ∧ Below w.heap.size w w' := by
  have hp7 : 2 ≤ p ∧ p ≤ 7 := by have := pr_cases hp.out; omega
  have HB := hide (Below.refl w.heap.size w)
  go_enter Try.func6, Try.ntmps6
  go_wp2_with fail
  refine (Welch_yes p g hp hg he _).mono ?_
  rintro e w1 ⟨A1, n1, c1, rfl, i1, b1⟩
  replace i1 := hide i1
  replace HB := hide ((unhide HB).trans (b1.mono (unhide HB).size))
  clear b1
  go_wp2_with fail
  refine (Root_any (p : Int) (g : Int) _ true h).mono ?_
  rintro e w2 ⟨rfl, b2⟩
  replace i1 := hide ((unhide i1).on b2)
  replace HB := hide ((unhide HB).trans (b2.mono (unhide HB).size))
  clear b2
  go_wp2_with fail
  refine (RWelch_any p g hp7 hg _).mono ?_
  rintro e w3 ⟨A2, n2, c2, rfl, i2, b3⟩
  replace i1 := hide ((unhide i1).on b3)
  replace i2 := hide i2
  replace HB := hide ((unhide HB).trans (b3.mono (unhide HB).size))
  clear b3
  go_wp2_with fail
  refine (equal_is _ _ _ _ _ _ _ _ _ _ _ (unhide i1) (unhide i2) (hide rfl)).mono ?_
  rintro e w4 ⟨rfl, qq4, hq4⟩
  have b4 : Below w3.heap.size w3 w4 := by rw [hq4]; exact Below.drewN' (Below.refl _ _) qq4
  clear hq4
  replace i1 := hide ((unhide i1).on b4)
  replace i2 := hide ((unhide i2).on b4)
  replace HB := hide ((unhide HB).trans (b4.mono (unhide HB).size))
  clear b4
  go_wp2_with fail
  refine (awake_any _).mono ?_
  rintro e w5 ⟨rfl, b5⟩
  replace i1 := hide ((unhide i1).on b5)
  replace i2 := hide ((unhide i2).on b5)
  replace HB := hide ((unhide HB).trans (b5.mono (unhide HB).size))
  clear b5
  go_wp2_with fail
  go_ret
  exact ⟨rfl, unhide HB⟩

theorem LWelch_any (p g : Int) (w : World) : Calls Try.prog 6 #[.int .i64 p, .int .i64 g] w fun e w' => e = .returned (.bool true) ∧ Below w.heap.size w w' := by
  cases h : rtF p g with
  | false => exact LWelch_no p g (hide h) w
  | true =>
    obtain ⟨P, G, rfl, rfl, h1, h2, h3⟩ := rt_parts h
    exact LWelch_yes P G (hide h) (hide h1) h2 (hide h3) w
end Go.Proofs.Ytmgoonoifgcmnaa
