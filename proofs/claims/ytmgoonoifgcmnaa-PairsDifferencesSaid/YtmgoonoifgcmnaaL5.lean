/-
  The law PairsDifferences.
-/
import Derived.Test.YtmgoonoifgcmnaaD1
import Derived.Test.YtmgoonoifgcmnaaA3
import Derived.Test.YtmgoonoifgcmnaaL4a
namespace Go.Proofs.Ytmgoonoifgcmnaa
open Go.RowKit

theorem plain3 : Try.prog.plainKey 3 = true := by kernel_rfl
theorem idx56_0 (x y : Int) (w : World) : (Instr.index 56 (.agg #[.int .i64 x, .int .i64 y]) (.int .i64 0)).run Try.prog w = .ok (.int .i64 x) w := by
  have hp : (part 3 #[.int .i64 x, .int .i64 y] 0).run Try.prog w = .ok (.int .i64 x) w := run_part_plain w plain3 (by rfl)
  simp [Instr.index, run_underlying under56, asIntOf, Try.sizeOf3, hp]
theorem idx56_1 (x y : Int) (w : World) : (Instr.index 56 (.agg #[.int .i64 x, .int .i64 y]) (.int .i64 1)).run Try.prog w = .ok (.int .i64 y) w := by
  have hp : (part 3 #[.int .i64 x, .int .i64 y] 1).run Try.prog w = .ok (.int .i64 y) w := run_part_plain w plain3 (by rfl)
  simp [Instr.index, run_underlying under56, asIntOf, Try.sizeOf3, hp]
/-- The places of the numbers below k, as a set. -/
def mt (xs : List Int) : Nat → Nat
  | 0 => 0
  | k + 1 => mt xs k ||| 2 ^ ((ixI xs ((k : Int) + 1)).toNat + 1) ||| 2 ^ ((ixI xs ((k : Int) + 1)).toNat + 1 + (k + 1))
theorem mt_bit (xs : List Int) (y : Nat) : ∀ k, (mt xs k).testBit y = true ↔ ∃ j, j < k ∧ (y = (ixI xs ((j : Int) + 1)).toNat + 1 ∨ y = (ixI xs ((j : Int) + 1)).toNat + 1 + (j + 1))
  | 0 => by simp [mt]
  | k + 1 => by
    unfold mt
    rw [Nat.testBit_or, Nat.testBit_or, Nat.testBit_two_pow, Nat.testBit_two_pow, Bool.or_eq_true, Bool.or_eq_true, mt_bit xs y k, decide_eq_true_eq, decide_eq_true_eq]
    constructor
    · rintro ((⟨j, h1, h2⟩ | h) | h)
      · exact ⟨j, by omega, h2⟩
      · exact ⟨k, by omega, .inl h.symm⟩
      · exact ⟨k, by omega, .inr h.symm⟩
    · rintro ⟨j, h1, h2⟩
      by_cases e : j = k
      · subst e
        rcases h2 with h | h
        · exact .inl (.inr h.symm)
        · exact .inr h.symm
      · exact .inl (.inl ⟨j, by omega, h2⟩)
theorem spL_at {xs : List Int} {k : Nat} (h : k < xs.length / 2) : row (spL xs) k = [ixI xs ((k : Int) + 1) + 1, ixI xs ((k : Int) + 1) + 1 + ((k : Int) + 1)] := by simp [spL, spT, row, List.getD, h]
/-- The two places of k are new. -/
theorem mt_new {xs : List Int} (h : rowB 1 xs = true) {k : Nat} (hk : k < xs.length / 2) : ∃ p : Nat, ixI xs ((k : Int) + 1) = (p : Int) ∧ p + 1 + (k + 1) ≤ xs.length ∧ (mt xs k).testBit (p + 1) = false ∧ (mt xs k ||| 2 ^ (p + 1)).testBit (p + 1 + (k + 1)) = false := by
  obtain ⟨p, q, _, h1, h2, h3, h4, h5⟩ := row_places h hk
  have hno : ∀ y : Nat, (y = p ∨ y = q) → (mt xs k).testBit (y + 1) = false := fun y hy => by
    rw [Bool.eq_false_iff]
    intro hb
    obtain ⟨j, hj, h6⟩ := (mt_bit xs (y + 1) k).1 hb
    obtain ⟨p', q', _, g1, _, g3, g4, g5⟩ := row_places h (q := j) (by omega)
    rw [g5] at h6
    simp only [Int.toNat_natCast] at h6
    have e1 : nth xs y = (k : Int) + 1 := by rcases hy with rfl | rfl; exact h3; exact h4
    rcases h6 with h7 | h7
    · have : y = p' := by omega
      rw [this, g3] at e1; omega
    · have : y = q' := by omega
      rw [this, g4] at e1; omega
  refine ⟨p, h5, by omega, hno p (.inl rfl), ?_⟩
  have e : p + 1 + (k + 1) = q + 1 := by omega
  rw [e, Nat.testBit_or, hno q (.inr rfl), Nat.testBit_two_pow]
  simp; omega

set_option maxRecDepth 100000 in
set_option maxHeartbeats 2000000 in
theorem LDiff_no (A : Option Addr) (n c : Nat) (xs : List Int) (w : World) (i0 : Ints w w.heap.size A n c xs) (hx : (xs.take 20).length ≤ 16) (HF : Hid (rowB 1 (xs.take 20) = false)) :
    Calls Try.prog 17 #[.slice A n c] w fun e w' => e = .returned (.bool true) ∧ Below w.heap.size w w' := by
  replace i0 := hide i0
  have HB := hide (Below.refl w.heap.size w)
  go_enter Try.func17, Try.ntmps17
  go_wp2_with fail
  refine (list_ints _ _ _ _ _ _ (unhide i0) (Nat.le_refl _)).mono ?_
  rintro e w1 ⟨A2, n2, c2, rfl, i2, b1⟩
  replace i0 := hide ((unhide i0).on b1)
  replace i2 := hide i2
  replace HB := hide ((unhide HB).trans (b1.mono (unhide HB).size))
  clear b1
  have hn2 : n2 ≤ 1000 := by rw [← (unhide i2).len, List.length_take]; omega
  go_wp2_with fail
  refine (Split_no _ _ _ _ _ _ (unhide i2) hn2 HF).mono ?_
  rintro e wq ⟨rfl, rfl⟩
  go_wp2_with fail
  refine (list_ints _ _ _ _ _ _ (unhide i0) (Nat.le_refl _)).mono ?_
  rintro e w2 ⟨A3, n3, c3, rfl, i3, b2⟩
  replace i0 := hide ((unhide i0).on b2)
  replace i2 := hide ((unhide i2).on b2)
  replace i3 := hide i3
  replace HB := hide ((unhide HB).trans (b2.mono (unhide HB).size))
  clear b2
  have hn3 : n3 ≤ 16 := by rw [← (unhide i3).len]; exact hx
  go_wp2_with fail
  refine (IsRow_ok 1 _ _ _ _ _ _ (unhide i3) hn3 (hide rfl) false HF).mono ?_
  rintro e wq ⟨rfl, rfl⟩
  go_wp2_with fail
  refine (awake_any _).mono ?_
  rintro e w3 ⟨rfl, b3⟩
  replace i0 := hide ((unhide i0).on b3)
  replace i2 := hide ((unhide i2).on b3)
  replace i3 := hide ((unhide i3).on b3)
  replace HB := hide ((unhide HB).trans (b3.mono (unhide HB).size))
  clear b3
  go_wp2_with fail
  go_ret
  exact ⟨rfl, unhide HB⟩

set_option maxRecDepth 100000 in
set_option maxHeartbeats 2000000 in
theorem LDiff_far (A : Option Addr) (n c : Nat) (xs : List Int) (w : World) (i0 : Ints w w.heap.size A n c xs) (hx : 16 < (xs.take 20).length) (HF : Hid (rowB 1 (xs.take 20) = false)) :
    Calls Try.prog 17 #[.slice A n c] w fun e w' => e = .returned (.bool true) ∧ Below w.heap.size w w' := by
  replace i0 := hide i0
  have HB := hide (Below.refl w.heap.size w)
  go_enter Try.func17, Try.ntmps17
  go_wp2_with fail
  refine (list_ints _ _ _ _ _ _ (unhide i0) (Nat.le_refl _)).mono ?_
  rintro e w1 ⟨A2, n2, c2, rfl, i2, b1⟩
  replace i0 := hide ((unhide i0).on b1)
  replace i2 := hide i2
  replace HB := hide ((unhide HB).trans (b1.mono (unhide HB).size))
  clear b1
  have hn2 : n2 ≤ 1000 := by rw [← (unhide i2).len, List.length_take]; omega
  go_wp2_with fail
  refine (Split_no _ _ _ _ _ _ (unhide i2) hn2 HF).mono ?_
  rintro e wq ⟨rfl, rfl⟩
  go_wp2_with fail
  refine (list_ints _ _ _ _ _ _ (unhide i0) (Nat.le_refl _)).mono ?_
  rintro e w2 ⟨A3, n3, c3, rfl, i3, b2⟩
  replace i0 := hide ((unhide i0).on b2)
  replace i2 := hide ((unhide i2).on b2)
  replace i3 := hide i3
  replace HB := hide ((unhide HB).trans (b2.mono (unhide HB).size))
  clear b2
  have hm3 := (unhide i3).most; have hcap3 := (unhide i3).cap
  have hn3 : 16 < n3 := by rw [← (unhide i3).len]; exact hx
  go_wp2_with fail
  refine (IsRow_no 1 _ _ _ _ hm3 hcap3 (.inr hn3)).mono ?_
  rintro e wq ⟨rfl, rfl⟩
  go_wp2_with fail
  refine (awake_any _).mono ?_
  rintro e w3 ⟨rfl, b3⟩
  replace i0 := hide ((unhide i0).on b3)
  replace i2 := hide ((unhide i2).on b3)
  replace i3 := hide ((unhide i3).on b3)
  replace HB := hide ((unhide HB).trans (b3.mono (unhide HB).size))
  clear b3
  go_wp2_with fail
  go_ret
  exact ⟨rfl, unhide HB⟩

set_option maxRecDepth 100000 in
set_option maxHeartbeats 2000000 in
theorem LDiff_row (A : Option Addr) (n c : Nat) (xs : List Int) (w : World) (i0 : Ints w w.heap.size A n c xs) (TK : Hid (xs.take 20 = xs)) (HF : Hid (rowB 1 xs = true)) :
    Calls Try.prog 17 #[.slice A n c] w fun e w' => e = .returned (.bool true) ∧ Below w.heap.size w w' := by
  have hl := hide i0.len
  have hm := i0.most; have hcap := i0.cap
  have hn16 : n ≤ 16 := by rw [← i0.len]; exact row_len HF.out
  obtain ⟨m, hmn⟩ : ∃ m, n / 2 = m := ⟨_, rfl⟩
  have hmm : ((n : Int)).tdiv 2 = (m : Int) := by rw [Int.tdiv_eq_ediv_of_nonneg (by omega)]; omega
  have HM := hide (show xs.length / 2 = m from by rw [hl.out]; exact hmn)
  have hm8 : m ≤ 8 := by omega
  clear hmn
  replace i0 := hide i0
  have HB := hide (Below.refl w.heap.size w)
  go_enter Try.func17, Try.ntmps17
  go_wp2_with fail
  refine (list_ints _ _ _ _ _ _ (unhide i0) (Nat.le_refl _)).mono ?_
  rintro e w1 ⟨A2, n2, c2, rfl, i2, b1⟩
  replace i0 := hide ((unhide i0).on b1)
  replace i2 := hide i2
  replace HB := hide ((unhide HB).trans (b1.mono (unhide HB).size))
  clear b1
  rw [TK.out] at i2
  go_wp2_with fail
  refine (Split_ok _ _ _ _ _ (unhide i2) HF m HM).mono ?_
  rintro e w2 ⟨A3, c3, rfl, a3, b2⟩
  replace i0 := hide ((unhide i0).on b2)
  replace i2 := hide ((unhide i2).on b2)
  replace a3 := hide a3
  replace HB := hide ((unhide HB).trans (b2.mono (unhide HB).size))
  clear b2
  go_wp2_with fail
  refine (list_ints _ _ _ _ _ _ (unhide i0) (Nat.le_refl _)).mono ?_
  rintro e w3 ⟨A4, n4, c4, rfl, i4, b3⟩
  replace i0 := hide ((unhide i0).on b3)
  replace i2 := hide ((unhide i2).on b3)
  replace a3 := hide ((unhide a3).on b3)
  replace i4 := hide i4
  replace HB := hide ((unhide HB).trans (b3.mono (unhide HB).size))
  clear b3
  rw [TK.out] at i4
  have hn4 : n4 ≤ 16 := by rw [← (unhide i4).len, hl.out]; exact hn16
  go_wp2_with fail
  refine (IsRow_ok 1 _ _ _ _ _ _ (unhide i4) hn4 (hide rfl) true HF).mono ?_
  rintro e wq ⟨rfl, rfl⟩
  have hma := (unhide a3).most; have hca := (unhide a3).cap
  go_wp2_with fail
  obtain ⟨w0, hw0⟩ : ∃ w0 : World, w0 = w3 := ⟨_, rfl⟩
  rw [← hw0] at a3 i0 HB ⊢
  clear hw0
  go_loopw [7, 8, 9, 11, 64] (fun mv _ _ _ i wr => ∃ k : Nat, k ≤ m ∧ i = .int .i64 (k : Nat) ∧ mv = .int .i64 (mt xs k : Nat) ∧ mt xs k < 2097152 ∧ Hid (Below w0.heap.size w0 wr)) (fun _ _ _ _ i _ => m - (intOf i).toNat)
  case atStart => exact ⟨0, Nat.zero_le _, rfl, rfl, by unfold mt; omega, hide (Below.refl _ _)⟩
  case round =>
    obtain ⟨k, hk, rfl, rfl, hMb, HB0⟩ := hrel
    by_cases hlt : k < m
    · obtain ⟨b, off, x, y, rfl, hbb, hr, c0, c1⟩ := ((unhide a3).below (unhide HB0)).two hlt
      obtain ⟨p, hp, hple, hnew1, hnew2⟩ := mt_new HF.out (k := k) (by rw [HM.out]; exact hlt)
      rw [spL_at (by rw [HM.out]; exact hlt), hp] at hr
      simp only [List.cons.injEq, and_true] at hr
      obtain ⟨hx, hy⟩ := hr
      have hMS := hide (show mt xs (k + 1) = mt xs k ||| 2 ^ (p + 1) ||| 2 ^ (p + 1 + (k + 1)) from by
        show mt xs k ||| _ ||| _ = _; rw [hp]; simp)
      rw [hl.out] at hple
      obtain ⟨y1, hy1⟩ : ∃ y1, p + 1 = y1 := ⟨_, rfl⟩
      rw [hy1] at hnew1 hnew2 hMS hple
      obtain ⟨y2, hy2⟩ : ∃ y2, y1 + (k + 1) = y2 := ⟨_, rfl⟩
      rw [hy2] at hnew2 hMS hple
      have ex : x = (y1 : Int) := by omega
      have ey : y = (y2 : Int) := by omega
      subst ex ey
      have hyy : (y2 : Int) - (y1 : Int) = (k : Int) + 1 := by omega
      have hy1b : 1 ≤ y1 := by omega
      have hy2b : 1 ≤ y2 := by omega
      have dn1 : decide ((n : Int) < (y1 : Int)) = false := by simp; omega
      have dn2 : decide ((n : Int) < (y2 : Int)) = false := by simp; omega
      have dm1 : decide ((y1 : Int) < 1) = false := by simp; omega
      have dm2 : decide ((y2 : Int) < 1) = false := by simp; omega
      obtain ⟨M, hM⟩ : ∃ M, mt xs k = M := ⟨_, rfl⟩
      rw [hM] at hMb hnew1 hnew2 hMS ⊢
      obtain ⟨e1, r1, q1, f1, f2, f3, f4, f5, f6, f7, f8, f9⟩ := bit_step M y1 hMb (by omega)
      have hM1 := or_small hMb f5
      obtain ⟨e2, r2, q2, g1, g2, g3, g4, g5, g6, g7, g8, g9⟩ := bit_step (M ||| q1) y2 hM1 (by omega)
      have hM2 := or_small hM1 g5
      rw [f4] at f1
      rw [g4] at g1
      have hr1 : r1 = 0 := by have := f3.out; rw [hnew1] at this; simpa using this
      have hr2 : r2 = 0 := by have := g3.out; rw [f7.out, hnew2] at this; simpa using this
      subst hr1 hr2
      have HMS := hide (show mt xs (k + 1) = M ||| q1 ||| q2 from by rw [hMS.out, f7.out, g7.out])
      have HM0 := hide hM
      clear hx hy hp hnew1 hnew2 hMS hy1 hy2 hM f3 g3 f7 g7
      obtain ⟨W0, hW0⟩ : ∃ W0, W0 = wr.alloc (.cells #[.int .i64 (y1 : Int), .int .i64 (y2 : Int)] 56) := ⟨_, rfl⟩
      have hB0 : Below w0.heap.size w0 W0 := by rw [hW0]; exact (unhide HB0).alloc (unhide HB0).size _
      have z0 : W0.cell? ⟨wr.heap.size, 0, none⟩ = some (.int .i64 (y1 : Int)) := by rw [hW0, World.cell?_alloc_at _ _ _ _ rfl]; rfl
      have z1 : W0.cell? ⟨wr.heap.size, 1, none⟩ = some (.int .i64 (y2 : Int)) := by rw [hW0, World.cell?_alloc_at _ _ _ _ rfl]; rfl
      have HBW := hide hB0
      rw [hW0] at z0 z1
      obtain ⟨M1, hM1d⟩ : ∃ M1, M ||| q1 = M1 := ⟨_, rfl⟩
      rw [hM1d] at f6 g1 g6 hM1 hM2 HMS
      obtain ⟨M2, hM2d⟩ : ∃ M2, M1 ||| q2 = M2 := ⟨_, rfl⟩
      rw [hM2d] at g6 hM2 HMS
      clear hM1d hM2d hB0
      go_wp2_with fail
      rw [← hW0]
      clear hW0
      go_loopw [7, 11, 78] (fun mv _ i wr' => ∃ j : Nat, j ≤ 2 ∧ i = .int .i64 (j : Nat) ∧ mv = .int .i64 ((if j = 0 then M else if j = 1 then M1 else M2 : Nat) : Int) ∧ wr' = W0) (fun _ _ i _ => 2 - (intOf i).toNat)
      case atStart => exact ⟨0, by omega, rfl, rfl, rfl⟩
      case round =>
        obtain ⟨j, hj, rfl, rfl, rfl⟩ := hrel
        rcases (show j = 0 ∨ j = 1 ∨ j = 2 by omega) with rfl | rfl | rfl
        · simp only [if_true]
          have hix := fun W => idx56_0 (y1 : Int) (y2 : Int) W
          go_wp2_with fail
          refine ⟨⟨1, by omega, rfl, rfl, trivial⟩, by simp [intOf]⟩
        · simp only [if_true, if_false, Nat.one_ne_zero]
          have hix := fun W => idx56_1 (y1 : Int) (y2 : Int) W
          go_wp2_with fail
          refine ⟨⟨2, by omega, rfl, rfl, trivial⟩, by simp [intOf]⟩
        · simp only [if_false, show ¬ (2 : Nat) = 0 by omega, show ¬ (2 : Nat) = 1 by omega]
          go_wp2_with fail
          go_roundw
          case rel => exact ⟨k + 1, by omega, by go_num, by rw [HMS.out], by rw [HMS.out]; exact hM2, HBW⟩
          case measure => simp [intOf]; omega
    · replace HB := hide ((unhide HB).trans ((unhide HB0).mono (unhide HB).size))
      go_wp2_with fail
      refine (awake_any _).mono ?_
      rintro e w9 ⟨rfl, b9⟩
      replace HB := hide ((unhide HB).trans (b9.mono (unhide HB).size))
      clear b9
      go_wp2_with fail
      go_ret
      exact ⟨rfl, unhide HB⟩

theorem LDifferences_any {A : Option Addr} {n c : Nat} {xs : List Int} {w : World} (i0 : Ints w w.heap.size A n c xs) :
    Calls Try.prog 17 #[.slice A n c] w fun e w' => e = .returned (.bool true) ∧ Below w.heap.size w w' := by
  cases hr : rowB 1 xs with
  | false =>
    have h2 := (row_take (s := 1) xs).trans hr
    rcases Nat.lt_or_ge 16 (xs.take 20).length with h | h
    · exact LDiff_far A n c xs w i0 h (hide h2)
    · exact LDiff_no A n c xs w i0 h (hide h2)
  | true => exact LDiff_row A n c xs w i0 (hide (List.take_of_length_le (by have := row_len hr; omega))) (hide hr)
end Go.Proofs.Ytmgoonoifgcmnaa
