import Derived.Test.YtdlbahoenhhkdaaDf
import Derived.Test.YtdlbahoenhhkdaaL1
import Derived.Test.YtdlbahoenhhkdaaK1
import Derived.Test.YtdlbahoenhhkdaaTh
/-
  The law SketchShort walked.
-/
namespace Go.Proofs.Ytdlbahoenhhkdaa
open Go.RowKit

set_option maxHeartbeats 1000000 in
theorem LShort_no (A : Option Addr) (n c : Nat) (xs : List Int) (k : Int) (w : World) (h : Ints w w.heap.size A n c xs) (hs : Hid ((cntB k && isStr xs) = false)) :
    Calls Try.prog 9 #[.int .i64 k, .slice A n c] w fun e w' => e = .returned (.bool true) ∧ Below w.heap.size w w' := by
  have hs2 := hide (show (cntB k && isStr (xs.take 45)) = false from by rw [isStr_take]; exact hs.out)
  go_enter Try.func9, Try.ntmps9
  go_wp2_with fail
  refine (list_ints _ _ _ _ _ _ h (Nat.le_refl _)).mono ?_
  rintro e w1 ⟨A1, n1, c1, rfl, i1, b1⟩
  go_wp2_with fail
  refine (Short_no _ _ _ _ _ _ i1 hs2).mono ?_
  rintro e w2 ⟨rfl, b2⟩
  have b2' := b1.trans (b2.mono b1.size)
  go_wp2_with fail
  refine (list_ints _ _ _ _ _ _ (h.below b2') b2'.size).mono ?_
  rintro e w3 ⟨A2, n2, c2, rfl, i2, b3⟩
  have b3' := b2'.trans (b3.mono b2'.size)
  go_wp2_with fail
  refine (Heavy_no _ _ _ _ _ _ _ i2 hs2).mono ?_
  rintro e w4 ⟨rfl, rfl⟩
  go_wp2_with fail
  refine (awake_any _).mono ?_
  rintro e w5 ⟨rfl, b5⟩
  go_wp2_with fail
  go_ret
  exact ⟨rfl, b3'.trans (b5.mono b3'.size)⟩

theorem mem_heavyTo (k : Int) (xs : List Int) (key : Nat) : ∀ j, (key : Int) ∈ heavyTo k xs j ↔ key < j ∧ (xs.length : Int) < often xs key * (k + 1) := by
  intro j; induction j with
  | zero => simp [heavyTo]
  | succ j ih =>
    rw [heavyTo, List.mem_append, ih]
    by_cases e : key = j
    · subst e
      split
      · rename_i h; simp [h]
      · rename_i h; simp [h]
    · have : (key : Int) ≠ (j : Int) := by omega
      split
      · simp [this]; omega
      · simp; omega

theorem contains_q {A : Option Addr} {n c : Nat} {xs : List Int} {z : Int} {w : World} {B : Nat} (h : Ints w B A n c xs) {b : Bool} (hb : Hid (decide (z ∈ xs) = b)) (k : Nat) :
    Calls Try.prog 50 #[.slice A n c, .int .i64 z] (w.drewN k) fun e w'' => e = .returned (.bool b) ∧ ∃ m, w'' = w.drewN m :=
  quiet_left (contains_is A n c xs z (w.drewN k) B (h.keep (w' := w.drewN k) fun _ _ => rfl) b hb)

set_option maxRecDepth 100000 in
set_option maxHeartbeats 3000000 in
theorem LShort_ok (A : Option Addr) (n c : Nat) (xs : List Int) (K : Nat) (w : World) (h : Ints w w.heap.size A n c xs) (H1 : Hid (cntB (K : Int) = true)) (H2 : Hid (isStr xs = true)) :
    Calls Try.prog 9 #[.int .i64 (K : Int), .slice A n c] w fun e w' => e = .returned (.bool true) ∧ Below w.heap.size w w' := by
  have hm := h.most; have hcap := h.cap
  have hl := hide h.len
  obtain ⟨k1, k2⟩ := cntB_bd H1.out
  have hn40 : n ≤ 40 := by rw [← hl.out]; exact isStr_len H2.out
  have hk8 : K ≤ 8 := by omega
  have hk0 : 0 < K := by omega
  have hbd : ∀ j, j < xs.length → 0 ≤ nth xs j ∧ nth xs j ≤ 15 := fun j hj => isStr_bd H2.out j hj
  have hinv := hide (lstL_inv true (K := K) hk0 hbd xs.length (Nat.le_refl _))
  obtain ⟨D, hD⟩ := lstL_sh (K := K) hk0 hbd xs.length (Nat.le_refl _)
  have hD := hide hD
  clear hbd
  obtain ⟨gs, hgs⟩ : ∃ gs, lstL true K xs xs.length = gs := ⟨_, rfl⟩
  rw [hgs] at hinv hD
  have hgs := hide hgs
  have H := hide h; clear h
  go_enter Try.func9, Try.ntmps9
  go_wp2_with fail
  refine (list_ints _ _ _ _ _ _ (unhide H) (Nat.le_refl _)).mono ?_
  rintro e w1 ⟨A1, n1, c1, rfl, i1, b1⟩
  rw [take_of_str H2.out] at i1
  go_wp2_with fail
  refine (Short_ok _ _ _ _ _ _ i1 H1 H2).mono ?_
  rintro e w2 ⟨v2, rfl, o2, b2⟩
  rw [hgs.out] at o2
  obtain ⟨A2, n2, c2, rfl, g2⟩ := o2.to
  have b2' := b1.trans (b2.mono b1.size)
  go_wp2_with fail
  refine (list_ints _ _ _ _ _ _ ((unhide H).below b2') b2'.size).mono ?_
  rintro e w3 ⟨A3, n3, c3, rfl, i3, b3⟩
  rw [take_of_str H2.out] at i3
  have b3' := b2'.trans (b3.mono b2'.size)
  go_wp2_with fail
  refine (Heavy_ok _ _ _ _ _ _ i3 H2 H1).mono ?_
  rintro e w4 ⟨v4, rfl, o4, b4⟩
  obtain ⟨A4, c4, rfl, i4⟩ := o4.ints
  have b4' := b3'.trans (b4.mono b3'.size)
  have g4 := hide (((g2.below b3).more b3.size).below b4 |>.more b4.size)
  have I4 := hide i4
  have HX := hide (((unhide H).below b4').more b4'.size)
  have B4 := hide b4'
  have hn2 : n2 ≤ K := by rw [← g2.len]; exact hinv.out.few
  clear i1 o2 g2 b1 b2 b2' i3 b3 b3' o4 i4 b4 b4'
  go_wp2_with fail
  refine (RCounters_is _ _ _ H1).mono ?_
  rintro e w5 ⟨rfl, rfl⟩
  go_wp2_with fail
  refine (order_any _ _ _ _ _ _ (unhide g4) (hide hinv.out.rise) (hide (fun g hg => ⟨(hinv.out.all g hg).1, (hinv.out.all g hg).2.1⟩)) hn2).mono ?_
  rintro e w5 ⟨rfl, b5⟩
  have B5 := hide b5
  clear b5
  go_wp2_with fail
  go_loopw [9, 10, 11, 12, 52] (fun _ _ _ _ a wr => ∃ (k : Nat), k ≤ 16 ∧ a = .int .i64 k ∧ Below w4.heap.size w4 wr) (fun _ _ _ _ a _ => 16 - (intOf a).toNat)
  case atStart => exact ⟨0, by omega, rfl, unhide B5⟩
  case round =>
    obtain ⟨key, hk, rfl, hb⟩ := hrel
    have HB := hide hb
    by_cases hlt : key < 16
    · have hkey : Hid (isKeyB (key : Int) = true) := hide (by simp [isKeyB]; omega)
      go_wp2_with fail
      refine (list_ints _ _ _ _ _ _ ((unhide HX).below hb) hb.size).mono ?_
      rintro e u1 ⟨A6, n6, c6, rfl, i6, b6⟩
      rw [take_of_str H2.out] at i6
      have d6 := hb.trans (b6.mono hb.size)
      go_wp2_with fail
      refine (Often_ok _ _ _ _ _ _ i6 H2 hkey).mono ?_
      rintro e u2 ⟨rfl, b7⟩
      have d7 := d6.trans (b7.mono d6.size)
      go_wp2_with fail
      refine (of_any _ _ _ gs (key : Int) _ (((unhide g4).below d7).more d7.size) (hide hinv.out.rise)).mono ?_
      rintro e u3 ⟨d, o, rfl, hd, ho, b8⟩
      have d8 := d7.trans (b8.mono d7.size)
      have D8 := hide d8
      obtain ⟨t, ht⟩ : ∃ t, often xs (key : Int) = t := ⟨_, rfl⟩
      have f1 : d ≤ t := by rw [hd.out, ← ht]; exact hD.out.lo key
      have f2 : t ≤ d + D := by rw [hd.out, ← ht]; exact hD.out.hi key
      have f0 : 0 ≤ d := by rw [hd.out]; exact S_nonneg fun g hg => by have := hinv.out.all g hg; simp only [nF]; split <;> omega
      have f3 : o = 0 := by
        rcases ho.out with ⟨g, hg, _, _, h3⟩ | ⟨_, h3, _⟩
        · rw [← h3]; exact hD.out.off g hg
        · exact h3
      subst f3
      have f4 : 0 ≤ S (fun g => g.2.1) gs := S_nonneg fun g hg => by have := hinv.out.all g hg; omega
      have f5 := hD.out.tot
      rw [hl.out] at f5
      have f6 := hD.out.nn
      obtain ⟨q, hq⟩ : ∃ q, Int.tdiv (n : Int) ((K : Int) + 1) = q := ⟨_, rfl⟩
      have f7 : D ≤ q := by
        rw [← hq, Int.tdiv_eq_ediv_of_nonneg (by omega)]
        exact (Int.le_ediv_iff_mul_le (by omega)).2 (by omega)
      have f8 : 0 ≤ q ∧ q ≤ 40 := by
        refine ⟨by omega, ?_⟩
        rw [← hq, Int.tdiv_eq_ediv_of_nonneg (by omega)]
        exact Int.le_trans (Int.ediv_le_self _ (by omega)) (by omega)
      have f9 : 0 ≤ t ∧ t ≤ 40 := by rw [← ht]; have := often_bd (xs := xs) (key : Int); rw [hl.out] at this; omega
      obtain ⟨bv, hbv⟩ : ∃ bv, decide ((key : Int) ∈ heavy (K : Int) xs) = bv := ⟨_, rfl⟩
      have hbv2 : decide ((n : Int) < t * ((K : Int) + 1)) = bv := by
        rw [← hbv, heavy]
        apply decide_eq_decide.2
        rw [mem_heavyTo, hl.out, ht]
        constructor
        · intro h; exact ⟨hlt, h⟩
        · intro h; exact h.2
      have f10 : bv = true → 1 ≤ d := by
        intro e
        rw [e] at hbv2
        have := of_decide_eq_true hbv2
        rcases Int.lt_or_le d 1 with h1 | h1
        · exfalso
          have h2 : t ≤ D := by omega
          have h3 : t * ((K : Int) + 1) ≤ D * ((K : Int) + 1) := Int.mul_le_mul_of_nonneg_right h2 (by omega)
          omega
        · exact h1
      have HBV := hide hbv
      have p1 : decide (t < d) = false := by simp; omega
      have p2 : decide (d < t - q) = false := by simp; omega
      have w1 : IntKind.i64.wrap ((K : Int) + 1) = (K : Int) + 1 := by rw [IntKind.wrap_i64]; omega
      have w2 : IntKind.i64.wrap (t - q) = t - q := by rw [IntKind.wrap_i64]; omega
      have w5 : IntKind.i64.wrap q = q := by rw [IntKind.wrap_i64]; omega
      have hpb := prod_bd t (K : Int) f9.1 f9.2 (by omega) (by omega)
      have w3 : IntKind.i64.wrap (t * ((K : Int) + 1)) = t * ((K : Int) + 1) := by rw [IntKind.wrap_i64]; omega
      have hk1 : ¬ ((K : Int) + 1 = 0) := by omega
      have hk2 : ¬ (K + 1 = 0) := by omega
      have B9 := hide (d8.alloc d8.size (.cells #[.int .i64 (key : Int), .int .i64 d, .int .i64 0] 68))
      have J9 := hide ((unhide I4).below (unhide B9))
      rw [ht]
      clear hbv hpb f1 f2 f4 f5 f6 f7 hb i6 b6 d6 b7 d7 b8 d8
      go_wp2_with fail
      cases bv with
      | true =>
        have p3 : decide (d < 1) = false := by have := f10 rfl; simp; omega
        clear f10
        go_big_quiet (first | (with_reducible exact contains_q (unhide J9) HBV _))
        go_wp2_with fail
        go_roundw
        case rel => exact ⟨key + 1, by omega, by go_num, by first | exact unhide B9 | exact Below.drewN' (unhide B9) _⟩
        case measure => simp [intOf]; omega
      | false =>
        clear f10
        go_big_quiet (first | (with_reducible exact contains_q (unhide J9) HBV _))
        go_wp2_with fail
        go_roundw
        case rel => exact ⟨key + 1, by omega, by go_num, by first | exact unhide B9 | exact Below.drewN' (unhide B9) _⟩
        case measure => simp [intOf]; omega
    · obtain rfl : key = 16 := by omega
      go_wp2_with fail
      refine (awake_any _).mono ?_
      rintro e u5 ⟨rfl, b5⟩
      have d5 := hb.trans (b5.mono hb.size)
      go_wp2_with fail
      go_ret
      exact ⟨rfl, (unhide B4).trans (d5.mono (unhide B4).size)⟩
theorem LShort_any (A : Option Addr) (n c : Nat) (xs : List Int) (k : Int) (w : World) (h : Ints w w.heap.size A n c xs) :
    Calls Try.prog 9 #[.int .i64 k, .slice A n c] w fun e w' => e = .returned (.bool true) ∧ Below w.heap.size w w' := by
  cases hv : (cntB k && isStr xs) with
  | false => exact LShort_no A n c xs k w h (hide hv)
  | true =>
    rw [Bool.and_eq_true] at hv
    obtain ⟨k1, k2⟩ := cntB_bd hv.1
    obtain ⟨K, rfl⟩ : ∃ K : Nat, k = (K : Int) := ⟨k.toNat, by omega⟩
    exact LShort_ok A n c xs K w h (hide hv.1) (hide hv.2)
end Go.Proofs.Ytdlbahoenhhkdaa
