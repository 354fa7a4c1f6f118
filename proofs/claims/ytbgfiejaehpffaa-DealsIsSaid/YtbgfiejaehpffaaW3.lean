/-
  slices.Contains at pairs; areOffers of the program.
-/
import Derived.Test.YtbgfiejaehpffaaW2
import Derived.Deep.QuietTactic
namespace Go.Proofs.Ytbgfiejaehpffaa
open Go.RowKit

def eqP (p q : F) : Bool := decide (p = q)
theorem below_dN {B : Nat} {w W : World} (h : Below B w W) (q : Nat) : Below B w (W.drewN q) := ⟨h.os, h.tape, h.output, h.size, h.block⟩

set_option maxRecDepth 100000 in
set_option maxHeartbeats 1000000 in
theorem indexQ_any (A : Option Addr) (n c : Nat) (fs : List F) (x y : Int) (w : World) (h : Fs w w.heap.size A n c fs) :
    Calls Try.prog 70 #[.slice A n c, .agg #[.int .i64 x, .int .i64 y]] w fun e w' => e = .returned (.int .i64 (ixP (eqP (x, y)) fs 0)) ∧ Below w.heap.size w w' := by
  have hm := h.most; have hcap := h.cap
  obtain ⟨W0, hW0⟩ : ∃ W0, W0 = w.alloc (.cells #[.int .i64 x, .int .i64 y] 30) := ⟨_, rfl⟩
  have HB0 := hide (show Below w.heap.size w W0 from by rw [hW0]; exact (Below.refl _ w).alloc (Nat.le_refl _) _)
  have HV0 := hide (show W0.heap[w.heap.size]? = some (.cells #[.int .i64 x, .int .i64 y] 30 (0, 0)) from by rw [hW0]; exact heap_new_ w _)
  have HI := hide ((h.below (unhide HB0)).more (unhide HB0).size)
  have HL := hide h.len
  clear h
  obtain ⟨r, hr⟩ : ∃ r, ixP (eqP (x, y)) fs 0 = r := ⟨_, rfl⟩
  rw [hr]
  have HR := hide hr
  clear hr
  have hW : w.alloc (.cells #[.int .i64 x, .int .i64 y] 30) = W0 := hW0.symm
  clear hW0
  go_enter Try.func70, Try.ntmps70
  go_wp2_with fail
  clear hW
  go_loopw [8] (fun i wr => ∃ k : Nat, k ≤ n ∧ i = .int .i64 k ∧ Hid (ixP (eqP (x, y)) (fs.drop k) k = r) ∧ Hid (Below W0.heap.size W0 wr)) (fun i _ => n - (intOf i).toNat)
  case atStart => exact ⟨0, Nat.zero_le _, rfl, hide (by rw [List.drop_zero]; exact HR.out), hide (Below.refl _ _)⟩
  case round =>
    obtain ⟨k, hk, rfl, HK, HB⟩ := hrel
    by_cases hlt : k < n
    · obtain ⟨b, off, rfl, hb, hc1, hc2⟩ := ((unhide HI).below (unhide HB)).at_ k hlt
      have hv := ((unhide HB).block _ (Array.getElem?_eq_some_iff.1 (unhide HV0)).1).trans (unhide HV0)
      obtain ⟨v0, v1⟩ := two_at hv
      clear hv
      have hs := ixP_step (eqP (x, y)) fs (0, 0) k (by rw [HL.out]; exact hlt)
      rw [HK.out] at hs
      rw [show fs.getD k (0, 0) = fth fs k from rfl] at hs
      obtain ⟨⟨u, v⟩, e⟩ : ∃ p, fth fs k = p := ⟨_, rfl⟩
      rw [e] at hs hc1 hc2
      clear e
      simp only at hs hc1 hc2
      have heq := eql30 x y u v
      unfold eqP at hs
      cases hp : decide (((x, y) : F) = (u, v)) with
      | true =>
        rw [hp] at hs heq
        rw [if_pos rfl] at hs
        have HS := hide hs
        clear hs hp
        go_wp2_with fail
        go_quiet (fail)
        go_wp2_with fail
        go_ret
        exact ⟨ret_int HS.out.symm, (unhide HB0).trans ((below_dN (unhide HB) _).mono (unhide HB0).size)⟩
      | false =>
        rw [hp] at hs heq
        rw [if_neg (by simp)] at hs
        have HS := hide hs
        clear hs hp
        go_wp2_with fail
        go_quiet (fail)
        go_wp2_with fail
        go_roundw
        case rel => exact ⟨k + 1, by omega, by go_num, hide HS.out.symm, hide (below_dN (unhide HB) _)⟩
        case measure => simp [intOf]; omega
    · have HE := hide (show -1 = r from by rw [← HK.out, List.drop_eq_nil_of_le (by rw [HL.out]; omega)]; rfl)
      go_wp2_with fail
      go_ret
      exact ⟨ret_int HE.out, (unhide HB0).trans ((unhide HB).mono (unhide HB0).size)⟩

set_option maxHeartbeats 1000000 in
theorem has_any (A : Option Addr) (n c : Nat) (fs : List F) (x y : Int) (w : World) (h : Fs w w.heap.size A n c fs) (b : Bool) (hb : Hid (fs.any (eqP (x, y)) = b)) :
    Calls Try.prog 43 #[.slice A n c, .agg #[.int .i64 x, .int .i64 y]] w fun e w' => e = .returned (.bool b) ∧ Below w.heap.size w w' := by
  obtain ⟨W0, hW0⟩ : ∃ W0, W0 = w.alloc (.cells #[.int .i64 x, .int .i64 y] 30) := ⟨_, rfl⟩
  have HB0 := hide (show Below w.heap.size w W0 from by rw [hW0]; exact (Below.refl _ w).alloc (Nat.le_refl _) _)
  have hv := (show W0.heap[w.heap.size]? = some (.cells #[.int .i64 x, .int .i64 y] 30 (0, 0)) from by rw [hW0]; exact heap_new_ w _)
  obtain ⟨v0, v1⟩ := two_at hv
  clear hv
  have HC := hide (indexQ_any A n c fs x y W0 ((h.below (unhide HB0)).more (unhide HB0).size))
  have hg := ixP_geq (eqP (x, y)) fs
  rw [hb.out] at hg
  revert HC hg
  obtain ⟨r, hr⟩ : ∃ r, ixP (eqP (x, y)) fs 0 = r := ⟨_, rfl⟩
  rw [hr]; clear hr
  intro HC hg
  have HG := hide hg; clear hg
  clear h
  have hW : w.alloc (.cells #[.int .i64 x, .int .i64 y] 30) = W0 := hW0.symm
  clear hW0
  go_enter Try.func43, Try.ntmps43
  go_wp2_with fail
  refine (unhide HC).mono ?_
  rintro e w' ⟨rfl, b1⟩
  have HB1 := hide ((unhide HB0).trans (b1.mono (unhide HB0).size)); clear b1 hW
  go_wp2_with fail
  go_ret
  exact ⟨ret_bool HG.out, unhide HB1⟩

theorem ints_1 (w : World) (z : Int) : Ints (w.alloc (.cells #[.int .i64 z] 3)) (w.heap.size + 1) (some ⟨w.heap.size, 0, none⟩) 1 1 [z] := ints_one w z

/-- All different. -/
def ndB (fs : List F) : Nat → Bool
  | 0 => true
  | k + 1 => ndB fs k && !((fs.take k).any (eqP (fth fs k)))
def offB (fs : List F) : Bool := decide (1 ≤ fs.length) && decide (fs.length ≤ 8) && prsB fs && ndB fs fs.length
theorem allIn_1 (lo hi x : Int) : allIn lo hi [x] = (decide (lo ≤ x) && decide (x ≤ hi)) := by unfold allIn outB; simp; by_cases h1 : x < lo <;> by_cases h2 : hi < x <;> simp [h1, h2, show ¬ lo ≤ x ↔ x < lo from by omega] <;> omega

theorem ndB_le {fs : List F} : ∀ {k m : Nat}, k ≤ m → ndB fs m = true → ndB fs k = true
  | k, 0, h, h2 => by obtain rfl : k = 0 := by omega
                      exact h2
  | k, m + 1, h, h2 => by
    by_cases e : k = m + 1
    · rw [e]; exact h2
    · rw [ndB, Bool.and_eq_true] at h2
      exact ndB_le (by omega) h2.1
theorem Fs.cut {w : World} {B n c : Nat} {A : Option Addr} {fs : List F} (h : Fs w B A n c fs) {k : Nat} (hk : k ≤ n) : Fs w B A k c (fs.take k) :=
  ⟨by have := h.len; simp; omega, by have := h.cap; omega, h.most, h.bare, fun j hj => by
    obtain ⟨b, off, e, hb, hc1, hc2⟩ := h.at_ j (by omega)
    have : fth (fs.take k) j = fth fs j := by unfold fth; simp [List.getD, List.getElem?_take, hj]
    exact ⟨b, off, e, hb, by rw [this]; exact hc1, by rw [this]; exact hc2⟩⟩

set_option maxRecDepth 100000 in
set_option maxHeartbeats 2000000 in
theorem areOffers_any (A : Option Addr) (n c : Nat) (fs : List F) (w : World) (h : Fs w w.heap.size A n c fs) (b : Bool) (hb : Hid (offB fs = b)) :
    Calls Try.prog 47 #[.slice A n c] w fun e w' => e = .returned (.bool b) ∧ Below w.heap.size w w' := by
  have hm := h.most; have hcap := h.cap
  have HI := hide h
  have HL := hide h.len
  clear h
  have HI1 := hide (ints_1 w n)
  have HB0 := hide ((Below.refl w.heap.size w).alloc (Nat.le_refl _) (.cells #[.int .i64 (n : Int)] 3))
  cases hq : (decide (1 ≤ (n : Int)) && decide ((n : Int) ≤ 8)) with
  | false =>
    have HQ := hide hq
    have HF := hide (show false = b from by
      rw [← hb.out]; unfold offB
      have h2 := hq
      rw [HL.out]
      cases h1 : decide (1 ≤ n)
      · simp
      · cases h3 : decide (n ≤ 8)
        · simp
        · simp at h1 h3 h2; omega)
    have HC := hide (within_any _ _ _ _ 1 8 (w.alloc (.cells #[.int .i64 (n : Int)] 3)) _ (unhide HI1) (by simp) false (hide (by rw [allIn_1, hq])))
    clear hq
    go_enter Try.func47, Try.ntmps47
    go_wp2_with fail
    refine (unhide HC).mono ?_
    rintro e w1 ⟨rfl, b1⟩
    have HB1 := hide ((unhide HB0).trans (b1.mono (unhide HB0).size)); clear b1
    go_wp2_with fail
    go_ret
    exact ⟨ret_bool HF.out, unhide HB1⟩
  | true =>
    have HC := hide (within_any _ _ _ _ 1 8 (w.alloc (.cells #[.int .i64 (n : Int)] 3)) _ (unhide HI1) (by simp) true (hide (by rw [allIn_1, hq])))
    have hn : 1 ≤ n ∧ n ≤ 8 := by simp at hq; omega
    obtain ⟨hn1, hn2⟩ := hn
    have HLN := hide (show (decide (1 ≤ fs.length) && decide (fs.length ≤ 8)) = true from by rw [HL.out]; simp; omega)
    clear hq
    cases hp : prsB fs with
    | false =>
      have HP := hide hp
      have HF := hide (show false = b from by rw [← hb.out]; unfold offB; rw [hp]; simp)
      clear hp
      go_enter Try.func47, Try.ntmps47
      go_wp2_with fail
      refine (unhide HC).mono ?_
      rintro e w1 ⟨rfl, b1⟩
      have HB1 := hide ((unhide HB0).trans (b1.mono (unhide HB0).size)); clear b1
      go_wp2_with fail
      refine (arePairs_any _ _ _ fs w1 (((unhide HI).below (unhide HB1)).more (unhide HB1).size) false HP).mono ?_
      rintro e w2 ⟨rfl, b2⟩
      have HB2 := hide ((unhide HB1).trans (b2.mono (unhide HB1).size)); clear b2
      go_wp2_with fail
      go_ret
      exact ⟨ret_bool HF.out, unhide HB2⟩
    | true =>
      have HP := hide hp
      have HN := hide (show ndB fs n = b from by rw [← hb.out]; unfold offB; rw [HLN.out, hp, HL.out]; rfl)
      clear hp
      go_enter Try.func47, Try.ntmps47
      go_wp2_with fail
      refine (unhide HC).mono ?_
      rintro e w1 ⟨rfl, b1⟩
      have HB1 := hide ((unhide HB0).trans (b1.mono (unhide HB0).size)); clear b1
      go_wp2_with fail
      refine (arePairs_any _ _ _ fs w1 (((unhide HI).below (unhide HB1)).more (unhide HB1).size) true HP).mono ?_
      rintro e w2 ⟨rfl, b2⟩
      have HB2 := hide ((unhide HB1).trans (b2.mono (unhide HB1).size)); clear b2
      go_wp2_with fail
      go_loopw [3, 4, 17] (fun _ _ i wr => ∃ k : Nat, k ≤ n ∧ i = .int .i64 k ∧ Hid (ndB fs k = true) ∧ Hid (Below w.heap.size w wr)) (fun _ _ i _ => n - (intOf i).toNat)
      case atStart => exact ⟨0, Nat.zero_le _, rfl, hide rfl, HB2⟩
      case round =>
        obtain ⟨k, hk, rfl, HK, HB⟩ := hrel
        by_cases hlt : k < n
        · have HI2 := hide ((((unhide HI).below (unhide HB)).more (unhide HB).size))
          obtain ⟨bb, off, rfl, hbb, hc1, hc2⟩ := (unhide HI2).at_ k hlt
          have hs : ndB fs (k + 1) = (ndB fs k && !((fs.take k).any (eqP (fth fs k)))) := rfl
          rw [HK.out, Bool.true_and] at hs
          obtain ⟨⟨u, v⟩, e⟩ : ∃ p, fth fs k = p := ⟨_, rfl⟩
          rw [e] at hs hc1 hc2
          clear e
          simp only at hs hc1 hc2
          obtain ⟨W3, hW3⟩ : ∃ W3, W3 = wr.alloc (.cells #[.int .i64 u, .int .i64 v] 30) := ⟨_, rfl⟩
          have hB3 : Below wr.heap.size wr W3 := by rw [hW3]; exact (Below.refl _ _).alloc (Nat.le_refl _) _
          have hv : W3.heap[wr.heap.size]? = some (.cells #[.int .i64 u, .int .i64 v] 30 (0, 0)) := by rw [hW3]; exact heap_new_ _ _
          have HV := hide (show ∀ W', Below W3.heap.size W3 W' → (W'.cell? ⟨wr.heap.size, 0, none⟩ = some (.int .i64 u) ∧ W'.cell? ⟨wr.heap.size, 1, none⟩ = some (.int .i64 v)) from fun W' hb => two_at ((hb.block _ (Array.getElem?_eq_some_iff.1 hv).1).trans hv))
          have HI3 := hide ((((unhide HI2).cut (Nat.le_of_lt hlt)).below hB3).more hB3.size)
          have HB3 := hide ((unhide HB).trans (hB3.mono (unhide HB).size))
          have HI3d := hide (show Fs W3.drew W3.drew.heap.size (some ⟨bb, off, none⟩) k c (fs.take k) from ⟨(unhide HI3).len, (unhide HI3).cap, (unhide HI3).most, (unhide HI3).bare, (unhide HI3).at_⟩)
          have HBd := hide (show Below W3.heap.size W3 W3.drew from (Below.refl _ _).drew)
          have hW : wr.alloc (.cells #[.int .i64 u, .int .i64 v] 30) = W3 := hW3.symm
          clear hB3 hv hW3
          have hkc : k ≤ c := by omega
          have hkc2 : (k : Int) ≤ (c : Int) := by omega
          have hk0 : (0 : Int) ≤ (k : Int) := by omega
          cases hp2 : (fs.take k).any (eqP (u, v)) with
          | true =>
            rw [hp2] at hs
            have HF := hide (show false = b from by
              rw [← HN.out, eq_comm, Bool.eq_false_iff]
              intro hc
              have := ndB_le (show k + 1 ≤ n by omega) hc
              rw [hs] at this; cases this)
            have HP2 := hide hp2
            clear hs hp2
            go_upto_region 6 with fail
            refine wp_region_quietC (fun W' => Below W3.heap.size W3 W') (by kernel_rfl) (by kernel_rfl) (unhide HBd) ?_
            repeat (first
              | go_big_quiet_skip
              | (go_big_quiet_want
                 apply Exists.intro
                 refine ⟨fun W hW => ?_, ?_⟩
                 · obtain ⟨s0, s1⟩ := (unhide HV) W hW
                   go_simp
                   first | rfl | exact ((has_any _ _ _ (fs.take k) u v W (((unhide HI3).below hW).more hW.size) true HP2)).mono fun _ _ h => ⟨h.1, hW.trans (h.2.mono hW.size)⟩
                 go_big_quiet_on
                 simp only [Act.put, List.setIfInBounds_toArray, List.set_cons_zero, List.set_cons_succ]))
            refine wpQuiet_nil ?_
            intro wc hWc
            have HWc := hide ((unhide HB3).trans (hWc.mono (unhide HB3).size)); clear hWc
            go_wp2_with fail
            go_ret
            exact ⟨ret_bool HF.out, unhide HWc⟩
          | false =>
            rw [hp2] at hs
            have HF := hide (show ndB fs (k + 1) = true from hs)
            have HP2 := hide hp2
            clear hs hp2
            go_upto_region 6 with fail
            refine wp_region_quietC (fun W' => Below W3.heap.size W3 W') (by kernel_rfl) (by kernel_rfl) (unhide HBd) ?_
            repeat (first
              | go_big_quiet_skip
              | (go_big_quiet_want
                 apply Exists.intro
                 refine ⟨fun W hW => ?_, ?_⟩
                 · obtain ⟨s0, s1⟩ := (unhide HV) W hW
                   go_simp
                   first | rfl | exact ((has_any _ _ _ (fs.take k) u v W (((unhide HI3).below hW).more hW.size) false HP2)).mono fun _ _ h => ⟨h.1, hW.trans (h.2.mono hW.size)⟩
                 go_big_quiet_on
                 simp only [Act.put, List.setIfInBounds_toArray, List.set_cons_zero, List.set_cons_succ]))
            refine wpQuiet_nil ?_
            intro wc hWc
            have HWc := hide ((unhide HB3).trans (hWc.mono (unhide HB3).size)); clear hWc
            go_wp2_with fail
            go_roundw
            case rel => exact ⟨k + 1, by omega, by go_num, HF, HWc⟩
            case measure => simp [intOf]; omega
        · have HF := hide (show true = b from by rw [← HN.out, ← HK.out]; congr 1; omega)
          go_wp2_with fail
          go_ret
          exact ⟨ret_bool HF.out, unhide HB⟩
end Go.Proofs.Ytbgfiejaehpffaa
