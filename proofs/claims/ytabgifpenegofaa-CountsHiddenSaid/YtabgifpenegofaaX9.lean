/-
  Plus of the reference; Less, Compare; bounds of odds.
-/
import Derived.Test.YtabgifpenegofaaX8
namespace Go.Proofs.Ytabgifpenegofaa
open Go.RowKit

set_option maxRecDepth 4000 in
set_option maxHeartbeats 3200000 in
theorem RLess_any (a b c d : Int) (w : World) (h1 : -4000000000000000000 ≤ a * d ∧ a * d ≤ 4000000000000000000) (h2 : -4000000000000000000 ≤ c * b ∧ c * b ≤ 4000000000000000000) :
    Calls Try.prog 63 #[.agg #[.int .i64 a, .int .i64 b], .agg #[.int .i64 c, .int .i64 d]] w fun e w' => e = .returned (.bool (decide (a * d < c * b))) ∧ Below w.heap.size w w' := by
  obtain ⟨W0, hW0⟩ : ∃ W0, W0 = (w.alloc (.cells #[.int .i64 a, .int .i64 b] 47)).alloc (.cells #[.int .i64 c, .int .i64 d] 47) := ⟨_, rfl⟩
  have HB0 := hide (show Below w.heap.size w W0 from by rw [hW0]; exact ((Below.refl _ w).alloc (Nat.le_refl _) _).alloc (by simp) _)
  obtain ⟨x0, x1⟩ := two_at (show W0.heap[w.heap.size]? = some (.cells #[.int .i64 a, .int .i64 b] 47 (0, 0)) from by rw [hW0, Below.heap_alloc _ _ _ (by simp)]; exact heap_new_ w _)
  obtain ⟨y0, y1⟩ := two_at (show W0.heap[w.heap.size + 1]? = some (.cells #[.int .i64 c, .int .i64 d] 47 (0, 0)) from by
    rw [hW0]
    have := heap_new_ (w.alloc (.cells #[.int .i64 a, .int .i64 b] 47)) (.cells #[.int .i64 c, .int .i64 d] 47)
    rwa [World.size_alloc] at this)
  have hW1 : (w.alloc (.cells #[.int .i64 a, .int .i64 b] 47)).alloc (.cells #[.int .i64 c, .int .i64 d] 47) = W0 := hW0.symm
  clear hW0
  revert h1 h2
  obtain ⟨p, hp⟩ : ∃ p, a * d = p := ⟨_, rfl⟩
  obtain ⟨p2, hp2⟩ : ∃ p, c * b = p := ⟨_, rfl⟩
  rw [hp, hp2]
  rintro ⟨h11, h12⟩ ⟨h21, h22⟩
  obtain ⟨r, hr⟩ : ∃ r, decide (p < p2) = r := ⟨_, rfl⟩
  rw [hr]
  go_enter Try.func63, Try.ntmps63
  go_upto_region 1 with fail
  clear hW1
  go_wp2_with fail
  go_ret
  exact ⟨ret_bool rfl, unhide HB0⟩

theorem plT_tb {s t : List (List Int)} {n m : Nat} (hs : Tb s n m) (ht : Tb t n m) (h : tot (plK s t) ≤ 16) : Tb (tabL n m (plK s t)) n m :=
  tab_tb (hs.kb.add ht.kb) ⟨hs.n1, hs.n3⟩ ⟨hs.m1, hs.m3⟩ h
set_option maxRecDepth 100000 in
set_option maxHeartbeats 8000000 in
theorem RPlus_any (b off n c m b' off' c' : Nat) (s t : List (List Int)) (w : World) (h : Rows_ w w.heap.size (some ⟨b, off, none⟩) n c s) (h' : Rows_ w w.heap.size (some ⟨b', off', none⟩) n c' t) (hs : Hid (Tb s n m)) (ht : Hid (Tb t n m)) (r : Bool) (hr : Hid (decide (tot (plK s t) ≤ 16) = r)) :
    Calls Try.prog 56 #[.slice (some ⟨b, off, none⟩) n c, .slice (some ⟨b', off', none⟩) n c'] w fun e w' => ∃ A3 n3 c3, e = .returned (.tuple #[.slice A3 n3 c3, .int .i64 (if r then 0 else 4)]) ∧ Rows_ w' w'.heap.size A3 n3 c3 (if r then tabL n m (plK s t) else []) ∧ Below w.heap.size w w' := by
  have hm := h.most; have hcap := h.cap; have hm' := h'.most; have hcap' := h'.cap
  have n1 := hs.out.n1; have n3 := hs.out.n3; have m1 := hs.out.m1; have m3 := hs.out.m3
  obtain ⟨bx, ox, _, _, _, ex, hbl, _⟩ := h.at_ 0 (show 0 < n by omega)
  cases ex
  have HIT := hide (show isT (tabL n m (plK s t)) = r from by exact (isT_tab (K := plK s t) (hs.out.kb.add ht.out.kb) ⟨n1, n3⟩ ⟨m1, m3⟩).trans hr.out)
  go_enter Try.func56, Try.ntmps56
  go_upto_region 3 with fail
  go_loopw [6, 7, 8, 9, 10, 11, 14] (fun v _ _ _ _ _ i wr => ∃ j : Nat, j ≤ n ∧ i = .int .i64 j ∧ Hid (OwnedR wr w.heap.size v (tabL j m (plK s t))) ∧ Hid (Below w.heap.size w wr)) (fun _ _ _ _ _ _ i _ => n - (intOf i).toNat)
  case atStart => exact ⟨0, Nat.zero_le _, rfl, hide (ownedR_nil _ _), hide (Below.refl _ _)⟩
  case round =>
    obtain ⟨wo, rfl⟩ : ∃ wo : World, wo = wr := ⟨_, rfl⟩
    obtain ⟨j, hj, rfl, HO, HB⟩ := hrel
    by_cases hlt : j < n
    · obtain ⟨A1, c1, hcw, hi1⟩ := hs.out.get h hlt
      have hc1 := ((unhide HB).cell (p := ⟨b, off + j, none⟩) hbl).trans hcw
      have hm1 := hi1.most; have hcap1 := hi1.cap
      obtain ⟨b1, o1, rfl, hb1, _⟩ := hi1.cells (show 0 < m by omega)
      have HI1 := hide hi1
      clear hi1 hcw
      go_wp2_with fail
      clear hc1
      go_loopw [9, 10, 11, 21] (fun v _ _ i wr => ∃ k : Nat, k ≤ m ∧ i = .int .i64 k ∧ Hid (Owned wr wo.heap.size v ((List.range k).map (plK s t j))) ∧ Hid (Below wo.heap.size wo wr)) (fun _ _ _ i _ => m - (intOf i).toNat)
      case atStart => exact ⟨0, Nat.zero_le _, rfl, hide (World.ownsRow_nil _ _ _ _), hide (Below.refl _ _)⟩
      case round =>
        obtain ⟨k, hk, rfl, HV, HW⟩ := hrel
        have HBr := hide ((unhide HB).trans ((unhide HW).mono (unhide HB).size))
        by_cases hkt : k < m
        · have hx := ((unhide HI1).below (unhide HBr)).cells (show 0 < m by omega)
          obtain ⟨b1', o1', e1, _, hx⟩ := hx
          cases e1
          have hx := hx k (by rw [hs.out.rows j hlt]; exact hkt)
          rw [show (row s j).getD k 0 = at2 s j k from rfl] at hx
          obtain ⟨A2, c2, hc2, hi2⟩ := ht.out.get (h'.below (unhide HBr)) hlt
          obtain ⟨b2, o2, rfl, _, hy⟩ := hi2.cells (show 0 < m by omega)
          have hy := hy k (by rw [ht.out.rows j hlt]; exact hkt)
          rw [show (row t j).getD k 0 = at2 t j k from rfl] at hy
          have hm2 := hi2.most; have hcap2 := hi2.cap
          clear hi2
          have x1 := hs.out.nn j k; have x2 := hs.out.le j k; have y1 := ht.out.nn j k; have y2 := ht.out.le j k
          have HX := hide (show (List.range (k + 1)).map (plK s t j) = (List.range k).map (plK s t j) ++ [at2 s j k + at2 t j k] from by simp [List.range_succ, plK, addK])
          generalize at2 s j k = x at hx x1 x2 HX
          generalize at2 t j k = y at hy y1 y2 HX
          have hll : ((List.range k).map (plK s t j)).length ≤ 100000 := by simp; omega
          have hbs := (unhide HW).size
          go_wp2_with (at_builtin; refine wpList_app1 (v := u9) rfl _ _ rfl rfl rfl (unhide HV) hll hbs ?_; intro v2 w2 ho2 hb2)
          go_roundw
          case rel => exact ⟨k + 1, by omega, by go_num, hide (by rw [HX.out]; exact ho2), hide ((unhide HW).trans hb2)⟩
          case measure => simp [intOf]; omega
        · obtain rfl : m = k := by omega
          obtain ⟨A2, c2, e2, hi2⟩ := (unhide HV).ints
          rw [List.length_map, List.length_range] at e2 hi2
          subst e2
          have HO2 := hide ((unhide HO).below (unhide HW))
          have HAP := hide ((unhide HV).elem (g := u6.ownBlock) (fun b hb => ((unhide HO).lt b hb).2))
          have hll : (tabL j m (plK s t)).length ≤ 1000000 := by rw [tabL_len]; omega
          have hbase := (unhide HBr).size
          go_wp2_with (at_builtin; refine wpList_appR (v := u6) rfl _ _ rfl rfl rfl (unhide HO2) hi2 (unhide HAP) hll hbase ?_; intro v2 w2 ho2 hb2)
          go_roundw
          case rel => exact ⟨j + 1, by omega, by go_num, hide (by rw [tabL_succ]; exact ho2), hide ((unhide HBr).trans hb2)⟩
          case measure => simp [intOf]; omega
    · obtain rfl : n = j := by omega
      obtain ⟨A2, c2, e2, hr2⟩ := (unhide HO).rows
      rw [tabL_len] at e2 hr2
      subst e2
      have HR2 := hide hr2
      cases r with
      | false =>
        go_wp2_with (go_at_call 22; refine (RTable_is _ _ _ _ _ _ (unhide HR2) _ HIT).mono ?_; rintro e w' ⟨rfl, rfl⟩)
        go_ret2
        exact ⟨none, 0, 0, rfl, Rows_.none_ _ _, unhide HB⟩
      | true =>
        go_wp2_with (go_at_call 22; refine (RTable_is _ _ _ _ _ _ (unhide HR2) _ HIT).mono ?_; rintro e w' ⟨rfl, rfl⟩)
        go_ret2
        exact ⟨_, _, _, rfl, unhide HR2, unhide HB⟩

def sgn (a b : Int) : Int := if a < b then -1 else if b < a then 1 else 0
theorem isNaN_any (a : Int) (w : World) : Calls Try.prog 108 #[.int .i64 a] w fun e w' => e = .returned (.bool false) ∧ w = w' := by
  have hd : (a != a) = false := by simp
  go_enter Try.func108, Try.ntmps108
  go_wp2_with fail
  go_ret
  exact ⟨rfl, rfl⟩
theorem Compare_any (a b : Int) (w : World) (r : Int) (hr : Hid (sgn a b = r)) : Calls Try.prog 99 #[.int .i64 a, .int .i64 b] w fun e w' => e = .returned (.int .i64 r) ∧ w = w' := by
  by_cases h1 : a < b
  · have HF := hide (show -1 = r from by rw [← hr.out]; unfold sgn; rw [if_pos h1])
    have d1 : decide (a < b) = true := by simpa using h1
    go_enter Try.func99, Try.ntmps99
    go_wp2_with (first
      | (go_at_call 108; refine (isNaN_any _ _).mono ?_; rintro e w' ⟨rfl, rfl⟩))
    go_ret
    exact ⟨ret_int HF.out, rfl⟩
  · have d1 : decide (a < b) = false := by simpa using h1
    by_cases h2 : b < a
    · have HF := hide (show 1 = r from by rw [← hr.out]; unfold sgn; rw [if_neg h1, if_pos h2])
      have d2 : decide (b < a) = true := by simpa using h2
      go_enter Try.func99, Try.ntmps99
      go_wp2_with (first
        | (go_at_call 108; refine (isNaN_any _ _).mono ?_; rintro e w' ⟨rfl, rfl⟩))
      go_ret
      exact ⟨ret_int HF.out, rfl⟩
    · have HF := hide (show 0 = r from by rw [← hr.out]; unfold sgn; rw [if_neg h1, if_neg h2])
      have d2 : decide (b < a) = false := by simpa using h2
      go_enter Try.func99, Try.ntmps99
      go_wp2_with (first
        | (go_at_call 108; refine (isNaN_any _ _).mono ?_; rintro e w' ⟨rfl, rfl⟩))
      go_ret
      exact ⟨ret_int HF.out, rfl⟩
theorem od_bd (t : List (List Int)) (h : isTwo t = true) : (-256 ≤ odN t ∧ odN t ≤ 256) ∧ (-256 ≤ odD t ∧ odD t ≤ 256) := by
  have ht := two_tb h
  unfold odN odD
  rw [h, Bool.true_and]
  cases h0 : okO t with
  | false => simp
  | true =>
    simp only [if_true]
    simp only [okO, Bool.and_eq_true, decide_eq_true_eq] at h0
    have n0 := ht.nn 0 0; have n1 := ht.nn 0 1; have n2 := ht.nn 1 0; have n3 := ht.nn 1 1
    have l0 := ht.le 0 0; have l1 := ht.le 0 1; have l2 := ht.le 1 0; have l3 := ht.le 1 1
    have e2 : 0 < at2 t 0 1 * at2 t 1 0 := Int.mul_pos (by omega) (by omega)
    have e1 : 0 ≤ at2 t 0 0 * at2 t 1 1 := Int.mul_nonneg n0 n3
    have k1 := mul_bd (M := 16) (N := 16) (a := at2 t 0 0) (b := at2 t 1 1) ⟨by omega, l0⟩ ⟨by omega, l3⟩
    have k2 := mul_bd (M := 16) (N := 16) (a := at2 t 0 1) (b := at2 t 1 0) ⟨by omega, l1⟩ ⟨by omega, l2⟩
    have hf := fr_of (a := at2 t 0 0 * at2 t 1 1) e2
    unfold odQ
    rw [hf.1, hf.2]
    have t1 := tdiv_bd (b := (Nat.gcd (at2 t 0 0 * at2 t 1 1).natAbs (at2 t 0 1 * at2 t 1 0).natAbs : Nat)) (a := at2 t 0 0 * at2 t 1 1) (M := 256) (by omega)
    have t2 := tdiv_bd (b := (Nat.gcd (at2 t 0 0 * at2 t 1 1).natAbs (at2 t 0 1 * at2 t 1 0).natAbs : Nat)) (a := at2 t 0 1 * at2 t 1 0) (M := 256) (by omega)
    exact ⟨t1, t2⟩
theorem odE_ok {t : List (List Int)} (h : isTwo t = true) : odE t = if okO t then 0 else 5 := by unfold odE; rw [h]; rfl
end Go.Proofs.Ytabgifpenegofaa
