/-
  First, Count of the reference; the law PairsFirst.
-/
import Derived.Test.YtmgoonoifgcmnaaF2
import Derived.Test.YtmgoonoifgcmnaaX4
import Derived.Test.YtmgoonoifgcmnaaW3
namespace Go.Proofs.Ytmgoonoifgcmnaa
open Go.RowKit

theorem row_zeros' {W : World} {n : Nat} {Z : Array Value} (hz : Z.toList = List.replicate n (.int .i64 0)) : RowAt (W.alloc (.cells Z 3)) W.heap.size (List.replicate n 0) := row_zeros hz
theorem ints_zeros {w : World} {N : Nat} {Z : Array Value} (hz : Z.toList = List.replicate N (.int .i64 0)) (hN : N ≤ 1000) : Ints (w.alloc (.cells Z 3)) (w.alloc (.cells Z 3)).heap.size (some ⟨w.heap.size, 0, none⟩) N N (List.replicate N 0) :=
  (row_zeros' hz).ints (by simp) (by omega)
theorem rowsL_eq {n s N : Nat} (hN : 2 * n = N) : fillL (n + 1) s (List.replicate N 0) = rowsL n s := by unfold rowsL; rw [hN]
theorem zer_rep (N : Nat) : zer (List.replicate N 0) = N := by unfold zer; rw [List.count_replicate_self]

set_option maxRecDepth 100000 in
set_option maxHeartbeats 1000000 in
theorem RCount_any (n s : Nat) (hn : 1 ≤ n ∧ n ≤ 8) (hs : 1 ≤ s ∧ s ≤ 2) (w : World) :
    Calls Try.prog 30 #[.int .i64 n, .int .i64 s] w fun e w' => e = .returned (.int .i64 ((rowsL n s).length : Nat)) ∧ Below w.heap.size w w' := by
  obtain ⟨N, hN⟩ : ∃ N, 2 * n = N := ⟨_, rfl⟩
  have hN2 : (2 : Int) * (n : Int) = (N : Int) := by omega
  have HN := hide hN
  obtain ⟨Z, hZ1, hZ2, hmk⟩ := make_zeros N (by omega)
  have HI := hide (ints_zeros (w := w) hZ2 (by omega))
  have HB0 := hide ((Below.refl w.heap.size w).alloc (Nat.le_refl _) (.cells Z 3))
  have HU := hide (show RelU n (List.replicate N 0) 0 from by rw [← hN]; exact relU_zero n)
  have hzer : zer (List.replicate N 0) < 2 * (n + 1) := by rw [zer_rep]; omega
  have HLEN := hide (rowsL_len (s := s) hn.2)
  clear hZ1 hZ2 hN
  go_enter Try.func30, Try.ntmps30
  go_wp2_with fail
  refine (Rrows_any n s N hn hs HN.out (n + 1) (List.replicate N 0) 0 _ _ _ (by omega) hzer (by simp) HU (by omega) (unhide HI)).mono ?_
  rintro e w1 ⟨v, rfl, ho, hb⟩
  rw [rowsL_eq HN.out] at ho
  obtain ⟨A, c, rfl, hr⟩ := ho.toR.rows
  have HB := hide ((unhide HB0).trans (hb.mono (unhide HB0).size))
  obtain ⟨L, hL⟩ : ∃ L, (rowsL n s).length = L := ⟨_, rfl⟩
  rw [hL] at hr ⊢
  have HLL := hide hL
  have hm := hr.most; have hcap := hr.cap
  clear ho hr hb hL
  go_wp2_with fail
  go_ret
  exact ⟨by rw [HLL.out]; rfl, unhide HB⟩
set_option maxRecDepth 100000 in
set_option maxHeartbeats 1000000 in
theorem RFirst_ok (n s : Nat) (hn : 1 ≤ n ∧ n ≤ 8) (hs : 1 ≤ s ∧ s ≤ 2) (x : List Int) (rest : List (List Int)) (hx : Hid (rowsL n s = x :: rest)) (w : World) :
    Calls Try.prog 29 #[.int .i64 n, .int .i64 s] w fun e w' => ∃ A' n' c', e = .returned (.tuple #[.slice A' n' c', .int .i64 0]) ∧ Ints w' w'.heap.size A' n' c' x ∧ Below w.heap.size w w' := by
  obtain ⟨N, hN⟩ : ∃ N, 2 * n = N := ⟨_, rfl⟩
  have hN2 : (2 : Int) * (n : Int) = (N : Int) := by omega
  have HN := hide hN
  obtain ⟨Z, hZ1, hZ2, hmk⟩ := make_zeros N (by omega)
  have HI := hide (ints_zeros (w := w) hZ2 (by omega))
  have HB0 := hide ((Below.refl w.heap.size w).alloc (Nat.le_refl _) (.cells Z 3))
  have HU := hide (show RelU n (List.replicate N 0) 0 from by rw [← hN]; exact relU_zero n)
  have hzer : zer (List.replicate N 0) < 2 * (n + 1) := by rw [zer_rep]; omega
  clear hZ1 hZ2 hN
  go_enter Try.func29, Try.ntmps29
  go_wp2_with fail
  refine (Rrows_any n s N hn hs HN.out (n + 1) (List.replicate N 0) 0 _ _ _ (by omega) hzer (by simp) HU (by omega) (unhide HI)).mono ?_
  rintro e w1 ⟨v, rfl, ho, hb⟩
  rw [rowsL_eq HN.out, hx.out] at ho
  obtain ⟨A, c, rfl, hr⟩ := ho.toR.rows
  obtain ⟨b, off, rfl⟩ := hr.addr (by simp)
  obtain ⟨A1, n1, c1, hcell, hi1⟩ := hr.get (k := 0) (by simp)
  rw [show row (x :: rest) 0 = x from rfl] at hi1
  rw [Nat.add_zero] at hcell
  have HB := hide ((unhide HB0).trans (hb.mono (unhide HB0).size))
  obtain ⟨L, hL, hL1⟩ : ∃ L, (x :: rest).length = L ∧ 0 < L := ⟨_, rfl, by simp⟩
  rw [hL] at hr ⊢
  have dl : ((L : Int) == 0) = false := by simp; omega
  have hm := hr.most; have hcap := hr.cap
  have HI1 := hide hi1
  clear ho hr hb hL hi1
  go_wp2_with fail
  go_ret2
  exact ⟨_, _, _, rfl, unhide HI1, unhide HB⟩
set_option maxRecDepth 100000 in
set_option maxHeartbeats 1000000 in
theorem RFirst_none (n s : Nat) (hn : 1 ≤ n ∧ n ≤ 8) (hs : 1 ≤ s ∧ s ≤ 2) (hx : Hid (rowsL n s = [])) (w : World) :
    Calls Try.prog 29 #[.int .i64 n, .int .i64 s] w fun e w' => e = .returned (.tuple #[.slice none 0 0, .int .i64 4]) ∧ Below w.heap.size w w' := by
  obtain ⟨N, hN⟩ : ∃ N, 2 * n = N := ⟨_, rfl⟩
  have hN2 : (2 : Int) * (n : Int) = (N : Int) := by omega
  have HN := hide hN
  obtain ⟨Z, hZ1, hZ2, hmk⟩ := make_zeros N (by omega)
  have HI := hide (ints_zeros (w := w) hZ2 (by omega))
  have HB0 := hide ((Below.refl w.heap.size w).alloc (Nat.le_refl _) (.cells Z 3))
  have HU := hide (show RelU n (List.replicate N 0) 0 from by rw [← hN]; exact relU_zero n)
  have hzer : zer (List.replicate N 0) < 2 * (n + 1) := by rw [zer_rep]; omega
  clear hZ1 hZ2 hN
  go_enter Try.func29, Try.ntmps29
  go_wp2_with fail
  refine (Rrows_any n s N hn hs HN.out (n + 1) (List.replicate N 0) 0 _ _ _ (by omega) hzer (by simp) HU (by omega) (unhide HI)).mono ?_
  rintro e w1 ⟨v, rfl, ho, hb⟩
  rw [rowsL_eq HN.out, hx.out] at ho
  obtain ⟨A, c, rfl, hr⟩ := ho.toR.rows
  have HB := hide ((unhide HB0).trans (hb.mono (unhide HB0).size))
  have hm := hr.most; have hcap := hr.cap
  clear ho hr hb
  go_wp2_with fail
  go_ret2
  exact ⟨rfl, unhide HB⟩
set_option maxHeartbeats 400000 in
theorem size_any (n s : Int) (w : World) (b : Bool) (hb : Hid ((ctB n && shB s) = b)) : Calls Try.prog 28 #[.int .i64 n, .int .i64 s] w fun e w' => e = .returned (.bool b) ∧ w = w' := by
  by_cases h1 : 1 ≤ n
  · have d1 : decide (1 ≤ n) = true := by simpa using h1
    by_cases h2 : n ≤ 8
    · have d2 : decide (n ≤ 8) = true := by simpa using h2
      have HB := hide (show shB s = b from by rw [← hb.out]; unfold ctB; simp [h1, h2])
      clear hb
      go_enter Try.func28, Try.ntmps28
      go_wp2_with (go_at_call 21; refine (RShift_any _ _ b HB).mono ?_; rintro e w' ⟨rfl, rfl⟩)
      go_ret
      exact ⟨rfl, rfl⟩
    · have d2 : decide (n ≤ 8) = false := by simpa using h2
      have HB := hide (show b = false from by rw [← hb.out]; unfold ctB; simp [h2])
      clear hb
      go_enter Try.func28, Try.ntmps28
      go_wp2_with fail
      go_ret
      exact ⟨ret_bool HB.out.symm, rfl⟩
  · have d1 : decide (1 ≤ n) = false := by simpa using h1
    have HB := hide (show b = false from by rw [← hb.out]; unfold ctB; simp [h1])
    clear hb
    go_enter Try.func28, Try.ntmps28
    go_wp2_with fail
    go_ret
    exact ⟨ret_bool HB.out.symm, rfl⟩

set_option maxRecDepth 100000 in
set_option maxHeartbeats 1000000 in
theorem LFirst_no (n s : Int) (h : Hid ((ctB n && shB s) = false)) (w : World) :
    Calls Try.prog 4 #[.int .i64 n, .int .i64 s] w fun e w' => e = .returned (.bool true) ∧ Below w.heap.size w w' := by
  have HB := hide (Below.refl w.heap.size w)
  go_enter Try.func4, Try.ntmps4
  go_wp2_with fail
  refine (First_no n s h _).mono ?_
  rintro e w1 ⟨rfl, b1⟩
  replace HB := hide ((unhide HB).trans (b1.mono (unhide HB).size))
  clear b1
  go_wp2_with fail
  refine (Count_no n s h _).mono ?_
  rintro e wq ⟨rfl, rfl⟩
  go_wp2_with fail
  refine (size_any n s _ false h).mono ?_
  rintro e wq ⟨rfl, rfl⟩
  go_wp2_with fail
  refine (awake_any _).mono ?_
  rintro e w2 ⟨rfl, b2⟩
  replace HB := hide ((unhide HB).trans (b2.mono (unhide HB).size))
  clear b2
  go_wp2_with fail
  go_ret
  exact ⟨rfl, unhide HB⟩

set_option maxRecDepth 100000 in
set_option maxHeartbeats 1000000 in
theorem LFirst_none (n s : Nat) (hn : 1 ≤ n ∧ n ≤ 8) (hs : 1 ≤ s ∧ s ≤ 2) (h : Hid ((ctB (n : Int) && shB (s : Int)) = true)) (hx : Hid (rowsL n s = [])) (w : World) :
    Calls Try.prog 4 #[.int .i64 n, .int .i64 s] w fun e w' => e = .returned (.bool true) ∧ Below w.heap.size w w' := by
  have HB := hide (Below.refl w.heap.size w)
  go_enter Try.func4, Try.ntmps4
  go_wp2_with fail
  refine (First_none n s hn hs hx _).mono ?_
  rintro e w1 ⟨rfl, b1⟩
  replace HB := hide ((unhide HB).trans (b1.mono (unhide HB).size))
  clear b1
  go_wp2_with fail
  refine (Count_ok n s hn hs _).mono ?_
  rintro e w2 ⟨rfl, b2⟩
  replace HB := hide ((unhide HB).trans (b2.mono (unhide HB).size))
  clear b2
  rw [hx.out, List.length_nil]
  go_wp2_with fail
  refine (size_any n s _ true h).mono ?_
  rintro e wq ⟨rfl, rfl⟩
  go_wp2_with fail
  refine (RFirst_none n s hn hs hx _).mono ?_
  rintro e w3 ⟨rfl, b3⟩
  replace HB := hide ((unhide HB).trans (b3.mono (unhide HB).size))
  clear b3
  go_wp2_with fail
  refine (equal_is _ _ _ _ _ _ _ _ _ _ _ (Ints.none_ _ 0) (Ints.none_ _ 0) (hide rfl)).mono ?_
  rintro e w4 ⟨rfl, qq4, hq4⟩
  have b4 : Below w3.heap.size w3 w4 := by rw [hq4]; exact Below.drewN' (Below.refl _ _) qq4
  clear hq4
  replace HB := hide ((unhide HB).trans (b4.mono (unhide HB).size))
  clear b4
  go_wp2_with fail
  refine (RCount_any n s hn hs _).mono ?_
  rintro e w5 ⟨rfl, b5⟩
  replace HB := hide ((unhide HB).trans (b5.mono (unhide HB).size))
  clear b5
  rw [hx.out, List.length_nil]
  go_wp2_with fail
  refine (awake_any _).mono ?_
  rintro e w6 ⟨rfl, b6⟩
  replace HB := hide ((unhide HB).trans (b6.mono (unhide HB).size))
  clear b6
  go_wp2_with fail
  go_ret
  exact ⟨rfl, unhide HB⟩

set_option maxRecDepth 100000 in
set_option maxHeartbeats 1000000 in
theorem LFirst_ok (n s : Nat) (hn : 1 ≤ n ∧ n ≤ 8) (hs : 1 ≤ s ∧ s ≤ 2) (h : Hid ((ctB (n : Int) && shB (s : Int)) = true)) (x : List Int) (rest : List (List Int)) (hx : Hid (rowsL n s = x :: rest)) (hxl : x.length ≤ 16) (w : World) :
    Calls Try.prog 4 #[.int .i64 n, .int .i64 s] w fun e w' => e = .returned (.bool true) ∧ Below w.heap.size w w' := by
  have HB := hide (Below.refl w.heap.size w)
  go_enter Try.func4, Try.ntmps4
  go_wp2_with fail
  refine (First_ok n s hn hs x rest hx hxl _).mono ?_
  rintro e w1 ⟨A1, n1, c1, rfl, i1, b1⟩
  replace i1 := hide i1
  replace HB := hide ((unhide HB).trans (b1.mono (unhide HB).size))
  clear b1
  go_wp2_with fail
  refine (Count_ok n s hn hs _).mono ?_
  rintro e w2 ⟨rfl, b2⟩
  replace i1 := hide ((unhide i1).on b2)
  replace HB := hide ((unhide HB).trans (b2.mono (unhide HB).size))
  clear b2
  obtain ⟨L, hL⟩ : ∃ L, (rowsL n s).length = L := ⟨_, rfl⟩
  rw [hL]
  have HLL := hide hL
  have hLb : L ≤ 134217728 := by rw [← hL]; exact rowsL_len hn.2
  clear hL
  go_wp2_with fail
  refine (size_any n s _ true h).mono ?_
  rintro e wq ⟨rfl, rfl⟩
  go_wp2_with fail
  refine (RFirst_ok n s hn hs x rest hx _).mono ?_
  rintro e w3 ⟨A2, n2, c2, rfl, i2, b3⟩
  replace i1 := hide ((unhide i1).on b3)
  replace i2 := hide i2
  replace HB := hide ((unhide HB).trans (b3.mono (unhide HB).size))
  clear b3
  go_wp2_with fail
  refine (equal_is _ _ _ _ _ _ _ _ _ _ _ (unhide i1) (unhide i2) (hide rfl)).mono ?_
  rintro e w4 ⟨rfl, qq4, hq4⟩
  have b4 : Below w3.heap.size w3 w4 := by rw [hq4]; exact Below.drewN' (Below.refl _ _) qq4
  clear hq4
  replace i1 := hide ((unhide i1).on b4)
  replace i2 := hide ((unhide i2).on b4)
  replace HB := hide ((unhide HB).trans (b4.mono (unhide HB).size))
  clear b4
  go_wp2_with fail
  refine (RCount_any n s hn hs _).mono ?_
  rintro e w5 ⟨rfl, b5⟩
  replace i1 := hide ((unhide i1).on b5)
  replace i2 := hide ((unhide i2).on b5)
  replace HB := hide ((unhide HB).trans (b5.mono (unhide HB).size))
  clear b5
  rw [HLL.out]
  go_wp2_with fail
  refine (awake_any _).mono ?_
  rintro e w6 ⟨rfl, b6⟩
  replace i1 := hide ((unhide i1).on b6)
  replace i2 := hide ((unhide i2).on b6)
  replace HB := hide ((unhide HB).trans (b6.mono (unhide HB).size))
  clear b6
  go_wp2_with fail
  go_ret
  exact ⟨rfl, unhide HB⟩

theorem fillL_each (s : Nat) : ∀ (f : Nat) (xs ys : List Int), ys ∈ fillL f s xs → ys.length = xs.length
  | 0, xs, ys, h => by simp [fillL] at h
  | f + 1, xs, ys, h => by
    rcases ix_cases xs 0 with ⟨e, _⟩ | ⟨p, e, _⟩
    · rw [fillL_end (by omega)] at h; simp at h; rw [h]
    · rw [fillL_on e] at h
      obtain ⟨j, _, h2⟩ := List.mem_flatMap.1 h
      unfold fillS at h2
      split at h2
      · cases h2
      · rw [fillL_each s f _ ys h2, putR_len]
theorem LFirst_any (n s : Int) (w : World) : Calls Try.prog 4 #[.int .i64 n, .int .i64 s] w fun e w' => e = .returned (.bool true) ∧ Below w.heap.size w w' := by
  cases h : (ctB n && shB s) with
  | false => exact LFirst_no n s (hide h) w
  | true =>
    obtain ⟨h1, h2⟩ := and2 h
    have h3 := ct_iff.1 h1
    have h4 := shB_pos h2
    obtain ⟨N, rfl⟩ : ∃ N : Nat, n = (N : Int) := ⟨n.toNat, by omega⟩
    obtain ⟨S, rfl⟩ : ∃ S : Nat, s = (S : Int) := ⟨s.toNat, by omega⟩
    cases hr : rowsL N S with
    | nil => exact LFirst_none N S (by omega) (by omega) (hide h) (hide hr) w
    | cons x rest =>
      refine LFirst_ok N S (by omega) (by omega) (hide h) x rest (hide hr) ?_ w
      have := fillL_each S (N + 1) (List.replicate (2 * N) 0) x (by show x ∈ rowsL N S; rw [hr]; simp)
      rw [this]; simp; omega
end Go.Proofs.Ytmgoonoifgcmnaa
