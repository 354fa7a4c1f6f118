/-
  How many keys there are of two rows and two columns.
-/
import Derived.Test.YtabgifpenegofaaZ6
import Derived.Test.YtabgifpenegofaaY3
namespace Go.Proofs.Ytabgifpenegofaa
open Go.RowKit

theorem fam_two (a b c d : Nat) (h : a + b ≤ 16) (e : a + b = c + d) : (famL (nth [(a : Int), (b : Int)]) (nth [(c : Int), (d : Int)])).length = 1 + min (min a b) (min c d) := by
  have h0 := chk2_true
  unfold chk2 at h0
  have h1 := List.all_eq_true.1 h0 (a + b) (List.mem_range.2 (by omega))
  have h2 := List.all_eq_true.1 h1 a (List.mem_range.2 (by omega))
  have h3 := List.all_eq_true.1 h2 c (List.mem_range.2 (by omega))
  rw [show a + b - a = b from by omega, show a + b - c = d from by omega] at h3
  simpa using h3
theorem fam_none (a b c d : Int) (ha : 0 ≤ a) (hb : 0 ≤ b) (hc : 0 ≤ c) (hd : 0 ≤ d) (hne : a + b ≠ c + d) : (famL (nth [a, b]) (nth [c, d])).length = 0 := by
  have hcc : ∀ i, i < 3 → 0 ≤ nth [c, d] i := fun i hi => by
    rcases (show i = 0 ∨ i = 1 ∨ i = 2 by omega) with rfl | rfl | rfl
    · exact hc
    · exact hd
    · exact Int.le_refl 0
  rw [List.length_eq_zero_iff]
  unfold famL fm1
  rw [List.flatMap_eq_nil_iff]
  intro x hx
  have px := ptsL_mem (show 0 ≤ nth [a, b] 0 from ha) hcc hx
  unfold fm2
  rw [List.flatMap_eq_nil_iff]
  intro y hy
  have py := ptsL_mem (show 0 ≤ nth [a, b] 1 from hb) (fun i hi => by have := px.hi i hi; unfold lft; omega) hy
  refine if_neg ?_
  have e1 := px.sum
  have e2 := py.sum
  rw [show nth [a, b] 0 = a from rfl] at e1
  rw [show nth [a, b] 1 = b from rfl] at e2
  rw [show nth [a, b] 2 = 0 from rfl, show nth [c, d] 0 = c from rfl, show nth [c, d] 1 = d from rfl, show nth [c, d] 2 = 0 from rfl]
  omega
theorem areC_nth {lim : Int} {xs : List Int} (h : areC lim xs = true) (hl : 0 ≤ lim) : xs.length ≤ 3 ∧ ∀ i, 0 ≤ nth xs i ∧ nth xs i ≤ lim := by
  obtain ⟨_, h2, h3, h4⟩ := areC_iff.1 h
  rw [sum3 h2] at h4
  have hn : ∀ i, 0 ≤ nth xs i := fun i => by
    rcases Nat.lt_or_ge i xs.length with hi | hi
    · exact h3 _ (nth_mem hi)
    · rw [nth_out hi]; omega
  have a0 := hn 0; have a1 := hn 1; have a2 := hn 2
  refine ⟨h2, fun i => ⟨hn i, ?_⟩⟩
  rcases (show i = 0 ∨ i = 1 ∨ i = 2 ∨ 3 ≤ i by omega) with rfl | rfl | rfl | hi
  · omega
  · omega
  · omega
  · rw [nth_out (by omega)]; exact hl
set_option maxRecDepth 100000 in
set_option maxHeartbeats 2000000 in
theorem Count_ok (A A' : Option Addr) (n c n' c' : Nat) (xs ys : List Int) (w : World) (h : Ints w w.heap.size A n c xs) (h' : Ints w w.heap.size A' n' c' ys) (hx : Hid (areC 16 xs = true)) (hy : Hid (areC 16 ys = true)) (k : Nat) (hk : Hid ((famL (nth xs) (nth ys)).length = k)) :
    Calls Try.prog 31 #[.slice A n c, .slice A' n' c'] w fun e w' => e = .returned (.tuple #[.int .i64 (k : Int), .int .i64 0]) ∧ Below w.heap.size w w' := by
  have hlx := hide h.len; have hly := hide h'.len
  obtain ⟨x3, xb⟩ := areC_nth hx.out (by omega)
  obtain ⟨y3, yb⟩ := areC_nth hy.out (by omega)
  have HXB := hide (show ∀ i, i < 3 → 0 ≤ nth xs i ∧ nth xs i ≤ 16 from fun i _ => xb i)
  have HYB := hide (show ∀ i, i < 3 → 0 ≤ nth ys i ∧ nth ys i ≤ 16 from fun i _ => yb i)
  have n3 : n ≤ 3 := by rw [← hlx.out]; exact x3
  have n3' : n' ≤ 3 := by rw [← hly.out]; exact y3
  have H := hide h; have H' := hide h'
  clear h h' xb yb
  go_enter Try.func31, Try.ntmps31
  go_upto_region 3 with (first
    | (go_at_call 76; (with_reducible refine (areCounts_is A _ _ xs _ _ _ (unhide H) (by omega) _ hx).mono ?_); rintro e w' ⟨rfl, rfl⟩)
    | (go_at_call 76; (with_reducible refine (areCounts_is A' _ _ ys _ _ _ (unhide H') (by omega) _ hy).mono ?_); rintro e w' ⟨rfl, rfl⟩))
  go_wp2_with fail
  refine (lineOf_any _ _ _ _ _ (unhide H) n3).mono ?_
  rintro e w1 ⟨rfl, b1⟩
  have H1 := hide (((unhide H').below b1).more b1.size)
  have HB1 := hide b1
  clear b1
  go_wp2_with fail
  refine (lineOf_any _ _ _ _ _ (unhide H1) n3').mono ?_
  rintro e w2 ⟨rfl, b2⟩
  have HB2 := hide ((unhide HB1).trans (b2.mono (unhide HB1).size))
  clear b2
  go_wp2_with fail
  refine (family_any _ _ _ HXB HYB).mono ?_
  rintro e w3 ⟨v3, rfl, o3, b3⟩
  obtain ⟨A3, c3, rfl, i3⟩ := o3.reads
  rw [hk.out] at i3 ⊢
  have hm3 := i3.most; have hc3 := i3.cap
  have HB3 := hide ((unhide HB2).trans (b3.mono (unhide HB2).size))
  clear o3 i3 b3
  go_wp2_with fail
  exact bodyPost_ret (v := .tuple #[.int .i64 (k : Int), .int .i64 0]) (by simp [results, Try.results31, go_sem]) rfl ⟨rfl, unhide HB3⟩
set_option maxRecDepth 100000 in
set_option maxHeartbeats 2000000 in
theorem Count_no (A A' : Option Addr) (n c n' c' : Nat) (xs ys : List Int) (w : World) (h : Ints w w.heap.size A n c xs) (h' : Ints w w.heap.size A' n' c' ys) (hx : Hid ((areC 16 xs && areC 16 ys) = false)) :
    Calls Try.prog 31 #[.slice A n c, .slice A' n' c'] w fun e w' => e = .returned (.tuple #[.int .i64 0, .int .i64 2]) ∧ w = w' := by
  have H := hide h; have H' := hide h'
  clear h h'
  cases h1 : areC 16 xs with
  | false =>
    have HX := hide h1
    clear h1
    go_enter Try.func31, Try.ntmps31
    go_wp2_with (first
      | (go_at_call 76; (with_reducible refine (areCounts_is A _ _ xs _ _ _ (unhide H) (by omega) _ HX).mono ?_); rintro e w' ⟨rfl, rfl⟩))
    exact bodyPost_ret (v := .tuple #[.int .i64 0, .int .i64 2]) (by simp [results, Try.results31, go_sem]) rfl ⟨rfl, rfl⟩
  | true =>
    have HX := hide h1
    have HY := hide (show areC 16 ys = false from by have := hx.out; rw [h1] at this; exact this)
    clear h1
    go_enter Try.func31, Try.ntmps31
    go_wp2_with (first
      | (go_at_call 76; (with_reducible refine (areCounts_is A _ _ xs _ _ _ (unhide H) (by omega) _ HX).mono ?_); rintro e w' ⟨rfl, rfl⟩)
      | (go_at_call 76; (with_reducible refine (areCounts_is A' _ _ ys _ _ _ (unhide H') (by omega) _ HY).mono ?_); rintro e w' ⟨rfl, rfl⟩))
    exact bodyPost_ret (v := .tuple #[.int .i64 0, .int .i64 2]) (by simp [results, Try.results31, go_sem]) rfl ⟨rfl, rfl⟩
/-- The first k are numbers of sums. -/
def MgTo (xs : List Int) (k : Nat) : Prop := ∀ j, j < k → 0 ≤ nth xs j ∧ nth xs j ≤ 16
theorem areC_out {xs : List Int} {k : Nat} (hk : k < xs.length) (h : nth xs k < 0 ∨ 16 < nth xs k) : areC 16 xs = false := by
  rw [Bool.eq_false_iff]; intro hc
  have := (areC_nth hc (by omega)).2 k
  omega
set_option maxRecDepth 100000 in
set_option maxHeartbeats 2000000 in
theorem RMargin_any (A : Option Addr) (n c : Nat) (xs : List Int) (w : World) (B : Nat) (h : Ints w B A n c xs) :
    Calls Try.prog 33 #[.slice A n c] w fun e w' => e = .returned (.bool (areC 16 xs)) ∧ w = w' := by
  have hm := h.most; have hcap := h.cap
  have hl := hide h.len
  go_enter Try.func33, Try.ntmps33
  go_wp2_with fail
  go_loop [4, 7] (fun _ i => ∃ k : Nat, k ≤ n ∧ i = .int .i64 k ∧ Hid (MgTo xs k)) (fun _ i => n - (intOf i).toNat)
  case atStart => exact ⟨0, Nat.zero_le _, rfl, hide (fun j hj => absurd hj (by omega))⟩
  case round =>
    obtain ⟨k, hk, rfl, HN⟩ := hrel
    by_cases hlt : k < n
    · obtain ⟨b, off, rfl, hb, hc⟩ := h.at_ k hlt
      have hkl : k < xs.length := by have := hl.out; omega
      by_cases c1 : nth xs k < 0
      · have HF := hide (areC_out hkl (.inl c1))
        go_wp2_with fail
        go_ret
        exact ⟨ret_bool HF.out.symm, rfl⟩
      · have c1' : decide (nth xs k < 0) = false := by simp; omega
        by_cases c2 : 16 < nth xs k
        · have HF := hide (areC_out hkl (.inr c2))
          go_wp2_with fail
          go_ret
          exact ⟨ret_bool HF.out.symm, rfl⟩
        · have c2' : decide (16 < nth xs k) = false := by simp; omega
          go_wp2_with fail
          go_round
          case rel => exact ⟨k + 1, by omega, by go_num, hide (fun j hj => by
            rcases Nat.lt_or_ge j k with h1 | h1
            · exact HN.out j h1
            · obtain rfl : j = k := by omega
              omega)⟩
          case measure => simp [intOf]; omega
    · obtain rfl : k = n := by omega
      by_cases c1 : k < 1
      · have HF := hide (show areC 16 xs = false from by unfold areC; rw [hl.out]; simp; omega)
        have c1' : decide (1 ≤ (k : Int)) = false := by simp; omega
        go_wp2_with fail
        go_ret
        exact ⟨ret_bool HF.out.symm, rfl⟩
      · have c1' : decide (1 ≤ (k : Int)) = true := by simp; omega
        by_cases c2 : 3 < k
        · have HF := hide (show areC 16 xs = false from by unfold areC; rw [hl.out]; simp; omega)
          have c2' : decide ((k : Int) ≤ 3) = false := by simp; omega
          go_wp2_with fail
          go_ret
          exact ⟨ret_bool HF.out.symm, rfl⟩
        · have c2' : decide ((k : Int) ≤ 3) = true := by simp; omega
          have HX := hide (show ∀ j, 0 ≤ nth xs j ∧ nth xs j ≤ 1000 from fun j => by
            rcases Nat.lt_or_ge j k with h1 | h1
            · have := HN.out j h1; omega
            · rw [nth_out (by rw [hl.out]; exact h1)]; omega)
          have HF := hide (show areC 16 xs = decide (xs.sum ≤ 16) from by
            have h0 : xs.all (fun x => decide (0 ≤ x)) = true := by
              rw [List.all_eq_true]
              intro x hx
              obtain ⟨j, hj, e⟩ := List.getElem_of_mem hx
              have := (HX.out j).1
              rw [show nth xs j = x from by simp [nth, List.getD, hj, e]] at this
              simpa using this
            unfold areC
            rw [hl.out, h0, show decide (1 ≤ k) = true from by simp; omega, show decide (k ≤ 3) = true from by simp; omega]
            rfl)
          have hk3 : k ≤ 1000 := by omega
          have H := hide h
          go_wp2_with (go_at_call 78; refine (total_any _ _ _ _ _ _ (unhide H) hk3 HX.out).mono ?_; rintro e w' ⟨rfl, rfl⟩)
          go_ret
          exact ⟨ret_bool HF.out.symm, rfl⟩
theorem RMargin_is (A : Option Addr) (n c : Nat) (xs : List Int) (w : World) (B : Nat) (h : Ints w B A n c xs) (b : Bool) (hb : Hid (areC 16 xs = b)) :
    Calls Try.prog 33 #[.slice A n c] w fun e w' => e = .returned (.bool b) ∧ w = w' := by rw [← hb.out]; exact RMargin_any A n c xs w B h
end Go.Proofs.Ytabgifpenegofaa
