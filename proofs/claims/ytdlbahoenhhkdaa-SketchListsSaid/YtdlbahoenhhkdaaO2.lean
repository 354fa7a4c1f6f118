import Derived.Test.YtdlbahoenhhkdaaO1
/-
  list, Often, slices.Equal, awake.
-/
namespace Go.Proofs.Ytdlbahoenhhkdaa
open Go.RowKit

set_option maxHeartbeats 400000 in
theorem list_any (A : Option Addr) (n c : Nat) (xs : List Int) (w : World) (B : Nat) (h : Ints w B A n c xs) (hB : B ≤ w.heap.size) :
    Calls Try.prog 17 #[.slice A n c] w fun e w' => ∃ v, e = .returned v ∧ Owned w' w.heap.size v (xs.take 45) ∧ Below w.heap.size w w' := by
  have hm := h.most; have hcap := h.cap
  have hl := hide h.len
  by_cases h1 : n ≤ 45
  · have hx := hide (show xs.take 45 = xs from List.take_of_length_le (by have := hl.out; omega))
    go_enter Try.func17, Try.ntmps17
    go_wp2_with fail
    all_goals first | (exfalso; omega) | skip
    refine (clone_any _ _ _ _ _ _ h (by omega) hB).mono ?_
    rintro e w' ⟨v, rfl, ho, hb⟩
    go_wp2_with fail
    go_ret
    exact ⟨_, rfl, by rw [hx.out]; exact ho, hb⟩
  · have hcut := hide (h.cut (k := 45) (by omega))
    have h2 : 45 ≤ n := by omega
    go_enter Try.func17, Try.ntmps17
    go_wp2_with fail
    all_goals first | (exfalso; omega) | skip
    refine (clone_any _ _ _ _ _ _ (unhide hcut) (by omega) hB).mono ?_
    rintro e w' ⟨v, rfl, ho, hb⟩
    go_wp2_with fail
    go_ret
    exact ⟨_, rfl, ho, hb⟩
theorem list_ints (A : Option Addr) (n c : Nat) (xs : List Int) (w : World) (B : Nat) (h : Ints w B A n c xs) (hB : B ≤ w.heap.size) :
    Calls Try.prog 17 #[.slice A n c] w fun e w' => ∃ A' n' c', e = .returned (.slice A' n' c') ∧ Ints w' w'.heap.size A' n' c' (xs.take 45) ∧ Below w.heap.size w w' :=
  (list_any A n c xs w B h hB).mono fun _ _ ⟨_, he, ho, hb⟩ => by
    obtain ⟨A', c', rfl, hi⟩ := ho.ints
    exact ⟨A', _, c', he, hi, hb⟩

theorem isStr_take (xs : List Int) : isStr (xs.take 45) = isStr xs := by
  by_cases h : xs.length ≤ 45
  · rw [List.take_of_length_le h]
  · have h1 : isStr xs = false := by simp [isStr]; omega
    have h2 : isStr (xs.take 45) = false := by simp [isStr]; omega
    rw [h1, h2]
theorem take_of_str {xs : List Int} (h : isStr xs = true) : xs.take 45 = xs := List.take_of_length_le (by have := isStr_len h; omega)

set_option maxHeartbeats 400000 in
theorem Often_ok (A : Option Addr) (n c : Nat) (xs : List Int) (key : Int) (w : World) (h : Ints w w.heap.size A n c xs) (hs : Hid (isStr xs = true)) (hk : Hid (isKeyB key = true)) :
    Calls Try.prog 26 #[.slice A n c, .int .i64 key] w fun e w' => e = .returned (.tuple #[.int .i64 (often xs key), .int .i64 0]) ∧ Below w.heap.size w w' := by
  have hk0 := hk.out
  simp only [isKeyB, Bool.and_eq_true, decide_eq_true_eq] at hk0
  obtain ⟨k, rfl⟩ : ∃ k : Nat, key = k := ⟨key.toNat, by omega⟩
  have hix := fun W => run_index_tarr (fun i => often xs i) k (by omega) W
  clear hk0
  go_enter Try.func26, Try.ntmps26
  go_wp2_with (first
    | (go_at_call 59; refine (isStream_is _ _ _ _ _ _ h _ hs).mono ?_; rintro e w' ⟨rfl, rfl⟩)
    | (go_at_call 60; refine (isKey_is _ _ _ hk).mono ?_; rintro e w' ⟨rfl, rfl⟩)
    | (go_at_call 61; refine (tally_any _ _ _ _ _ h hs).mono ?_; rintro e w1 ⟨rfl, hb⟩))
  go_ret2
  exact ⟨rfl, hb⟩

theorem and_no {a b : Bool} (h : (a && b) = false) : a = false ∨ (a = true ∧ b = false) := by cases a <;> simp_all

set_option maxHeartbeats 400000 in
theorem Often_no (A : Option Addr) (n c : Nat) (xs : List Int) (key : Int) (w : World) (B : Nat) (h : Ints w B A n c xs) (hs : Hid ((isStr xs && isKeyB key) = false)) :
    Calls Try.prog 26 #[.slice A n c, .int .i64 key] w fun e w' => e = .returned (.tuple #[.int .i64 0, .int .i64 2]) ∧ w = w' := by
  rcases and_no hs.out with h1 | ⟨h1, h2⟩
  · have H1 := hide h1; clear h1
    go_enter Try.func26, Try.ntmps26
    go_wp2_with (go_at_call 59; refine (isStream_is _ _ _ _ _ _ h _ H1).mono ?_; rintro e w' ⟨rfl, rfl⟩)
    go_ret2
    exact ⟨rfl, rfl⟩
  · have H1 := hide h1; clear h1
    have H2 := hide h2; clear h2
    go_enter Try.func26, Try.ntmps26
    go_wp2_with (first
      | (go_at_call 59; refine (isStream_is _ _ _ _ _ _ h _ H1).mono ?_; rintro e w' ⟨rfl, rfl⟩)
      | (go_at_call 60; refine (isKey_is _ _ _ H2).mono ?_; rintro e w' ⟨rfl, rfl⟩))
    go_ret2
    exact ⟨rfl, rfl⟩

def EqTo (xs ys : List Int) (k : Nat) : Prop := ∀ j, j < k → nth xs j = nth ys j
theorem eq_of_to {xs ys : List Int} (hl : xs.length = ys.length) (h : EqTo xs ys xs.length) : xs = ys := by
  apply List.ext_getElem hl
  intro i h1 h2
  have := h i h1
  simpa [nth, List.getD, h1, h2] using this

set_option maxHeartbeats 400000 in
theorem equal_any (A A' : Option Addr) (n c n' c' : Nat) (xs ys : List Int) (w : World) (B B' : Nat) (h : Ints w B A n c xs) (h' : Ints w B' A' n' c' ys) :
    Calls Try.prog 29 #[.slice A n c, .slice A' n' c'] w fun e w' => e = .returned (.bool (decide (xs = ys))) ∧ ∃ q, w' = w.drewN q := by
  have hm := h.most; have hcap := h.cap; have hm' := h'.most; have hcap' := h'.cap
  have hl := hide h.len; have hl' := hide h'.len
  by_cases hn : n = n'
  · subst hn
    go_enter Try.func29, Try.ntmps29
    go_wp2
    go_loopw [5, 13] (fun _ i wr => ∃ k : Nat, k ≤ n ∧ i = .int .i64 k ∧ EqTo xs ys k ∧ ∃ q, wr = w.drewN q) (fun _ i _ => n - (intOf i).toNat)
    case atStart => exact ⟨0, Nat.zero_le _, rfl, (by intro j h1; omega), 0, rfl⟩
    case round =>
      obtain ⟨k, hk, rfl, hall, q, rfl⟩ := hrel
      have HA : Hid _ := hall
      clear hall
      by_cases hlt : k < n
      · obtain ⟨b, off, rfl, hb, hc⟩ := h.at_ k hlt
        obtain ⟨b1, off1, rfl, hb1, hc1⟩ := h'.at_ k hlt
        by_cases he : nth xs k = nth ys k
        · have he' : (nth xs k != nth ys k) = false := by simp [he]
          have HE := hide he; clear he
          go_wp2
          go_quiet (fail)
          go_wp2
          go_roundw
          case rel => exact ⟨k + 1, by omega, by go_num, (by
            intro j hj
            rcases Nat.lt_or_ge j k with h1 | h1
            · exact (unhide HA) j h1
            · obtain rfl : j = k := by omega
              exact HE.out), (by first | exact ⟨_, rfl⟩ | exact quiet_q _ _ _)⟩
          case measure => simp [intOf]; omega
        · have he' : (nth xs k != nth ys k) = true := by simp [he]
          have HE := hide he; clear he
          go_wp2
          go_quiet (fail)
          go_wp2
          go_ret
          exact ⟨ret_bool (by
            symm; rw [decide_eq_false_iff_not]; intro e; exact HE.out (by rw [e])), (by first | exact ⟨_, rfl⟩ | exact quiet_q _ _ _)⟩
      · go_wp2
        go_ret
        obtain rfl : k = n := by omega
        exact ⟨ret_bool (by
          symm; rw [decide_eq_true_eq]; exact eq_of_to (by rw [hl.out, hl'.out]) (by rw [hl.out]; exact unhide HA)), (by first | exact ⟨_, rfl⟩ | exact quiet_q _ _ _)⟩
  · have hn' : ((n : Int) != (n' : Int)) = true := by simp; omega
    go_enter Try.func29, Try.ntmps29
    go_wp2
    go_ret
    exact ⟨ret_bool (by
      symm; rw [decide_eq_false_iff_not]; intro e
      have e1 := hl.out; have e2 := hl'.out
      rw [e] at e1; omega), 0, rfl⟩
theorem equal_is (A A' : Option Addr) (n c n' c' : Nat) (xs ys : List Int) (w : World) (B B' : Nat) (h : Ints w B A n c xs) (h' : Ints w B' A' n' c' ys) (hb : Hid (xs = ys)) :
    Calls Try.prog 29 #[.slice A n c, .slice A' n' c'] w fun e w' => e = .returned (.bool true) ∧ ∃ q, w' = w.drewN q :=
  (equal_any A A' n c n' c' xs ys w B B' h h').mono fun _ _ ⟨he, hw⟩ => ⟨by rw [he]; exact ret_bool (by rw [decide_eq_true_eq]; exact hb.out), hw⟩

theorem ints_three (w : World) : Ints (w.alloc (.cells #[.int .i64 3, .int .i64 1, .int .i64 3] 3)) (w.heap.size + 1) (some ⟨w.heap.size, 0, none⟩) 3 3 [3, 1, 3] :=
  ⟨rfl, Nat.le_refl _, by omega, (fun e => by cases e), fun k hk => ⟨w.heap.size, 0, rfl, by omega, by
    have : k = 0 ∨ k = 1 ∨ k = 2 := by omega
    rcases this with rfl | rfl | rfl <;> (rw [World.cell?_alloc_at _ _ _ _ rfl]; rfl)⟩⟩

set_option maxHeartbeats 400000 in
theorem awake_any (w : World) : Calls Try.prog 21 #[] w fun e w' => e = .returned (.bool true) ∧ Below w.heap.size w w' := by
  have h := ints_three w
  have hs : Hid (isStr [3, 1, 3] = true) := by unfold Hid; decide
  have hk : Hid (isKeyB 3 = true) := by unfold Hid; decide
  have ho : Hid (often [3, 1, 3] 3 = 2) := by unfold Hid; decide
  go_enter Try.func21, Try.ntmps21
  go_wp2_with fail
  refine (Often_ok _ _ _ _ _ _ (by simpa using h) hs hk).mono ?_
  rintro e w1 ⟨rfl, hb⟩
  rw [ho.out]
  go_wp2_with fail
  go_ret
  exact ⟨rfl, ((Below.refl _ _).alloc (Nat.le_refl _) _).trans (hb.mono (by simp))⟩
end Go.Proofs.Ytdlbahoenhhkdaa
