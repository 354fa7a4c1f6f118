import Derived.Test.YtdlbahoenhhkdaaL2
/-
  The law SketchKept walked.
-/
namespace Go.Proofs.Ytdlbahoenhhkdaa
open Go.RowKit

set_option maxHeartbeats 1000000 in
theorem LKept_no (A : Option Addr) (n c : Nat) (xs : List Int) (A' : Option Addr) (n' c' : Nat) (ds : List Int) (k : Int) (w : World) (h : Ints w w.heap.size A n c xs) (h' : Ints w w.heap.size A' n' c' ds)
    (hn : Hid ((cntB k && isStr (xs.take 45) && diceB (ds.take 45) (xs.take 45).length) = false)) :
    Calls Try.prog 15 #[.int .i64 k, .slice A n c, .slice A' n' c'] w fun e w' => e = .returned (.bool true) ∧ Below w.heap.size w w' := by
  go_enter Try.func15, Try.ntmps15
  go_wp2_with fail
  refine (list_ints _ _ _ _ _ _ h (Nat.le_refl _)).mono ?_
  rintro e w1 ⟨A1, n1, c1, rfl, i1, b1⟩
  go_wp2_with fail
  refine (list_ints _ _ _ _ _ _ (h'.below b1) b1.size).mono ?_
  rintro e w2 ⟨A2, n2, c2, rfl, i2, b2⟩
  have b2' := b1.trans (b2.mono b1.size)
  go_wp2_with fail
  refine (Keep_no _ _ _ _ _ _ _ _ _ _ _ _ (i1.below b2) i2 hn).mono ?_
  rintro e w3 ⟨rfl, rfl⟩
  go_wp2_with (go_at_call 21; refine (awake_any _).mono ?_; rintro e w3 ⟨rfl, b3⟩)
  go_ret
  exact ⟨rfl, b2'.trans (b3.mono b2'.size)⟩

set_option maxHeartbeats 1000000 in
theorem LKept_all (A : Option Addr) (n c : Nat) (xs : List Int) (A' : Option Addr) (n' c' : Nat) (ds : List Int) (K : Nat) (w : World) (h : Ints w w.heap.size A n c xs) (h' : Ints w w.heap.size A' n' c' ds)
    (H1 : Hid (cntB (K : Int) = true)) (H2 : Hid (isStr xs = true)) (H3 : Hid (diceB ds xs.length = true)) (hKn : n ≤ K) :
    Calls Try.prog 15 #[.int .i64 (K : Int), .slice A n c, .slice A' n' c'] w fun e w' => e = .returned (.bool true) ∧ Below w.heap.size w w' := by
  have hx := hide (take_of_str H2.out)
  have hd := hide (show ds.take 45 = ds from List.take_of_length_le (by have := diceB_len H3.out; have := isStr_len H2.out; omega))
  have hl := hide h.len
  have hm := h.most; have hcap := h.cap
  have hall := hide (keep_all K xs ds (by rw [hl.out]; exact hKn))
  go_enter Try.func15, Try.ntmps15
  go_wp2_with fail
  refine (list_ints _ _ _ _ _ _ h (Nat.le_refl _)).mono ?_
  rintro e w1 ⟨A1, n1, c1, rfl, i1, b1⟩
  rw [hx.out] at i1
  go_wp2_with fail
  refine (list_ints _ _ _ _ _ _ (h'.below b1) b1.size).mono ?_
  rintro e w2 ⟨A2, n2, c2, rfl, i2, b2⟩
  rw [hd.out] at i2
  have b2' := b1.trans (b2.mono b1.size)
  go_wp2_with fail
  refine (Keep_ok _ _ _ _ _ _ _ _ _ _ ((i1.below b2).more b2.size) i2 H1 H2 H3).mono ?_
  rintro e w3 ⟨v3, rfl, o3, b3⟩
  obtain ⟨A3, c3, rfl, i3⟩ := o3.ints
  have b3' := b2'.trans (b3.mono b2'.size)
  have j1 := h.below b3'
  have j2 := h'.below b3'
  go_wp2_with (first
    | (go_at_call 19; refine (RCounters_is _ _ _ H1).mono ?_; rintro e w3 ⟨rfl, rfl⟩)
    | (go_at_call 20; refine (RStream_is _ _ _ _ _ _ j1 _ H2).mono ?_; rintro e w3 ⟨rfl, rfl⟩)
    | (go_at_call 46; refine (RDice_is _ _ _ _ _ _ _ _ _ _ _ j1 j2 _ H3).mono ?_; rintro e w3 ⟨rfl, rfl⟩)
    | (go_at_call 29; refine (equal_is _ _ _ _ _ _ _ _ _ _ _ i3 j1 hall).mono ?_; rintro e w5 ⟨rfl, q, rfl⟩))
  have b5' := Below.drewN' b3' q
  refine (awake_any _).mono ?_
  rintro e w6 ⟨rfl, b6⟩
  go_wp2_with fail
  go_ret
  exact ⟨rfl, b5'.trans (b6.mono b5'.size)⟩

set_option maxHeartbeats 1000000 in
theorem LKept_some (A : Option Addr) (n c : Nat) (xs : List Int) (A' : Option Addr) (n' c' : Nat) (ds : List Int) (K : Nat) (w : World) (h : Ints w w.heap.size A n c xs) (h' : Ints w w.heap.size A' n' c' ds)
    (H1 : Hid (cntB (K : Int) = true)) (H2 : Hid (isStr xs = true)) (H3 : Hid (diceB ds xs.length = true)) (hKn : K < n) :
    Calls Try.prog 15 #[.int .i64 (K : Int), .slice A n c, .slice A' n' c'] w fun e w' => e = .returned (.bool true) ∧ Below w.heap.size w w' := by
  have hx := hide (take_of_str H2.out)
  have hd := hide (show ds.take 45 = ds from List.take_of_length_le (by have := diceB_len H3.out; have := isStr_len H2.out; omega))
  have hl := hide h.len
  have hm := h.most; have hcap := h.cap
  have hkl := hide (show (keep K xs ds).length = K from by rw [keep_len, hl.out]; omega)
  obtain ⟨k1, k2⟩ := cntB_bd H1.out
  have hdec : decide (n ≤ K) = false := by simp; omega
  go_enter Try.func15, Try.ntmps15
  go_wp2_with fail
  refine (list_ints _ _ _ _ _ _ h (Nat.le_refl _)).mono ?_
  rintro e w1 ⟨A1, n1, c1, rfl, i1, b1⟩
  rw [hx.out] at i1
  go_wp2_with fail
  refine (list_ints _ _ _ _ _ _ (h'.below b1) b1.size).mono ?_
  rintro e w2 ⟨A2, n2, c2, rfl, i2, b2⟩
  rw [hd.out] at i2
  have b2' := b1.trans (b2.mono b1.size)
  go_wp2_with fail
  refine (Keep_ok _ _ _ _ _ _ _ _ _ _ ((i1.below b2).more b2.size) i2 H1 H2 H3).mono ?_
  rintro e w3 ⟨v3, rfl, o3, b3⟩
  obtain ⟨A3, c3, rfl, i3⟩ := o3.ints
  have b3' := b2'.trans (b3.mono b2'.size)
  have j1 := h.below b3'
  have j2 := h'.below b3'
  rw [hkl.out] at i3 ⊢
  go_wp2_with (first
    | (go_at_call 19; refine (RCounters_is _ _ _ H1).mono ?_; rintro e w3 ⟨rfl, rfl⟩)
    | (go_at_call 20; refine (RStream_is _ _ _ _ _ _ j1 _ H2).mono ?_; rintro e w3 ⟨rfl, rfl⟩)
    | (go_at_call 46; refine (RDice_is _ _ _ _ _ _ _ _ _ _ _ j1 j2 _ H3).mono ?_; rintro e w3 ⟨rfl, rfl⟩))
  go_loopw [54, 9] (fun i _ wr => ∃ j : Nat, j ≤ 16 ∧ i = .int .i64 j ∧ w3 = wr) (fun i _ _ => 16 - (intOf i).toNat)
  case atStart => exact ⟨0, by omega, rfl, rfl⟩
  case round =>
    obtain ⟨j, hj, rfl, rfl⟩ := hrel
    by_cases hlt : j < 16
    · have hle := keep_count K xs ds j
      go_wp2_with fail
      refine (ROften_any _ _ _ _ _ _ _ i3).mono ?_
      rintro e w4 ⟨rfl, rfl⟩
      go_wp2_with fail
      refine (ROften_any _ _ _ _ _ _ _ j1).mono ?_
      rintro e w4 ⟨rfl, rfl⟩
      go_wp2_with fail
      go_roundw
      case rel => exact ⟨j + 1, by omega, by go_num, trivial⟩
      case measure => simp [intOf]; omega
    · go_wp2
      go_loopw [67, 11] (fun i _ wr => ∃ j : Nat, j ≤ K ∧ i = .int .i64 j ∧ w3 = wr) (fun i _ _ => K - (intOf i).toNat)
      case atStart => exact ⟨0, by omega, rfl, rfl⟩
      case round =>
        obtain ⟨m, hm', rfl, rfl⟩ := hrel
        by_cases hlt : m < K
        · obtain ⟨b, off, rfl, hb, hc⟩ := i3.at_ m hlt
          have HM := hide (show decide (nth (keep K xs ds) m ∈ xs) = true from by rw [decide_eq_true_eq]; exact keep_mem K xs ds m (by rw [hkl.out]; exact hlt))
          go_wp2_with (go_at_call 50; refine (contains_is _ _ _ _ _ _ _ j1 _ HM).mono ?_; rintro e w4 ⟨rfl, rfl⟩)
          go_roundw
          case rel => exact ⟨m + 1, by omega, by go_num, trivial⟩
          case measure => simp [intOf]; omega
        · go_wp2_with (go_at_call 21; refine (awake_any _).mono ?_; rintro e w6 ⟨rfl, b6⟩)
          go_ret
          exact ⟨rfl, b3'.trans (b6.mono b3'.size)⟩

theorem LKept_any (A : Option Addr) (n c : Nat) (xs : List Int) (A' : Option Addr) (n' c' : Nat) (ds : List Int) (k : Int) (w : World) (h : Ints w w.heap.size A n c xs) (h' : Ints w w.heap.size A' n' c' ds) :
    Calls Try.prog 15 #[.int .i64 k, .slice A n c, .slice A' n' c'] w fun e w' => e = .returned (.bool true) ∧ Below w.heap.size w w' := by
  have hc := keepCase k xs ds
  rcases hv : (cntB k && isStr xs && diceB ds xs.length)
  · exact LKept_no _ _ _ _ _ _ _ _ _ _ h h' (hide ((keep_guard k xs ds).trans hv))
  · rcases hc with h1 | ⟨h1, h2⟩ | ⟨h1, h2, h3⟩ | ⟨K, rfl, h1, h2, h3⟩
    · simp [h1] at hv
    · simp [h2] at hv
    · simp [h3] at hv
    · rcases Nat.lt_or_ge K n with hlt | hge
      · exact LKept_some _ _ _ _ _ _ _ _ _ _ h h' (hide h1) (hide h2) (hide h3) hlt
      · exact LKept_all _ _ _ _ _ _ _ _ _ _ h h' (hide h1) (hide h2) (hide h3) hge
end Go.Proofs.Ytdlbahoenhhkdaa
