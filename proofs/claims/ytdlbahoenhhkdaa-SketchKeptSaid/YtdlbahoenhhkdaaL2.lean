import Derived.Test.YtdlbahoenhhkdaaK1
/-
  The law SketchKeeps walked.
-/
namespace Go.Proofs.Ytdlbahoenhhkdaa
open Go.RowKit

/-- What the guard of the laws on Keep says. -/
inductive KeepCase (k : Int) (xs ds : List Int) : Prop
  | noK (h : cntB k = false)
  | noS (h1 : cntB k = true) (h : isStr xs = false)
  | noD (h1 : cntB k = true) (h2 : isStr xs = true) (h : diceB ds xs.length = false)
  | ok (K : Nat) (hK : k = K) (h1 : cntB k = true) (h2 : isStr xs = true) (h : diceB ds xs.length = true)
theorem keepCase (k : Int) (xs ds : List Int) : KeepCase k xs ds := by
  rcases h1 : cntB k
  · exact .noK h1
  rcases h2 : isStr xs
  · exact .noS h1 h2
  rcases h3 : diceB ds xs.length
  · exact .noD h1 h2 h3
  · exact .ok k.toNat (by have := cntB_bd h1; omega) h1 h2 h3

set_option maxHeartbeats 1000000 in
theorem LKeeps_no (A : Option Addr) (n c : Nat) (xs : List Int) (A' : Option Addr) (n' c' : Nat) (ds : List Int) (k : Int) (w : World) (h : Ints w w.heap.size A n c xs) (h' : Ints w w.heap.size A' n' c' ds)
    (hn : Hid ((cntB k && isStr (xs.take 45) && diceB (ds.take 45) (xs.take 45).length) = false)) (hc : Hid (KeepCase k xs ds)) (hv : Hid ((cntB k && isStr xs && diceB ds xs.length) = false)) :
    Calls Try.prog 8 #[.int .i64 k, .slice A n c, .slice A' n' c'] w fun e w' => e = .returned (.bool true) ∧ Below w.heap.size w w' := by
  rcases hc.out with h1 | ⟨h1, h2⟩ | ⟨h1, h2, h3⟩ | ⟨K, hK, h1, h2, h3⟩
  · have H1 := hide h1; clear h1
    go_enter Try.func8, Try.ntmps8
    go_wp2_with fail
    refine (list_ints _ _ _ _ _ _ h (Nat.le_refl _)).mono ?_
    rintro e w1 ⟨A1, n1, c1, rfl, i1, b1⟩
    go_wp2_with fail
    refine (list_ints _ _ _ _ _ _ (h'.below b1) b1.size).mono ?_
    rintro e w2 ⟨A2, n2, c2, rfl, i2, b2⟩
    have b2' := b1.trans (b2.mono b1.size)
    go_wp2_with fail
    refine (Keep_no _ _ _ _ _ _ _ _ _ _ _ _ (i1.below b2) i2 hn).mono ?_
    rintro e w3 ⟨rfl, rfl⟩
    go_wp2_with (first
      | (go_at_call 19; refine (RCounters_is _ _ _ H1).mono ?_; rintro e w3 ⟨rfl, rfl⟩)
      | (go_at_call 21; refine (awake_any _).mono ?_; rintro e w3 ⟨rfl, b3⟩))
    go_ret
    exact ⟨rfl, b2'.trans (b3.mono b2'.size)⟩
  · have H1 := hide h1; clear h1
    have H2 := hide h2; clear h2
    go_enter Try.func8, Try.ntmps8
    go_wp2_with fail
    refine (list_ints _ _ _ _ _ _ h (Nat.le_refl _)).mono ?_
    rintro e w1 ⟨A1, n1, c1, rfl, i1, b1⟩
    go_wp2_with fail
    refine (list_ints _ _ _ _ _ _ (h'.below b1) b1.size).mono ?_
    rintro e w2 ⟨A2, n2, c2, rfl, i2, b2⟩
    have b2' := b1.trans (b2.mono b1.size)
    go_wp2_with fail
    refine (Keep_no _ _ _ _ _ _ _ _ _ _ _ _ (i1.below b2) i2 hn).mono ?_
    rintro e w3 ⟨rfl, rfl⟩
    have i3 := h.below b2'
    go_wp2_with (first
      | (go_at_call 19; refine (RCounters_is _ _ _ H1).mono ?_; rintro e w3 ⟨rfl, rfl⟩)
      | (go_at_call 20; refine (RStream_is _ _ _ _ _ _ i3 _ H2).mono ?_; rintro e w3 ⟨rfl, rfl⟩)
      | (go_at_call 21; refine (awake_any _).mono ?_; rintro e w3 ⟨rfl, b3⟩))
    go_ret
    exact ⟨rfl, b2'.trans (b3.mono b2'.size)⟩
  · have H1 := hide h1; clear h1
    have H2 := hide h2; clear h2
    have H3 := hide h3; clear h3
    go_enter Try.func8, Try.ntmps8
    go_wp2_with fail
    refine (list_ints _ _ _ _ _ _ h (Nat.le_refl _)).mono ?_
    rintro e w1 ⟨A1, n1, c1, rfl, i1, b1⟩
    go_wp2_with fail
    refine (list_ints _ _ _ _ _ _ (h'.below b1) b1.size).mono ?_
    rintro e w2 ⟨A2, n2, c2, rfl, i2, b2⟩
    have b2' := b1.trans (b2.mono b1.size)
    go_wp2_with fail
    refine (Keep_no _ _ _ _ _ _ _ _ _ _ _ _ (i1.below b2) i2 hn).mono ?_
    rintro e w3 ⟨rfl, rfl⟩
    have i3 := h.below b2'
    have i4 := h'.below b2'
    go_wp2_with (first
      | (go_at_call 19; refine (RCounters_is _ _ _ H1).mono ?_; rintro e w3 ⟨rfl, rfl⟩)
      | (go_at_call 20; refine (RStream_is _ _ _ _ _ _ i3 _ H2).mono ?_; rintro e w3 ⟨rfl, rfl⟩)
      | (go_at_call 46; refine (RDice_is _ _ _ _ _ _ _ _ _ _ _ i3 i4 _ H3).mono ?_; rintro e w3 ⟨rfl, rfl⟩)
      | (go_at_call 21; refine (awake_any _).mono ?_; rintro e w3 ⟨rfl, b3⟩))
    go_ret
    exact ⟨rfl, b2'.trans (b3.mono b2'.size)⟩
  · have := hv.out
    simp [h1, h2, h3] at this

set_option maxHeartbeats 1000000 in
theorem LKeeps_ok (A : Option Addr) (n c : Nat) (xs : List Int) (A' : Option Addr) (n' c' : Nat) (ds : List Int) (K : Nat) (w : World) (h : Ints w w.heap.size A n c xs) (h' : Ints w w.heap.size A' n' c' ds)
    (H1 : Hid (cntB (K : Int) = true)) (H2 : Hid (isStr xs = true)) (H3 : Hid (diceB ds xs.length = true)) :
    Calls Try.prog 8 #[.int .i64 (K : Int), .slice A n c, .slice A' n' c'] w fun e w' => e = .returned (.bool true) ∧ Below w.heap.size w w' := by
  have hx := hide (take_of_str H2.out)
  have hd := hide (show ds.take 45 = ds from List.take_of_length_le (by have := diceB_len H3.out; have := isStr_len H2.out; omega))
  go_enter Try.func8, Try.ntmps8
  go_wp2_with fail
  refine (list_ints _ _ _ _ _ _ h (Nat.le_refl _)).mono ?_
  rintro e w1 ⟨A1, n1, c1, rfl, i1, b1⟩
  rw [hx.out] at i1
  go_wp2_with fail
  refine (list_ints _ _ _ _ _ _ (h'.below b1) b1.size).mono ?_
  rintro e w2 ⟨A2, n2, c2, rfl, i2, b2⟩
  rw [hd.out] at i2
  have b2' := b1.trans (b2.mono b1.size)
  go_wp2_with fail
  refine (Keep_ok _ _ _ _ _ _ _ _ _ _ ((i1.below b2).more b2.size) i2 H1 H2 H3).mono ?_
  rintro e w3 ⟨v3, rfl, o3, b3⟩
  obtain ⟨A3, c3, rfl, i3⟩ := o3.ints
  have b3' := b2'.trans (b3.mono b2'.size)
  have j1 := (h.below b3').more b3'.size
  have j2 := (h'.below b3').more b3'.size
  go_wp2_with (first
    | (go_at_call 19; refine (RCounters_is _ _ _ H1).mono ?_; rintro e w3 ⟨rfl, rfl⟩)
    | (go_at_call 20; refine (RStream_is _ _ _ _ _ _ j1 _ H2).mono ?_; rintro e w3 ⟨rfl, rfl⟩)
    | (go_at_call 46; refine (RDice_is _ _ _ _ _ _ _ _ _ _ _ j1 j2 _ H3).mono ?_; rintro e w3 ⟨rfl, rfl⟩)
    | (go_at_call 47; refine (RKeep_any _ _ _ _ _ _ _ _ _ _ j1 j2 H1 H2 H3).mono ?_; rintro e w4 ⟨v4, rfl, o4, b4⟩))
  obtain ⟨A4, c4, rfl, i4⟩ := o4.ints
  have b4' := b3'.trans (b4.mono b3'.size)
  refine (equal_is _ _ _ _ _ _ _ _ _ _ _ (i3.below b4) i4 (hide rfl)).mono ?_
  rintro e w5 ⟨rfl, q, rfl⟩
  have b5' := Below.drewN' b4' q
  go_wp2_with (go_at_call 21; refine (awake_any _).mono ?_; rintro e w6 ⟨rfl, b6⟩)
  go_ret
  exact ⟨rfl, b5'.trans (b6.mono b5'.size)⟩

theorem keep_guard (k : Int) (xs ds : List Int) : (cntB k && isStr (xs.take 45) && diceB (ds.take 45) (xs.take 45).length) = (cntB k && isStr xs && diceB ds xs.length) := by
  rw [isStr_take]
  rcases hs : isStr xs
  · simp
  · have hl := isStr_len hs
    rw [take_of_str hs, diceB_take hl]

theorem LKeeps_any (A : Option Addr) (n c : Nat) (xs : List Int) (A' : Option Addr) (n' c' : Nat) (ds : List Int) (k : Int) (w : World) (h : Ints w w.heap.size A n c xs) (h' : Ints w w.heap.size A' n' c' ds) :
    Calls Try.prog 8 #[.int .i64 k, .slice A n c, .slice A' n' c'] w fun e w' => e = .returned (.bool true) ∧ Below w.heap.size w w' := by
  have hc := keepCase k xs ds
  rcases hv : (cntB k && isStr xs && diceB ds xs.length)
  · exact LKeeps_no _ _ _ _ _ _ _ _ _ _ h h' (hide ((keep_guard k xs ds).trans hv)) (hide hc) (hide hv)
  · rcases hc with h1 | ⟨h1, h2⟩ | ⟨h1, h2, h3⟩ | ⟨K, rfl, h1, h2, h3⟩
    · simp [h1] at hv
    · simp [h2] at hv
    · simp [h3] at hv
    · exact LKeeps_ok _ _ _ _ _ _ _ _ _ _ h h' (hide h1) (hide h2) (hide h3)
end Go.Proofs.Ytdlbahoenhhkdaa
