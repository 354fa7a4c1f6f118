import Derived.Test.YtdlbahoenhhkdaaTe
/-
  The law SketchTables walked.
-/
namespace Go.Proofs.Ytdlbahoenhhkdaa
open Go.RowKit

set_option maxHeartbeats 1000000 in
theorem LTables_no (A : Option Addr) (n c : Nat) (xs : List Int) (d m : Int) (w : World) (h : Ints w w.heap.size A n c xs) (hs : Hid ((sizeB d m && isStr xs) = false)) :
    Calls Try.prog 6 #[.int .i64 d, .int .i64 m, .slice A n c] w fun e w' => e = .returned (.bool true) ∧ Below w.heap.size w w' := by
  have hs1 := hide (show (sizeB d m && isStr (xs.take 45)) = false from by rw [isStr_take]; exact hs.out)
  rcases and_no hs.out with h1 | ⟨h1, h2⟩
  · have H1 := hide h1; clear h1
    go_enter Try.func6, Try.ntmps6
    go_wp2_with fail
    refine (list_ints _ _ _ _ _ _ h (Nat.le_refl _)).mono ?_
    rintro e w1 ⟨A1, n1, c1, rfl, i1, b1⟩
    go_wp2_with fail
    refine (Table_no _ _ _ _ _ _ _ _ i1 hs1).mono ?_
    rintro e w3 ⟨rfl, rfl⟩
    go_wp2_with (first
      | (go_at_call 36; refine (RSize_is _ _ _ _ H1).mono ?_; rintro e w3 ⟨rfl, rfl⟩)
      | (go_at_call 21; refine (awake_any _).mono ?_; rintro e w3 ⟨rfl, b3⟩))
    go_ret
    exact ⟨rfl, b1.trans (b3.mono b1.size)⟩
  · have H1 := hide h1; clear h1
    have H2 := hide h2; clear h2
    go_enter Try.func6, Try.ntmps6
    go_wp2_with fail
    refine (list_ints _ _ _ _ _ _ h (Nat.le_refl _)).mono ?_
    rintro e w1 ⟨A1, n1, c1, rfl, i1, b1⟩
    go_wp2_with fail
    refine (Table_no _ _ _ _ _ _ _ _ i1 hs1).mono ?_
    rintro e w3 ⟨rfl, rfl⟩
    have i3 := h.below b1
    go_wp2_with (first
      | (go_at_call 36; refine (RSize_is _ _ _ _ H1).mono ?_; rintro e w3 ⟨rfl, rfl⟩)
      | (go_at_call 20; refine (RStream_is _ _ _ _ _ _ i3 _ H2).mono ?_; rintro e w3 ⟨rfl, rfl⟩)
      | (go_at_call 21; refine (awake_any _).mono ?_; rintro e w3 ⟨rfl, b3⟩))
    go_ret
    exact ⟨rfl, b1.trans (b3.mono b1.size)⟩

set_option maxHeartbeats 1000000 in
theorem LTables_ok (A : Option Addr) (n c : Nat) (xs : List Int) (d m : Nat) (w : World) (h : Ints w w.heap.size A n c xs) (H1 : Hid (sizeB (d : Int) (m : Int) = true)) (H2 : Hid (isStr xs = true)) :
    Calls Try.prog 6 #[.int .i64 (d : Int), .int .i64 (m : Int), .slice A n c] w fun e w' => e = .returned (.bool true) ∧ Below w.heap.size w w' := by
  have hx := hide (take_of_str H2.out)
  have hsz := sizeB_bd H1.out
  go_enter Try.func6, Try.ntmps6
  go_wp2_with fail
  refine (list_ints _ _ _ _ _ _ h (Nat.le_refl _)).mono ?_
  rintro e w1 ⟨A1, n1, c1, rfl, i1, b1⟩
  rw [hx.out] at i1
  go_wp2_with fail
  refine (Table_ok _ _ _ _ _ _ _ i1 H1 H2).mono ?_
  rintro e w3 ⟨rfl, t3, b3⟩
  have b3' := b1.trans (b3.mono b1.size)
  have j1 := (h.below b3').more b3'.size
  go_wp2_with (first
    | (go_at_call 36; refine (RSize_is _ _ _ _ H1).mono ?_; rintro e w3 ⟨rfl, rfl⟩)
    | (go_at_call 20; refine (RStream_is _ _ _ _ _ _ j1 _ H2).mono ?_; rintro e w3 ⟨rfl, rfl⟩)
    | (go_at_call 38; refine (RTable_any _ _ _ _ _ _ _ j1 H1 H2).mono ?_; rintro e w4 ⟨v4, rfl, o4, b4⟩))
  obtain ⟨A4, n4, c4, rfl, i4⟩ := o4.to
  have b4' := b3'.trans (b4.mono b3'.size)
  have r3 := (t3.below b4).rows_ (by omega) (by omega)
  refine (equalT_is _ _ _ _ _ _ _ _ _ _ _ r3 i4 (hide (refR_eq H2.out d m).symm)).mono ?_
  rintro e w5 ⟨rfl, q, rfl⟩
  have b5' := Below.drewN' b4' q
  go_wp2_with (go_at_call 21; refine (awake_any _).mono ?_; rintro e w6 ⟨rfl, b6⟩)
  go_ret
  exact ⟨rfl, b5'.trans (b6.mono b5'.size)⟩

theorem LTables_any (A : Option Addr) (n c : Nat) (xs : List Int) (d m : Int) (w : World) (h : Ints w w.heap.size A n c xs) :
    Calls Try.prog 6 #[.int .i64 d, .int .i64 m, .slice A n c] w fun e w' => e = .returned (.bool true) ∧ Below w.heap.size w w' := by
  rcases hv : (sizeB d m && isStr xs)
  · exact LTables_no _ _ _ _ _ _ _ h (hide hv)
  · simp only [Bool.and_eq_true] at hv
    obtain ⟨h1, h2⟩ := hv
    have hb := sizeB_bd h1
    obtain ⟨d', rfl⟩ : ∃ d' : Nat, d = d' := ⟨d.toNat, by omega⟩
    obtain ⟨m', rfl⟩ : ∃ m' : Nat, m = m' := ⟨m.toNat, by omega⟩
    exact LTables_ok _ _ _ _ _ _ _ h (hide h1) (hide h2)
end Go.Proofs.Ytdlbahoenhhkdaa
