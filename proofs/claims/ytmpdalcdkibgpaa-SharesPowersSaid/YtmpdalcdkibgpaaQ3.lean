import Derived.Test.YtmpdalcdkibgpaaM3
namespace Go.Proofs.Ytmpdalcdkibgpaa
open Go.RowKit Go.Sort

theorem Owned.to {w : World} {base : Nat} {v : Value} {xs : List Int} (h : Owned w base v xs) : ∃ A n c, v = .slice A n c ∧ Ints w w.heap.size A n c xs := by
  obtain ⟨A, c, e, i⟩ := h.ints
  exact ⟨A, _, c, e, i⟩
theorem Below.ofDraws {w : World} (q : Nat) : Below w.heap.size w (w.drewN q) := Below.drewN' (Below.refl _ _) q

theorem areOfOneSum_is (A A' : Option Addr) (n c n' c' : Nat) (xs ys : List Int) (w : World) (B B' : Nat) (h : Ints w B A n c xs) (h' : Ints w B' A' n' c' ys) (b : Bool) (hb : Hid (oneSum xs ys = b)) :
    Calls Try.prog 88 #[.slice A n c, .slice A' n' c'] w fun e w' => e = .returned (.bool b) ∧ ∃ q, w' = w.drewN q :=
  (areOfOneSum_any _ _ _ _ _ _ _ _ _ _ _ h h').mono fun _ _ ⟨he, hw⟩ => ⟨by rw [he, hb.out], hw⟩

theorem meet_p (A A' : Option Addr) (n c n' c' : Nat) (xs ys : List Int) (w : World) (h : Ints w w.heap.size A n c xs) (h' : Ints w w.heap.size A' n' c' ys) (m : Nat) (hx : Hid (IsP xs m)) (hy : Hid (IsP ys m)) :
    Calls Try.prog 89 #[.slice A n c, .slice A' n' c'] w fun e w' => ∃ A1 n1 c1, e = .returned (.slice A1 n1 c1) ∧ Ints w' w'.heap.size A1 n1 c1 (meetF xs ys) ∧ Below w.heap.size w w' := by
  have e1 := h.len; have e2 := h'.len; have l1 := hx.out.len12; have l2 := hy.out.len12
  refine (meet_any _ _ _ _ _ _ _ _ _ h h' (hide hx.out.small) (hide hy.out.small) (by omega) (by omega)).mono ?_
  rintro e w' ⟨v, rfl, ho, hb⟩
  obtain ⟨A1, n1, c1, rfl, hi⟩ := ho.to
  exact ⟨A1, n1, c1, rfl, hi, hb⟩
theorem turn_p (A : Option Addr) (n c : Nat) (xs : List Int) (w : World) (h : Ints w w.heap.size A n c xs) (m : Nat) (hx : Hid (IsP xs m)) :
    Calls Try.prog 90 #[.slice A n c] w fun e w' => ∃ A1 n1 c1, e = .returned (.slice A1 n1 c1) ∧ Ints w' w'.heap.size A1 n1 c1 (turnF xs) ∧ Below w.heap.size w w' := by
  have e1 := h.len; have l1 := hx.out.len
  refine (turn_any _ _ _ _ _ h (hide hx.out.ok) (by omega)).mono ?_
  rintro e w' ⟨v, rfl, ho, hb⟩
  obtain ⟨A1, n1, c1, rfl, hi⟩ := ho.to
  exact ⟨A1, n1, c1, rfl, hi, hb⟩

set_option maxHeartbeats 400000 in
theorem Meet_no (A A' : Option Addr) (n c n' c' : Nat) (xs ys : List Int) (w : World) (B B' : Nat) (h : Ints w B A n c xs) (h' : Ints w B' A' n' c' ys) (hs : Hid (oneSum xs ys = false)) :
    Calls Try.prog 44 #[.slice A n c, .slice A' n' c'] w fun e w' => e = .returned (.tuple #[.slice none 0 0, .int .i64 2]) ∧ Below w.heap.size w w' := by
  go_enter Try.func44, Try.ntmps44
  go_wp2_with fail
  refine (areOfOneSum_is _ _ _ _ _ _ _ _ _ _ _ h h' _ hs).mono ?_
  rintro e w1 ⟨rfl, q, rfl⟩
  go_wp2_with fail
  go_ret2
  exact ⟨rfl, Below.ofDraws q⟩
set_option maxHeartbeats 400000 in
theorem Join_no (A A' : Option Addr) (n c n' c' : Nat) (xs ys : List Int) (w : World) (B B' : Nat) (h : Ints w B A n c xs) (h' : Ints w B' A' n' c' ys) (hs : Hid (oneSum xs ys = false)) :
    Calls Try.prog 45 #[.slice A n c, .slice A' n' c'] w fun e w' => e = .returned (.tuple #[.slice none 0 0, .int .i64 2]) ∧ Below w.heap.size w w' := by
  go_enter Try.func45, Try.ntmps45
  go_wp2_with fail
  refine (areOfOneSum_is _ _ _ _ _ _ _ _ _ _ _ h h' _ hs).mono ?_
  rintro e w1 ⟨rfl, q, rfl⟩
  go_wp2_with fail
  go_ret2
  exact ⟨rfl, Below.ofDraws q⟩
set_option maxHeartbeats 400000 in
theorem Meet_ok (A A' : Option Addr) (n c n' c' : Nat) (xs ys : List Int) (w : World) (h : Ints w w.heap.size A n c xs) (h' : Ints w w.heap.size A' n' c' ys) (m : Nat) (hx : Hid (IsP xs m)) (hy : Hid (IsP ys m)) :
    Calls Try.prog 44 #[.slice A n c, .slice A' n' c'] w fun e w' => ∃ A1 n1 c1, e = .returned (.tuple #[.slice A1 n1 c1, .int .i64 0]) ∧ Ints w' w'.heap.size A1 n1 c1 (meetF xs ys) ∧ Below w.heap.size w w' := by
  have hs := hide (isP_oneSum hx.out hy.out)
  go_enter Try.func44, Try.ntmps44
  go_wp2_with fail
  refine (areOfOneSum_is _ _ _ _ _ _ _ _ _ _ _ h h' _ hs).mono ?_
  rintro e w1 ⟨rfl, q, rfl⟩
  go_wp2_with fail
  refine (meet_p _ _ _ _ _ _ _ _ _ (h.drewN q) (h'.drewN q) m hx hy).mono ?_
  rintro e w1 ⟨A1, n1, c1, rfl, hi, hb⟩
  go_wp2_with fail
  go_ret2
  exact ⟨_, _, _, rfl, hi, (Below.ofDraws q).trans hb⟩
set_option maxHeartbeats 800000 in
theorem Join_ok (A A' : Option Addr) (n c n' c' : Nat) (xs ys : List Int) (w : World) (h : Ints w w.heap.size A n c xs) (h' : Ints w w.heap.size A' n' c' ys) (m : Nat) (hx : Hid (IsP xs m)) (hy : Hid (IsP ys m)) :
    Calls Try.prog 45 #[.slice A n c, .slice A' n' c'] w fun e w' => ∃ A1 n1 c1, e = .returned (.tuple #[.slice A1 n1 c1, .int .i64 0]) ∧ Ints w' w'.heap.size A1 n1 c1 (joinF xs ys) ∧ Below w.heap.size w w' := by
  have hs := hide (isP_oneSum hx.out hy.out)
  have tx := hide (turn_isP hx.out); have ty := hide (turn_isP hy.out)
  have tm := hide (meet_isP tx.out ty.out)
  go_enter Try.func45, Try.ntmps45
  go_wp2_with fail
  refine (areOfOneSum_is _ _ _ _ _ _ _ _ _ _ _ h h' _ hs).mono ?_
  rintro e w1 ⟨rfl, q, rfl⟩
  go_wp2_with fail
  refine (turn_p _ _ _ _ _ (h.drewN q) m hx).mono ?_
  rintro e w1 ⟨A1, n1, c1, rfl, i1, b1⟩
  have b1' : Below w.heap.size w w1 := (Below.ofDraws q).trans b1
  go_wp2_with fail
  refine (turn_p _ _ _ _ _ ((h'.below b1').more b1'.size) m hy).mono ?_
  rintro e w2 ⟨A2, n2, c2, rfl, i2, b2⟩
  have b2' := b1'.trans (b2.mono b1'.size)
  go_wp2_with fail
  refine (meet_p _ _ _ _ _ _ _ _ _ ((i1.below b2).more b2.size) i2 m tx ty).mono ?_
  rintro e w3 ⟨A3, n3, c3, rfl, i3, b3⟩
  have b3' := b2'.trans (b3.mono b2'.size)
  go_wp2_with fail
  refine (turn_p _ _ _ _ _ i3 m tm).mono ?_
  rintro e w4 ⟨A4, n4, c4, rfl, i4, b4⟩
  have b4' := b3'.trans (b4.mono b3'.size)
  go_wp2_with fail
  go_ret2
  exact ⟨_, _, _, rfl, i4, b4'⟩
set_option maxHeartbeats 400000 in
theorem Turn_no (A : Option Addr) (n c : Nat) (xs : List Int) (w : World) (B : Nat) (h : Ints w B A n c xs) (hs : Hid (parts xs = 0)) :
    Calls Try.prog 50 #[.slice A n c] w fun e w' => e = .returned (.tuple #[.slice none 0 0, .int .i64 2]) ∧ Below w.heap.size w w' := by
  go_enter Try.func50, Try.ntmps50
  go_wp2_with fail
  refine (sumOfParts_is _ _ _ _ _ _ h _ hs).mono ?_
  rintro e w1 ⟨rfl, q, rfl⟩
  go_wp2_with fail
  go_ret2
  exact ⟨rfl, Below.ofDraws q⟩
set_option maxHeartbeats 400000 in
theorem Turn_ok (A : Option Addr) (n c : Nat) (xs : List Int) (w : World) (h : Ints w w.heap.size A n c xs) (m : Nat) (hx : Hid (IsP xs m)) :
    Calls Try.prog 50 #[.slice A n c] w fun e w' => ∃ A1 n1 c1, e = .returned (.tuple #[.slice A1 n1 c1, .int .i64 0]) ∧ Ints w' w'.heap.size A1 n1 c1 (turnF xs) ∧ Below w.heap.size w w' := by
  have hs := hide hx.out.parts
  have hne : ((m : Int) == 0) = false := by have := hx.out.pos; simp; omega
  go_enter Try.func50, Try.ntmps50
  go_wp2_with fail
  refine (sumOfParts_is _ _ _ _ _ _ h _ hs).mono ?_
  rintro e w1 ⟨rfl, q, rfl⟩
  go_wp2_with fail
  refine (turn_p _ _ _ _ _ (h.drewN q) m hx).mono ?_
  rintro e w1 ⟨A1, n1, c1, rfl, hi, hb⟩
  go_wp2_with fail
  go_ret2
  exact ⟨_, _, _, rfl, hi, (Below.ofDraws q).trans hb⟩

/-- slices.Equal of two slices of numbers. -/
theorem equal_any (A A' : Option Addr) (n c n' c' : Nat) (xs ys : List Int) (w : World) (B B' : Nat) (h : Ints w B A n c xs) (h' : Ints w B' A' n' c' ys) (b : Bool) (hb : Hid (decide (xs = ys) = b)) :
    Calls Try.prog 47 #[.slice A n c, .slice A' n' c'] w fun e w' => e = .returned (.bool b) ∧ Below w.heap.size w w' := by
  have e1 := h.len; have e2 := h'.len
  have m1 := h.most; have m2 := h'.most; have k1 := h.cap; have k2 := h'.cap
  rw [← hb.out]
  by_cases hn : n = n'
  · subst hn
    rcases Nat.eq_zero_or_pos n with h0 | h0
    · subst h0
      have x0 := List.eq_nil_of_length_eq_zero e1; have y0 := List.eq_nil_of_length_eq_zero e2
      subst x0 y0
      exact (Try.slices_Equal_int_empty A A' c 0 c' w (by omega)).mono fun e w' ⟨he, hw⟩ => ⟨by rw [he]; simp, hw ▸ Below.refl _ _⟩
    · obtain ⟨b1, o1, rfl, _, c1⟩ := h.cells h0
      obtain ⟨b2, o2, rfl, _, c2⟩ := h'.cells h0
      refine (Try.slices_Equal_int b1 o1 n c b2 o2 n c' xs ys w (by omega) (by omega) (by omega) (by omega) c1 c2).mono fun e w' ⟨he, q, hw⟩ => ⟨?_, hw ▸ Below.ofDraws q⟩
      rw [he, List.take_of_length_le (by omega), List.take_of_length_le (by omega)]
      exact ret_bool (by rw [Bool.eq_iff_iff]; simp)
  · refine (Try.slices_Equal_int_lens A A' n c n' c' w hn).mono fun e w' ⟨he, hw⟩ => ⟨?_, hw ▸ Below.refl _ _⟩
    rw [he]
    have : xs ≠ ys := fun e => hn (by rw [← e1, ← e2, e])
    simp [this]

theorem parts_take (xs : List Int) : parts (xs.take 15) = parts xs := by
  by_cases h : xs.length ≤ 15
  · rw [List.take_of_length_le h]
  · have h1 : parts xs = 0 := by
      rw [parts, if_neg]; intro hc; have := partsOk_len hc; omega
    have h2 : parts (xs.take 15) = 0 := by
      rw [parts, if_neg]; intro hc; have := partsOk_len hc; simp at this; omega
    rw [h1, h2]
theorem oneSum_take (xs ys : List Int) : oneSum (xs.take 15) (ys.take 15) = oneSum xs ys := by rw [oneSum, parts_take, parts_take]; rfl
theorem IsP.take {xs : List Int} {n : Nat} (h : IsP xs n) : xs.take 15 = xs := List.take_of_length_le (by have := h.len12; omega)

theorem lparts_is (A A' : Option Addr) (n c n' c' : Nat) (xs ys : List Int) (w : World) (B B' : Nat) (h : Ints w B A n c xs) (h' : Ints w B' A' n' c' ys) (hn : n ≤ 17592186044416) (hn' : n' ≤ 17592186044416) (b : Bool) (hb : Hid (oneSum xs ys = b)) :
    Calls Try.prog 46 #[.slice A n c, .slice A' n' c'] w fun e w' => e = .returned (.bool b) ∧ Below w.heap.size w w' :=
  (lparts_any _ _ _ _ _ _ _ _ _ _ _ h h' hn hn').mono fun _ _ ⟨he, q, hw⟩ => ⟨by rw [he, hb.out], hw ▸ Below.ofDraws q⟩
theorem unevP (A A' : Option Addr) (n c n' c' : Nat) (xs ys : List Int) (w : World) (h : Ints w w.heap.size A n c xs) (h' : Ints w w.heap.size A' n' c' ys) (m : Nat) (hx : Hid (IsP xs m)) (hy : Hid (IsP ys m)) (b : Bool) (hb : Hid (unevR xs ys = b)) :
    Calls Try.prog 24 #[.slice A n c, .slice A' n' c'] w fun e w' => e = .returned (.bool b) ∧ Below w.heap.size w w' := by
  have l1 := hx.out.len12; have l2 := hy.out.len12; have e1 := h.len; have e2 := h'.len
  have s1 : Small 20 xs := fun j => by have := hx.out.small j; omega
  have s2 : Small 20 ys := fun j => by have := hy.out.small j; omega
  exact (RUneven_any _ _ _ _ _ _ _ _ _ h h' (hide s1) (hide s2) (by omega) (by omega)).mono fun _ _ ⟨he, hw⟩ => ⟨by rw [he, hb.out], hw⟩
end Go.Proofs.Ytmpdalcdkibgpaa
