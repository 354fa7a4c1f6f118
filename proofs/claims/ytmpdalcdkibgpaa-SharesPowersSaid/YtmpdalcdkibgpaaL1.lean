import Derived.Test.YtmpdalcdkibgpaaA4
namespace Go.Proofs.Ytmpdalcdkibgpaa
open Go.RowKit Go.Sort

theorem list_ints (A : Option Addr) (n c : Nat) (xs : List Int) (w : World) (B : Nat) (h : Ints w B A n c xs) :
    Calls Try.prog 18 #[.slice A n c] w fun e w' => ∃ A' n' c', e = .returned (.slice A' n' c') ∧ Ints w' w'.heap.size A' n' c' (xs.take 15) ∧ Below w.heap.size w w' :=
  (list_any A n c xs w B h).mono fun _ _ ⟨_, he, ho, hb⟩ => by
    obtain ⟨A', c', rfl, hi⟩ := ho.ints
    exact ⟨A', _, c', he, hi, hb⟩

theorem isSh_take (xs : List Int) : isSh (xs.take 15) = isSh xs := by
  by_cases h : xs.length ≤ 15
  · rw [List.take_of_length_le h]
  · have h1 : isSh xs = false := by simp [isSh]; omega
    have h2 : isSh (xs.take 15) = false := by simp [isSh]; omega
    rw [h1, h2]
theorem take_of_sh {xs : List Int} (h : isSh xs = true) : xs.take 15 = xs := List.take_of_length_le (by have := isSh_len h; omega)
theorem areSh_take (xs ys : List Int) : areSh (xs.take 15) (ys.take 15) = areSh xs ys := by
  unfold areSh
  rw [isSh_take, isSh_take]
  rcases hx : isSh xs
  · simp
  rcases hy : isSh ys
  · simp
  rw [take_of_sh hx, take_of_sh hy]
theorem areSh_left {xs ys : List Int} (h : areSh xs ys = true) : isSh xs = true ∧ isSh ys = true ∧ xs.length = ys.length := by
  simp only [areSh, Bool.and_eq_true, decide_eq_true_eq] at h
  exact ⟨h.1.1, h.1.2, h.2⟩

theorem Two_is (A A' : Option Addr) (n c n' c' : Nat) (xs ys : List Int) (w : World) (B B' : Nat) (h : Ints w B A n c xs) (h' : Ints w B' A' n' c' ys) (b : Bool) (hb : Hid (areSh xs ys = b)) :
    Calls Try.prog 23 #[.slice A n c, .slice A' n' c'] w fun e w' => e = .returned (.bool b) ∧ w = w' :=
  (Two_any _ _ _ _ _ _ _ _ _ _ _ h h').mono fun _ _ ⟨he, hw⟩ => ⟨by rw [he, hb.out], hw⟩

set_option maxHeartbeats 1000000 in
theorem Compares_1 (A A' : Option Addr) (n c n' c' : Nat) (xs ys : List Int) (w : World) (h : Ints w w.heap.size A n c xs) (h' : Ints w w.heap.size A' n' c' ys) (hs : Hid (isSh xs = false)) :
    Calls Try.prog 3 #[.slice A n c, .slice A' n' c'] w fun e w' => e = .returned (.bool true) ∧ Below w.heap.size w w' := by
  have hs1 := hide (show isSh (xs.take 15) = false from by rw [isSh_take]; exact hs.out)
  have ha1 := hide (show areSh (xs.take 15) (ys.take 15) = false from by rw [areSh, hs1.out]; simp)
  go_enter Try.func3, Try.ntmps3
  go_wp2_with fail
  refine (list_ints _ _ _ _ _ _ h).mono ?_
  rintro e w1 ⟨A1, n1, c1, rfl, i1, b1⟩
  go_wp2_with fail
  refine (list_ints _ _ _ _ _ _ (h'.below b1)).mono ?_
  rintro e w2 ⟨A2, n2, c2, rfl, i2, b2⟩
  have b2' := b1.trans (b2.mono b1.size)
  go_wp2_with fail
  refine (Uneven_no _ _ _ _ _ _ _ _ _ _ _ (i1.below b2) i2 ha1).mono ?_
  rintro e w3 ⟨rfl, b3⟩
  have b3' := b2'.trans (b3.mono b2'.size)
  go_wp2_with fail
  refine (list_ints _ _ _ _ _ _ (h.below b3')).mono ?_
  rintro e w4 ⟨A4, n4, c4, rfl, i4, b4⟩
  have b4' := b3'.trans (b4.mono b3'.size)
  go_wp2_with fail
  refine (Gap_no _ _ _ _ _ _ i4 hs1).mono ?_
  rintro e w5 ⟨rfl, rfl⟩
  go_wp2_with fail
  refine (Shares_is _ _ _ _ _ _ (h.below b4') _ hs).mono ?_
  rintro e w5 ⟨rfl, rfl⟩
  go_wp2_with fail
  refine (awake_any _).mono ?_
  rintro e w6 ⟨rfl, b6⟩
  go_wp2_with fail
  go_ret
  exact ⟨rfl, b4'.trans (b6.mono b4'.size)⟩

theorem Uneven_is (A A' : Option Addr) (n c n' c' : Nat) (xs ys : List Int) (w : World) (h : Ints w w.heap.size A n c xs) (h' : Ints w w.heap.size A' n' c' ys) (hb : Hid (areSh xs ys = true)) (b : Bool) (hu : Hid (unevS xs ys = b)) :
    Calls Try.prog 17 #[.slice A n c, .slice A' n' c'] w fun e w' => e = .returned (.tuple #[.bool b, .int .i64 0]) ∧ Below w.heap.size w w' :=
  (Uneven_ok _ _ _ _ _ _ _ _ _ h h' hb).mono fun _ _ ⟨he, hw⟩ => ⟨by rw [he, hu.out], hw⟩
theorem RUneven_is (A A' : Option Addr) (n c n' c' : Nat) (xs ys : List Int) (w : World) (h : Ints w w.heap.size A n c xs) (h' : Ints w w.heap.size A' n' c' ys) (hb : Hid (areSh xs ys = true)) (b : Bool) (hu : Hid (unevS xs ys = b)) :
    Calls Try.prog 24 #[.slice A n c, .slice A' n' c'] w fun e w' => e = .returned (.bool b) ∧ Below w.heap.size w w' := by
  obtain ⟨hx, hy, _⟩ := areSh_left hb.out
  have lx := isSh_len hx; have ly := isSh_len hy; have e1 := h.len; have e2 := h'.len
  exact (RUneven_any _ _ _ _ _ _ _ _ _ h h' (hide (isSh_small hx)) (hide (isSh_small hy)) (by omega) (by omega)).mono fun _ _ ⟨he, hw⟩ => ⟨by rw [he, unev_eq hb.out, hu.out], hw⟩

set_option maxHeartbeats 1000000 in
theorem Compares_2 (A A' : Option Addr) (n c n' c' : Nat) (xs ys : List Int) (w : World) (h : Ints w w.heap.size A n c xs) (h' : Ints w w.heap.size A' n' c' ys) (hs : Hid (isSh xs = true)) (ha : Hid (areSh xs ys = false)) :
    Calls Try.prog 3 #[.slice A n c, .slice A' n' c'] w fun e w' => e = .returned (.bool true) ∧ Below w.heap.size w w' := by
  have ht := hide (take_of_sh hs.out)
  have hl := hide (isSh_len hs.out).2
  have hsm := hide (isSh_small hs.out)
  have ha1 := hide (show areSh (xs.take 15) (ys.take 15) = false from by rw [areSh_take]; exact ha.out)
  have hle := hide h.len
  go_enter Try.func3, Try.ntmps3
  go_wp2_with fail
  refine (list_ints _ _ _ _ _ _ h).mono ?_
  rintro e w1 ⟨A1, n1, c1, rfl, i1, b1⟩
  go_wp2_with fail
  refine (list_ints _ _ _ _ _ _ (h'.below b1)).mono ?_
  rintro e w2 ⟨A2, n2, c2, rfl, i2, b2⟩
  have b2' := b1.trans (b2.mono b1.size)
  go_wp2_with fail
  refine (Uneven_no _ _ _ _ _ _ _ _ _ _ _ (i1.below b2) i2 ha1).mono ?_
  rintro e w3 ⟨rfl, b3⟩
  have b3' := b2'.trans (b3.mono b2'.size)
  go_wp2_with fail
  refine (list_ints _ _ _ _ _ _ (h.below b3')).mono ?_
  rintro e w4 ⟨A4, n4, c4, rfl, i4, b4⟩
  have b4' := b3'.trans (b4.mono b3'.size)
  rw [ht.out] at i4
  go_wp2_with fail
  refine (Gap_ok _ _ _ _ _ _ i4 hsm (by have := i4.len; have := hl.out; omega) hs).mono ?_
  rintro e w5 ⟨rfl, rfl⟩
  go_wp2_with fail
  refine (Shares_is _ _ _ _ _ _ (h.below b4') _ hs).mono ?_
  rintro e w5 ⟨rfl, rfl⟩
  go_wp2_with fail
  refine (RGap_any _ _ _ _ _ _ (h.below b4') hsm (by have := hle.out; have := hl.out; omega)).mono ?_
  rintro e w5 ⟨rfl, rfl⟩
  go_wp2_with fail
  refine (awake_any _).mono ?_
  rintro e w6 ⟨rfl, b6⟩
  have b6' := b4'.trans (b6.mono b4'.size)
  go_wp2_with fail
  refine (Two_is _ _ _ _ _ _ _ _ _ _ _ (h.below b6') (h'.below b6') _ ha).mono ?_
  rintro e w7 ⟨rfl, rfl⟩
  go_wp2_with fail
  go_ret
  exact ⟨rfl, b6'⟩

set_option maxHeartbeats 1000000 in
theorem Compares_3 (A A' : Option Addr) (n c n' c' : Nat) (xs ys : List Int) (w : World) (h : Ints w w.heap.size A n c xs) (h' : Ints w w.heap.size A' n' c' ys) (ha : Hid (areSh xs ys = true)) (b : Bool) (hu : Hid (unevS xs ys = b)) :
    Calls Try.prog 3 #[.slice A n c, .slice A' n' c'] w fun e w' => e = .returned (.bool true) ∧ Below w.heap.size w w' := by
  have hs := hide (areSh_left ha.out).1
  have ht := hide (take_of_sh hs.out)
  have ht' := hide (take_of_sh (areSh_left ha.out).2.1)
  have hl := hide (isSh_len hs.out).2
  have hsm := hide (isSh_small hs.out)
  have hle := hide h.len
  go_enter Try.func3, Try.ntmps3
  go_wp2_with fail
  refine (list_ints _ _ _ _ _ _ h).mono ?_
  rintro e w1 ⟨A1, n1, c1, rfl, i1, b1⟩
  go_wp2_with fail
  refine (list_ints _ _ _ _ _ _ (h'.below b1)).mono ?_
  rintro e w2 ⟨A2, n2, c2, rfl, i2, b2⟩
  have b2' := b1.trans (b2.mono b1.size)
  rw [ht.out] at i1
  rw [ht'.out] at i2
  go_wp2_with fail
  refine (Uneven_is _ _ _ _ _ _ _ _ _ ((i1.below b2).more b2.size) i2 ha _ hu).mono ?_
  rintro e w3 ⟨rfl, b3⟩
  have b3' := b2'.trans (b3.mono b2'.size)
  go_wp2_with fail
  refine (list_ints _ _ _ _ _ _ (h.below b3')).mono ?_
  rintro e w4 ⟨A4, n4, c4, rfl, i4, b4⟩
  have b4' := b3'.trans (b4.mono b3'.size)
  rw [ht.out] at i4
  go_wp2_with fail
  refine (Gap_ok _ _ _ _ _ _ i4 hsm (by have := i4.len; have := hl.out; omega) hs).mono ?_
  rintro e w5 ⟨rfl, rfl⟩
  go_wp2_with fail
  refine (Shares_is _ _ _ _ _ _ (h.below b4') _ hs).mono ?_
  rintro e w5 ⟨rfl, rfl⟩
  go_wp2_with fail
  refine (RGap_any _ _ _ _ _ _ (h.below b4') hsm (by have := hle.out; have := hl.out; omega)).mono ?_
  rintro e w5 ⟨rfl, rfl⟩
  go_wp2_with fail
  refine (awake_any _).mono ?_
  rintro e w6 ⟨rfl, b6⟩
  have b6' := b4'.trans (b6.mono b4'.size)
  go_wp2_with fail
  refine (Two_is _ _ _ _ _ _ _ _ _ _ _ (h.below b6') (h'.below b6') _ ha).mono ?_
  rintro e w7 ⟨rfl, rfl⟩
  go_wp2_with fail
  refine (RUneven_is _ _ _ _ _ _ _ _ _ ((h.below b6').more b6'.size) ((h'.below b6').more b6'.size) ha _ hu).mono ?_
  rintro e w7 ⟨rfl, b7⟩
  have b7' := b6'.trans (b7.mono b6'.size)
  cases b
  all_goals
    go_wp2_with fail
    go_ret
    exact ⟨rfl, b7'⟩

theorem Compares_any (A A' : Option Addr) (n c n' c' : Nat) (xs ys : List Int) (w : World) (h : Ints w w.heap.size A n c xs) (h' : Ints w w.heap.size A' n' c' ys) :
    Calls Try.prog 3 #[.slice A n c, .slice A' n' c'] w fun e w' => e = .returned (.bool true) ∧ Below w.heap.size w w' := by
  rcases hs : isSh xs
  · exact Compares_1 _ _ _ _ _ _ _ _ _ h h' (hide hs)
  rcases ha : areSh xs ys
  · exact Compares_2 _ _ _ _ _ _ _ _ _ h h' (hide hs) (hide ha)
  · exact Compares_3 _ _ _ _ _ _ _ _ _ h h' (hide ha) _ (hide rfl)
end Go.Proofs.Ytmpdalcdkibgpaa
