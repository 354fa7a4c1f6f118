import Derived.Test.YtmpdalcdkibgpaaG5
namespace Go.Proofs.Ytmpdalcdkibgpaa
open Go.RowKit Go.Sort

theorem unevS_fal {xs ys : List Int} (hx : isFal xs = true) (hy : isFal ys = true) : unevS xs ys = domB xs ys := by
  unfold unevS; rw [fallS_eq, fallS_eq, fallR_of_fal hx, fallR_of_fal hy]
theorem Inv.of {xs ys : List Int} (hs : areSh xs ys = true) (hd : domB xs ys = true) : Inv xs ys xs.length := by
  obtain ⟨hx, hy, hl⟩ := areSh_left hs
  simp only [domB, Bool.and_eq_true, decide_eq_true_eq] at hd
  refine ⟨rfl, hl.symm, isSh_small hx, fun k hk => ?_, hd.2⟩
  cases k with
  | zero => simp [pre]
  | succ k => exact hd.1 k (by omega)

set_option maxHeartbeats 1000000 in
theorem Gives_arg (A A' : Option Addr) (n c n' c' : Nat) (xs ys : List Int) (w : World) (B B' : Nat) (h : Ints w B A n c xs) (h' : Ints w B' A' n' c' ys) (hs : Hid ((areSh xs ys && (isFal xs && isFal ys)) = false)) :
    Calls Try.prog 25 #[.slice A n c, .slice A' n' c'] w fun e w' => e = .returned (.tuple #[.slice none 0 0, .int .i64 2]) ∧ Below w.heap.size w w' := by
  go_enter Try.func25, Try.ntmps25
  rcases ha : areSh xs ys
  · have HA := hide ha; clear ha
    go_wp2_with fail
    refine (areComparable_is _ _ _ _ _ _ _ _ _ _ _ h h' _ HA).mono ?_
    rintro e w1 ⟨rfl, rfl⟩
    go_wp2_with fail
    go_ret2
    exact ⟨rfl, Below.refl _ _⟩
  have HA := hide ha; clear ha
  rcases hx : isFal xs
  · have HX := hide hx; clear hx
    go_wp2_with fail
    refine (areComparable_is _ _ _ _ _ _ _ _ _ _ _ h h' _ HA).mono ?_
    rintro e w1 ⟨rfl, rfl⟩
    go_wp2_with fail
    refine (isFalling_is _ _ _ _ _ _ h _ HX).mono ?_
    rintro e w1 ⟨rfl, q, rfl⟩
    go_wp2_with fail
    go_ret2
    exact ⟨rfl, Below.ofDraws q⟩
  have HX := hide hx; clear hx
  have HY := hide (show isFal ys = false from by have := hs.out; rw [HA.out, HX.out] at this; simpa using this)
  go_wp2_with fail
  refine (areComparable_is _ _ _ _ _ _ _ _ _ _ _ h h' _ HA).mono ?_
  rintro e w1 ⟨rfl, rfl⟩
  go_wp2_with fail
  refine (isFalling_is _ _ _ _ _ _ h _ HX).mono ?_
  rintro e w1 ⟨rfl, q, rfl⟩
  have hb1 := Below.ofDraws (w := w) q
  go_wp2_with fail
  refine (isFalling_is _ _ _ _ (w.drewN q) B' (h'.keep fun _ _ => rfl) _ HY).mono ?_
  rintro e w1 ⟨rfl, q2, rfl⟩
  go_wp2_with fail
  go_ret2
  exact ⟨rfl, Below.ofDraws _⟩

set_option maxHeartbeats 1000000 in
theorem Gives_none (A A' : Option Addr) (n c n' c' : Nat) (xs ys : List Int) (w : World) (B B' : Nat) (h : Ints w B A n c xs) (h' : Ints w B' A' n' c' ys) (HA : Hid (areSh xs ys = true)) (HX : Hid (isFal xs = true)) (HY : Hid (isFal ys = true)) (hd : Hid (domB xs ys = false)) :
    Calls Try.prog 25 #[.slice A n c, .slice A' n' c'] w fun e w' => e = .returned (.tuple #[.slice none 0 0, .int .i64 4]) ∧ Below w.heap.size w w' := by
  obtain ⟨h1, h2, h3⟩ := areSh_left HA.out
  have l1 := isSh_len h1; have e1 := h.len; have e2 := h'.len
  obtain rfl : n' = n := by omega
  have hn : n' ≤ 100 := by omega
  have S1 := hide (isSh_small h1); have S2 := hide (isSh_small h2)
  clear h1 h2 h3 l1 e1 e2
  go_enter Try.func25, Try.ntmps25
  go_wp2_with fail
  refine (areComparable_is _ _ _ _ _ _ _ _ _ _ _ h h' _ HA).mono ?_
  rintro e w1 ⟨rfl, rfl⟩
  go_wp2_with fail
  refine (isFalling_is _ _ _ _ _ _ h _ HX).mono ?_
  rintro e w1 ⟨rfl, q, rfl⟩
  have hb1 := Below.ofDraws (w := w) q
  go_wp2_with fail
  refine (isFalling_is _ _ _ _ (w.drewN q) B' (h'.keep fun _ _ => rfl) _ HY).mono ?_
  rintro e w1 ⟨rfl, q2, rfl⟩
  have hb2 := Below.ofDraws (w := w) (q + q2)
  go_wp2_with fail
  refine (dominates_any _ _ _ _ _ _ _ (w.drewN (q + q2)) B B' (h.keep fun _ _ => rfl) (h'.keep fun _ _ => rfl) S1 S2 hn).mono ?_
  rintro e w1 ⟨rfl, q3, rfl⟩
  have hb3 := Below.ofDraws (w := w) (q + q2 + q3)
  rw [hd.out]
  go_wp2_with fail
  go_ret2
  exact ⟨rfl, hb3⟩

set_option maxHeartbeats 1000000 in
theorem Gives_ok (A A' : Option Addr) (n c n' c' : Nat) (xs ys : List Int) (w : World) (h : Ints w w.heap.size A n c xs) (h' : Ints w w.heap.size A' n' c' ys) (HA : Hid (areSh xs ys = true)) (HX : Hid (isFal xs = true)) (HY : Hid (isFal ys = true)) (hd : Hid (domB xs ys = true)) :
    Calls Try.prog 25 #[.slice A n c, .slice A' n' c'] w fun e w' => ∃ A1 n1 c1 gs, e = .returned (.tuple #[.slice A1 n1 c1, .int .i64 0]) ∧ Gs w' w'.heap.size A1 n1 c1 gs ∧ Hid (runG xs gs = some ys) ∧ Hid (gs.length ≤ 6) ∧ Below w.heap.size w w' := by
  have hI := hide (Inv.of HA.out hd.out)
  obtain ⟨h1, h2, h3⟩ := areSh_left HA.out
  have l1 := isSh_len h1; have e1 := h.len; have e2 := h'.len
  obtain rfl : n' = n := by omega
  have hn : n' ≤ 6 := by omega
  have hn1 : 1 ≤ n' := by omega
  rw [e1] at hI
  have S1 := hide (isSh_small h1); have S2 := hide (isSh_small h2)
  clear h1 h2 h3 l1 e1 e2
  have Ia := hide h; have Ib := hide h'; clear h h'
  go_enter Try.func25, Try.ntmps25
  go_wp2_with fail
  refine (areComparable_is _ _ _ _ _ _ _ _ _ _ _ (unhide Ia) (unhide Ib) _ HA).mono ?_
  rintro e w1 ⟨rfl, rfl⟩
  go_wp2_with fail
  refine (isFalling_is _ _ _ _ _ _ (unhide Ia) _ HX).mono ?_
  rintro e w1 ⟨rfl, q, rfl⟩
  have hb1 := Below.ofDraws (w := w) q
  go_wp2_with fail
  refine (isFalling_is _ _ _ _ _ _ ((unhide Ib).below hb1) _ HY).mono ?_
  rintro e w1 ⟨rfl, q2, rfl⟩
  have hb2 := Below.ofDraws (w := w) (q + q2)
  go_wp2_with fail
  refine (dominates_any _ _ _ _ _ _ _ (w.drewN (q + q2)) _ _ ((unhide Ia).below hb2) ((unhide Ib).below hb2) S1 S2 (by omega)).mono ?_
  rintro e w1 ⟨rfl, q3, rfl⟩
  have hb3 := Below.ofDraws (w := w) (q + q2 + q3)
  rw [hd.out]
  go_wp2_with fail
  refine (findGives_any _ _ _ _ _ _ _ (w.drewN (q + q2 + q3)) ((unhide Ia).below hb3) ((unhide Ib).below hb3) hn1 hn S2 hI HY).mono ?_
  rintro e w4 ⟨A1, n1, c1, gs, rfl, hg, hr, hl, hb4⟩
  have hb5 := hb3.trans hb4
  have hl6 := hide (show gs.length ≤ 6 from by have := hl.out; omega)
  go_wp2_with fail
  go_ret2
  exact ⟨_, _, _, gs, rfl, hg, hr, hl6, hb5⟩

theorem Falling_b (A : Option Addr) (n c : Nat) (xs : List Int) (w : World) (B : Nat) (h : Ints w B A n c xs) (b : Bool) (hb : Hid (isFal xs = b)) :
    Calls Try.prog 28 #[.slice A n c] w fun e w' => e = .returned (.bool b) ∧ Below w.heap.size w w' :=
  (Falling_is A n c xs w B h b hb).mono fun _ _ ⟨he, q, hw⟩ => ⟨he, hw ▸ Below.ofDraws q⟩
theorem Gap_is (A : Option Addr) (n c : Nat) (xs : List Int) (w : World) (B : Nat) (h : Ints w B A n c xs) (hs : Hid (isSh xs = true)) (z : Int) (hz : Hid (gap xs = z)) :
    Calls Try.prog 19 #[.slice A n c] w fun e w' => e = .returned (.tuple #[.int .i64 z, .int .i64 0]) ∧ w = w' := by
  have l := isSh_len hs.out; have e1 := h.len
  exact (Gap_ok A n c xs w B h (hide (isSh_small hs.out)) (by omega) hs).mono fun _ _ ⟨he, hw⟩ => ⟨by rw [he, hz.out], hw⟩
end Go.Proofs.Ytmpdalcdkibgpaa
