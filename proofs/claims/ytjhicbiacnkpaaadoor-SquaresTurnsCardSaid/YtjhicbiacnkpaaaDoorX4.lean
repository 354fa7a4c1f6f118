/-
  Sorting, falling, Uneven, Turn of package shares.
-/
import Derived.Test.YtjhicbiacnkpaaaDoorShelf
import Derived.Test.YtjhicbiacnkpaaaDoorX3
import Derived.Test.YtjhicbiacnkpaaaDoorR3
import Derived.Sort.OwnSortedInts
namespace Go.Proofs.YtjhicbiacnkpaaaDoor
open Go.RowKit Go.Sort


/-- An owned slice that is not empty, opened. -/
theorem Owned.form {w : World} {base : Nat} {v : Value} {xs : List Int} (h : Owned w base v xs) (hn : 0 < xs.length) :
    ∃ g cap cur, v = .slice (some ⟨g, 0, none⟩) xs.length cap ∧ base ≤ g ∧ g < w.heap.size ∧ w.heap[g]? = some (.cells cur 3 (0, 0)) ∧ xs.length ≤ cap ∧ cap ≤ maxLen ∧ cur.size = cap * 1 ∧ cur.toList.take xs.length = xs.map (Value.int .i64) := by
  rcases h.2 with ⟨rfl, h0⟩ | ⟨g, cap, cur, rfl, hg, hh, hn, hc, hs, ht⟩
  · omega
  · exact ⟨g, cap, cur, rfl, hg, (Array.getElem?_eq_some_iff.1 hh).1, hh, hn, hc, hs, by simpa using ht⟩

/-- What sort and reverse leave: the same slice holds another list of the same length. -/
theorem owned_sorted {w : World} {base g cap n : Nat} {os : Array Obj} {cur : Array Value} {ss ts : List Int} (hl : ts.length = ss.length) (hbase : base ≤ g) (hb : w.heap[g]? = some (.cells cur 3 (0, 0)))
    (h1 : ss.length ≤ cap) (h2 : cap ≤ maxLen) (h3 : cur.size = cap * 1) :
    Owned (grow (putRow (Value.int .i64) (Sort.ahead w n) g 0 ts.toArray) os) base (.slice (some ⟨g, 0, none⟩) ss.length cap) ts := by
  have h := ownsRow_sortedI (w := w) (n := n) (os := os) (ts := ts) hl hbase hb h1 h2 h3
  unfold Owned
  rw [hl]
  exact h

theorem below_sorted {w : World} {base g n : Nat} {os : Array Obj} {ts : List Int} (hg : base ≤ g) (hw : base ≤ w.heap.size) : Below base w (grow (putRow (Value.int .i64) (Sort.ahead w n) g 0 ts.toArray) os) :=
  (Below.refl _ _).grown (grownBy_sortedI ts.toArray) hw (fun k hk => by cases hk; exact hg)

theorem grow_none (w : World) : grow w #[] = w := by simp [grow]

/-- slices.Sort of an own slice, not empty. -/
theorem sort_own {w : World} {base : Nat} {v : Value} {xs : List Int} (h : Owned w base v xs) (hn : 0 < xs.length) (hs : xs.length ≤ 1000) (hw : base ≤ w.heap.size) :
    Calls Tryd.prog 91 #[v] w fun e w' => e = .returned (.tuple #[]) ∧ Owned w' base v (xs.mergeSort fun x y => decide (x ≤ y)) ∧ Below base w w' := by
  obtain ⟨g, cap, cur, rfl, hg, hlt, hh, hc1, hc2, hcs, ht⟩ := h.form hn
  refine (Tryd.slices_Sort_int g 0 cap xs w (holds_of_blockI hh ht) hlt (by omega)).mono fun e w' ⟨he, n, os, hw'⟩ => ⟨he, ?_, ?_⟩
  · subst hw'
    exact owned_sorted (ts := xs.mergeSort fun x y => decide (x ≤ y)) (by simp) hg hh hc1 hc2 hcs
  · subst hw'
    exact below_sorted (ts := xs.mergeSort fun x y => decide (x ≤ y)) hg hw

theorem reverse_own {w : World} {base : Nat} {v : Value} {xs : List Int} (h : Owned w base v xs) (hn : 0 < xs.length) (hs : xs.length ≤ 1000) (hw : base ≤ w.heap.size) :
    Calls Tryd.prog 85 #[v] w fun e w' => e = .returned (.tuple #[]) ∧ Owned w' base v xs.reverse ∧ Below base w w' := by
  obtain ⟨g, cap, cur, rfl, hg, hlt, hh, hc1, hc2, hcs, ht⟩ := h.form hn
  refine (Tryd.slices_Reverse_int g 0 cap xs w (holds_of_blockI hh ht) (by omega)).mono fun e w' ⟨he, n, hw'⟩ => ⟨he, ?_, ?_⟩
  · rw [← grow_none (putRow _ _ _ _ _)] at hw'
    subst hw'
    exact owned_sorted (ts := xs.reverse) (by simp) hg hh hc1 hc2 hcs
  · rw [← grow_none (putRow _ _ _ _ _)] at hw'
    subst hw'
    exact below_sorted (ts := xs.reverse) hg hw

set_option maxHeartbeats 400000 in
theorem falling_any (A : Option Addr) (n c : Nat) (xs : List Int) (w : World) (h : Ints w w.heap.size A n c xs) (h1 : 1 ≤ n) (h2 : n ≤ 100) :
    Calls Tryd.prog 96 #[.slice A n c] w fun e w' => ∃ v, e = .returned v ∧ Owned w' w.heap.size v (fallS xs) ∧ Below w.heap.size w w' := by
  have hl := h.len
  have hn : 0 < xs.length := by omega
  have hs : xs.length ≤ 1000 := by omega
  have hl' := hide hl; clear hl
  go_enter Tryd.func96, Tryd.ntmps96
  go_wp2_with fail
  refine (clone_any _ _ _ _ _ _ h (by omega) (Nat.le_refl _)).mono ?_
  rintro e w1 ⟨v, rfl, ho, hb⟩
  go_wp2_with fail
  refine (sort_own ho hn hs hb.size).mono ?_
  rintro e w2 ⟨rfl, ho2, hb2⟩
  go_wp2_with fail
  refine (reverse_own ho2 (by simpa using hn) (by simpa using hs) (hb.trans hb2).size).mono ?_
  rintro e w3 ⟨rfl, ho3, hb3⟩
  go_wp2_with fail
  go_ret
  exact ⟨_, rfl, ho3, (hb.trans hb2).trans hb3⟩

theorem falling_len (xs : List Int) : (fallS xs).length = xs.length := by simp [fallS]
theorem nth_mem_ {xs : List Int} {j : Nat} (h : j < xs.length) : nth xs j ∈ xs := by simp [nth, List.getD, h]
theorem small_of {m : Int} {xs : List Int} (hm : 0 ≤ m) (h : ∀ x ∈ xs, 0 ≤ x ∧ x ≤ m) : Small m xs := fun j => by
  rcases Nat.lt_or_ge j xs.length with hlt | hge
  · exact h _ (nth_mem_ hlt)
  · simp [nth, List.getD, List.getElem?_eq_none hge]; exact hm
theorem mem_small {m : Int} {xs : List Int} (h : Small m xs) : ∀ x ∈ xs, 0 ≤ x ∧ x ≤ m := by
  intro x hx
  obtain ⟨j, hj, rfl⟩ := List.getElem_of_mem hx
  have := h j
  simpa [nth, List.getD, hj] using this
theorem fallS_small {m : Int} {xs : List Int} (hm : 0 ≤ m) (h : Small m xs) : Small m (fallS xs) :=
  small_of hm fun x hx => mem_small h x (by simpa [fallS] using hx)
theorem isSh_small {xs : List Int} (h : isSh xs = true) : Small 20 xs := by
  simp only [isSh, Bool.and_eq_true] at h
  exact allIn_small h.2
theorem isSh_len {xs : List Int} (h : isSh xs = true) : 1 ≤ xs.length ∧ xs.length ≤ 6 := by
  simp only [isSh, Bool.and_eq_true, decide_eq_true_eq] at h
  exact h.1

def unevS (xs ys : List Int) : Bool := domB (fallS xs) (fallS ys)

theorem ret_bi' (b : Bool) (c : Int) {b' : Bool} (h : b = b') : Ending.returned (.tuple #[.bool b, .int .i64 c]) = .returned (.tuple #[.bool b', .int .i64 c]) := by rw [h]

theorem areComparable_is (A A' : Option Addr) (n c n' c' : Nat) (xs ys : List Int) (w : World) (B B' : Nat) (h : Ints w B A n c xs) (h' : Ints w B' A' n' c' ys) (b : Bool) (hb : Hid (areSh xs ys = b)) :
    Calls Tryd.prog 94 #[.slice A n c, .slice A' n' c'] w fun e w' => e = .returned (.bool b) ∧ w = w' :=
  (areComparable_any _ _ _ _ _ _ _ _ _ _ _ h h').mono fun _ _ ⟨he, hw⟩ => ⟨by rw [he, hb.out], hw⟩

set_option maxHeartbeats 400000 in
theorem Uneven_no (A A' : Option Addr) (n c n' c' : Nat) (xs ys : List Int) (w : World) (B B' : Nat) (h : Ints w B A n c xs) (h' : Ints w B' A' n' c' ys) (hb : Hid (areSh xs ys = false)) :
    Calls Tryd.prog 59 #[.slice A n c, .slice A' n' c'] w fun e w' => e = .returned (.tuple #[.bool false, .int .i64 2]) ∧ Below w.heap.size w w' := by
  go_enter Tryd.func59, Tryd.ntmps59
  go_wp2_with fail
  refine (areComparable_is _ _ _ _ _ _ _ _ _ _ _ h h' _ hb).mono ?_
  rintro e w1 ⟨rfl, rfl⟩
  go_wp2_with fail
  go_ret2
  exact ⟨rfl, Below.refl _ _⟩

set_option maxHeartbeats 400000 in
theorem Uneven_ok (A A' : Option Addr) (n c n' c' : Nat) (xs ys : List Int) (w : World) (h : Ints w w.heap.size A n c xs) (h' : Ints w w.heap.size A' n' c' ys) (hb : Hid (areSh xs ys = true)) :
    Calls Tryd.prog 59 #[.slice A n c, .slice A' n' c'] w fun e w' => e = .returned (.tuple #[.bool (unevS xs ys), .int .i64 0]) ∧ Below w.heap.size w w' := by
  have hb0 := hb.out
  simp only [areSh, Bool.and_eq_true, decide_eq_true_eq] at hb0
  obtain ⟨⟨hx, hy⟩, hxy⟩ := hb0
  have lx := isSh_len hx; have ly := isSh_len hy
  have e1 := h.len; have e2 := h'.len
  have hn1 : 1 ≤ n := by omega
  have hn2 : n ≤ 100 := by omega
  have hn3 : 1 ≤ n' := by omega
  have hn4 : n' ≤ 100 := by omega
  have sx := hide (fallS_small (by omega) (isSh_small hx)); have sy := hide (fallS_small (by omega) (isSh_small hy))
  have exy := hide (show (fallS ys).length = (fallS xs).length from by simp [fallS, hxy])
  have elen := hide (show (fallS xs).length ≤ 100 from by simp [fallS]; omega)
  clear lx ly e1 e2 hx hy hxy
  go_enter Tryd.func59, Tryd.ntmps59
  go_wp2_with fail
  refine (areComparable_is _ _ _ _ _ _ _ _ _ _ _ h h' _ hb).mono ?_
  rintro e w1 ⟨rfl, rfl⟩
  go_wp2_with fail
  refine (falling_any _ _ _ _ _ h hn1 hn2).mono ?_
  rintro e w1 ⟨v1, rfl, ho1, hb1⟩
  have h2 := (h'.below hb1).more hb1.size
  go_wp2_with fail
  refine (falling_any _ _ _ _ _ h2 hn3 hn4).mono ?_
  rintro e w2 ⟨v2, rfl, ho2, hb2⟩
  obtain ⟨A1, c1, rfl, i1⟩ := (ho1.below hb2 (Nat.le_refl _)).ints
  obtain ⟨A2, c2, rfl, i2⟩ := ho2.ints
  rw [exy.out] at i2 ⊢
  go_wp2_with fail
  refine (dominates_any _ _ _ _ _ _ _ _ _ _ i1 i2 sx sy elen.out).mono ?_
  rintro e w3 ⟨rfl, q, rfl⟩
  go_wp2_with fail
  go_ret2
  exact ⟨rfl, Below.drewN' (hb1.trans (hb2.mono hb1.size)) q⟩

theorem Owned.to {w : World} {base : Nat} {v : Value} {xs : List Int} (h : Owned w base v xs) : ∃ A n c, v = .slice A n c ∧ Ints w w.heap.size A n c xs := by
  obtain ⟨A, c, e, i⟩ := h.ints
  exact ⟨A, _, c, e, i⟩
set_option maxHeartbeats 400000 in
theorem Turn_ok (A : Option Addr) (n c : Nat) (xs : List Int) (w : World) (h : Ints w w.heap.size A n c xs) (hx : Hid (partsOk xs = true)) (hn : 1 ≤ n) (p : Int) (hp : Hid (parts xs = p)) (hp1 : 1 ≤ p) :
    Calls Tryd.prog 58 #[.slice A n c] w fun e w' => ∃ v, e = .returned (.tuple #[v, .int .i64 0]) ∧ Owned w' w.heap.size v (turnF xs) ∧ Below w.heap.size w w' := by
  have hne : (p == 0) = false := by simp; omega
  go_enter Tryd.func58, Tryd.ntmps58
  go_wp2_with fail
  refine (sumOfParts_is _ _ _ _ _ _ h _ hp).mono ?_
  rintro e w1 ⟨rfl, q, rfl⟩
  go_wp2_with fail
  refine (turn_any _ _ _ _ _ (h.drewN q) hx hn).mono ?_
  rintro e w1 ⟨v, rfl, ho, hb⟩
  go_wp2_with fail
  go_ret2
  exact ⟨_, rfl, ho, (Below.drewN' (Below.refl _ _) q).trans hb⟩
end Go.Proofs.YtjhicbiacnkpaaaDoor
