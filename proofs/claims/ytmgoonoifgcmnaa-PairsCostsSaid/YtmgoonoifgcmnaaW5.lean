/-
  IsRow, Places, Turn of the program; Places, Turn of the reference.
-/
import Derived.Test.YtmgoonoifgcmnaaW4
namespace Go.Proofs.Ytmgoonoifgcmnaa
open Go.RowKit

theorem lenB_far {xs : List Int} (h : 16 < xs.length) : lenB xs = false := by
  unfold lenB
  rw [Bool.eq_false_iff]
  simp only [ne_eq, Bool.and_eq_true, decide_eq_true_eq]
  omega
theorem row_far {s : Int} {xs : List Int} (h : 16 < xs.length) : rowB s xs = false := by unfold rowB; rw [lenB_far h]; simp
theorem row_len {s : Int} {xs : List Int} (h : rowB s xs = true) : xs.length ≤ 16 := by
  rcases Nat.lt_or_ge 16 xs.length with h1 | h1
  · rw [row_far h1] at h; cases h
  · exact h1
theorem row_sh {s : Int} {xs : List Int} (h : rowB s xs = true) : shB s = true := by unfold rowB at h; exact (and2 h).1

set_option maxHeartbeats 400000 in
theorem IsRow_ok (s : Int) (A : Option Addr) (n c : Nat) (xs : List Int) (w : World) (B : Nat) (h : Ints w B A n c xs) (hn : n ≤ 16) (hs : Hid (shB s = true)) (b : Bool) (hb : Hid (rowB s xs = b)) :
    Calls Try.prog 18 #[.int .i64 s, .slice A n c] w fun e w' => e = .returned (.tuple #[.bool b, .int .i64 0]) ∧ w = w' := by
  have hm := h.most; have hcap := h.cap
  go_enter Try.func18, Try.ntmps18
  go_wp2_with (first
    | (go_at_call 68; refine (isShift_any _ _ true hs).mono ?_; rintro e w' ⟨rfl, rfl⟩)
    | (go_at_call 69; refine (isRow_any _ _ _ _ _ _ _ h (by omega) b hb).mono ?_; rintro e w' ⟨rfl, rfl⟩))
  go_ret2
  exact ⟨rfl, rfl⟩
set_option maxHeartbeats 400000 in
theorem IsRow_no (s : Int) (A : Option Addr) (n c : Nat) (w : World) (hm : c ≤ 9223372036854775807) (hcap : n ≤ c) (hs : shB s = false ∨ 16 < n) :
    Calls Try.prog 18 #[.int .i64 s, .slice A n c] w fun e w' => e = .returned (.tuple #[.bool false, .int .i64 2]) ∧ w = w' := by
  cases hsh : shB s with
  | false =>
    clear hs
    go_enter Try.func18, Try.ntmps18
    go_wp2_with (go_at_call 68; refine (isShift_any _ _ false (hide hsh)).mono ?_; rintro e w' ⟨rfl, rfl⟩)
    go_ret2
    exact ⟨rfl, rfl⟩
  | true =>
    have h16 : 16 < n := by rcases hs with h | h; rw [hsh] at h; cases h; exact h
    have d : decide ((16 : Int) < (n : Int)) = true := by simp; omega
    clear hs
    go_enter Try.func18, Try.ntmps18
    go_wp2_with (go_at_call 68; refine (isShift_any _ _ true (hide hsh)).mono ?_; rintro e w' ⟨rfl, rfl⟩)
    go_ret2
    exact ⟨rfl, rfl⟩

set_option maxHeartbeats 400000 in
theorem Places_ok (s : Int) (A : Option Addr) (n c : Nat) (xs : List Int) (w : World) (h : Ints w w.heap.size A n c xs) (hn : n ≤ 1000) (hb : Hid (rowB s xs = true)) :
    Calls Try.prog 20 #[.int .i64 s, .slice A n c] w fun e w' => ∃ A' n' c', e = .returned (.tuple #[.slice A' n' c', .int .i64 0]) ∧ Ints w' w'.heap.size A' n' c' (plcL xs) ∧ Below w.heap.size w w' := by
  go_enter Try.func20, Try.ntmps20
  go_wp2_with (go_at_call 69; refine (isRow_any _ _ _ _ _ _ _ h (by omega) true hb).mono ?_; rintro e w' ⟨rfl, rfl⟩)
  refine (places_any _ _ _ _ _ h hn).mono ?_
  rintro e w1 ⟨v, rfl, ho, hb1⟩
  obtain ⟨A', c', rfl, hi⟩ := ho.ints
  have HI := hide hi
  clear ho hi
  go_wp2_with fail
  go_ret2
  exact ⟨A', _, c', rfl, unhide HI, hb1⟩
set_option maxHeartbeats 400000 in
theorem Places_no (s : Int) (A : Option Addr) (n c : Nat) (xs : List Int) (w : World) (B : Nat) (h : Ints w B A n c xs) (hn : n ≤ 1000) (hb : Hid (rowB s xs = false)) :
    Calls Try.prog 20 #[.int .i64 s, .slice A n c] w fun e w' => e = .returned (.tuple #[.slice none 0 0, .int .i64 2]) ∧ w = w' := by
  go_enter Try.func20, Try.ntmps20
  go_wp2_with (go_at_call 69; refine (isRow_any _ _ _ _ _ _ _ h (by omega) false hb).mono ?_; rintro e w' ⟨rfl, rfl⟩)
  go_ret2
  exact ⟨rfl, rfl⟩

/-- Places of the reference, of a row. -/
theorem row_places {s : Int} {xs : List Int} (h : rowB s xs = true) {q : Nat} (hq : q < xs.length / 2) : ∃ i j : Nat, plL xs ((q : Int) + 1) = [(i : Int), (j : Int)] ∧ (j : Int) = i + ((q : Int) + 1) + s - 1 ∧ j < xs.length ∧ nth xs i = (q : Int) + 1 ∧ nth xs j = (q : Int) + 1 ∧ ixI xs ((q : Int) + 1) = i := by
  obtain ⟨m, h1, h2, h3, e, h5, h4⟩ := row_has h
  obtain ⟨i, j, h6, h7, h8, h9, h10⟩ := has_two h5.1 h3 h4 (q := q) (by omega)
  exact ⟨i, j, h6, h7, h8, h9, h10, by unfold ixI; rw [h6]; rfl⟩
set_option maxHeartbeats 1000000 in
theorem RPlaces_any (s : Int) (A : Option Addr) (n c : Nat) (xs : List Int) (w : World) (h : Ints w w.heap.size A n c xs) (hb : Hid (rowB s xs = true)) :
    Calls Try.prog 25 #[.slice A n c] w fun e w' => ∃ A' n' c', e = .returned (.slice A' n' c') ∧ Ints w' w'.heap.size A' n' c' (plcL xs) ∧ Below w.heap.size w w' := by
  have hl := hide h.len
  have hm := h.most; have hcap := h.cap
  have hn : n ≤ 16 := by rw [← h.len]; exact row_len hb.out
  obtain ⟨m, hmn⟩ : ∃ m, n / 2 = m := ⟨_, rfl⟩
  have hmm : ((n : Int)).tdiv 2 = (m : Int) := by rw [Int.tdiv_eq_ediv_of_nonneg (by omega)]; omega
  have hmb : m ≤ 8 := by omega
  have HE := hide (show plcL xs = plcT xs m from by unfold plcL; rw [hl.out, hmn])
  have HM := hide hmn
  have H := hide h
  clear hmn h
  go_enter Try.func25, Try.ntmps25
  go_wp2_with fail
  go_loopw [3, 4, 8] (fun v _ i wr => ∃ k : Nat, k ≤ m ∧ i = .int .i64 (k : Nat) ∧ Hid (Owned wr w.heap.size v (plcT xs k)) ∧ Hid (Below w.heap.size w wr)) (fun _ _ i _ => m - (intOf i).toNat)
  case atStart => exact ⟨0, Nat.zero_le _, rfl, hide (World.ownsRow_nil _ _ _ _), hide (Below.refl _ _)⟩
  case round =>
    obtain ⟨k, hk, rfl, HO, HB⟩ := hrel
    by_cases hlt : k < m
    · have HI := hide ((unhide H).below (unhide HB) |>.more (unhide HB).size)
      obtain ⟨i, j, e1, _, _, _, _, e2⟩ := row_places hb.out (q := k) (by rw [hl.out, HM.out]; exact hlt)
      have HX := hide e2
      have HPL := hide e1
      clear e1 e2
      go_wp2_with fail
      refine (rplaces_ints _ _ _ _ ((k : Int) + 1) _ (unhide HI) (by omega)).mono ?_
      rintro e w1 ⟨A1, n1, c1, rfl, hi1, hb1⟩
      have hl1 := hi1.len
      rw [HPL.out] at hl1 hi1
      obtain rfl : n1 = 2 := hl1.symm
      obtain ⟨b, off, rfl, hbb, hcell⟩ := hi1.cells (by omega)
      have hm1 := hi1.most; have hc1 := hi1.cap
      have y0 := hcell 0 (by simp)
      simp only [List.getD_cons_zero, Nat.add_zero] at y0
      have HB1 := hide ((unhide HB).trans (hb1.mono (unhide HB).size))
      have HO1 := hide ((unhide HO).below hb1 (Nat.le_refl _))
      have hbase := (unhide HB1).size
      have hpl : (plcT xs k).length ≤ 100000 := by rw [plcT_len]; omega
      clear hi1 hb1 hcell hl1
      go_wp2_with (at_builtin; refine wpList_app1 rfl _ _ rfl rfl rfl (unhide HO1) hpl hbase ?_; intro v' w3 ho3 hb3)
      go_roundw
      case rel => exact ⟨k + 1, by omega, by go_num, hide (by rw [plcT_succ, HX.out]; exact ho3), hide ((unhide HB1).trans hb3)⟩
      case measure => simp [intOf]; omega
    · have HL := hide (show plcT xs k = plcL xs from by rw [HE.out, show m = k by omega])
      have ho := unhide HO
      rw [HL.out] at ho
      obtain ⟨A', c', rfl, hi⟩ := ho.ints
      have HI := hide hi
      clear ho hi
      go_wp2_with fail
      go_ret
      exact ⟨A', _, c', rfl, unhide HI, unhide HB⟩
end Go.Proofs.Ytmgoonoifgcmnaa
