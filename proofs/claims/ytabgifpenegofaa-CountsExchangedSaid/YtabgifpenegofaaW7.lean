/-
  Sums of the program; awake.
-/
import Derived.Test.YtabgifpenegofaaW6
namespace Go.Proofs.Ytabgifpenegofaa
open Go.RowKit

/-- Two lines that are laid one behind the other. -/
theorem two_lines (w : World) (f g : Nat → Int) : ∃ W, ((((w.alloc (.cells #[.int .i64 0, .int .i64 0, .int .i64 0] 75)).alloc (.cells #[.int .i64 0, .int .i64 0, .int .i64 0] 75)).setRow w.heap.size (lnA f)).setRow (w.heap.size + 1) (lnA g)) = W ∧
    Blk ((w.alloc (.cells #[.int .i64 0, .int .i64 0, .int .i64 0] 75)).alloc (.cells #[.int .i64 0, .int .i64 0, .int .i64 0] 75)) w.heap.size 75 (lnA fun _ => 0) ∧
    Blk (((w.alloc (.cells #[.int .i64 0, .int .i64 0, .int .i64 0] 75)).alloc (.cells #[.int .i64 0, .int .i64 0, .int .i64 0] 75)).setRow w.heap.size (lnA f)) (w.heap.size + 1) 75 (lnA fun _ => 0) ∧
    Blk W w.heap.size 75 (lnA f) ∧ Blk W (w.heap.size + 1) 75 (lnA g) ∧ Below w.heap.size w W := by
  rw [lnA_zero]
  have h1 : Blk ((w.alloc (.cells (lnA fun _ => 0) 75)).alloc (.cells (lnA fun _ => 0) 75)) w.heap.size 75 (lnA fun _ => 0) := (Blk.new _ _ _).alloc _
  have h2 : Blk ((w.alloc (.cells (lnA fun _ => 0) 75)).alloc (.cells (lnA fun _ => 0) 75)) (w.heap.size + 1) 75 (lnA fun _ => 0) := by
    have := Blk.new (w.alloc (.cells (lnA fun _ => 0) 75)) 75 (lnA fun _ => 0)
    simpa using this
  have h3 := setRow_heap _ w.heap.size (lnA fun _ => 0) (lnA f) 75 (0, 0) h1
  have h4 := (setRow_other ((w.alloc (.cells (lnA fun _ => 0) 75)).alloc (.cells (lnA fun _ => 0) 75)) w.heap.size (w.heap.size + 1) (lnA f) (by omega)).trans h2
  have h5 := setRow_heap _ (w.heap.size + 1) (lnA fun _ => 0) (lnA g) 75 (0, 0) h4
  have h6 := (setRow_other _ (w.heap.size + 1) w.heap.size (lnA g) (by omega)).trans h3
  refine ⟨_, rfl, h1, h4, h6, h5, below_setRow (below_setRow (((Below.refl _ w).alloc (Nat.le_refl _) _).alloc (by simp) _) (Nat.le_refl _) _) (by omega) _⟩
theorem ints_ln {W : World} {g k : Nat} {f : Nat → Int} (h : Blk W g 75 (lnA f)) (hk : k ≤ 3) : Ints W W.heap.size (some ⟨g, 0, none⟩) k 3 ((List.range k).map f) :=
  ⟨by simp, hk, by omega, (fun e => by cases e), fun i hi => ⟨g, 0, rfl, h.lt, by
    rw [Nat.zero_add, h.cell, lnA_at _ _ (by omega)]; simp [nth, List.getD, hi]⟩⟩

theorem Tb.sml {t : List (List Int)} {n m : Nat} (h : Tb t n m) : Sml (at2 t) := fun i j _ _ => ⟨h.nn i j, by have := h.le i j; omega⟩
/-- The sums of the rows, and of the columns. -/
def rowsL (t : List (List Int)) : List Int := (List.range t.length).map (rS (at2 t))
def colsL (t : List (List Int)) : List Int := (List.range (row t 0).length).map (cS (at2 t))
/-- A row's slice of a table. -/
theorem Tb.get {t : List (List Int)} {n m c b off : Nat} {w : World} {B : Nat} (ht : Tb t n m) (h : Rows_ w B (some ⟨b, off, none⟩) n c t) {k : Nat} (hk : k < n) :
    ∃ A' c', w.cell? ⟨b, off + k, none⟩ = some (.slice A' m c') ∧ Ints w B A' m c' (row t k) := by
  obtain ⟨A', n', c', hc, hi⟩ := h.get hk
  have e := hi.len
  rw [ht.rows k hk] at e
  subst e
  exact ⟨A', c', hc, hi⟩

set_option maxRecDepth 100000 in
set_option maxHeartbeats 2000000 in
theorem Sums_ok (A : Option Addr) (n c m : Nat) (t : List (List Int)) (w : World) (h : Rows_ w w.heap.size A n c t) (ht : Hid (Tb t n m)) :
    Calls Try.prog 19 #[.slice A n c] w fun e w' => ∃ A' A'', e = .returned (.tuple #[.slice A' n 3, .slice A'' m 3, .int .i64 0]) ∧ Ints w' w'.heap.size A' n 3 (rowsL t) ∧ Ints w' w'.heap.size A'' m 3 (colsL t) ∧ Below w.heap.size w w' := by
  have hm := h.most; have hcap := h.cap
  have n1 := ht.out.n1; have n3 := ht.out.n3; have m1 := ht.out.m1; have m3 := ht.out.m3
  obtain ⟨b, off, rfl⟩ := h.addr (show 0 < n by omega)
  have HT := hide (isT_of ht.out)
  have HS := hide ht.out.sml
  have IR := hide (info75 (rS (at2 t))); have IC := hide (info75 (cS (at2 t)))
  have AR := hide (lnA_all (rS (at2 t))); have AC := hide (lnA_all (cS (at2 t)))
  have HRL := hide (show (List.range n).map (rS (at2 t)) = rowsL t from by unfold rowsL; rw [ht.out.len])
  have HCL := hide (show (List.range m).map (cS (at2 t)) = colsL t from by unfold colsL; rw [ht.out.rows 0 (by omega)])
  go_enter Try.func19, Try.ntmps19
  go_wp2_with fail
  refine (isTable_is _ _ _ _ _ h _ HT).mono ?_
  rintro e w1 ⟨rfl, b1⟩
  have h1 := (h.below b1).more b1.size
  go_wp2_with fail
  refine (keyOf_any _ _ _ _ _ _ h1 ht).mono ?_
  rintro e w2 ⟨rfl, b2⟩
  have HB2 := hide (b1.trans (b2.mono b1.size))
  go_wp2_with fail
  refine (sums_any _ _ HS).mono ?_
  rintro e w3 ⟨rfl, b3⟩
  have HB3 := hide ((unhide HB2).trans (b3.mono (unhide HB2).size))
  clear b1 b2 b3 h1
  obtain ⟨W, hW, k1, k2, k3, k4, k5⟩ := two_lines w3 (rS (at2 t)) (cS (at2 t))
  have K1 := hide k1; have K2 := hide k2; have K3 := hide k3; have K4 := hide k4
  have HBW := hide ((unhide HB3).trans (k5.mono (unhide HB3).size))
  have HW := hide hW
  clear k1 k2 k3 k4 k5 hW
  go_upto_region 4 with (first
    | (refine wpList_store_row rfl 75 _ _ rfl w3.heap.size (lnA (rS (at2 t))) rfl rfl 75 _ (unhide K1) IR.out rfl AR.out ?_)
    | (refine wpList_store_row rfl 75 _ _ rfl (w3.heap.size + 1) (lnA (cS (at2 t))) rfl rfl 75 _ (unhide K2) IC.out rfl AC.out ?_))
  rw [HW.out]
  obtain ⟨A0, c0, hc0, hi0⟩ := ht.out.get (h.below (unhide HBW)) (show 0 < n by omega)
  simp only [Nat.add_zero] at hc0
  clear hi0 HB2 HB3 K1 K2
  obtain ⟨x1, x2⟩ : (0 : Int) ≤ (n : Int) ∧ (n : Int) ≤ 3 := by omega
  obtain ⟨y1, y2⟩ : (0 : Int) ≤ (m : Int) ∧ (m : Int) ≤ 3 := by omega
  have hn0 : 0 < n := by omega
  go_quiet (fail)
  go_wp2_with fail
  go_ret3
  exact ⟨_, _, rfl, by rw [← HRL.out]; exact (ints_ln (unhide K3) n3).drewN nq, by rw [← HCL.out]; exact (ints_ln (unhide K4) m3).drewN nq, Below.drewN' (unhide HBW) nq⟩
theorem Sums_no (A : Option Addr) (n c : Nat) (t : List (List Int)) (w : World) (h : Rows_ w w.heap.size A n c t) (ht : Hid (isT t = false)) :
    Calls Try.prog 19 #[.slice A n c] w fun e w' => e = .returned (.tuple #[.slice none 0 0, .slice none 0 0, .int .i64 2]) ∧ Below w.heap.size w w' := by
  go_enter Try.func19, Try.ntmps19
  go_wp2_with fail
  refine (isTable_is _ _ _ _ _ h _ ht).mono ?_
  rintro e w1 ⟨rfl, b1⟩
  go_wp2_with fail
  go_ret3
  exact ⟨rfl, b1⟩

theorem ints_2 (w : World) (a b : Int) : Ints (w.alloc (.cells #[.int .i64 a, .int .i64 b] 3)) (w.heap.size + 1) (some ⟨w.heap.size, 0, none⟩) 2 2 [a, b] :=
  ⟨rfl, Nat.le_refl _, by omega, (fun e => by cases e), fun k hk => ⟨w.heap.size, 0, rfl, by omega, by
    rcases (show k = 0 ∨ k = 1 by omega) with rfl | rfl <;> (rw [World.cell?_alloc_at _ _ _ _ rfl]; rfl)⟩⟩
/-- A table of two rows and two columns that is built. -/
theorem rows_22 (w : World) (a b c d : Int) : Rows_ (((w.alloc (.cells #[.int .i64 a, .int .i64 b] 3)).alloc (.cells #[.int .i64 c, .int .i64 d] 3)).alloc (.cells #[.slice (some ⟨w.heap.size, 0, none⟩) 2 2, .slice (some ⟨w.heap.size + 1, 0, none⟩) 2 2] 23)) (w.heap.size + 1 + 1 + 1) (some ⟨w.heap.size + 1 + 1, 0, none⟩) 2 2 [[a, b], [c, d]] := by
  have i1 := ((ints_2 w a b).alloc (by simp) (.cells #[.int .i64 c, .int .i64 d] 3)).alloc (by simp) (.cells #[.slice (some ⟨w.heap.size, 0, none⟩) 2 2, .slice (some ⟨w.heap.size + 1, 0, none⟩) 2 2] 23)
  have i2 := ((ints_2 (w.alloc (.cells #[.int .i64 a, .int .i64 b] 3)) c d).alloc (by simp) (.cells #[.slice (some ⟨w.heap.size, 0, none⟩) 2 2, .slice (some ⟨w.heap.size + 1, 0, none⟩) 2 2] 23))
  rw [World.size_alloc] at i2
  have hb := Blk.new ((w.alloc (.cells #[.int .i64 a, .int .i64 b] 3)).alloc (.cells #[.int .i64 c, .int .i64 d] 3)) 23 #[.slice (some ⟨w.heap.size, 0, none⟩) 2 2, .slice (some ⟨w.heap.size + 1, 0, none⟩) 2 2]
  rw [World.size_alloc, World.size_alloc] at hb
  refine ⟨rfl, Nat.le_refl _, by omega, (fun e => by cases e), fun k hk => ?_⟩
  rcases (show k = 0 ∨ k = 1 by omega) with rfl | rfl
  · exact ⟨_, _, _, _, _, rfl, by omega, by rw [hb.cell]; rfl, i1.more (by omega)⟩
  · exact ⟨_, _, _, _, _, rfl, by omega, by rw [hb.cell]; rfl, i2.more (by omega)⟩

set_option maxRecDepth 100000 in
set_option maxHeartbeats 2000000 in
theorem awake_any (w : World) : Calls Try.prog 23 #[] w fun e w' => e = .returned (.bool true) ∧ Below w.heap.size w w' := by
  have hr := rows_22 w 1 2 3 4
  have HT := hide (tb_of (show isT [[1, 2], [3, 4]] = true from by decide))
  have HR := hide (show rowsL [[1, 2], [3, 4]] = [3, 7] from by decide)
  have HC := hide (show colsL [[1, 2], [3, 4]] = [4, 6] from by decide)
  have hb := (((Below.refl w.heap.size w).alloc (Nat.le_refl _) (.cells #[.int .i64 1, .int .i64 2] 3)).alloc (by simp) (.cells #[.int .i64 3, .int .i64 4] 3)).alloc (by simp; omega) (.cells #[.slice (some ⟨w.heap.size, 0, none⟩) 2 2, .slice (some ⟨w.heap.size + 1, 0, none⟩) 2 2] 23)
  have HB := hide hb
  have HS := hide (Sums_ok _ _ _ _ _ _ (hr.more (by simp)) HT)
  clear hr hb
  go_enter Try.func23, Try.ntmps23
  go_wp2_with fail
  refine (unhide HS).mono ?_
  rintro e w1 ⟨A1, A2, rfl, i1, i2, b1⟩
  rw [HR.out] at i1
  rw [HC.out] at i2
  have HB1 := hide ((unhide HB).trans (b1.mono (unhide HB).size))
  clear b1 HS
  have I1 := hide (i1.alloc (Nat.le_refl _) (.cells #[.int .i64 3, .int .i64 7] 3))
  have I2 := hide ((i2.alloc (Nat.le_refl _) (.cells #[.int .i64 3, .int .i64 7] 3)).more (show w1.heap.size ≤ (w1.alloc (.cells #[.int .i64 3, .int .i64 7] 3)).heap.size by simp))
  have HB2 := hide ((unhide HB1).alloc (unhide HB1).size (.cells #[.int .i64 3, .int .i64 7] 3))
  clear i1 i2
  go_wp2_with fail
  refine (equal_is _ _ _ _ _ _ _ _ _ _ _ (unhide I1) (ints_2 w1 3 7) (hide rfl)).mono ?_
  rintro e w2 ⟨rfl, q, hq⟩
  have I3 := hide (show Ints w2 w2.heap.size A2 2 3 [4, 6] from by rw [hq]; exact (unhide I2).drewN q)
  have HB3 := hide (show Below w.heap.size w w2 from by rw [hq]; exact Below.drewN' (unhide HB2) q)
  clear hq
  have I4 := hide ((unhide I3).alloc (Nat.le_refl _) (.cells #[.int .i64 4, .int .i64 6] 3))
  have HB4 := hide ((unhide HB3).alloc (unhide HB3).size (.cells #[.int .i64 4, .int .i64 6] 3))
  go_wp2_with fail
  refine (equal_is _ _ _ _ _ _ _ _ _ _ _ (unhide I4) (ints_2 w2 4 6) (hide rfl)).mono ?_
  rintro e w3 ⟨rfl, q, rfl⟩
  go_wp2_with fail
  go_ret
  exact ⟨rfl, Below.drewN' (unhide HB4) q⟩
theorem none_any (a b : Int) (w : World) (r : Bool) (hr : Hid (decide (((a, b) : F) = (0, 0)) = r)) :
    Calls Try.prog 37 #[.agg #[.int .i64 a, .int .i64 b]] w fun e w' => e = .returned (.bool r) ∧ Below w.heap.size w w' := by
  have heq := eql47 a b 0 0
  rw [hr.out] at heq
  go_enter Try.func37, Try.ntmps37
  go_wp2_with fail
  go_ret
  exact ⟨rfl, (Below.refl _ _).alloc (Nat.le_refl _) _⟩
end Go.Proofs.Ytabgifpenegofaa
