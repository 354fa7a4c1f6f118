import Derived.Test.YtdlbahoenhhkdaaR1
import Derived.Test.YtdlbahoenhhkdaaTb
/-
  Tables that are made: their blocks; emptyTable, place, isSize.
-/
namespace Go.Proofs.Ytdlbahoenhhkdaa
open Go.RowKit

def rowC (m : Nat) (f : Nat → Int) : Array Value := ((List.range m).map fun i => Value.int .i64 (f i)).toArray
def outC (g n m k : Nat) : Array Value := ((List.range n).map fun r => if r < k then Value.slice (some ⟨g + 1 + r, 0, none⟩) m m else .slice none 0 0).toArray
theorem rowC_at (m : Nat) (f : Nat → Int) (i : Nat) (h : i < m) : (rowC m f)[i]? = some (.int .i64 (f i)) := by simp [rowC, h]
theorem rowC_ext (m : Nat) (f f' : Nat → Int) (h : ∀ i, i < m → f i = f' i) : rowC m f = rowC m f' := by
  unfold rowC
  congr 1
  apply List.map_congr_left
  intro i hi
  rw [h i (List.mem_range.1 hi)]
theorem rowC_set (m : Nat) (f f' : Nat → Int) (p : Nat) (v : Int) (hv : f' p = v) (h : ∀ i, i ≠ p → f' i = f i) : (rowC m f).setIfInBounds p (.int .i64 v) = rowC m f' := by
  apply Array.ext_getElem?
  intro i
  rw [Array.getElem?_setIfInBounds]
  by_cases hi : p = i
  · subst hi
    rw [if_pos rfl]
    by_cases hp : p < m
    · rw [if_pos (by simpa [rowC] using hp), rowC_at _ _ _ hp, hv]
    · rw [if_neg (by simpa [rowC] using hp), Array.getElem?_eq_none (by simp [rowC]; omega)]
  · rw [if_neg hi]
    by_cases h2 : i < m
    · rw [rowC_at _ _ _ h2, rowC_at _ _ _ h2, h i (fun e => hi e.symm)]
    · rw [Array.getElem?_eq_none (by simp [rowC]; omega), Array.getElem?_eq_none (by simp [rowC]; omega)]
theorem outC_at (g n m k r : Nat) (h : r < n) : (outC g n m k)[r]? = some (if r < k then Value.slice (some ⟨g + 1 + r, 0, none⟩) m m else .slice none 0 0) := by
  simp [outC, h]
theorem outC_set (g n m k : Nat) (hk : k < n) : (outC g n m k).setIfInBounds k (.slice (some ⟨g + 1 + k, 0, none⟩) m m) = outC g n m (k + 1) := by
  apply Array.ext_getElem?
  intro i
  rw [Array.getElem?_setIfInBounds]
  by_cases hi : k = i
  · subst hi
    rw [if_pos rfl, if_pos (by simpa [outC] using hk), outC_at _ _ _ _ _ hk, if_pos (by omega)]
  · rw [if_neg hi]
    by_cases h2 : i < n
    · rw [outC_at _ _ _ _ _ h2, outC_at _ _ _ _ _ h2]
      by_cases h3 : i < k
      · rw [if_pos h3, if_pos (by omega)]
      · rw [if_neg h3, if_neg (by omega)]
    · rw [Array.getElem?_eq_none (by simp [outC]; omega), Array.getElem?_eq_none (by simp [outC]; omega)]

/-- A table that was made: its outer block, and the rows behind it. -/
structure Tab (w : World) (g n m : Nat) (F : Nat → Nat → Int) : Prop where
  outer : Blk w g 22 (outC g n m n)
  rows : ∀ r, r < n → Blk w (g + 1 + r) 3 (rowC m (F r))

theorem Tab.ext {w : World} {g n m : Nat} {F F' : Nat → Nat → Int} (h : Tab w g n m F) (e : ∀ r i, r < n → i < m → F r i = F' r i) : Tab w g n m F' :=
  ⟨h.outer, fun r hr => by rw [← rowC_ext m (F r) (F' r) (fun i hi => e r i hr hi)]; exact h.rows r hr⟩
theorem Tab.cell {w : World} {g n m : Nat} {F : Nat → Nat → Int} (h : Tab w g n m F) {r : Nat} (hr : r < n) : w.cell? ⟨g, r, none⟩ = some (.slice (some ⟨g + 1 + r, 0, none⟩) m m) := by
  rw [h.outer.cell, outC_at _ _ _ _ _ hr, if_pos hr]
theorem Tab.at_ {w : World} {g n m : Nat} {F : Nat → Nat → Int} (h : Tab w g n m F) {r i : Nat} (hr : r < n) (hi : i < m) : w.cell? ⟨g + 1 + r, i, none⟩ = some (.int .i64 (F r i)) := by
  rw [(h.rows r hr).cell, rowC_at _ _ _ hi]
theorem Tab.free {w : World} {g n m : Nat} {F : Nat → Nat → Int} (h : Tab w g n m F) {r : Nat} (hr : r < n) (i : Nat) : w.frozen? ⟨g + 1 + r, i, none⟩ = false := (h.rows r hr).frozen i
theorem Tab.put {w : World} {g n m : Nat} {F : Nat → Nat → Int} (h : Tab w g n m F) (F' : Nat → Nat → Int) {r p : Nat} (v : Int) (hr : r < n) (hv : F' r p = v) (e : ∀ r' i, ¬ (r' = r ∧ i = p) → F' r' i = F r' i) : Tab (w.setCell ⟨g + 1 + r, p, none⟩ (.int .i64 v)) g n m F' := by
  refine ⟨h.outer.far (by simp; omega) _, fun r' hr' => ?_⟩
  by_cases hrr : r' = r
  · subst hrr
    rw [← rowC_set m (F r') (F' r') p v hv (fun i hi => e r' i (fun hh => hi hh.2))]
    exact (h.rows r' hr').set_ p _
  · rw [rowC_ext m (F' r') (F r') (fun i _ => e r' i (fun hh => hrr hh.1))]
    exact (h.rows r' hr').far (by simp; omega) _
theorem Tab.below {w w' : World} {g n m : Nat} {F : Nat → Nat → Int} (h : Tab w g n m F) (hb : Below w.heap.size w w') : Tab w' g n m F :=
  ⟨h.outer.below hb h.outer.lt, fun r hr => (h.rows r hr).below hb (h.rows r hr).lt⟩

theorem tabL_row {n m : Nat} {F : Nat → Nat → Int} {r : Nat} (hr : r < n) : row (tabL n m F) r = (List.range m).map fun i => F r i := by
  simp [row, tabL, List.getD, hr]
theorem range_nth {m : Nat} {f : Nat → Int} {i : Nat} (hi : i < m) : nth ((List.range m).map f) i = f i := by simp [nth, List.getD, hi]
theorem Tab.rows_ {w : World} {g n m : Nat} {F : Nat → Nat → Int} (h : Tab w g n m F) (hn : n ≤ 1000) (hm : m ≤ 1000) : Rows_ w w.heap.size (some ⟨g, 0, none⟩) n n (tabL n m F) := by
  refine ⟨by simp [tabL], Nat.le_refl _, by omega, (fun e => by cases e), fun r hr => ⟨g, 0, _, _, _, rfl, h.outer.lt, by rw [Nat.zero_add]; exact h.cell hr, ?_⟩⟩
  rw [tabL_row hr]
  refine ⟨by simp, Nat.le_refl _, by omega, (fun e => by cases e), fun i hi => ⟨g + 1 + r, 0, rfl, (h.rows r hr).lt, ?_⟩⟩
  rw [Nat.zero_add, h.at_ hr hi, range_nth hi]

def sizeB (d m : Int) : Bool := decide (1 ≤ d) && decide (d ≤ 4) && decide (1 ≤ m) && decide (m ≤ 8)
theorem sizeB_bd {d m : Int} (h : sizeB d m = true) : 1 ≤ d ∧ d ≤ 4 ∧ 1 ≤ m ∧ m ≤ 8 := by simp only [sizeB, Bool.and_eq_true, decide_eq_true_eq] at h; omega
theorem isSize_any (d m : Int) (w : World) : Calls Try.prog 66 #[.int .i64 d, .int .i64 m] w fun e w' => e = .returned (.bool (sizeB d m)) ∧ w = w' := by
  by_cases h1 : 1 ≤ d
  · by_cases h2 : d ≤ 4
    · by_cases h3 : 1 ≤ m
      · go_enter Try.func66, Try.ntmps66
        go_wp2_with fail
        go_ret
        exact ⟨ret_bool (by simp [sizeB, h1, h2, h3]), rfl⟩
      · go_enter Try.func66, Try.ntmps66
        go_wp2_with fail
        go_ret
        exact ⟨ret_bool (by simp [sizeB, h3]; omega), rfl⟩
    · have h2' : decide (d ≤ 4) = false := by simpa using h2
      go_enter Try.func66, Try.ntmps66
      go_wp2_with fail
      go_ret
      exact ⟨ret_bool (by simp [sizeB, h2']), rfl⟩
  · have h1' : decide (1 ≤ d) = false := by simpa using h1
    go_enter Try.func66, Try.ntmps66
    go_wp2_with fail
    go_ret
    exact ⟨ret_bool (by simp [sizeB, h1']), rfl⟩
theorem isSize_is (d m : Int) (w : World) (b : Bool) (hb : Hid (sizeB d m = b)) : Calls Try.prog 66 #[.int .i64 d, .int .i64 m] w fun e w' => e = .returned (.bool b) ∧ w = w' :=
  (isSize_any d m w).mono fun _ _ ⟨he, hw⟩ => ⟨by rw [he, hb.out], hw⟩
theorem RSize_any (d m : Int) (w : World) : Calls Try.prog 36 #[.int .i64 d, .int .i64 m] w fun e w' => e = .returned (.bool (sizeB d m)) ∧ w = w' := by
  by_cases h1 : 1 ≤ d
  · by_cases h2 : d ≤ 4
    · by_cases h3 : 1 ≤ m
      · go_enter Try.func36, Try.ntmps36
        go_wp2_with fail
        go_ret
        exact ⟨ret_bool (by simp [sizeB, h1, h2, h3]), rfl⟩
      · go_enter Try.func36, Try.ntmps36
        go_wp2_with fail
        go_ret
        exact ⟨ret_bool (by simp [sizeB, h3]; omega), rfl⟩
    · have h2' : decide (d ≤ 4) = false := by simpa using h2
      go_enter Try.func36, Try.ntmps36
      go_wp2_with fail
      go_ret
      exact ⟨ret_bool (by simp [sizeB, h2']), rfl⟩
  · have h1' : decide (1 ≤ d) = false := by simpa using h1
    go_enter Try.func36, Try.ntmps36
    go_wp2_with fail
    go_ret
    exact ⟨ret_bool (by simp [sizeB, h1']), rfl⟩
theorem RSize_is (d m : Int) (w : World) (b : Bool) (hb : Hid (sizeB d m = b)) : Calls Try.prog 36 #[.int .i64 d, .int .i64 m] w fun e w' => e = .returned (.bool b) ∧ w = w' :=
  (RSize_any d m w).mono fun _ _ ⟨he, hw⟩ => ⟨by rw [he, hb.out], hw⟩

theorem pl_parts (r key m : Nat) (hr : r ≤ 10) (hk : key ≤ 100) (hm : 1 ≤ m) : (0 : Int) ≤ (key : Int) * ((r : Int) + 1) ∧ (key : Int) * ((r : Int) + 1) ≤ 1100 ∧ 0 ≤ (key : Int) / ((r : Int) + 2) ∧ (key : Int) / ((r : Int) + 2) ≤ 100 ∧
    ((key : Int) * ((r : Int) + 1) + (key : Int) / ((r : Int) + 2)) % (m : Int) = (pl r key m : Nat) := by
  have h1 := Int.mul_le_mul (show (key : Int) ≤ 100 by omega) (show (r : Int) + 1 ≤ 11 by omega) (by omega) (by omega)
  have h2 : key / (r + 2) ≤ key := Nat.div_le_self _ _
  refine ⟨Int.mul_nonneg (by omega) (by omega), by omega, Int.ediv_nonneg (by omega) (by omega), ?_, ?_⟩
  · have : (key : Int) / ((r : Int) + 2) = ((key / (r + 2) : Nat) : Int) := by simp
    omega
  · simp [pl]

theorem place_any (r key m : Nat) (w : World) (hr : r ≤ 10) (hk : key ≤ 100) (hm : 1 ≤ m) (hm2 : m ≤ 1000) : Calls Try.prog 68 #[.int .i64 (r : Int), .int .i64 (key : Int), .int .i64 (m : Int)] w fun e w' => e = .returned (.int .i64 (pl r key m : Nat)) ∧ w = w' := by
  obtain ⟨h1, h2, h3, h4, h5⟩ := pl_parts r key m hr hk hm
  have H5 := hide h5; clear h5
  go_enter Try.func68, Try.ntmps68
  go_wp2_with fail
  go_ret
  exact ⟨ret_int H5.out, rfl⟩
theorem RIndex_any (r key m : Nat) (w : World) (hr : r ≤ 10) (hk : key ≤ 100) (hm : 1 ≤ m) (hm2 : m ≤ 1000) : Calls Try.prog 70 #[.int .i64 (r : Int), .int .i64 (m : Int), .int .i64 (key : Int)] w fun e w' => e = .returned (.int .i64 (pl r key m : Nat)) ∧ w = w' := by
  obtain ⟨h1, h2, h3, h4, h5⟩ := pl_parts r key m hr hk hm
  have H5 := hide h5; clear h5
  go_enter Try.func70, Try.ntmps70
  go_wp2_with fail
  go_ret
  exact ⟨ret_int H5.out, rfl⟩

/-- A slice of n slices, nil all. -/
theorem make_nils (n : Nat) (hn : n ≤ 1000000) : ∃ Z : Array Value, Z.toList = List.replicate n (.slice none 0 0) ∧ ∀ W : World, (Instr.makeSlice 51 (.int .i64 (n : Int)) (.int .i64 (n : Int))).run Try.prog W = .ok (.slice (some ⟨W.heap.size, 0, none⟩) n n) (W.alloc (.cells Z 22)) := by
  obtain ⟨i0, h0, hz0, hz1, hz2⟩ := info_parts info22
  refine ⟨madeCells (Value.slice none 0 0).cells n, ?_, fun W => ?_⟩
  · unfold madeCells
    apply List.ext_getElem
    · simp
    · intro j h1 h2
      simp [Value.cells, Nat.mod_one]
  · have := run_make (P := Try.prog) W 51 22 i0 _ Try.underlying51 h0 hz0 .i64 .i64 n n (by omega) (Int.le_refl _) (by rw [hz2]; omega) (by omega)
    rw [hz1] at this
    simpa using this

set_option maxHeartbeats 800000 in
theorem emptyTable_any (n m : Nat) (w : World) (hn : n ≤ 1000) (hm : m ≤ 1000) :
    Calls Try.prog 67 #[.int .i64 (n : Int), .int .i64 (m : Int)] w fun e w' => e = .returned (.slice (some ⟨w.heap.size, 0, none⟩) n n) ∧ Tab w' w.heap.size n m (fun _ _ => 0) ∧ Below w.heap.size w w' := by
  obtain ⟨Z, hZ, hmk⟩ := make_nils n (by omega)
  obtain ⟨Y, hY1, hY2, hmk2⟩ := make_zeros m (by omega)
  have hZ' : Z = outC w.heap.size n m 0 := by
    apply Array.toList_inj.1
    rw [hZ]
    simp [outC]
    apply List.ext_getElem <;> simp
  have hY' : Y = rowC m fun _ => 0 := by
    apply Array.toList_inj.1
    rw [hY2]
    simp [rowC]
    apply List.ext_getElem <;> simp
  have HZ := hide hZ'; have HY := hide hY'
  clear hZ hZ' hY1 hY2 hY'
  go_enter Try.func67, Try.ntmps67
  go_wp2
  go_loopw [6, 11] (fun _ i wr => ∃ k : Nat, k ≤ n ∧ i = .int .i64 k ∧ Blk wr w.heap.size 22 (outC w.heap.size n m k) ∧ (∀ r, r < k → Blk wr (w.heap.size + 1 + r) 3 (rowC m fun _ => 0)) ∧ Hid (wr.heap.size = w.heap.size + 1 + k) ∧ Below w.heap.size w wr) (fun _ i _ => n - (intOf i).toNat)
  case atStart =>
    refine ⟨0, Nat.zero_le _, rfl, by rw [HZ.out]; exact Blk.new _ _ _, (fun r hr => absurd hr (by omega)), hide (by simp), (Below.refl _ _).alloc (Nat.le_refl _) _⟩
  case round =>
    obtain ⟨k, hk, rfl, b1, hrows, hsz, hb⟩ := hrel
    by_cases hlt : k < n
    · have c1 := (b1.alloc (.cells Y 3)).cell k
      rw [outC_at _ _ _ _ _ hlt, if_neg (by omega)] at c1
      have c2 := (b1.alloc (.cells Y 3)).frozen k
      have hg := b1.lt
      have HR := hide hrows; clear hrows
      go_wp2
      go_roundw
      case rel =>
        refine ⟨k + 1, by omega, by go_num, ?_, ?_, ?_, ?_⟩
        · rw [hsz.out, ← outC_set _ _ _ _ hlt]
          exact (b1.set_ _ _).alloc _
        · intro r hr
          rcases Nat.lt_or_ge r k with h1 | h1
          · exact ((HR.out r h1).far (by show _ ≠ w.heap.size; omega) _).alloc _
          · obtain rfl : r = k := by omega
            rw [← hsz.out, ← HY.out]
            have := Blk.new (wr.setCell ⟨w.heap.size, r, none⟩ (.slice (some ⟨wr.heap.size, 0, none⟩) m m)) 3 Y
            simpa [World.setCell] using this
        · exact hide (by simp [World.setCell, hsz.out]; omega)
        · exact (hb.setCell (by simp) _).alloc (by simpa [World.setCell] using hb.size) _
      case measure => simp [intOf]; omega
    · obtain rfl : n = k := by omega
      go_wp2
      go_ret
      exact ⟨rfl, ⟨b1, hrows⟩, hb⟩
end Go.Proofs.Ytdlbahoenhhkdaa
