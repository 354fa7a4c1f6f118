import Derived.Test.YtdlbahoenhhkdaaTc
import Derived.Test.YtdlbahoenhhkdaaH1
/-
  Table of the program and of the reference.
-/
namespace Go.Proofs.Ytdlbahoenhhkdaa
open Go.RowKit

theorem Table_no (A : Option Addr) (n c : Nat) (xs : List Int) (d m : Int) (w : World) (B : Nat) (h : Ints w B A n c xs) (hs : Hid ((sizeB d m && isStr xs) = false)) :
    Calls Try.prog 35 #[.int .i64 d, .int .i64 m, .slice A n c] w fun e w' => e = .returned (.tuple #[.slice none 0 0, .int .i64 2]) ∧ w = w' := by
  rcases and_no hs.out with h1 | ⟨h1, h2⟩
  · have H1 := hide h1; clear h1
    go_enter Try.func35, Try.ntmps35
    go_wp2_with (go_at_call 66; refine (isSize_is _ _ _ _ H1).mono ?_; rintro e w' ⟨rfl, rfl⟩)
    go_ret2
    exact ⟨rfl, rfl⟩
  · have H1 := hide h1; clear h1
    have H2 := hide h2; clear h2
    go_enter Try.func35, Try.ntmps35
    go_wp2_with (first
      | (go_at_call 66; refine (isSize_is _ _ _ _ H1).mono ?_; rintro e w' ⟨rfl, rfl⟩)
      | (go_at_call 59; refine (isStream_is _ _ _ _ _ _ h _ H2).mono ?_; rintro e w' ⟨rfl, rfl⟩))
    go_ret2
    exact ⟨rfl, rfl⟩

/-- The numbers while the key x is counted: done in the rows below r. -/
def midF (xs : List Int) (m x r : Nat) (r' i : Nat) : Int := if r' < r then progF xs m (x + 1) r' i else progF xs m x r' i

set_option maxRecDepth 100000 in
set_option maxHeartbeats 1000000 in
theorem Table_ok (A : Option Addr) (n c : Nat) (xs : List Int) (d m : Nat) (w : World) (h : Ints w w.heap.size A n c xs) (hz : Hid (sizeB (d : Int) (m : Int) = true)) (hs : Hid (isStr xs = true)) :
    Calls Try.prog 35 #[.int .i64 (d : Int), .int .i64 (m : Int), .slice A n c] w fun e w' => e = .returned (.tuple #[.slice (some ⟨w.heap.size, 0, none⟩) d d, .int .i64 0]) ∧ Tab w' w.heap.size d m (tabF xs m) ∧ Below w.heap.size w w' := by
  have hm := h.most; have hcap := h.cap
  have hl := hide h.len
  obtain ⟨d1, d2, m1, m2⟩ := sizeB_bd hz.out
  have hn : n ≤ 40 := by have := isStr_len hs.out; have := hl.out; omega
  go_enter Try.func35, Try.ntmps35
  go_wp2_with (first
    | (go_at_call 66; refine (isSize_is _ _ _ _ hz).mono ?_; rintro e w' ⟨rfl, rfl⟩)
    | (go_at_call 59; refine (isStream_is _ _ _ _ _ _ h _ hs).mono ?_; rintro e w' ⟨rfl, rfl⟩)
    | (go_at_call 67; refine (emptyTable_any _ _ _ (by omega) (by omega)).mono ?_; rintro e w1 ⟨rfl, ht, hb1⟩)
    | (go_at_call 61; refine (tally_any _ _ _ _ _ ((h.below hb1).more hb1.size) hs).mono ?_; rintro e w2 ⟨rfl, hb2⟩))
  have hb2' := hb1.trans (hb2.mono hb1.size)
  have ht2 := ht.below hb2
  go_loopw [9, 10, 11, 12, 27] (fun _ _ _ _ i wr => ∃ x : Nat, x ≤ 16 ∧ i = .int .i64 x ∧ Tab wr w.heap.size d m (progF xs m x) ∧ Below w.heap.size w wr) (fun _ _ _ _ i _ => 16 - (intOf i).toNat)
  case atStart => exact ⟨0, by omega, rfl, ht2, hb2'⟩
  case round =>
    obtain ⟨wo, rfl⟩ : ∃ wo : World, wo = wr := ⟨_, rfl⟩
    obtain ⟨x, hx, rfl, htx, hbx⟩ := hrel
    clear ht ht2
    by_cases hlt : x < 16
    · have hix := fun W => run_index_tarr (fun i => often xs i) x hlt W
      have hox := often_bd (xs := xs) (x : Int)
      obtain ⟨o1, o2⟩ := hox
      have o3 : often xs x ≤ 40 := by have := hl.out; omega
      have hx16 : decide ((x : Int) < 16) = true := by simp; omega
      go_wp2
      go_loopw [11, 12, 33] (fun _ _ i wr => ∃ r : Nat, r ≤ d ∧ i = .int .i64 r ∧ Tab wr w.heap.size d m (midF xs m x r) ∧ Below w.heap.size w wr) (fun _ _ i _ => d - (intOf i).toNat)
      case atStart => exact ⟨0, by omega, rfl, htx.ext (fun r i _ _ => by simp [midF]), hbx⟩
      case round =>
        obtain ⟨r, hr, rfl, htr, hbr⟩ := hrel
        clear htx hix
        by_cases hlr : r < d
        · have c0 := htr.cell hlr
          have hp := pl_lt r x m (by omega)
          have c1 := htr.at_ hlr hp
          have c2 := htr.free hlr (pl r x m)
          have e1 : midF xs m x r r (pl r x m) = progF xs m x r (pl r x m) := by simp [midF]
          rw [e1] at c1
          clear e1
          have p1 := progF_nonneg xs m x r (pl r x m)
          have p2 := progF_le xs hs.out m x r (pl r x m) (by omega)
          have p3 : progF xs m x r (pl r x m) ≤ 40 := by have := hl.out; omega
          have HP := hide (htr.put (midF xs m x (r + 1)) (r := r) (p := pl r x m) (progF xs m x r (pl r x m) + often xs x) hlr (by simp [midF, progF_step]) (by
            intro r' i hh
            unfold midF
            by_cases e2 : r' < r
            · rw [if_pos e2, if_pos (by omega)]
            · by_cases e3 : r' = r
              · subst e3
                have : ¬ pl r' x m = i := fun e => hh ⟨rfl, e.symm⟩
                rw [if_neg e2, if_pos (by omega), progF_step, if_neg this]; omega
              · rw [if_neg e2, if_neg (by omega)]))
          clear htr
          go_wp2_with (go_at_call 68; refine (place_any _ _ _ _ (by omega) (by omega) (by omega) (by omega)).mono ?_; rintro e w' ⟨rfl, rfl⟩)
          go_roundw
          case rel => exact ⟨r + 1, by omega, by go_num, HP.out, hbr.setCell (by show _ ≤ w.heap.size + 1 + r; omega) _⟩
          case measure => simp [intOf]; omega
        · obtain rfl : d = r := by omega
          have HT := hide (htr.ext (F' := progF xs m (x + 1)) (fun r i hr _ => by simp [midF, hr]))
          clear htr
          go_wp2
          go_roundw
          case rel => exact ⟨x + 1, by omega, by go_num, HT.out, hbr⟩
          case measure => simp [intOf]; omega
    · obtain rfl : x = 16 := by omega
      go_wp2
      go_ret2
      exact ⟨rfl, htx, hbx⟩

def refR (xs : List Int) (n m : Nat) : List (List Int) := tabL n m fun r i => tabTo xs m r i xs.length
theorem refR_succ (xs : List Int) (n m : Nat) : refR xs (n + 1) m = refR xs n m ++ [(List.range m).map fun i => tabTo xs m n i xs.length] := by
  simp [refR, tabL, List.range_succ]
theorem refR_eq {xs : List Int} (hs : isStr xs = true) (n m : Nat) : refR xs n m = tabL n m (tabF xs m) := by
  unfold refR tabL
  apply List.map_congr_left
  intro r _
  apply List.map_congr_left
  intro i _
  rw [progF_tab xs m r i hs]
theorem refR_len (xs : List Int) (n m : Nat) : (refR xs n m).length = n := by simp [refR, tabL]
theorem tabTo_bd (xs : List Int) (m r i : Nat) : ∀ j : Nat, 0 ≤ tabTo xs m r i j ∧ tabTo xs m r i j ≤ j := by
  intro j; induction j with
  | zero => simp [tabTo]
  | succ j ih => simp only [tabTo]; split <;> omega

theorem ints_of_row {w : World} {g m : Nat} {f : Nat → Int} (h : Blk w g 3 (rowC m f)) (hm : m ≤ 1000) : Ints w w.heap.size (some ⟨g, 0, none⟩) m m ((List.range m).map f) :=
  ⟨by simp, Nat.le_refl _, by omega, (fun e => by cases e), fun i hi => ⟨g, 0, rfl, h.lt, by rw [Nat.zero_add, h.cell, rowC_at _ _ _ hi, range_nth hi]⟩⟩

set_option maxRecDepth 100000 in
set_option maxHeartbeats 1000000 in
theorem RTable_any (A : Option Addr) (n c : Nat) (xs : List Int) (d m : Nat) (w : World) (h : Ints w w.heap.size A n c xs) (hz : Hid (sizeB (d : Int) (m : Int) = true)) (hs : Hid (isStr xs = true)) :
    Calls Try.prog 38 #[.int .i64 (d : Int), .int .i64 (m : Int), .slice A n c] w fun e w' => ∃ v, e = .returned v ∧ OwnedR w' w.heap.size v (refR xs d m) ∧ Below w.heap.size w w' := by
  have hm := h.most; have hcap := h.cap
  have hl := hide h.len
  obtain ⟨d1, d2, m1, m2⟩ := sizeB_bd hz.out
  have hn : n ≤ 40 := by have := isStr_len hs.out; have := hl.out; omega
  obtain ⟨Y, hY1, hY2, hmk2⟩ := make_zeros m (by omega)
  have hY' : Y = rowC m fun _ => 0 := by
    apply Array.toList_inj.1
    rw [hY2]
    simp [rowC]
    apply List.ext_getElem <;> simp
  have HY := hide hY'
  clear hY1 hY2 hY'
  go_enter Try.func38, Try.ntmps38
  go_wp2
  go_loopw [7, 8, 9, 11, 13] (fun v _ _ _ i wr => ∃ r : Nat, r ≤ d ∧ i = .int .i64 r ∧ OwnedR wr w.heap.size v (refR xs r m) ∧ Below w.heap.size w wr) (fun _ _ _ _ i _ => d - (intOf i).toNat)
  case atStart => exact ⟨0, by omega, rfl, ownedR_nil _ _, Below.refl _ _⟩
  case round =>
    obtain ⟨wo, rfl⟩ : ∃ wo : World, wo = wr := ⟨_, rfl⟩
    obtain ⟨r, hr, rfl, ho, hbo⟩ := hrel
    by_cases hlt : r < d
    · have hb0 : Below w.heap.size w (wo.alloc (.cells Y 3)) := hbo.alloc hbo.size _
      have bY : Blk (wo.alloc (.cells Y 3)) wo.heap.size 3 (rowC m fun i => tabTo xs m r i 0) := by rw [HY.out]; exact Blk.new _ _ _
      have hbw : Below wo.heap.size wo (wo.alloc (.cells Y 3)) := (Below.refl _ _).alloc (Nat.le_refl _) _
      go_wp2
      go_loopw [11, 20] (fun _ i wr => ∃ j : Nat, j ≤ n ∧ i = .int .i64 j ∧ Blk wr wo.heap.size 3 (rowC m fun i => tabTo xs m r i j) ∧ Below wo.heap.size wo wr) (fun _ i _ => n - (intOf i).toNat)
      case atStart => exact ⟨0, by omega, rfl, bY, hbw⟩
      case round =>
        obtain ⟨j, hj, rfl, hbl, hbj⟩ := hrel
        clear bY hb0 hbw
        have hbj' := hbo.trans (hbj.mono hbo.size)
        by_cases hlj : j < n
        · obtain ⟨b, off, rfl, hb1, hc⟩ := (h.below hbj').at_ j hlj
          obtain ⟨q1, q2⟩ := isStr_bd hs.out j (by rw [hl.out]; exact hlj)
          obtain ⟨x, hx⟩ : ∃ x : Nat, nth xs j = x := ⟨(nth xs j).toNat, by omega⟩
          rw [hx] at q1 q2 hc
          have hp := pl_lt r x m (by omega)
          have c1 := hbl.cell (pl r x m)
          rw [rowC_at _ _ _ hp] at c1
          have c2 := hbl.frozen (pl r x m)
          obtain ⟨t1, t2⟩ := tabTo_bd xs m r (pl r x m) j
          have HP := hide (rowC_set m (fun i => tabTo xs m r i j) (fun i => tabTo xs m r i (j + 1)) (pl r x m) (tabTo xs m r (pl r x m) j + 1) (by simp [tabTo, hx]) (by
            intro i hi
            have : ¬ pl r x m = i := fun e => hi e.symm
            simp [tabTo, hx, this]))
          clear hx
          go_wp2_with (go_at_call 70; refine (RIndex_any _ _ _ _ (by omega) (by omega) (by omega) (by omega)).mono ?_; rintro e w' ⟨rfl, rfl⟩)
          go_roundw
          case rel => exact ⟨j + 1, by omega, by go_num, by rw [← HP.out]; exact hbl.set_ _ _, hbj.setCell (by simp) _⟩
          case measure => simp [intOf]; omega
        · obtain rfl : n = j := by omega
          have hrow := ints_of_row hbl (by omega)
          have hor := ho.below hbj
          have hlt' := ho.lt
          have hap : ∀ b off, some (⟨wo.heap.size, 0, none⟩ : Addr) = some ⟨b, off, none⟩ → some b ≠ u7.ownBlock ∧ b < wr.heap.size := by
            intro b off e
            simp only [Option.some.injEq, Addr.mk.injEq, and_true] at e
            obtain ⟨rfl, rfl⟩ := e
            exact ⟨fun e => by have := hlt' _ e.symm; omega, hbl.lt⟩
          have HAP := hide hap; clear hap hlt'
          have hll : (refR xs r m).length ≤ 1000000 := by rw [refR_len]; omega
          have hbase := hbj'.size
          go_wp2_with (at_builtin; refine wpList_appR (v := u7) rfl _ _ rfl rfl rfl hor hrow HAP.out hll hbase ?_; intro v' w2 ho2 hb2)
          go_roundw
          case rel =>
            refine ⟨r + 1, by omega, by go_num, ?_, hbj'.trans hb2⟩
            rw [refR_succ, hl.out]
            exact ho2
          case measure => simp [intOf]; omega
    · obtain rfl : d = r := by omega
      go_wp2
      go_ret
      exact ⟨_, rfl, ho, hbo⟩
end Go.Proofs.Ytdlbahoenhhkdaa
