import Derived.Test.YtdlbahoenhhkdaaW1
import Derived.Below
import Derived.ChangeKeysEq
import Derived.Laws.Rows
import Derived.Laws.Tables
/-
  Blocks that are known whole; the array of sixteen numbers; how often each key comes.
-/
namespace Go.Proofs.Ytdlbahoenhhkdaa
open Go.RowKit

/-- Block g holds just the cells cs. -/
def Blk (w : World) (g : Nat) (t : TypeId) (cs : Array Value) : Prop := w.heap[g]? = some (.cells cs t (0, 0))
section
variable {w w' : World} {g : Nat} {t : TypeId} {cs : Array Value}
theorem Blk.lt (h : Blk w g t cs) : g < w.heap.size := by
  rcases Nat.lt_or_ge g w.heap.size with hlt | hge
  · exact hlt
  · unfold Blk at h; rw [Array.getElem?_eq_none hge] at h; cases h
theorem Blk.cell (h : Blk w g t cs) (i : Nat) : w.cell? ⟨g, i, none⟩ = cs[i]? := cell_of_row w g i cs t (0, 0) h
theorem Blk.frozen (h : Blk w g t cs) (i : Nat) : w.frozen? ⟨g, i, none⟩ = false := frozen_of_row w g i cs t h
theorem Blk.new (w : World) (t : TypeId) (cs : Array Value) : Blk (w.alloc (.cells cs t)) w.heap.size t cs := heap_alloc_new w _
theorem Blk.drewN (h : Blk w g t cs) (n : Nat) : Blk (w.drewN n) g t cs := h
theorem Blk.alloc (h : Blk w g t cs) (o : Obj) : Blk (w.alloc o) g t cs := (Below.heap_alloc w o g h.lt).trans h
theorem Blk.set_ (h : Blk w g t cs) (i : Nat) (u : Value) : Blk (w.setCell ⟨g, i, none⟩ u) g t (cs.setIfInBounds i u) := heap_setCell_same w g i cs t u h
theorem Blk.far (h : Blk w g t cs) {p : Addr} (hp : g ≠ p.block) (u : Value) : Blk (w.setCell p u) g t cs := (heap_setCell_other w p g u hp).trans h
theorem Blk.below {B : Nat} (h : Blk w g t cs) (hb : Below B w w') (hg : g < B) : Blk w' g t cs := (hb.block g hg).trans h
end

theorem Below.drewN' {B : Nat} {a w : World} (h : Below B a w) (n : Nat) : Below B a (w.drewN n) := ⟨h.os, h.tape, h.output, h.size, h.block⟩

/-- An array of sixteen numbers. -/
def tarr (f : Nat → Int) : Array Value := Array.ofFn (n := 16) fun i => .int .i64 (f i)
theorem tarr_size (f : Nat → Int) : (tarr f).size = 16 := by simp [tarr]
theorem tarr_at (f : Nat → Int) (i : Nat) (hi : i < 16) : (tarr f)[i]? = some (.int .i64 (f i)) := by
  simp [tarr, hi]
theorem tarr_ext (f g : Nat → Int) (h : ∀ i, i < 16 → f i = g i) : tarr f = tarr g := by
  unfold tarr
  congr 1
  funext i
  rw [h i i.2]
theorem tarr_set (f g : Nat → Int) (m : Nat) (v : Int) (hm : m < 16) (hv : v = g m) (h : ∀ i, i ≠ m → g i = f i) : (tarr f).setIfInBounds m (.int .i64 v) = tarr g := by
  apply Array.ext_getElem?
  intro i
  rw [Array.getElem?_setIfInBounds]
  by_cases hi : m = i
  · subst hi
    rw [if_pos rfl, if_pos (by rw [tarr_size]; exact hm), tarr_at _ _ hm, hv]
  · rw [if_neg hi]
    by_cases hi2 : i < 16
    · rw [tarr_at _ _ hi2, tarr_at _ _ hi2, h i (fun e => hi e.symm)]
    · rw [Array.getElem?_eq_none (by rw [tarr_size]; omega), Array.getElem?_eq_none (by rw [tarr_size]; omega)]
theorem tarr_all (f : Nat → Int) : (tarr f).all (·.oneCell') = true := by
  rw [Array.all_eq_true_iff_forall_mem]
  intro x hx
  simp only [tarr, Array.mem_ofFn] at hx
  obtain ⟨i, rfl⟩ := hx
  rfl
theorem zeros_eq : (#[.int .i64 0, .int .i64 0, .int .i64 0, .int .i64 0, .int .i64 0, .int .i64 0, .int .i64 0, .int .i64 0, .int .i64 0, .int .i64 0, .int .i64 0, .int .i64 0, .int .i64 0, .int .i64 0, .int .i64 0, .int .i64 0] : Array Value) = tarr fun _ => 0 := by
  rfl

theorem info85 : (Try.prog.info? 85).map (·.size) = some 16 := by kernel_rfl
theorem info85' (f : Nat → Int) : (Try.prog.info? 85).map (·.size) = some (tarr f).size := by rw [tarr_size]; exact info85
theorem plain3 : Try.prog.plainKey 3 = true := by kernel_rfl

theorem run_index_tarr (f : Nat → Int) (k : Nat) (hk : k < 16) (w : World) : (Instr.index 85 (.agg (tarr f)) (.int .i64 (k : Int))).run Try.prog w = .ok (.int .i64 (f k)) w := by
  have h1 : (k : Int) < 16 := by omega
  have hp : (part 3 (tarr f) k).run Try.prog w = .ok (.int .i64 (f k)) w := run_part_plain w plain3 (tarr_at f k hk)
  simp [Instr.index, run_underlying Try.underlying85, asIntOf, h1, Try.sizeOf3, hp]
  omega

set_option maxHeartbeats 800000 in
theorem tally_any (A : Option Addr) (n c : Nat) (xs : List Int) (w : World) (h : Ints w w.heap.size A n c xs) (hs : Hid (isStr xs = true)) :
    Calls Try.prog 61 #[.slice A n c] w fun e w' => e = .returned (.agg (tarr fun i => often xs i)) ∧ Below w.heap.size w w' := by
  have hm := h.most; have hcap := h.cap
  have hl := hide h.len
  have hz := hide zeros_eq
  go_enter Try.func61, Try.ntmps61
  go_wp2
  go_loopw [5, 8] (fun _ i wr => ∃ j : Nat, j ≤ n ∧ i = .int .i64 j ∧ Blk wr w.heap.size 85 (tarr fun _ => 0) ∧ Blk wr (w.heap.size + 1) 85 (tarr fun m => cntTo xs m j) ∧ Below w.heap.size w wr) (fun _ i _ => n - (intOf i).toNat)
  case atStart =>
    rw [hz.out]
    refine ⟨0, Nat.zero_le _, rfl, (Blk.new _ _ _).alloc _, ?_, ((Below.refl _ _).alloc (Nat.le_refl _) _).alloc (by simp) _⟩
    have := Blk.new (w.alloc (.cells (tarr fun _ => 0) 85)) 85 (tarr fun _ => 0)
    simpa [cntTo] using this
  case round =>
    obtain ⟨j, hj, rfl, b1, b2, hb⟩ := hrel
    by_cases hlt : j < n
    · obtain ⟨b, off, rfl, hb0, hc⟩ := (h.below hb).at_ j hlt
      obtain ⟨q1, q2⟩ := isStr_bd hs.out j (by rw [hl.out]; exact hlt)
      obtain ⟨p1a, p1b⟩ := cntTo_bd xs (nth xs j) j
      obtain ⟨m, HM⟩ : ∃ m : Nat, nth xs j = m := ⟨(nth xs j).toNat, by omega⟩
      rw [HM] at q1 q2 hc p1a p1b
      have HM' := hide HM; clear HM
      have c1 := b2.cell m
      rw [tarr_at _ _ (by omega)] at c1
      have c2 := b2.frozen m
      have HE := hide (tarr_set (fun m => cntTo xs m j) (fun m => cntTo xs m (j + 1)) m (cntTo xs m j + 1) (by omega) (by simp [cntTo, HM'.out]) (by
        intro i hi
        have : ¬ (m : Int) = (i : Int) := by omega
        simp [cntTo, HM'.out, this]))
      go_wp2
      go_roundw
      case rel => exact ⟨j + 1, by omega, by go_num, b1.far (by simp) _, by rw [← HE.out]; exact b2.set_ _ _, hb.setCell (by simp) _⟩
      case measure => simp [intOf]; omega
    · obtain rfl : j = n := by omega
      have e1 := info85' fun m => cntTo xs m j
      have H1 := hide e1; clear e1
      go_wp2_with (first
        | (refine wpList_load_row rfl 85 _ rfl (w.heap.size + 1) rfl 85 (tarr fun m => cntTo xs m j) (0, 0) _ b2 Try.underlying85 rfl H1.out ?_)
        | (refine wpList_store_row rfl 85 _ _ rfl w.heap.size (tarr fun m => cntTo xs m j) rfl rfl 85 _ b1 H1.out (by rw [tarr_size, tarr_size]) (tarr_all _) ?_))
      refine bodyPost_ret (v := .agg (tarr fun m => cntTo xs m j)) (results_cell_row rfl _ _ w.heap.size 85 _ (0, 0) _ rfl (setRow_heap wr w.heap.size (tarr fun _ => 0) (tarr fun m => cntTo xs m j) 85 (0, 0) b1) Try.underlying85 rfl H1.out) rfl ⟨?_, ?_⟩
      · unfold often
        rw [hl.out]
      · refine ⟨hb.os, hb.tape, hb.output, by simpa using hb.size, fun i hi => ?_⟩
        rw [setRow_other _ _ _ _ (by omega)]
        exact hb.block i hi
end Go.Proofs.Ytdlbahoenhhkdaa
