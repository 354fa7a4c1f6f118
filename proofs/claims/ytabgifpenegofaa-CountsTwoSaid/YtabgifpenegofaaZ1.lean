/-
  minus of the program.
-/
import Derived.Test.YtabgifpenegofaaW5
import Derived.Test.YtabgifpenegofaaW7
namespace Go.Proofs.Ytabgifpenegofaa
open Go.RowKit

def miF (f g : Nat → Int) (k i : Nat) : Int := if i < k then f i - g i else f i
theorem miF_0 (f g : Nat → Int) : lnA (miF f g 0) = lnA f := lnA_ext fun i _ => by simp [miF]
theorem miF_3 (f g : Nat → Int) : lnA (miF f g 3) = lnA fun i => f i - g i := lnA_ext fun i hi => by simp [miF, hi]
theorem miF_set (f g : Nat → Int) (k : Nat) (hk : k < 3) : (lnA (miF f g k)).setIfInBounds k (.int .i64 (f k - g k)) = lnA (miF f g (k + 1)) :=
  lnA_set _ _ k _ hk (by simp [miF]) fun i hi => by
    unfold miF
    by_cases e : i < k
    · rw [if_pos e, if_pos (by omega)]
    · rw [if_neg e, if_neg (by omega)]
set_option maxRecDepth 100000 in
set_option maxHeartbeats 2000000 in
theorem minus_any (f g : Nat → Int) (w : World) (hf : Hid (∀ i, i < 3 → -1000 ≤ f i ∧ f i ≤ 1000)) (hg : Hid (∀ i, i < 3 → -1000 ≤ g i ∧ g i ≤ 1000)) :
    Calls Try.prog 103 #[.agg (lnA f), .agg (lnA g)] w fun e w' => e = .returned (.agg (lnA fun i => f i - g i)) ∧ Below w.heap.size w w' := by
  have hz := hide lnA_zero
  have I75 := hide (info75 g)
  obtain ⟨W0, hW0⟩ : ∃ W0, W0 = ((w.alloc (.cells (lnA f) 75)).alloc (.cells (lnA g) 75)).alloc (.cells (lnA fun _ => 0) 75) := ⟨_, rfl⟩
  have HB0 := hide (show Below w.heap.size w W0 from by rw [hW0]; exact (((Below.refl _ w).alloc (Nat.le_refl _) _).alloc (by simp) _).alloc (by simp; omega) _)
  have HF0 := hide (show Blk W0 w.heap.size 75 (lnA (miF f g 0)) from by rw [hW0, miF_0]; exact ((Blk.new _ _ _).alloc _).alloc _)
  have HG0 := hide (show Blk W0 (w.heap.size + 1) 75 (lnA g) from by
    rw [hW0]
    have := (Blk.new (w.alloc (.cells (lnA f) 75)) 75 (lnA g)).alloc (.cells (lnA fun _ => 0) 75)
    simpa using this)
  have HR0 := hide (show Blk W0 (w.heap.size + 1 + 1) 75 (lnA fun _ => 0) from by
    rw [hW0]
    have := Blk.new ((w.alloc (.cells (lnA f) 75)).alloc (.cells (lnA g) 75)) 75 (lnA fun _ => 0)
    simpa using this)
  go_enter Try.func103, Try.ntmps103
  go_upto_region 1 with fail
  rw [hz.out, ← hW0]
  clear hW0
  go_wp2_with (refine wpList_load_row rfl 75 _ rfl (w.heap.size + 1) rfl 75 (lnA g) (0, 0) _ (unhide HG0) Try.underlying75 rfl I75.out ?_)
  go_loopw [5, 6, 8] (fun _ _ i wr => ∃ k : Nat, k ≤ 3 ∧ i = .int .i64 k ∧ Hid (Blk wr w.heap.size 75 (lnA (miF f g k))) ∧ Hid (Blk wr (w.heap.size + 1 + 1) 75 (lnA fun _ => 0)) ∧ Hid (Below w.heap.size w wr)) (fun _ _ i _ => 3 - (intOf i).toNat)
  case atStart => exact ⟨0, Nat.zero_le _, rfl, HF0, HR0, HB0⟩
  case round =>
    obtain ⟨k, hk, rfl, HF, HR, HB⟩ := hrel
    by_cases hlt : k < 3
    · have hix := fun W => run_index_ln g k hlt W
      have hlt' : decide ((k : Int) < 3) = true := by simp; omega
      have c0 := (unhide HF).cell k
      rw [lnA_at _ _ hlt, show miF f g k k = f k from by simp [miF]] at c0
      have f0 := (unhide HF).frozen k
      obtain ⟨x1, x2⟩ := hf.out k hlt
      obtain ⟨y1, y2⟩ := hg.out k hlt
      have hk0 : (0 : Int) ≤ (k : Int) := by omega
      have HFn := hide (show Blk (wr.setCell ⟨w.heap.size, k, none⟩ (.int .i64 (f k - g k))) w.heap.size 75 (lnA (miF f g (k + 1))) from by
        rw [← miF_set f g k hlt]
        exact (unhide HF).set_ k _)
      go_wp2_with fail
      go_roundw
      case rel => exact ⟨k + 1, by omega, by go_num, HFn, hide ((unhide HR).far (by show w.heap.size + 1 + 1 ≠ w.heap.size; omega) _), hide ((unhide HB).setCell (by simp) _)⟩
      case measure => simp [intOf]; omega
    · obtain rfl : k = 3 := by omega
      have HF3 := hide (show Blk wr w.heap.size 75 (lnA fun i => f i - g i) from by rw [← miF_3]; exact unhide HF)
      have I2 := hide (info75 (fun i => f i - g i))
      have A2 := hide (lnA_all (fun i => f i - g i))
      go_wp2_with (first
        | (refine wpList_load_row rfl 75 _ rfl w.heap.size rfl 75 (lnA fun i => f i - g i) (0, 0) _ (unhide HF3) Try.underlying75 rfl I2.out ?_)
        | (refine wpList_store_row rfl 75 _ _ rfl (w.heap.size + 1 + 1) (lnA fun i => f i - g i) rfl rfl 75 _ (unhide HR) I2.out rfl A2.out ?_))
      refine bodyPost_ret (v := .agg (lnA fun i => f i - g i)) (results_cell_row rfl _ _ (w.heap.size + 1 + 1) 75 _ (0, 0) _ rfl (setRow_heap _ (w.heap.size + 1 + 1) (lnA fun _ => 0) (lnA fun i => f i - g i) 75 (0, 0) (unhide HR)) Try.underlying75 rfl I2.out) rfl ⟨rfl, below_setRow (unhide HB) (by omega) _⟩
end Go.Proofs.Ytabgifpenegofaa
