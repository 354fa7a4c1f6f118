/-
  lineOf of the program.
-/
import Derived.Test.YtabgifpenegofaaW1
namespace Go.Proofs.Ytabgifpenegofaa
open Go.RowKit

theorem copy_ln {A : Option Addr} {n c : Nat} {xs : List Int} {W : World} {B g : Nat} (h : Ints W B A n c xs) (h3 : n ≤ 3) (hg : Blk W g 75 (lnA fun _ => 0)) :
    ∃ W1, (∀ ty, (Builtin.copy_ #[23, 23] ty #[.slice (some ⟨g, 0, none⟩) 3 3, .slice A n c]).run Try.prog W = .ok (.int .i64 (n : Int)) W1) ∧ Blk W1 g 75 (lnA (nth xs)) ∧ (∀ g', g' ≠ g → W1.heap[g']? = W.heap[g']?) ∧ ∀ B' w, B' ≤ g → Below B' w W → Below B' w W1 := by
  have hl := h.len
  rcases Nat.eq_zero_or_pos n with h0 | h0
  · subst h0
    obtain rfl : xs = [] := List.eq_nil_of_length_eq_zero hl
    exact ⟨W, fun ty => run_copy_none W 23 23 ty 3 (some ⟨g, 0, none⟩) A 3 3 0 c Try.underlying23 info3s (by simp), hg, fun _ _ => rfl, fun _ _ _ hb => hb⟩
  · obtain ⟨b, off, rfl, hb, hc⟩ := h.cells h0
    refine ⟨W.setRow g (lnA (nth xs)), fun ty => ?_, setRow_heap W g _ _ 75 _ hg, fun g' hg' => setRow_other W g g' _ hg', fun B' w hB hb => below_setRow hb hB _⟩
    have := run_copy_row (P := Try.prog) W 23 23 ty 3 g 0 3 3 ⟨b, off, none⟩ n c (lnA fun _ => 0) 75 (xs.map (Value.int .i64)) Try.underlying23 info3s hg (by rw [List.length_map, hl]; exact (Nat.min_eq_left h3).symm) (fun j v hv => by
        have hj : j < xs.length := by have := (List.getElem?_eq_some_iff.1 hv).1; simpa using this
        rw [Addr.add_lit, hc j hj]
        simp [hj] at hv
        simp [List.getD, hj, hv]) (by rw [List.length_map, hl]; simpa [lnA] using h3) (oneInts xs)
    rw [this, List.length_map, hl]
    have e := splice_ln xs (by omega)
    unfold splice at e
    rw [List.append_assoc, ← hl, ← List.length_map (f := Value.int .i64), e]
    rfl

set_option maxRecDepth 100000 in
set_option maxHeartbeats 1000000 in
theorem lineOf_any (A : Option Addr) (n c : Nat) (xs : List Int) (w : World) (h : Ints w w.heap.size A n c xs) (h3 : n ≤ 3) :
    Calls Try.prog 77 #[.slice A n c] w fun e w' => e = .returned (.agg (lnA (nth xs))) ∧ Below w.heap.size w w' := by
  have hm := h.most; have hcap := h.cap
  have hz := hide lnA_zero
  have HI := hide (info75 (nth xs))
  obtain ⟨W0, hW0⟩ : ∃ W0, W0 = (w.alloc (.cells (lnA fun _ => 0) 75)).alloc (.cells (lnA fun _ => 0) 75) := ⟨_, rfl⟩
  have HB0 := hide (show Below w.heap.size w W0 from by rw [hW0]; exact ((Below.refl _ w).alloc (Nat.le_refl _) _).alloc (by simp) _)
  have hR : Blk W0 w.heap.size 75 (lnA fun _ => 0) := by rw [hW0]; exact (Blk.new _ _ _).alloc _
  have hL : Blk W0 (w.heap.size + 1) 75 (lnA fun _ => 0) := by
    rw [hW0]
    have := Blk.new (w.alloc (.cells (lnA fun _ => 0) 75)) 75 (lnA fun _ => 0)
    simpa using this
  obtain ⟨W1, hcp, hL1, hoth, hbel⟩ := copy_ln (h.below (unhide HB0)) h3 hL
  have HB1 := hide (hbel _ _ (by omega) (unhide HB0))
  have HR1 := hide (show Blk W1 w.heap.size 75 (lnA fun _ => 0) from (hoth _ (by omega)).trans hR)
  have HL1 := hide hL1
  have HA := hide (lnA_all (nth xs))
  clear h hR hL hoth hbel hL1
  go_enter Try.func77, Try.ntmps77
  go_upto_region 2 with fail
  rw [hz.out, ← hW0]
  clear hW0
  go_wp2_with (first
    | (refine wpList_load_row rfl 75 _ rfl (w.heap.size + 1) rfl 75 (lnA (nth xs)) (0, 0) _ (unhide HL1) Try.underlying75 rfl HI.out ?_)
    | (refine wpList_store_row rfl 75 _ _ rfl w.heap.size (lnA (nth xs)) rfl rfl 75 _ (unhide HR1) HI.out rfl HA.out ?_))
  refine bodyPost_ret (v := .agg (lnA (nth xs))) (results_cell_row rfl _ _ w.heap.size 75 _ (0, 0) _ rfl (setRow_heap W1 w.heap.size (lnA fun _ => 0) (lnA (nth xs)) 75 (0, 0) (unhide HR1)) Try.underlying75 rfl HI.out) rfl ⟨rfl, below_setRow (unhide HB1) (Nat.le_refl _) _⟩
end Go.Proofs.Ytabgifpenegofaa
