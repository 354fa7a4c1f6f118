import Derived.Test.YtdlbahoenhhkdaaK1
import Derived.Test.YtdlbahoenhhkdaaT3
import Derived.Laws.MakeOwn
import Derived.IntWalk
/-
  Slices that are made; a store elsewhere; small lemmas of the law SketchEqual.
-/
namespace Go.Proofs.Ytdlbahoenhhkdaa
open Go.RowKit

/-- A slice of n zeros. -/
theorem make_zeros (n : Nat) (hn : n ≤ 1000000) : ∃ Z : Array Value, Z.size = n ∧ Z.toList = List.replicate n (.int .i64 0) ∧ ∀ W : World, (Instr.makeSlice 22 (.int .i64 (n : Int)) (.int .i64 (n : Int))).run Try.prog W = .ok (.slice (some ⟨W.heap.size, 0, none⟩) n n) (W.alloc (.cells Z 3)) := by
  obtain ⟨i0, h0, hz0, hz1, hz2⟩ := info_parts info3
  refine ⟨madeCells (Value.int .i64 0).cells n, size_madeCells _ _, ?_, fun W => ?_⟩
  · unfold madeCells
    apply List.ext_getElem
    · simp
    · intro j h1 h2
      simp [Value.cells, Nat.mod_one]
  · have := run_make (P := Try.prog) W 22 3 i0 _ Try.underlying22 h0 hz0 .i64 .i64 n n (by omega) (Int.le_refl _) (by rw [hz2]; omega) (by omega)
    rw [hz1] at this
    simpa using this
theorem owned_zeros {w : World} {base n : Nat} {Z : Array Value} (hb : base ≤ w.heap.size) (hn : n ≤ 1000000) (hz : Z.size = n) (hl : Z.toList = List.replicate n (.int .i64 0)) : Owned (w.alloc (.cells Z 3)) base (.slice (some ⟨w.heap.size, 0, none⟩) n n) (List.replicate n 0) := by
  refine ⟨by simp, .inr ⟨w.heap.size, n, Z, by simp, hb, ?_, by simp, by unfold maxLen; omega, by omega, ?_⟩⟩
  · show (w.heap.push _)[w.heap.size]? = _
    simp
  · rw [List.length_replicate, hl, List.take_of_length_le (by simp), List.map_replicate]

theorem Owned.far {w : World} {base : Nat} {v : Value} {xs : List Int} (h : Owned w base v xs) {p : Addr} (hp : p.block < base) (u : Value) : Owned (w.setCell p u) base v xs := by
  refine ⟨h.1, ?_⟩
  rcases h.2 with h0 | ⟨g, cap, cur, hv, hg, hh, r⟩
  · exact .inl h0
  · exact .inr ⟨g, cap, cur, hv, hg, (heap_setCell_other w p g u (by omega)).trans hh, r⟩

theorem facI_bd (j : Nat) (h : j ≤ 6) : 1 ≤ facI j ∧ facI j ≤ 720 := by rw [facI_eq]; have := facN_bd j h; omega

theorem pick_k (k : Int) : ∃ K : Nat, wrap64 (1 + wrap64 ((IntKind.u64.wrap k).tmod 8)) = K ∧ 1 ≤ K ∧ K ≤ 8 := by
  have h0 : 0 ≤ IntKind.u64.wrap k := by rw [IntKind.wrap_u64]; omega
  have h1 : (IntKind.u64.wrap k).tmod 8 = IntKind.u64.wrap k % 8 := Int.tmod_eq_emod_of_nonneg h0
  rw [h1]
  have h2 : wrap64 (IntKind.u64.wrap k % 8) = IntKind.u64.wrap k % 8 := IntWalk.wrap64_in _ (by omega)
  rw [h2, IntWalk.wrap64_in _ (by omega)]
  exact ⟨(1 + IntKind.u64.wrap k % 8).toNat, by omega, by omega, by omega⟩
theorem pick_n (n : Int) : ∃ N : Nat, wrap64 ((IntKind.u64.wrap n).tmod 7) = N ∧ N ≤ 6 := by
  have h0 : 0 ≤ IntKind.u64.wrap n := by rw [IntKind.wrap_u64]; omega
  have h1 : (IntKind.u64.wrap n).tmod 7 = IntKind.u64.wrap n % 7 := Int.tmod_eq_emod_of_nonneg h0
  rw [h1, IntWalk.wrap64_in _ (by omega)]
  exact ⟨(IntKind.u64.wrap n % 7).toNat, by omega, by omega⟩
theorem total_bd (K n a j : Nat) (hn : n ≤ 6) (ha : a ≤ 720) : 0 ≤ nth (total K n a) j ∧ nth (total K n a) j ≤ 4320 := by
  rw [total_nth]
  have h1 := cntK_le K n j a
  have h2 : n * a ≤ 6 * 720 := Nat.mul_le_mul hn ha
  omega
theorem addTo_bd (K n a j m : Nat) (hn : n ≤ 6) (ha : a ≤ 720) (hm : m ≤ (keepA K n a).length) : 0 ≤ nth (addTo (total K n a) (keepA K n a) m) j ∧ nth (addTo (total K n a) (keepA K n a) m) j ≤ 5000 := by
  have h1 := total_bd K n a j hn ha
  rw [addTo_nth _ _ n (total_len K n a) (fun i hi => keepA_bd K n a i hi) j m hm]
  have h2 := List.count_le_length (a := (j : Int)) (l := (keepA K n a).take m)
  have h3 := keepA_len K n a
  simp only [List.length_take] at h2
  omega
theorem mul_bd (x : Int) (n : Nat) (h0 : 0 ≤ x) (h1 : x ≤ 5000) (hn : n ≤ 6) : 0 ≤ x * (n : Int) ∧ x * (n : Int) ≤ 30000 :=
  ⟨Int.mul_nonneg h0 (by omega), by
    have := Int.mul_le_mul h1 (show (n : Int) ≤ 6 by omega) (by omega) (by omega)
    omega⟩
theorem zeros_total (K n : Nat) : total K n 0 = List.replicate n 0 := rfl
end Go.Proofs.Ytdlbahoenhhkdaa
