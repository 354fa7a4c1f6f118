import Derived.Test.YtabgifpenegofaaP0
import Derived.Test.YtabgifpenegofaaR1
import Derived.Deep.Matrix
/-
  Opening an argument that is a slice of slices of numbers.
-/
namespace Go.Proofs.Ytabgifpenegofaa
open Go.ChangeShapes Go.WideShapes Go.ChangeAt Go.RowKit Go.Deep

theorem cells23 : Try.prog.cellsOf 23 = 1 := by kernel_rfl

set_option maxRecDepth 100000 in
theorem open_rows {H : Type} {enc : TypeId × Value → H} {W : World} {r : Reach} {base : Nat} {v : Value} {d : DataW H} {p : List MemPlace} (hv : Value.okWide Try.prog W r base 22 v)
    (h : DataW.Trod enc Try.prog W 0 (fun _ => true) true 22 v d p) (hlt : ∀ x ∈ p, x.block < W.heap.size) : ∃ A n c xss, v = .slice A n c ∧ Rows_ W W.heap.size A n c xss := by
  obtain ⟨a0, len, cap, rfl⟩ := okWide_slice Try.underlying22 hv
  obtain ⟨fuel, hf⟩ := h
  rcases open_int_rows Try.underlying22 Try.underlying23 Try.underlying3 cells23 cells3 hf with ⟨hcs, hx⟩ | ⟨a, len', cap', AA, L, C, Z, hcs, _, hl, hm, hx, hel⟩
  · simp [Value.cells] at hcs
    obtain ⟨rfl, rfl, rfl⟩ := hcs
    exact ⟨none, 0, 0, [], rfl, ⟨rfl, Nat.le_refl _, by omega, fun _ => rfl, fun k h => absurd h (by omega)⟩⟩
  · simp [Value.cells] at hcs
    obtain ⟨rfl, rfl, rfl⟩ := hcs
    simp only [Prod.mk.injEq] at hx
    obtain ⟨rfl, rfl⟩ := hx
    refine ⟨some a, len, cap, (List.range len).map fun r => (Z r).take (L r), rfl, by simp, hl, by unfold maxLen at hm; omega, (fun e => by cases e), fun k hk => ?_⟩
    obtain ⟨b, off, spot⟩ := a
    have hspot : spot = none := by simpa [Addr.add] using World.cell?_spot (hel 0 (by omega)).1
    subst hspot
    obtain ⟨h1, h2, h3, h4, _, h6, h7⟩ := hel k (by omega)
    have hrow : row ((List.range len).map fun r => (Z r).take (L r)) k = (Z k).take (L k) := by simp [row, List.getD, hk]
    rw [hrow]
    refine ⟨b, off, AA k, L k, C k, rfl, hlt (.cell b off) (by
      rw [List.mem_append]; left; exact MemPlace.mem_row.2 ⟨0, by omega, by simp⟩), by rw [← add_plain]; exact h1, by simp; omega, h2, by unfold maxLen at h3; omega, h6, fun j hj => ?_⟩
    cases hA : AA k with
    | none => have := h6 hA; omega
    | some a' =>
      obtain ⟨_, h8⟩ := h7 a' hA
      obtain ⟨b', off', spot'⟩ := a'
      have hspot' : spot' = none := by simpa [Addr.add] using World.cell?_spot (h8 0 (by omega))
      subst hspot'
      refine ⟨b', off', rfl, hlt (.cell b' off') (by
        rw [List.mem_append]; right
        rw [List.mem_flatMap]
        refine ⟨k, List.mem_range.2 (by omega), ?_⟩
        rw [hA]
        exact MemPlace.mem_row.2 ⟨0, by omega, by simp⟩), ?_⟩
      rw [← add_plain, h8 j (by omega)]
      simp [nth, List.getD, List.getElem?_take, hj]

set_option maxRecDepth 100000 in
theorem back22 {H : Type} {enc : TypeId × Value → H} {W W' : World} {v : Value} {d : DataW H} {p : List MemPlace} (h : DataW.Trod enc Try.prog W 0 (fun _ => true) true 22 v d p) (hb : Below W.heap.size W W') (hlt : ∀ x ∈ p, x.block < W.heap.size) :
    DataW.Trod enc Try.prog W' 0 (fun b => decide (b < W.heap.size)) true 22 v d p := Below.trod laid_out (by kernel_rfl) (of_decide_eq_true (by kernel_rfl)) h hb hlt
end Go.Proofs.Ytabgifpenegofaa
