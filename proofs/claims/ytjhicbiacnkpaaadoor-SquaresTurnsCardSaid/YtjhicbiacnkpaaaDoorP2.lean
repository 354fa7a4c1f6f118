/-
  Opening an argument that is a Puzzle.
-/
import Derived.Test.YtjhicbiacnkpaaaDoorP0
import Derived.Test.YtjhicbiacnkpaaaDoorR1
import Derived.Deep.Matrix
import Derived.ChangeSame
namespace Go.Proofs.YtjhicbiacnkpaaaDoor
open Go.ChangeShapes Go.WideShapes Go.ChangeAt Go.RowKit Go.Deep

theorem cells22 : Tryd.prog.cellsOf 22 = 1 := by kernel_rfl
theorem cells38 : Tryd.prog.cellsOf 38 = 1 := by kernel_rfl
theorem cells44 : Tryd.prog.cellsOf 44 = 2 := by kernel_rfl
theorem under44 : ∃ f0 f1 : Field, Tryd.prog.underlying 44 = some (.struct #[f0, f1]) ∧ f0.offset = 0 ∧ f1.offset = 1 ∧ f0.type = 38 ∧ f1.type = 38 := ⟨_, _, Tryd.underlying44, rfl, rfl, rfl, rfl⟩

set_option maxRecDepth 100000 in
theorem rows_of {H : Type} {enc : TypeId × Value → H} {W : World} {v : Value} {x : DataW H × List MemPlace} {fuel : Nat} (hf : DataW.trod enc Tryd.prog W 0 (fun _ => true) true fuel 38 [v] = some x)
    (hlt : ∀ y ∈ x.2, y.block < W.heap.size) : ∃ A n c xss, v = .slice A n c ∧ Rows_ W W.heap.size A n c xss := by
  rcases open_int_rows Tryd.underlying38 Tryd.underlying22 Tryd.underlying3 cells22 cells3 hf with ⟨hcs, hx⟩ | ⟨a, len', cap', AA, L, C, Z, hcs, _, hl, hm, hx, hel⟩
  · simp only [List.cons.injEq, and_true] at hcs
    subst hcs
    exact ⟨none, 0, 0, [], rfl, ⟨rfl, Nat.le_refl _, by omega, fun _ => rfl, fun k h => absurd h (by omega)⟩⟩
  · simp only [List.cons.injEq, and_true] at hcs
    subst hcs
    subst hx
    refine ⟨some a, len', cap', (List.range len').map fun r => (Z r).take (L r), rfl, by simp, hl, by unfold maxLen at hm; omega, (fun e => by cases e), fun k hk => ?_⟩
    obtain ⟨b, off, spot⟩ := a
    have hspot : spot = none := by simpa [Addr.add] using World.cell?_spot (hel 0 (by omega)).1
    subst hspot
    obtain ⟨h1, h2, h3, h4, _, h6, h7⟩ := hel k (by omega)
    have hrow : row ((List.range len').map fun r => (Z r).take (L r)) k = (Z k).take (L k) := by simp [row, List.getD, hk]
    rw [hrow]
    refine ⟨b, off, AA k, L k, C k, rfl, hlt (.cell b off) (by
      rw [List.mem_append]; left; exact MemPlace.mem_row.2 ⟨0, by omega, by simp⟩), by rw [← add_plain]; exact h1, by simp; omega, h2, by unfold maxLen at h3; omega, h6, fun j hj => ?_⟩
    cases hA : AA k with
    | none => have := h6 hA; omega
    | some a' =>
      obtain ⟨_, h8⟩ := h7 a' hA
      obtain ⟨b', off', spot'⟩ := a'
      have hspot' : spot' = none := by simpa [Addr.add] using World.cell?_spot (h8 0 (by omega))
      subst hspot'
      refine ⟨b', off', rfl, hlt (.cell b' off') (by
        rw [List.mem_append]; right
        rw [List.mem_flatMap]
        refine ⟨k, List.mem_range.2 (by omega), ?_⟩
        rw [hA]
        exact MemPlace.mem_row.2 ⟨0, by omega, by simp⟩), ?_⟩
      rw [← add_plain, h8 j (by omega)]
      simp [nth, List.getD, List.getElem?_take, hj]


set_option maxRecDepth 100000 in
theorem open_z {H : Type} {enc : TypeId × Value → H} {W : World} {r : Reach} {base : Nat} {v : Value} {d : DataW H} {p : List MemPlace} (hv : Value.okWide Tryd.prog W r base 44 v)
    (h : DataW.Trod enc Tryd.prog W 0 (fun _ => true) true 44 v d p) (hlt : ∀ x ∈ p, x.block < W.heap.size) :
    ∃ A n c xs A' n' c' xs', v = .agg #[.slice A n c, .slice A' n' c'] ∧ Rows_ W W.heap.size A n c xs ∧ Rows_ W W.heap.size A' n' c' xs' := by
  obtain ⟨f0, f1, hu, o0, o1, t0, t1⟩ := under44
  obtain ⟨cs, rfl, hsz⟩ := okWide_struct hu hv
  rw [cells44] at hsz
  obtain ⟨fuel, hf⟩ := h
  obtain ⟨y0, y1, k, hx, hl3, g0, g1⟩ := trod_struct2 hu hf
  rw [o0, t0, cells38] at g0; rw [o1, t1, cells38] at g1
  simp only [Prod.mk.injEq] at hx
  obtain ⟨_, hp⟩ := hx
  obtain ⟨l⟩ := cs
  match l, hsz with
  | [v0, v1], _ =>
    simp [Value.cells] at g0 g1
    obtain ⟨A, n, c, ks, rfl, h1⟩ := rows_of g0 (fun q hq => hlt q (by rw [hp]; simp [hq]))
    obtain ⟨A', n', c', ps, rfl, h2⟩ := rows_of g1 (fun q hq => hlt q (by rw [hp]; simp [hq]))
    exact ⟨A, n, c, ks, A', n', c', ps, rfl, h1, h2⟩

set_option maxRecDepth 100000 in
theorem back44 {H : Type} {enc : TypeId × Value → H} {W W' : World} {v : Value} {d : DataW H} {p : List MemPlace} (h : DataW.Trod enc Tryd.prog W 0 (fun _ => true) true 44 v d p) (hb : Below W.heap.size W W') (hlt : ∀ x ∈ p, x.block < W.heap.size) :
    DataW.Trod enc Tryd.prog W' 0 (fun b => decide (b < W.heap.size)) true 44 v d p := Below.trod laid_out (by kernel_rfl) (of_decide_eq_true (by kernel_rfl)) h hb hlt
end Go.Proofs.YtjhicbiacnkpaaaDoor
