/-
  Opening offers, pairs and points; each reads behind the call as before.
-/
import Derived.Test.YtbgfiejaehpffaaP0
namespace Go.Proofs.Ytbgfiejaehpffaa
open Go.ChangeShapes Go.WideShapes Go.ChangeAt Go.RowKit Go.Deep

theorem cells30 : Try.prog.cellsOf 30 = 2 := by kernel_rfl
theorem cells32 : Try.prog.cellsOf 32 = 2 := by kernel_rfl
theorem cells34 : Try.prog.cellsOf 34 = 4 := by kernel_rfl
theorem under32 : ∃ f0 f1 : Field, Try.prog.underlying 32 = some (.struct #[f0, f1]) ∧ f0.offset = 0 ∧ f1.offset = 1 ∧ f0.type = 3 ∧ f1.type = 3 := by
  have h : (match Try.prog.underlying 32 with | some (.struct fs) => decide (fs.size = 2) && decide (fs.toList.map (·.offset) = [0, 1]) && decide (fs.toList.map (·.type) = [3, 3]) | _ => false) = true := by kernel_rfl
  split at h
  · rename_i fs hfs
    simp only [Bool.and_eq_true, decide_eq_true_eq] at h
    obtain ⟨⟨h1, h2⟩, h3⟩ := h
    obtain ⟨l⟩ := fs
    match l, h1, h2, h3 with
    | [f0, f1], _, h2, h3 =>
      simp at h2 h3
      exact ⟨f0, f1, hfs, h2.1, h2.2, h3.1, h3.2⟩
  · cases h
theorem under34 : ∃ f0 f1 : Field, Try.prog.underlying 34 = some (.struct #[f0, f1]) ∧ f0.offset = 0 ∧ f1.offset = 2 ∧ f0.type = 32 ∧ f1.type = 32 := by
  have h : (match Try.prog.underlying 34 with | some (.struct fs) => decide (fs.size = 2) && decide (fs.toList.map (·.offset) = [0, 2]) && decide (fs.toList.map (·.type) = [32, 32]) | _ => false) = true := by kernel_rfl
  split at h
  · rename_i fs hfs
    simp only [Bool.and_eq_true, decide_eq_true_eq] at h
    obtain ⟨⟨h1, h2⟩, h3⟩ := h
    obtain ⟨l⟩ := fs
    match l, h1, h2, h3 with
    | [f0, f1], _, h2, h3 =>
      simp at h2 h3
      exact ⟨f0, f1, hfs, h2.1, h2.2, h3.1, h3.2⟩
  · cases h

section
variable {H : Type} {enc : TypeId × Value → H} {W : World} {r : Reach} {base : Nat} {v : Value} {d : DataW H} {p : List MemPlace}

set_option maxRecDepth 100000 in
/-- The cells of a pair. -/
theorem pair_cells {fuel : Nat} {cs : List Value} {x : DataW H × List MemPlace} (hf : DataW.trod enc Try.prog W 0 (fun _ => true) true fuel 30 cs = some x) : ∃ q : Int × Int, cs = [.int .i64 q.1, .int .i64 q.2] := by
  obtain ⟨xs, m, _, _, hl, hxl, hel⟩ := DataW.trod_array under30 hf
  rw [cells30] at hl
  match cs, hl, xs, hxl with
  | [v0, v1], _, [y0, y1], _ =>
    have g0 := hel 0 (by omega)
    have g1 := hel 1 (by omega)
    rw [cells3] at g0 g1
    obtain ⟨z0, e0, _, _⟩ := DataW.trod_int Try.underlying3 g0
    obtain ⟨z1, e1, _, _⟩ := DataW.trod_int Try.underlying3 g1
    simp at e0 e1
    exact ⟨(z0, z1), by rw [e0, e1]⟩

set_option maxRecDepth 100000 in
theorem open_pair (hv : Value.okWide Try.prog W r base 30 v) (h : DataW.Trod enc Try.prog W 0 (fun _ => true) true 30 v d p) : ∃ x y, v = .agg #[.int .i64 x, .int .i64 y] := by
  simp only [Value.okWide, under30] at hv
  obtain ⟨cs, rfl, _⟩ := hv
  obtain ⟨fuel, hf⟩ := h
  obtain ⟨q, hq⟩ := pair_cells hf
  refine ⟨q.1, q.2, ?_⟩
  simp only [Value.cells] at hq
  rw [show cs = cs.toList.toArray from rfl, hq]

set_option maxRecDepth 100000 in
theorem open_offers (hv : Value.okWide Try.prog W r base 22 v)
    (h : DataW.Trod enc Try.prog W 0 (fun _ => true) true 22 v d p) (hlt : ∀ x ∈ p, x.block < W.heap.size) : ∃ A n c gs, v = .slice A n c ∧ Fs W W.heap.size A n c gs := by
  obtain ⟨a0, len, cap, rfl⟩ := okWide_slice Try.underlying22 hv
  obtain ⟨fuel, hf⟩ := h
  rcases open_slice Try.underlying22 hf with ⟨hcs, hx⟩ | ⟨a, len', cap', m, n, D, Pl, hcs, _, hl, hm, hmm, hx, hel⟩
  · simp [Value.cells] at hcs
    obtain ⟨rfl, rfl, rfl⟩ := hcs
    exact ⟨none, 0, 0, [], rfl, Fs.none_ _ _⟩
  · simp [Value.cells] at hcs
    obtain ⟨rfl, rfl, rfl⟩ := hcs
    simp only [Prod.mk.injEq] at hx
    obtain ⟨rfl, rfl⟩ := hx
    simp only [if_true] at hmm
    subst hmm
    have each : ∀ i, i < m → ∃ q : Int × Int, W.cell? (a.add (i * 2)) = some (.int .i64 q.1) ∧ W.cell? (a.add (i * 2 + 1)) = some (.int .i64 q.2) := by
      intro i hi
      obtain ⟨cs', h1, h2⟩ := hel i hi
      rw [cells30] at h1
      obtain ⟨_, hlen, hcell⟩ := World.cells?_some h1
      obtain ⟨q, rfl⟩ := pair_cells h2
      have c0 := hcell 0 (by omega)
      have c1 := hcell 1 (by omega)
      rw [add_add] at c0 c1
      exact ⟨q, by simpa using c0, by simpa using c1⟩
    obtain ⟨q, hq⟩ := choose_lt each
    refine ⟨some a, len, m, (List.range len).map q, rfl, by simp, hl, by unfold maxLen at hm; omega, (fun e => by cases e), fun k hk => ?_⟩
    have hk' := hq k (by omega)
    obtain ⟨b, off, spot⟩ := a
    have hspot : spot = none := by simpa [Addr.add] using World.cell?_spot (hq 0 (by omega)).1
    subst hspot
    have hgk : fth ((List.range len).map q) k = q k := by simp [fth, List.getD, hk]
    rw [hgk]
    refine ⟨b, off, rfl, hlt (.cell b off) (List.mem_append_left _ (MemPlace.mem_row.2 ⟨0, ?_, by simp⟩)), ?_⟩
    · show 0 < m * Try.prog.cellsOf 30
      rw [cells30]; omega
    · rw [← add_plain, Nat.add_assoc, ← add_plain]
      exact hk'

set_option maxRecDepth 100000 in
/-- The cells of a fraction. -/
theorem frac_cells {fuel : Nat} {cs : List Value} {x : DataW H × List MemPlace} (hl : cs.length = 2) (hf : DataW.trod enc Try.prog W 0 (fun _ => true) true fuel 32 cs = some x) : ∃ q : Int × Int, cs = [.int .i64 q.1, .int .i64 q.2] := by
  obtain ⟨f0, f1, hu, o0, o1, t0, t1⟩ := under32
  obtain ⟨y0, y1, k, _, hl3, g0, g1⟩ := trod_struct2 hu hf
  rw [o0, t0, cells3] at g0; rw [o1, t1, cells3] at g1
  match cs, hl with
  | [v0, v1], _ =>
    obtain ⟨z0, e0, _, _⟩ := DataW.trod_int Try.underlying3 g0
    obtain ⟨z1, e1, _, _⟩ := DataW.trod_int Try.underlying3 g1
    simp at e0 e1
    exact ⟨(z0, z1), by rw [e0, e1]⟩

set_option maxRecDepth 100000 in
theorem open_point (hv : Value.okWide Try.prog W r base 34 v) (h : DataW.Trod enc Try.prog W 0 (fun _ => true) true 34 v d p) : ∃ a b c e, v = .agg #[.int .i64 a, .int .i64 b, .int .i64 c, .int .i64 e] := by
  obtain ⟨f0, f1, hu, o0, o1, t0, t1⟩ := under34
  obtain ⟨cs, rfl, hsz⟩ := okWide_struct hu hv
  rw [cells34] at hsz
  obtain ⟨fuel, hf⟩ := h
  obtain ⟨y0, y1, k, _, hl3, g0, g1⟩ := trod_struct2 hu hf
  rw [o0, t0, cells32] at g0; rw [o1, t1, cells32] at g1
  obtain ⟨l⟩ := cs
  match l, hsz with
  | [v0, v1, v2, v3], _ =>
    obtain ⟨q0, e0⟩ := frac_cells (by simp [Value.cells]) g0
    obtain ⟨q1, e1⟩ := frac_cells (by simp [Value.cells]) g1
    simp [Value.cells] at e0 e1
    exact ⟨q0.1, q0.2, q1.1, q1.2, by rw [e0.1, e0.2, e1.1, e1.2]⟩

variable {W' : World}
set_option maxRecDepth 100000 in
theorem back22 (h : DataW.Trod enc Try.prog W 0 (fun _ => true) true 22 v d p) (hb : Below W.heap.size W W') (hlt : ∀ x ∈ p, x.block < W.heap.size) :
    DataW.Trod enc Try.prog W' 0 (fun b => decide (b < W.heap.size)) true 22 v d p := Below.trod laid_out (by kernel_rfl) (of_decide_eq_true (by kernel_rfl)) h hb hlt
set_option maxRecDepth 100000 in
theorem back30 (h : DataW.Trod enc Try.prog W 0 (fun _ => true) true 30 v d p) (hb : Below W.heap.size W W') (hlt : ∀ x ∈ p, x.block < W.heap.size) :
    DataW.Trod enc Try.prog W' 0 (fun b => decide (b < W.heap.size)) true 30 v d p := Below.trod laid_out (by kernel_rfl) (of_decide_eq_true (by kernel_rfl)) h hb hlt
set_option maxRecDepth 100000 in
theorem back34 (h : DataW.Trod enc Try.prog W 0 (fun _ => true) true 34 v d p) (hb : Below W.heap.size W W') (hlt : ∀ x ∈ p, x.block < W.heap.size) :
    DataW.Trod enc Try.prog W' 0 (fun b => decide (b < W.heap.size)) true 34 v d p := Below.trod laid_out (by kernel_rfl) (of_decide_eq_true (by kernel_rfl)) h hb hlt
end
end Go.Proofs.Ytbgfiejaehpffaa
