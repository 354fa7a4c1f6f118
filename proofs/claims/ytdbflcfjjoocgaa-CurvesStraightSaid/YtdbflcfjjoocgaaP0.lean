/-
  Opening the arguments of the laws; each reads behind the call as before.
-/
import Derived.Test.YtdbflcfjjoocgaaRows
import Derived.Test.YtdbflcfjjoocgaaQ1
import Derived.ProofKit
import Derived.OpenShut
import Derived.Deep.Slices
import Derived.Deep.Strs
import Derived.Lib.SmallJoins
import Derived.Carry
namespace Go.Proofs.Ytdbflcfjjoocgaa
open Go.ChangeShapes Go.WideShapes Go.ChangeAt Go.RowKit Go.Deep

theorem own_knob : ownKnob Try.prog.godebug = none := by kernel_rfl
theorem laid_out : laidOutB Try.prog = true := by kernel_rfl
theorem cells3 : Try.prog.cellsOf 3 = 1 := by kernel_rfl
theorem cells22 : Try.prog.cellsOf 22 = 1 := by kernel_rfl
theorem cells24 : Try.prog.cellsOf 24 = 3 := by kernel_rfl
theorem cells26 : Try.prog.cellsOf 26 = 2 := by kernel_rfl
theorem under24 : ∃ f0 f1 f2 : Field, Try.prog.underlying 24 = some (.struct #[f0, f1, f2]) ∧ f0.offset = 0 ∧ f1.offset = 1 ∧ f2.offset = 2 ∧ f0.type = 3 ∧ f1.type = 22 ∧ f2.type = 22 := by
  have h : (match Try.prog.underlying 24 with | some (.struct fs) => decide (fs.size = 3) && decide (fs.toList.map (·.offset) = [0, 1, 2]) && decide (fs.toList.map (·.type) = [3, 22, 22]) | _ => false) = true := by kernel_rfl
  split at h
  · rename_i fs hfs
    simp only [Bool.and_eq_true, decide_eq_true_eq] at h
    obtain ⟨⟨h1, h2⟩, h3⟩ := h
    obtain ⟨l⟩ := fs
    match l, h1, h2, h3 with
    | [f0, f1, f2], _, h2, h3 =>
      simp at h2 h3
      exact ⟨f0, f1, f2, hfs, h2.1, h2.2.1, h2.2.2, h3.1, h3.2.1, h3.2.2⟩
  · cases h
theorem under26 : ∃ f0 f1 : Field, Try.prog.underlying 26 = some (.struct #[f0, f1]) ∧ f0.offset = 0 ∧ f1.offset = 1 ∧ f0.type = 3 ∧ f1.type = 3 := by
  have h : (match Try.prog.underlying 26 with | some (.struct fs) => decide (fs.size = 2) && decide (fs.toList.map (·.offset) = [0, 1]) && decide (fs.toList.map (·.type) = [3, 3]) | _ => false) = true := by kernel_rfl
  split at h
  · rename_i fs hfs
    simp only [Bool.and_eq_true, decide_eq_true_eq] at h
    obtain ⟨⟨h1, h2⟩, h3⟩ := h
    obtain ⟨l⟩ := fs
    match l, h1, h2, h3 with
    | [f0, f1], _, h2, h3 =>
      simp at h2 h3
      exact ⟨f0, f1, hfs, h2.1, h2.2, h3.1, h3.2⟩
  · cases h

section
variable {H : Type} {enc : TypeId × Value → H} {W : World} {r : Reach} {base : Nat} {v : Value} {d : DataW H} {p : List MemPlace}

set_option maxRecDepth 100000 in
theorem open_i (hv : Value.okWide Try.prog W r base 3 v) : ∃ x, v = .int .i64 x := okWide_int Try.underlying3 hv

set_option maxRecDepth 100000 in
/-- A slice of numbers, by what is read of it. -/
theorem ints_of {fuel : Nat} {x : DataW H × List MemPlace} (hf : DataW.trod enc Try.prog W 0 (fun _ => true) true fuel 22 [v] = some x) (hlt : ∀ q ∈ x.2, q.block < W.heap.size) : ∃ A n c xs, v = .slice A n c ∧ Ints W W.heap.size A n c xs := by
  rcases open_ints Try.underlying22 Try.underlying3 cells3 hf with ⟨hcs, hx⟩ | ⟨a, len', cap', zs, hcs, _, hl, hm, hz, hx, hcell, hwz⟩
  · simp only [List.cons.injEq, and_true] at hcs
    subst hcs
    exact ⟨none, 0, 0, [], rfl, Ints.none_ _ _⟩
  · simp only [List.cons.injEq, and_true] at hcs
    subst hcs
    subst hx
    simp only [if_true] at hz
    refine ⟨some a, len', cap', zs.take len', rfl, by simp; omega, hl, by unfold maxLen at hm; omega, (fun e => by cases e), fun k hk => ?_⟩
    obtain ⟨b, off, spot⟩ := a
    have hspot : spot = none := by simpa [Addr.add] using World.cell?_spot (hcell 0 (by omega))
    subst hspot
    refine ⟨b, off, rfl, hlt (.cell b off) (MemPlace.mem_row.2 ⟨0, by omega, by simp⟩), ?_⟩
    rw [← add_plain, hcell k (by omega)]
    simp [nth, List.getD, List.getElem?_take, hk]

set_option maxRecDepth 100000 in
theorem open_arg (hv : Value.okWide Try.prog W r base 22 v)
    (h : DataW.Trod enc Try.prog W 0 (fun _ => true) true 22 v d p) (hlt : ∀ x ∈ p, x.block < W.heap.size) : ∃ A n c xs, v = .slice A n c ∧ Ints W W.heap.size A n c xs := by
  obtain ⟨a0, len, cap, rfl⟩ := okWide_slice Try.underlying22 hv
  obtain ⟨fuel, hf⟩ := h
  have hf' : DataW.trod enc Try.prog W 0 (fun _ => true) true fuel 22 [.slice a0 len cap] = some (d, p) := by simpa [Value.cells] using hf
  exact ints_of hf' hlt

set_option maxRecDepth 100000 in
theorem open_curve (hv : Value.okWide Try.prog W r base 24 v)
    (h : DataW.Trod enc Try.prog W 0 (fun _ => true) true 24 v d p) (hlt : ∀ x ∈ p, x.block < W.heap.size) :
    ∃ dg A n c ks A' n' c' ps, v = .agg #[.int .i64 dg, .slice A n c, .slice A' n' c'] ∧ Ints W W.heap.size A n c ks ∧ Ints W W.heap.size A' n' c' ps := by
  obtain ⟨f0, f1, f2, hu, o0, o1, o2, t0, t1, t2⟩ := under24
  obtain ⟨cs, rfl, hsz⟩ := okWide_struct hu hv
  rw [cells24] at hsz
  obtain ⟨fuel, hf⟩ := h
  obtain ⟨y0, y1, y2, k, hx, hl3, g0, g1, g2⟩ := trod_struct3 hu hf
  rw [o0, t0, cells3] at g0; rw [o1, t1, cells22] at g1; rw [o2, t2, cells22] at g2
  simp only [Prod.mk.injEq] at hx
  obtain ⟨_, hp⟩ := hx
  obtain ⟨l⟩ := cs
  match l, hsz with
  | [v0, v1, v2], _ =>
    obtain ⟨z0, e0, _, _⟩ := DataW.trod_int Try.underlying3 g0
    simp [Value.cells] at e0 g1 g2
    obtain ⟨A, n, c, ks, rfl, h1⟩ := ints_of g1 (fun q hq => hlt q (by rw [hp]; simp [hq]))
    obtain ⟨A', n', c', ps, rfl, h2⟩ := ints_of g2 (fun q hq => hlt q (by rw [hp]; simp [hq]))
    exact ⟨z0, A, n, c, ks, A', n', c', ps, by rw [e0], h1, h2⟩

set_option maxRecDepth 100000 in
theorem open_frac (hv : Value.okWide Try.prog W r base 26 v) (h : DataW.Trod enc Try.prog W 0 (fun _ => true) true 26 v d p) : ∃ x y, v = .agg #[.int .i64 x, .int .i64 y] := by
  obtain ⟨f0, f1, hu, o0, o1, t0, t1⟩ := under26
  obtain ⟨cs, rfl, hsz⟩ := okWide_struct hu hv
  rw [cells26] at hsz
  obtain ⟨fuel, hf⟩ := h
  obtain ⟨y0, y1, k, _, hl3, g0, g1⟩ := trod_struct2 hu hf
  rw [o0, t0, cells3] at g0; rw [o1, t1, cells3] at g1
  obtain ⟨l⟩ := cs
  match l, hsz with
  | [v0, v1], _ =>
    obtain ⟨z0, e0, _, _⟩ := DataW.trod_int Try.underlying3 g0
    obtain ⟨z1, e1, _, _⟩ := DataW.trod_int Try.underlying3 g1
    simp [Value.cells] at e0 e1
    exact ⟨z0, z1, by rw [e0, e1]⟩

set_option maxRecDepth 100000 in
theorem open_fs (hv : Value.okWide Try.prog W r base 27 v)
    (h : DataW.Trod enc Try.prog W 0 (fun _ => true) true 27 v d p) (hlt : ∀ x ∈ p, x.block < W.heap.size) : ∃ A n c gs, v = .slice A n c ∧ Fs W W.heap.size A n c gs := by
  obtain ⟨a0, len, cap, rfl⟩ := okWide_slice Try.underlying27 hv
  obtain ⟨fuel, hf⟩ := h
  rcases open_slice Try.underlying27 hf with ⟨hcs, hx⟩ | ⟨a, len', cap', m, n, D, Pl, hcs, _, hl, hm, hmm, hx, hel⟩
  · simp [Value.cells] at hcs
    obtain ⟨rfl, rfl, rfl⟩ := hcs
    exact ⟨none, 0, 0, [], rfl, Fs.none_ _ _⟩
  · simp [Value.cells] at hcs
    obtain ⟨rfl, rfl, rfl⟩ := hcs
    simp only [Prod.mk.injEq] at hx
    obtain ⟨rfl, rfl⟩ := hx
    simp only [if_true] at hmm
    subst hmm
    obtain ⟨f0, f1, hu, o0, o1, t0, t1⟩ := under26
    have each : ∀ i, i < m → ∃ q : Int × Int, W.cell? (a.add (i * 2)) = some (.int .i64 q.1) ∧ W.cell? (a.add (i * 2 + 1)) = some (.int .i64 q.2) := by
      intro i hi
      obtain ⟨cs', h1, h2⟩ := hel i hi
      rw [cells26] at h1
      obtain ⟨_, hlen, hcell⟩ := World.cells?_some h1
      obtain ⟨y0, y1, k, _, hl3, g0, g1⟩ := trod_struct2 hu h2
      rw [o0, t0, cells3] at g0; rw [o1, t1, cells3] at g1
      match cs', hlen with
      | [v0, v1], _ =>
        obtain ⟨z0, e0, _, _⟩ := DataW.trod_int Try.underlying3 g0
        obtain ⟨z1, e1, _, _⟩ := DataW.trod_int Try.underlying3 g1
        simp at e0 e1
        subst e0 e1
        have c0 := hcell 0 (by omega)
        have c1 := hcell 1 (by omega)
        rw [add_add] at c0 c1
        exact ⟨(z0, z1), by simpa using c0, by simpa using c1⟩
    obtain ⟨q, hq⟩ := choose_lt each
    refine ⟨some a, len, m, (List.range len).map q, rfl, by simp, hl, by unfold maxLen at hm; omega, (fun e => by cases e), fun k hk => ?_⟩
    have hk' := hq k (by omega)
    obtain ⟨b, off, spot⟩ := a
    have hspot : spot = none := by simpa [Addr.add] using World.cell?_spot (hq 0 (by omega)).1
    subst hspot
    have hgk : fth ((List.range len).map q) k = q k := by simp [fth, List.getD, hk]
    rw [hgk]
    refine ⟨b, off, rfl, hlt (.cell b off) (List.mem_append_left _ (MemPlace.mem_row.2 ⟨0, ?_, by simp⟩)), ?_⟩
    · show 0 < m * Try.prog.cellsOf 26
      rw [cells26]; omega
    · rw [← add_plain, Nat.add_assoc, ← add_plain]
      exact hk'

variable {W' : World}
set_option maxRecDepth 100000 in
theorem back22 (h : DataW.Trod enc Try.prog W 0 (fun _ => true) true 22 v d p) (hb : Below W.heap.size W W') (hlt : ∀ x ∈ p, x.block < W.heap.size) :
    DataW.Trod enc Try.prog W' 0 (fun b => decide (b < W.heap.size)) true 22 v d p := Below.trod laid_out (by kernel_rfl) (of_decide_eq_true (by kernel_rfl)) h hb hlt
set_option maxRecDepth 100000 in
theorem back24 (h : DataW.Trod enc Try.prog W 0 (fun _ => true) true 24 v d p) (hb : Below W.heap.size W W') (hlt : ∀ x ∈ p, x.block < W.heap.size) :
    DataW.Trod enc Try.prog W' 0 (fun b => decide (b < W.heap.size)) true 24 v d p := Below.trod laid_out (by kernel_rfl) (of_decide_eq_true (by kernel_rfl)) h hb hlt
set_option maxRecDepth 100000 in
theorem back26 (h : DataW.Trod enc Try.prog W 0 (fun _ => true) true 26 v d p) (hb : Below W.heap.size W W') (hlt : ∀ x ∈ p, x.block < W.heap.size) :
    DataW.Trod enc Try.prog W' 0 (fun b => decide (b < W.heap.size)) true 26 v d p := Below.trod laid_out (by kernel_rfl) (of_decide_eq_true (by kernel_rfl)) h hb hlt
set_option maxRecDepth 100000 in
theorem back27 (h : DataW.Trod enc Try.prog W 0 (fun _ => true) true 27 v d p) (hb : Below W.heap.size W W') (hlt : ∀ x ∈ p, x.block < W.heap.size) :
    DataW.Trod enc Try.prog W' 0 (fun b => decide (b < W.heap.size)) true 27 v d p := Below.trod laid_out (by kernel_rfl) (of_decide_eq_true (by kernel_rfl)) h hb hlt
set_option maxRecDepth 100000 in
theorem back3 (h : DataW.Trod enc Try.prog W 0 (fun _ => true) true 3 v d p) (hb : Below W.heap.size W W') (hlt : ∀ x ∈ p, x.block < W.heap.size) :
    DataW.Trod enc Try.prog W' 0 (fun b => decide (b < W.heap.size)) true 3 v d p := Below.trod laid_out (by kernel_rfl) (of_decide_eq_true (by kernel_rfl)) h hb hlt
end
end Go.Proofs.Ytdbflcfjjoocgaa
