/-
  Opening the arguments of the laws; each reads behind the call as before.
-/
import Derived.Test.YtccfhcoioakmpaaRows
import Derived.Test.YtccfhcoioakmpaaQ1
import Derived.ProofKit
import Derived.OpenShut
import Derived.Deep.Slices
import Derived.Deep.Strs
import Derived.Lib.SmallJoins
import Derived.Carry
namespace Go.Proofs.Ytccfhcoioakmpaa
open Go.ChangeShapes Go.WideShapes Go.ChangeAt Go.RowKit Go.Deep

theorem own_knob : ownKnob Try.prog.godebug = none := by kernel_rfl
theorem laid_out : laidOutB Try.prog = true := by kernel_rfl
theorem cells3 : Try.prog.cellsOf 3 = 1 := by kernel_rfl
theorem cells56 : Try.prog.cellsOf 56 = 3 := by kernel_rfl
theorem cells37 : Try.prog.cellsOf 37 = 2 := by kernel_rfl
theorem cells39 : Try.prog.cellsOf 39 = 4 := by kernel_rfl
theorem cells43 : Try.prog.cellsOf 43 = 2 := by kernel_rfl
theorem under43 : Try.prog.underlying 43 = some (.array 2 3) := by kernel_rfl
theorem under56 : ∃ f0 f1 f2 : Field, Try.prog.underlying 56 = some (.struct #[f0, f1, f2]) ∧ f0.offset = 0 ∧ f1.offset = 1 ∧ f2.offset = 2 ∧ f0.type = 3 ∧ f1.type = 3 ∧ f2.type = 3 := by
  have h : (match Try.prog.underlying 56 with | some (.struct fs) => decide (fs.size = 3) && decide (fs.toList.map (·.offset) = [0, 1, 2]) && decide (fs.toList.map (·.type) = [3, 3, 3]) | _ => false) = true := by kernel_rfl
  split at h
  · rename_i fs hfs
    simp only [Bool.and_eq_true, decide_eq_true_eq] at h
    obtain ⟨⟨h1, h2⟩, h3⟩ := h
    obtain ⟨l⟩ := fs
    match l, h1, h2, h3 with
    | [f0, f1, f2], _, h2, h3 =>
      simp at h2 h3
      exact ⟨f0, f1, f2, hfs, h2.1, h2.2.1, h2.2.2, h3.1, h3.2.1, h3.2.2⟩
  · cases h
theorem under2 (t : TypeId) (u v : TypeId) (o : Nat) (h : (match Try.prog.underlying t with | some (.struct fs) => decide (fs.size = 2) && decide (fs.toList.map (·.offset) = [0, o]) && decide (fs.toList.map (·.type) = [u, v]) | _ => false) = true) : ∃ f0 f1 : Field, Try.prog.underlying t = some (.struct #[f0, f1]) ∧ f0.offset = 0 ∧ f1.offset = o ∧ f0.type = u ∧ f1.type = v := by
  split at h
  · rename_i fs hfs
    simp only [Bool.and_eq_true, decide_eq_true_eq] at h
    obtain ⟨⟨h1, h2⟩, h3⟩ := h
    obtain ⟨l⟩ := fs
    match l, h1, h2, h3 with
    | [f0, f1], _, h2, h3 =>
      simp at h2 h3
      exact ⟨f0, f1, hfs, h2.1, h2.2, h3.1, h3.2⟩
  · cases h
theorem under37 : ∃ f0 f1 : Field, Try.prog.underlying 37 = some (.struct #[f0, f1]) ∧ f0.offset = 0 ∧ f1.offset = 1 ∧ f0.type = 3 ∧ f1.type = 3 := under2 37 3 3 1 (by kernel_rfl)
theorem under39 : ∃ f0 f1 : Field, Try.prog.underlying 39 = some (.struct #[f0, f1]) ∧ f0.offset = 0 ∧ f1.offset = 2 ∧ f0.type = 37 ∧ f1.type = 37 := under2 39 37 37 2 (by kernel_rfl)

section
variable {H : Type} {enc : TypeId × Value → H} {W : World} {r : Reach} {base : Nat} {v : Value} {d : DataW H} {p : List MemPlace}


set_option maxRecDepth 100000 in
theorem open_i (hv : Value.okWide Try.prog W r base 3 v) : ∃ x, v = .int .i64 x := okWide_int Try.underlying3 hv

set_option maxRecDepth 100000 in
theorem open_gs (hv : Value.okWide Try.prog W r base 22 v)
    (h : DataW.Trod enc Try.prog W 0 (fun _ => true) true 22 v d p) (hlt : ∀ x ∈ p, x.block < W.heap.size) : ∃ A n c gs, v = .slice A n c ∧ Gs W W.heap.size A n c gs := by
  obtain ⟨a0, len, cap, rfl⟩ := okWide_slice Try.underlying22 hv
  obtain ⟨fuel, hf⟩ := h
  rcases open_slice Try.underlying22 hf with ⟨hcs, hx⟩ | ⟨a, len', cap', m, n, D, Pl, hcs, _, hl, hm, hmm, hx, hel⟩
  · simp [Value.cells] at hcs
    obtain ⟨rfl, rfl, rfl⟩ := hcs
    exact ⟨none, 0, 0, [], rfl, Gs.none_ _ _⟩
  · simp [Value.cells] at hcs
    obtain ⟨rfl, rfl, rfl⟩ := hcs
    simp only [Prod.mk.injEq] at hx
    obtain ⟨rfl, rfl⟩ := hx
    simp only [if_true] at hmm
    subst hmm
    obtain ⟨f0, f1, f2, hu, o0, o1, o2, t0, t1, t2⟩ := under56
    have each : ∀ i, i < m → ∃ q : Int × Int × Int, W.cell? (a.add (i * 3)) = some (.int .i64 q.1) ∧ W.cell? (a.add (i * 3 + 1)) = some (.int .i64 q.2.1) ∧ W.cell? (a.add (i * 3 + 2)) = some (.int .i64 q.2.2) := by
      intro i hi
      obtain ⟨cs', h1, h2⟩ := hel i hi
      rw [cells56] at h1
      obtain ⟨_, hlen, hcell⟩ := World.cells?_some h1
      obtain ⟨y0, y1, y2, k, _, hl3, g0, g1, g2⟩ := trod_struct3 hu h2
      rw [o0, t0, cells3] at g0; rw [o1, t1, cells3] at g1; rw [o2, t2, cells3] at g2
      match cs', hlen with
      | [v0, v1, v2], _ =>
        obtain ⟨z0, e0, _, _⟩ := DataW.trod_int Try.underlying3 g0
        obtain ⟨z1, e1, _, _⟩ := DataW.trod_int Try.underlying3 g1
        obtain ⟨z2, e2, _, _⟩ := DataW.trod_int Try.underlying3 g2
        simp at e0 e1 e2
        subst e0 e1 e2
        have c0 := hcell 0 (by omega)
        have c1 := hcell 1 (by omega)
        have c2 := hcell 2 (by omega)
        rw [add_add] at c0 c1 c2
        exact ⟨(z0, z1, z2), by simpa using c0, by simpa using c1, by simpa using c2⟩
    obtain ⟨q, hq⟩ := choose_lt each
    refine ⟨some a, len, m, (List.range len).map q, rfl, by simp, hl, by unfold maxLen at hm; omega, (fun e => by cases e), fun k hk => ?_⟩
    have hk' := hq k (by omega)
    obtain ⟨b, off, spot⟩ := a
    have hspot : spot = none := by simpa [Addr.add] using World.cell?_spot (hq 0 (by omega)).1
    subst hspot
    have hgk : gth ((List.range len).map q) k = q k := by simp [gth, List.getD, hk]
    rw [hgk]
    refine ⟨b, off, rfl, hlt (.cell b off) (List.mem_append_left _ (MemPlace.mem_row.2 ⟨0, ?_, by simp⟩)), ?_⟩
    · show 0 < m * Try.prog.cellsOf 56
      rw [cells56]; omega
    · rw [← add_plain, Nat.add_assoc, ← add_plain, Nat.add_assoc, ← add_plain]
      exact hk'

set_option maxRecDepth 100000 in
theorem open_fs (hv : Value.okWide Try.prog W r base 54 v)
    (h : DataW.Trod enc Try.prog W 0 (fun _ => true) true 54 v d p) (hlt : ∀ x ∈ p, x.block < W.heap.size) : ∃ A n c gs, v = .slice A n c ∧ Fs W W.heap.size A n c gs := by
  obtain ⟨a0, len, cap, rfl⟩ := okWide_slice Try.underlying54 hv
  obtain ⟨fuel, hf⟩ := h
  rcases open_slice Try.underlying54 hf with ⟨hcs, hx⟩ | ⟨a, len', cap', m, n, D, Pl, hcs, _, hl, hm, hmm, hx, hel⟩
  · simp [Value.cells] at hcs
    obtain ⟨rfl, rfl, rfl⟩ := hcs
    exact ⟨none, 0, 0, [], rfl, Fs.none_ _ _⟩
  · simp [Value.cells] at hcs
    obtain ⟨rfl, rfl, rfl⟩ := hcs
    simp only [Prod.mk.injEq] at hx
    obtain ⟨rfl, rfl⟩ := hx
    simp only [if_true] at hmm
    subst hmm
    obtain ⟨f0, f1, hu, o0, o1, t0, t1⟩ := under37
    have each : ∀ i, i < m → ∃ q : Int × Int, W.cell? (a.add (i * 2)) = some (.int .i64 q.1) ∧ W.cell? (a.add (i * 2 + 1)) = some (.int .i64 q.2) := by
      intro i hi
      obtain ⟨cs', h1, h2⟩ := hel i hi
      rw [cells37] at h1
      obtain ⟨_, hlen, hcell⟩ := World.cells?_some h1
      obtain ⟨y0, y1, k, _, hl3, g0, g1⟩ := trod_struct2 hu h2
      rw [o0, t0, cells3] at g0; rw [o1, t1, cells3] at g1
      match cs', hlen with
      | [v0, v1], _ =>
        obtain ⟨z0, e0, _, _⟩ := DataW.trod_int Try.underlying3 g0
        obtain ⟨z1, e1, _, _⟩ := DataW.trod_int Try.underlying3 g1
        simp at e0 e1
        subst e0 e1
        have c0 := hcell 0 (by omega)
        have c1 := hcell 1 (by omega)
        rw [add_add] at c0 c1
        exact ⟨(z0, z1), by simpa using c0, by simpa using c1⟩
    obtain ⟨q, hq⟩ := choose_lt each
    refine ⟨some a, len, m, (List.range len).map q, rfl, by simp, hl, by unfold maxLen at hm; omega, (fun e => by cases e), fun k hk => ?_⟩
    have hk' := hq k (by omega)
    obtain ⟨b, off, spot⟩ := a
    have hspot : spot = none := by simpa [Addr.add] using World.cell?_spot (hq 0 (by omega)).1
    subst hspot
    have hgk : fth ((List.range len).map q) k = q k := by simp [fth, List.getD, hk]
    rw [hgk]
    refine ⟨b, off, rfl, hlt (.cell b off) (List.mem_append_left _ (MemPlace.mem_row.2 ⟨0, ?_, by simp⟩)), ?_⟩
    · show 0 < m * Try.prog.cellsOf 37
      rw [cells37]; omega
    · rw [← add_plain, Nat.add_assoc, ← add_plain]
      exact hk'

set_option maxRecDepth 100000 in
theorem open_pair (hv : Value.okWide Try.prog W r base 43 v) (h : DataW.Trod enc Try.prog W 0 (fun _ => true) true 43 v d p) : ∃ x y, v = .agg #[.int .i64 x, .int .i64 y] := by
  simp only [Value.okWide, under43] at hv
  obtain ⟨cs, rfl, hsz, _⟩ := hv
  rw [cells43] at hsz
  obtain ⟨fuel, hf⟩ := h
  obtain ⟨xs, m, _, _, _, hlen, hel⟩ := DataW.trod_array under43 hf
  obtain ⟨l⟩ := cs
  match l, hsz with
  | [v0, v1], _ =>
    have h0 := hel 0 (by omega)
    have h1 := hel 1 (by omega)
    rw [cells3] at h0 h1
    match xs, hlen with
    | [x0, x1], _ =>
      simp [Value.cells] at h0 h1
      obtain ⟨z0, e0, _, _⟩ := DataW.trod_int Try.underlying3 h0
      obtain ⟨z1, e1, _, _⟩ := DataW.trod_int Try.underlying3 h1
      simp at e0 e1
      exact ⟨z0, z1, by rw [e0, e1]⟩

set_option maxRecDepth 100000 in
theorem open_side (hv : Value.okWide Try.prog W r base 56 v) (h : DataW.Trod enc Try.prog W 0 (fun _ => true) true 56 v d p) : ∃ x y z, v = .agg #[.int .i64 x, .int .i64 y, .int .i64 z] := by
  obtain ⟨f0, f1, f2, hu, o0, o1, o2, t0, t1, t2⟩ := under56
  obtain ⟨cs, rfl, hsz⟩ := okWide_struct hu hv
  rw [cells56] at hsz
  obtain ⟨fuel, hf⟩ := h
  obtain ⟨y0, y1, y2, k, _, hl3, g0, g1, g2⟩ := trod_struct3 hu hf
  rw [o0, t0, cells3] at g0; rw [o1, t1, cells3] at g1; rw [o2, t2, cells3] at g2
  obtain ⟨l⟩ := cs
  match l, hsz with
  | [v0, v1, v2], _ =>
    obtain ⟨z0, e0, _, _⟩ := DataW.trod_int Try.underlying3 g0
    obtain ⟨z1, e1, _, _⟩ := DataW.trod_int Try.underlying3 g1
    obtain ⟨z2, e2, _, _⟩ := DataW.trod_int Try.underlying3 g2
    simp [Value.cells] at e0 e1 e2
    exact ⟨z0, z1, z2, by rw [e0, e1, e2]⟩

set_option maxRecDepth 100000 in
theorem open_point (hv : Value.okWide Try.prog W r base 39 v) (h : DataW.Trod enc Try.prog W 0 (fun _ => true) true 39 v d p) : ∃ x e y f, v = .agg #[.int .i64 x, .int .i64 e, .int .i64 y, .int .i64 f] := by
  obtain ⟨f0, f1, hu, o0, o1, t0, t1⟩ := under39
  obtain ⟨cs, rfl, hsz⟩ := okWide_struct hu hv
  rw [cells39] at hsz
  obtain ⟨fuel, hf⟩ := h
  obtain ⟨y0, y1, k, _, hl3, g0, g1⟩ := trod_struct2 hu hf
  rw [o0, t0, cells37] at g0; rw [o1, t1, cells37] at g1
  obtain ⟨q0, q1, hq, r0, r1, s0, s1⟩ := under37
  obtain ⟨_, _, _, _, _, a0, a1⟩ := trod_struct2 hq g0
  obtain ⟨_, _, _, _, _, b0, b1⟩ := trod_struct2 hq g1
  rw [r0, s0, cells3] at a0 b0; rw [r1, s1, cells3] at a1 b1
  obtain ⟨l⟩ := cs
  match l, hsz with
  | [v0, v1, v2, v3], _ =>
    obtain ⟨z0, e0, _, _⟩ := DataW.trod_int Try.underlying3 a0
    obtain ⟨z1, e1, _, _⟩ := DataW.trod_int Try.underlying3 a1
    obtain ⟨z2, e2, _, _⟩ := DataW.trod_int Try.underlying3 b0
    obtain ⟨z3, e3, _, _⟩ := DataW.trod_int Try.underlying3 b1
    simp [Value.cells] at e0 e1 e2 e3
    exact ⟨z0, z1, z2, z3, by rw [e0, e1, e2, e3]⟩

variable {W' : World}
set_option maxRecDepth 100000 in
theorem back22 (h : DataW.Trod enc Try.prog W 0 (fun _ => true) true 22 v d p) (hb : Below W.heap.size W W') (hlt : ∀ x ∈ p, x.block < W.heap.size) :
    DataW.Trod enc Try.prog W' 0 (fun b => decide (b < W.heap.size)) true 22 v d p := Below.trod laid_out (by kernel_rfl) (of_decide_eq_true (by kernel_rfl)) h hb hlt
set_option maxRecDepth 100000 in
theorem back54 (h : DataW.Trod enc Try.prog W 0 (fun _ => true) true 54 v d p) (hb : Below W.heap.size W W') (hlt : ∀ x ∈ p, x.block < W.heap.size) :
    DataW.Trod enc Try.prog W' 0 (fun b => decide (b < W.heap.size)) true 54 v d p := Below.trod laid_out (by kernel_rfl) (of_decide_eq_true (by kernel_rfl)) h hb hlt
set_option maxRecDepth 100000 in
theorem back3 (h : DataW.Trod enc Try.prog W 0 (fun _ => true) true 3 v d p) (hb : Below W.heap.size W W') (hlt : ∀ x ∈ p, x.block < W.heap.size) :
    DataW.Trod enc Try.prog W' 0 (fun b => decide (b < W.heap.size)) true 3 v d p := Below.trod laid_out (by kernel_rfl) (of_decide_eq_true (by kernel_rfl)) h hb hlt
set_option maxRecDepth 100000 in
theorem back43 (h : DataW.Trod enc Try.prog W 0 (fun _ => true) true 43 v d p) (hb : Below W.heap.size W W') (hlt : ∀ x ∈ p, x.block < W.heap.size) :
    DataW.Trod enc Try.prog W' 0 (fun b => decide (b < W.heap.size)) true 43 v d p := Below.trod laid_out (by kernel_rfl) (of_decide_eq_true (by kernel_rfl)) h hb hlt
set_option maxRecDepth 100000 in
theorem back56 (h : DataW.Trod enc Try.prog W 0 (fun _ => true) true 56 v d p) (hb : Below W.heap.size W W') (hlt : ∀ x ∈ p, x.block < W.heap.size) :
    DataW.Trod enc Try.prog W' 0 (fun b => decide (b < W.heap.size)) true 56 v d p := Below.trod laid_out (by kernel_rfl) (of_decide_eq_true (by kernel_rfl)) h hb hlt
set_option maxRecDepth 100000 in
theorem back39 (h : DataW.Trod enc Try.prog W 0 (fun _ => true) true 39 v d p) (hb : Below W.heap.size W W') (hlt : ∀ x ∈ p, x.block < W.heap.size) :
    DataW.Trod enc Try.prog W' 0 (fun b => decide (b < W.heap.size)) true 39 v d p := Below.trod laid_out (by kernel_rfl) (of_decide_eq_true (by kernel_rfl)) h hb hlt
end
end Go.Proofs.Ytccfhcoioakmpaa
