/-
  Blocks of fractions that are known whole; slices of fractions that are made.
-/
import Derived.Test.YtdbflcfjjoocgaaM4
import Derived.Laws.MakeOwn
namespace Go.Proofs.Ytdbflcfjjoocgaa
open Go.RowKit

/-- Block g holds just the fractions L. -/
def PB (w : World) (g : Nat) (t : TypeId) (L : List F) : Prop := w.heap[g]? = some (.cells (cells2_ L).toArray t (0, 0))
section
variable {w w' : World} {g : Nat} {t : TypeId} {L : List F}
theorem PB.lt (h : PB w g t L) : g < w.heap.size := (Array.getElem?_eq_some_iff.1 h).1
theorem PB.cell (h : PB w g t L) {k : Nat} (hk : k < L.length) : w.cell? ⟨g, k * 2, none⟩ = some (.int .i64 (fth L k).1) ∧ w.cell? ⟨g, k * 2 + 1, none⟩ = some (.int .i64 (fth L k).2) := by
  have := cells2_at L k hk
  rw [cell_row_ h, cell_row_ h]
  simpa using this
theorem PB.free (h : PB w g t L) (o : Nat) : w.frozen? ⟨g, o, none⟩ = false := free_at h o
theorem PB.below {B : Nat} (h : PB w g t L) (hb : Below B w w') (hg : g < B) : PB w' g t L := (hb.block g hg).trans h
theorem PB.drewN (h : PB w g t L) (n : Nat) : PB (w.drewN n) g t L := h
theorem cells2_set : ∀ (L : List F) (k : Nat) (a b : Int), k < L.length → cells2_ (L.set k (a, b)) = ((cells2_ L).set (k * 2) (.int .i64 a)).set (k * 2 + 1) (.int .i64 b) := by
  intro L
  induction L with
  | nil => intro k a b h; simp at h
  | cons f l ih =>
    intro k a b h
    rcases k with _ | k
    · rfl
    · rw [List.set_cons_succ, cells2_cons, cells2_cons, ih k a b (by simpa using h), show (k + 1) * 2 = k * 2 + 1 + 1 from by omega]
      rfl
theorem PB.put (h : PB w g t L) {k : Nat} (hk : k < L.length) (a b : Int) : PB ((w.setCell ⟨g, k * 2, none⟩ (.int .i64 a)).setCell ⟨g, k * 2 + 1, none⟩ (.int .i64 b)) g t (L.set k (a, b)) := by
  have := set_at (k := k * 2 + 1) (set_at (k := k * 2) h (.int .i64 a)) (.int .i64 b)
  unfold PB
  rw [cells2_set L k a b hk, this]
  simp
theorem PB.fs (h : PB w g t L) {m c B : Nat} (hm : m ≤ L.length) (hc : m ≤ c) (hc2 : c ≤ 9223372036854775807) (hB : g < B) : Fs w B (some ⟨g, 0, none⟩) m c (L.take m) :=
  ⟨by simp; omega, hc, hc2, (fun e => by cases e), fun k hk => ⟨g, 0, rfl, hB, by
    have e : fth (L.take m) k = fth L k := by simp [fth, List.getD, List.getElem?_take, hk]
    have := h.cell (k := k) (by omega)
    rw [Nat.zero_add, e]; exact this⟩⟩
end
theorem fth_set {L : List F} {k : Nat} (f : F) (h : k < L.length) : fth (L.set k f) k = f := by simp [fth, List.getD, h]
theorem fth_set_ne {L : List F} {k j : Nat} (f : F) (h : j ≠ k) : fth (L.set k f) j = fth L j := by
  simp only [fth, List.getD]
  rw [List.getElem?_set_ne (by omega)]
theorem below_set2 {W0 W : World} {B b : Nat} (h : Below B W0 W) (hb : B ≤ b) (o0 o1 : Nat) (v0 v1 : Value) : Below B W0 ((W.setCell ⟨b, o0, none⟩ v0).setCell ⟨b, o1, none⟩ v1) :=
  (h.setCell (p := ⟨b, o0, none⟩) hb v0).setCell (p := ⟨b, o1, none⟩) hb v1

theorem made2 (n : Nat) : (madeCells (Value.agg #[.int .i64 0, .int .i64 0]).cells (n * 2)) = (cells2_ (List.replicate n (0, 0))).toArray := by
  have e : cells2_ (List.replicate n (0, 0)) = List.replicate (n * 2) (Value.int .i64 0) := by
    induction n with
    | zero => rfl
    | succ n ih => rw [List.replicate_succ, cells2_cons, ih, show (n + 1) * 2 = n * 2 + 1 + 1 from by omega]; rfl
  rw [e]
  apply Array.toList_inj.1
  apply List.ext_getElem
  · simp [madeCells]
  · intro i h1 h2
    simp [madeCells, Value.cells]
    have : i % 2 = 0 ∨ i % 2 = 1 := by omega
    rcases this with h | h <;> rw [h] <;> rfl
theorem make81 (n : Nat) (hn : n ≤ 1000000) (W : World) : (Instr.makeSlice 78 (.int .i64 (n : Int)) (.int .i64 (n : Int))).run Try.prog W = .ok (.slice (some ⟨W.heap.size, 0, none⟩) n n) (W.alloc (.cells (cells2_ (List.replicate n (0, 0))).toArray 81)) := by
  obtain ⟨i0, h0, hz0, hz1, hz2⟩ := info_parts info81
  have := run_make (P := Try.prog) W 78 81 i0 _ Try.underlying78 h0 hz0 .i64 .i64 n n (by omega) (Int.le_refl _) (by rw [hz2]; omega) (by omega)
  rw [hz1] at this
  rw [← made2]
  simpa using this
theorem make26 (n : Nat) (hn : n ≤ 1000000) (W : World) : (Instr.makeSlice 27 (.int .i64 (n : Int)) (.int .i64 (n : Int))).run Try.prog W = .ok (.slice (some ⟨W.heap.size, 0, none⟩) n n) (W.alloc (.cells (cells2_ (List.replicate n (0, 0))).toArray 26)) := by
  obtain ⟨i0, h0, hz0, hz1, hz2⟩ := info_parts info26
  have := run_make (P := Try.prog) W 27 26 i0 _ Try.underlying27 h0 hz0 .i64 .i64 n n (by omega) (Int.le_refl _) (by rw [hz2]; omega) (by omega)
  rw [hz1] at this
  rw [← made2]
  simpa using this

/-- The fractions of L from a to below b are those of G. -/
def HasQ (L : List F) (G : Nat → Rat) (a b : Nat) : Prop := ∀ j, a ≤ j → j < b → Fr (G j) (fth L j).1 (fth L j).2
theorem HasQ.set {L : List F} {G : Nat → Rat} {a b k : Nat} {n m : Int} (h : HasQ L G a b) (hk : k < L.length) (hf : Fr (G k) n m) : HasQ (L.set k (n, m)) G a b := by
  intro j h1 h2
  by_cases e : j = k
  · subst e; rw [fth_set _ hk]; exact hf
  · rw [fth_set_ne _ e]; exact h j h1 h2
theorem HasQ.set_out {L : List F} {G : Nat → Rat} {a b k : Nat} {f : F} (h : HasQ L G a b) (hk : k < a) : HasQ (L.set k f) G a b := by
  intro j h1 h2
  rw [fth_set_ne _ (by omega)]; exact h j h1 h2
theorem HasQ.snoc {L : List F} {G : Nat → Rat} {k : Nat} {n m : Int} (h : HasQ L G 0 k) (hk : k < L.length) (hf : Fr (G k) n m) : HasQ (L.set k (n, m)) G 0 (k + 1) := by
  intro j h1 h2
  by_cases e : j = k
  · subst e; rw [fth_set _ hk]; exact hf
  · rw [fth_set_ne _ e]; exact h j h1 (by omega)
theorem HasQ.sub {L : List F} {G : Nat → Rat} {a b a' b' : Nat} (h : HasQ L G a b) (ha : a ≤ a') (hb : b' ≤ b) : HasQ L G a' b' := fun j h1 h2 => h j (by omega) (by omega)
theorem HasQ.ext {L : List F} {G G' : Nat → Rat} {a b : Nat} (h : HasQ L G a b) (he : ∀ j, a ≤ j → j < b → G j = G' j) : HasQ L G' a b := fun j h1 h2 => by rw [← he j h1 h2]; exact h j h1 h2
end Go.Proofs.Ytdbflcfjjoocgaa
