/-
  A slice of pairs of numbers (fractions, whole points) that reads as a list; one of the call's own.
-/
import Derived.Test.YtccfhcoioakmpaaS1
namespace Go.Proofs.Ytccfhcoioakmpaa
open Go.RowKit

/-- A fraction: what stands above, what stands below. -/
abbrev F := Int × Int
def fth (fs : List F) (k : Nat) : F := fs.getD k (0, 0)
/-- A slice of structs of two numbers reads as the list fs. -/
structure Fs (w : World) (B : Nat) (A : Option Addr) (n c : Nat) (fs : List F) : Prop where
  len : fs.length = n
  cap : n ≤ c
  most : c ≤ 9223372036854775807
  bare : A = none → c = 0
  at_ : ∀ k, k < n → ∃ b off, A = some ⟨b, off, none⟩ ∧ b < B ∧ w.cell? ⟨b, off + k * 2, none⟩ = some (.int .i64 (fth fs k).1) ∧ w.cell? ⟨b, off + k * 2 + 1, none⟩ = some (.int .i64 (fth fs k).2)
namespace Fs
variable {w w' : World} {B B' : Nat} {A : Option Addr} {n c : Nat} {fs : List F}
theorem keep (h : Fs w B A n c fs) (hk : ∀ p : Addr, p.block < B → w'.cell? p = w.cell? p) : Fs w' B A n c fs :=
  ⟨h.len, h.cap, h.most, h.bare, fun k hk' => by
    obtain ⟨b, off, e, hb, h1, h2⟩ := h.at_ k hk'
    exact ⟨b, off, e, hb, (hk ⟨b, _, none⟩ hb).trans h1, (hk ⟨b, _, none⟩ hb).trans h2⟩⟩
theorem more (h : Fs w B A n c fs) (hB : B ≤ B') : Fs w B' A n c fs :=
  ⟨h.len, h.cap, h.most, h.bare, fun k hk' => by
    obtain ⟨b, off, e, hb, hc⟩ := h.at_ k hk'
    exact ⟨b, off, e, by omega, hc⟩⟩
theorem below (h : Fs w B A n c fs) (hb : Below B w w') : Fs w' B A n c fs := h.keep fun _ hp => hb.cell hp
theorem none_ (w : World) (B : Nat) : Fs w B none 0 0 [] := ⟨rfl, Nat.le_refl _, by omega, fun _ => rfl, fun k h => absurd h (by omega)⟩
end Fs
/-- The cells of structs of two numbers. -/
def cells2_ (fs : List F) : List Value := fs.flatMap fun g => [.int .i64 g.1, .int .i64 g.2]
theorem cells2_length (fs : List F) : (cells2_ fs).length = fs.length * 2 := by
  induction fs with
  | nil => rfl
  | cons g l ih => simp only [cells2_, List.flatMap_cons, List.length_append, List.length_cons, List.length_nil] at ih ⊢; omega
theorem cells2_cons (g : F) (l : List F) : cells2_ (g :: l) = .int .i64 g.1 :: .int .i64 g.2 :: cells2_ l := rfl
theorem cells2_app (gs hs : List F) : cells2_ (gs ++ hs) = cells2_ gs ++ cells2_ hs := by simp [cells2_]
theorem cells2_at : ∀ (fs : List F) (k : Nat), k < fs.length → (cells2_ fs)[k * 2]? = some (.int .i64 (fth fs k).1) ∧ (cells2_ fs)[k * 2 + 1]? = some (.int .i64 (fth fs k).2) := by
  intro fs
  induction fs with
  | nil => intro k h; simp at h
  | cons g l ih =>
    intro k h
    rcases k with _ | k
    · simp [cells2_cons, fth, List.getD]
    · have := ih k (by simpa using h)
      have e : fth (g :: l) (k + 1) = fth l k := by simp [fth, List.getD]
      rw [cells2_cons, e, show (k + 1) * 2 = k * 2 + 1 + 1 from by omega]
      simpa using this
/-- A slice of fractions of the call's own. -/
def OwnQ (w : World) (base : Nat) (e : TypeId) (v : Value) (fs : List F) : Prop := w.ownsRow base e 2 v fs.length (cells2_ fs)
theorem OwnQ.fs {w : World} {base : Nat} {e : TypeId} {v : Value} {fs : List F} (h : OwnQ w base e v fs) : ∃ A c, v = .slice A fs.length c ∧ Fs w w.heap.size A fs.length c fs := by
  have h0 := h
  rcases h.2 with ⟨rfl, h1⟩ | ⟨g, cap, cur, rfl, _, hh, hn, hc, _, _⟩
  · have hx : fs = [] := List.eq_nil_of_length_eq_zero h1
    subst hx
    exact ⟨none, 0, rfl, Fs.none_ _ _⟩
  · refine ⟨_, _, rfl, rfl, hn, (by unfold maxLen at hc; omega), (fun e => by cases e), fun k hk => ⟨g, 0, rfl, (Array.getElem?_eq_some_iff.1 hh).1, ?_⟩⟩
    have hc3 := cells2_at fs k hk
    refine ⟨?_, ?_⟩
    · rw [Nat.zero_add, h0.cellAt _ (by omega)]; exact hc3.1
    · rw [Nat.zero_add, h0.cellAt _ (by omega)]; exact hc3.2
theorem OwnQ.to {w : World} {base : Nat} {e : TypeId} {v : Value} {fs : List F} (h : OwnQ w base e v fs) : ∃ A n c, v = .slice A n c ∧ Fs w w.heap.size A n c fs := by
  obtain ⟨A, c, e, hg⟩ := h.fs
  exact ⟨A, _, c, e, hg⟩
theorem OwnQ.below {w w' : World} {base B : Nat} {e : TypeId} {v : Value} {fs : List F} (h : OwnQ w base e v fs) (hb : Below B w w') (hB : w.heap.size ≤ B) : OwnQ w' base e v fs := by
  refine ⟨h.1, ?_⟩
  rcases h.2 with h0 | ⟨g, cap, cur, hv, hg, hh, r⟩
  · exact .inl h0
  · exact .inr ⟨g, cap, cur, hv, hg, by rw [hb.block g (by have := (Array.getElem?_eq_some_iff.1 hh).1; omega)]; exact hh, r⟩
theorem info37 : (Try.prog.info? 37).map (fun i => (i.zero, i.size, i.bytes)) = some (some (.agg #[.int .i64 0, .int .i64 0]), 2, 16) := by kernel_rfl
theorem info43 : (Try.prog.info? 43).map (fun i => (i.zero, i.size, i.bytes)) = some (some (.agg #[.int .i64 0, .int .i64 0]), 2, 16) := by kernel_rfl
theorem ownQ_new (w : World) (base : Nat) (e : TypeId) (h : base ≤ w.heap.size) : OwnQ (w.alloc (.cells #[] e)) base e (.slice (some ⟨w.heap.size, 0, none⟩) 0 0) [] :=
  World.ownsRow_made w #[] 0 h (Nat.zero_le _) rfl
theorem Fs.alloc {w : World} {B n c : Nat} {A : Option Addr} {fs : List F} (h : Fs w B A n c fs) (hB : B ≤ w.heap.size) (o : Obj) : Fs (w.alloc o) B A n c fs := h.below ((Below.refl B w).alloc hB o)

theorem cells2_one (ys : List F) : ∀ u, u ∈ cells2_ ys → u.oneCell' = true := by
  intro u hu
  simp only [cells2_, List.mem_flatMap] at hu
  obtain ⟨f, _, hu⟩ := hu
  simp at hu
  rcases hu with rfl | rfl <;> rfl
end Go.Proofs.Ytccfhcoioakmpaa
