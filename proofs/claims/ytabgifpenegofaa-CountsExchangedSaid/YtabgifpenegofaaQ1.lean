/-
  Pairs of numbers (fractions): slices of them that read as a list, ones of the call's own; blocks of two cells; comparing.
-/
import Derived.Test.YtabgifpenegofaaO1
import Derived.Deep.RegionHeld3
import Derived.Deep.RegionWith
import Derived.Deep.DeepCutAuto
import Derived.StillTailTactics
import Derived.OneCell
import Derived.Laws.StructEq
namespace Go.Proofs.Ytabgifpenegofaa
open Go.RowKit

theorem mul_bd {a b M N : Int} (ha : -M ≤ a ∧ a ≤ M) (hb : -N ≤ b ∧ b ≤ N) : -(M * N) ≤ a * b ∧ a * b ≤ M * N := by
  have hM : 0 ≤ M := by omega
  have hN : 0 ≤ N := by omega
  have h1 : (a * b).natAbs ≤ M.toNat * N.toNat := by rw [Int.natAbs_mul]; exact Nat.mul_le_mul (by omega) (by omega)
  have h2 : ((M.toNat * N.toNat : Nat) : Int) = M * N := by rw [Int.natCast_mul, Int.toNat_of_nonneg hM, Int.toNat_of_nonneg hN]
  omega

theorem tdiv_bd {a b M : Int} (h : -M ≤ a ∧ a ≤ M) : -M ≤ a.tdiv b ∧ a.tdiv b ≤ M := by
  have e := Int.natAbs_tdiv_le_natAbs a b
  omega
theorem ediv_bd {a b M : Int} (h : -M ≤ a ∧ a ≤ M) : -M ≤ a / b ∧ a / b ≤ M := by
  have e := Int.natAbs_ediv_le_natAbs a b
  omega

theorem heap_new_ (w : World) (o : Obj) : (w.alloc o).heap[w.heap.size]? = some o := by
  show (w.heap.push o)[w.heap.size]? = some o
  simp
theorem cell_row_ {w : World} {g k : Nat} {cs : Array Value} {t : TypeId} (h : w.heap[g]? = some (.cells cs t (0, 0))) : w.cell? ⟨g, k, none⟩ = cs[k]? := by simp [World.cell?, h]
theorem set_at {W : World} {b k : Nat} {cs : Array Value} {t : TypeId} (h : W.heap[b]? = some (.cells cs t (0, 0))) (v : Value) : (W.setCell ⟨b, k, none⟩ v).heap[b]? = some (.cells (cs.setIfInBounds k v) t (0, 0)) := by
  obtain ⟨hlt, hk⟩ := Array.getElem?_eq_some_iff.1 h
  show (W.heap.modify b _)[b]? = _
  rw [Array.getElem?_eq_getElem (by rw [Array.size_modify]; exact hlt), Array.getElem_modify_self, hk]
  rfl
theorem put3 {W : World} {b : Nat} {u0 u1 u2 : Value} {t : TypeId} (h : W.heap[b]? = some (.cells #[u0, u1, u2] t (0, 0))) (v0 v1 v2 : Value) :
    (((W.setCell ⟨b, 0, none⟩ v0).setCell ⟨b, 1, none⟩ v1).setCell ⟨b, 2, none⟩ v2).heap[b]? = some (.cells #[v0, v1, v2] t (0, 0)) :=
  set_at (set_at (set_at h v0) v1) v2
theorem put2 {W : World} {b : Nat} {u0 u1 : Value} {t : TypeId} (h : W.heap[b]? = some (.cells #[u0, u1] t (0, 0))) (v0 v1 : Value) :
    ((W.setCell ⟨b, 0, none⟩ v0).setCell ⟨b, 1, none⟩ v1).heap[b]? = some (.cells #[v0, v1] t (0, 0)) :=
  set_at (set_at h v0) v1
theorem below_put3 {W0 W : World} {B b : Nat} (h : Below B W0 W) (hb : B ≤ b) (v0 v1 v2 : Value) : Below B W0 (((W.setCell ⟨b, 0, none⟩ v0).setCell ⟨b, 1, none⟩ v1).setCell ⟨b, 2, none⟩ v2) :=
  ((h.setCell (p := ⟨b, 0, none⟩) hb v0).setCell (p := ⟨b, 1, none⟩) hb v1).setCell (p := ⟨b, 2, none⟩) hb v2
theorem below_put2 {W0 W : World} {B b : Nat} (h : Below B W0 W) (hb : B ≤ b) (v0 v1 : Value) : Below B W0 ((W.setCell ⟨b, 0, none⟩ v0).setCell ⟨b, 1, none⟩ v1) :=
  (h.setCell (p := ⟨b, 0, none⟩) hb v0).setCell (p := ⟨b, 1, none⟩) hb v1
theorem three_at {W : World} {b : Nat} {v0 v1 v2 : Value} {t : TypeId} (h : W.heap[b]? = some (.cells #[v0, v1, v2] t (0, 0))) : W.cell? ⟨b, 0, none⟩ = some v0 ∧ W.cell? ⟨b, 1, none⟩ = some v1 ∧ W.cell? ⟨b, 2, none⟩ = some v2 := by
  refine ⟨?_, ?_, ?_⟩ <;> (rw [cell_row_ h]; rfl)
theorem two_at {W : World} {b : Nat} {v0 v1 : Value} {t : TypeId} (h : W.heap[b]? = some (.cells #[v0, v1] t (0, 0))) : W.cell? ⟨b, 0, none⟩ = some v0 ∧ W.cell? ⟨b, 1, none⟩ = some v1 := by
  refine ⟨?_, ?_⟩ <;> (rw [cell_row_ h]; rfl)
theorem free_at {W : World} {b : Nat} {cs : Array Value} {t : TypeId} (h : W.heap[b]? = some (.cells cs t (0, 0))) (o : Nat) : W.frozen? ⟨b, o, none⟩ = false := by simp [World.frozen?, h]

/-- A fraction: what stands above, what stands below. -/
abbrev F := Int × Int
def fth (fs : List F) (k : Nat) : F := fs.getD k (0, 0)
/-- A slice of structs of two numbers reads as the list fs. -/
structure Fs (w : World) (B : Nat) (A : Option Addr) (n c : Nat) (fs : List F) : Prop where
  len : fs.length = n
  cap : n ≤ c
  most : c ≤ 9223372036854775807
  bare : A = none → c = 0
  at_ : ∀ k, k < n → ∃ b off, A = some ⟨b, off, none⟩ ∧ b < B ∧ w.cell? ⟨b, off + k * 2, none⟩ = some (.int .i64 (fth fs k).1) ∧ w.cell? ⟨b, off + k * 2 + 1, none⟩ = some (.int .i64 (fth fs k).2)
namespace Fs
variable {w w' : World} {B B' : Nat} {A : Option Addr} {n c : Nat} {fs : List F}
theorem keep (h : Fs w B A n c fs) (hk : ∀ p : Addr, p.block < B → w'.cell? p = w.cell? p) : Fs w' B A n c fs :=
  ⟨h.len, h.cap, h.most, h.bare, fun k hk' => by
    obtain ⟨b, off, e, hb, h1, h2⟩ := h.at_ k hk'
    exact ⟨b, off, e, hb, (hk ⟨b, _, none⟩ hb).trans h1, (hk ⟨b, _, none⟩ hb).trans h2⟩⟩
theorem more (h : Fs w B A n c fs) (hB : B ≤ B') : Fs w B' A n c fs :=
  ⟨h.len, h.cap, h.most, h.bare, fun k hk' => by
    obtain ⟨b, off, e, hb, hc⟩ := h.at_ k hk'
    exact ⟨b, off, e, by omega, hc⟩⟩
theorem below (h : Fs w B A n c fs) (hb : Below B w w') : Fs w' B A n c fs := h.keep fun _ hp => hb.cell hp
theorem none_ (w : World) (B : Nat) : Fs w B none 0 0 [] := ⟨rfl, Nat.le_refl _, by omega, fun _ => rfl, fun k h => absurd h (by omega)⟩
end Fs
/-- The cells of structs of two numbers. -/
def cells2_ (fs : List F) : List Value := fs.flatMap fun g => [.int .i64 g.1, .int .i64 g.2]
theorem cells2_length (fs : List F) : (cells2_ fs).length = fs.length * 2 := by
  induction fs with
  | nil => rfl
  | cons g l ih => simp only [cells2_, List.flatMap_cons, List.length_append, List.length_cons, List.length_nil] at ih ⊢; omega
theorem cells2_cons (g : F) (l : List F) : cells2_ (g :: l) = .int .i64 g.1 :: .int .i64 g.2 :: cells2_ l := rfl
theorem cells2_app (gs hs : List F) : cells2_ (gs ++ hs) = cells2_ gs ++ cells2_ hs := by simp [cells2_]
theorem cells2_at : ∀ (fs : List F) (k : Nat), k < fs.length → (cells2_ fs)[k * 2]? = some (.int .i64 (fth fs k).1) ∧ (cells2_ fs)[k * 2 + 1]? = some (.int .i64 (fth fs k).2) := by
  intro fs
  induction fs with
  | nil => intro k h; simp at h
  | cons g l ih =>
    intro k h
    rcases k with _ | k
    · simp [cells2_cons, fth, List.getD]
    · have := ih k (by simpa using h)
      have e : fth (g :: l) (k + 1) = fth l k := by simp [fth, List.getD]
      rw [cells2_cons, e, show (k + 1) * 2 = k * 2 + 1 + 1 from by omega]
      simpa using this
/-- A slice of fractions of the call's own. -/
def OwnQ (w : World) (base : Nat) (e : TypeId) (v : Value) (fs : List F) : Prop := w.ownsRow base e 2 v fs.length (cells2_ fs)
theorem OwnQ.fs {w : World} {base : Nat} {e : TypeId} {v : Value} {fs : List F} (h : OwnQ w base e v fs) : ∃ A c, v = .slice A fs.length c ∧ Fs w w.heap.size A fs.length c fs := by
  have h0 := h
  rcases h.2 with ⟨rfl, h1⟩ | ⟨g, cap, cur, rfl, _, hh, hn, hc, _, _⟩
  · have hx : fs = [] := List.eq_nil_of_length_eq_zero h1
    subst hx
    exact ⟨none, 0, rfl, Fs.none_ _ _⟩
  · refine ⟨_, _, rfl, rfl, hn, (by unfold maxLen at hc; omega), (fun e => by cases e), fun k hk => ⟨g, 0, rfl, (Array.getElem?_eq_some_iff.1 hh).1, ?_⟩⟩
    have hc3 := cells2_at fs k hk
    refine ⟨?_, ?_⟩
    · rw [Nat.zero_add, h0.cellAt _ (by omega)]; exact hc3.1
    · rw [Nat.zero_add, h0.cellAt _ (by omega)]; exact hc3.2
theorem OwnQ.to {w : World} {base : Nat} {e : TypeId} {v : Value} {fs : List F} (h : OwnQ w base e v fs) : ∃ A n c, v = .slice A n c ∧ Fs w w.heap.size A n c fs := by
  obtain ⟨A, c, e, hg⟩ := h.fs
  exact ⟨A, _, c, e, hg⟩
theorem OwnQ.below {w w' : World} {base B : Nat} {e : TypeId} {v : Value} {fs : List F} (h : OwnQ w base e v fs) (hb : Below B w w') (hB : w.heap.size ≤ B) : OwnQ w' base e v fs := by
  refine ⟨h.1, ?_⟩
  rcases h.2 with h0 | ⟨g, cap, cur, hv, hg, hh, r⟩
  · exact .inl h0
  · exact .inr ⟨g, cap, cur, hv, hg, by rw [hb.block g (by have := (Array.getElem?_eq_some_iff.1 hh).1; omega)]; exact hh, r⟩
theorem info47 : (Try.prog.info? 47).map (fun i => (i.zero, i.size, i.bytes)) = some (some (.agg #[.int .i64 0, .int .i64 0]), 2, 16) := by kernel_rfl
theorem ownQ_new (w : World) (base : Nat) (e : TypeId) (h : base ≤ w.heap.size) : OwnQ (w.alloc (.cells #[] e)) base e (.slice (some ⟨w.heap.size, 0, none⟩) 0 0) [] :=
  World.ownsRow_made w #[] 0 h (Nat.zero_le _) rfl
theorem Fs.alloc {w : World} {B n c : Nat} {A : Option Addr} {fs : List F} (h : Fs w B A n c fs) (hB : B ≤ w.heap.size) (o : Obj) : Fs (w.alloc o) B A n c fs := h.below ((Below.refl B w).alloc hB o)

theorem cells2_one (ys : List F) : ∀ u, u ∈ cells2_ ys → u.oneCell' = true := by
  intro u hu
  simp only [cells2_, List.mem_flatMap] at hu
  obtain ⟨f, _, hu⟩ := hu
  simp at hu
  rcases hu with rfl | rfl <;> rfl
theorem eqI2 (t : TypeId) (ht : Try.prog.underlying t = some (.struct (Try.prog.fieldsOf t))) (hp : Try.prog.stoodInHeld t = false) (hf : (Try.prog.fieldsOf t).toList.map (fun f => (f.type, f.offset, f.name == "_")) = [(3, 0, false), (3, 1, false)]) (a b a' b' : Int) (d : Nat) (w : World) :
    (Op.equalIn (d + 1 + 1) t (.agg #[.int .i64 a, .int .i64 b]) (.agg #[.int .i64 a', .int .i64 b'])).run Try.prog w = .ok (decide (((a, b) : F) = (a', b'))) w := by
  have u3 := Try.underlying3
  have a3 := Try.isAgg3
  have z3 := Try.sizeOf3
  rw [run_equalIn_agg w (d + 1) t _ _ ht hp]
  generalize (Try.prog.fieldsOf t).toList = fs at hf
  rcases fs with _ | ⟨f0, _ | ⟨f1, _ | ⟨f2, fs⟩⟩⟩
  · simp at hf
  · simp at hf
  · simp only [List.map_cons, List.map_nil, List.cons.injEq, Prod.mk.injEq, and_true] at hf
    obtain ⟨⟨t0, o0, n0⟩, ⟨t1, o1, n1⟩⟩ := hf
    have m0 : f0.name ≠ "_" := by simpa using n0
    have m1 : f1.name ≠ "_" := by simpa using n1
    simp only [Op.eqFields, t0, t1, o0, o1, if_pos m0, if_pos m1]
    go_simp
    by_cases h1 : a = a' <;> by_cases h2 : b = b' <;> simp [h1, h2]
  · simp at hf

theorem eql47 (a b a' b' : Int) (w : World) : (binOp .eql 47 (.agg #[.int .i64 a, .int .i64 b]) (.agg #[.int .i64 a', .int .i64 b'])).run Try.prog w = .ok (.bool (decide (((a, b) : F) = (a', b')))) w := by
  rw [run_eql_struct, show (10000 : Nat) = 9998 + 1 + 1 from rfl, eqI2 47 (by kernel_rfl) (by kernel_rfl) (by kernel_rfl)]; rfl
theorem neq47 (a b a' b' : Int) (w : World) : (binOp .neq 47 (.agg #[.int .i64 a, .int .i64 b]) (.agg #[.int .i64 a', .int .i64 b'])).run Try.prog w = .ok (.bool (!(decide (((a, b) : F) = (a', b'))))) w := by
  rw [run_neq_struct, show (10000 : Nat) = 9998 + 1 + 1 from rfl, eqI2 47 (by kernel_rfl) (by kernel_rfl) (by kernel_rfl)]; rfl
end Go.Proofs.Ytabgifpenegofaa
