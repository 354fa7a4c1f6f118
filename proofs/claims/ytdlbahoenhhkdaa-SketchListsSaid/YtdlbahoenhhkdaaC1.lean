/-
  A slice of structs of three numbers that reads as a list; one of the call's own; append of one struct.
-/
import Derived.Test.YtdlbahoenhhkdaaO4
import Derived.Maps.AppendAt
import Derived.Deep.RegionLaw
import Derived.Deep.RegionHeld3
import Derived.Below
import Derived.OneCell
namespace Go.Proofs.Ytdlbahoenhhkdaa
open Go.RowKit

abbrev G := Int × Int × Int
def gth (gs : List G) (k : Nat) : G := gs.getD k (0, 0, 0)
/-- A slice of structs of three numbers reads as the list gs. -/
structure Gs (w : World) (B : Nat) (A : Option Addr) (n c : Nat) (gs : List G) : Prop where
  len : gs.length = n
  cap : n ≤ c
  most : c ≤ 9223372036854775807
  bare : A = none → c = 0
  at_ : ∀ k, k < n → ∃ b off, A = some ⟨b, off, none⟩ ∧ b < B ∧ w.cell? ⟨b, off + k * 3, none⟩ = some (.int .i64 (gth gs k).1) ∧ w.cell? ⟨b, off + k * 3 + 1, none⟩ = some (.int .i64 (gth gs k).2.1) ∧ w.cell? ⟨b, off + k * 3 + 2, none⟩ = some (.int .i64 (gth gs k).2.2)
namespace Gs
variable {w w' : World} {B B' : Nat} {A : Option Addr} {n c : Nat} {gs : List G}
theorem keep (h : Gs w B A n c gs) (hk : ∀ p : Addr, p.block < B → w'.cell? p = w.cell? p) : Gs w' B A n c gs :=
  ⟨h.len, h.cap, h.most, h.bare, fun k hk' => by
    obtain ⟨b, off, e, hb, h1, h2, h3⟩ := h.at_ k hk'
    exact ⟨b, off, e, hb, (hk ⟨b, _, none⟩ hb).trans h1, (hk ⟨b, _, none⟩ hb).trans h2, (hk ⟨b, _, none⟩ hb).trans h3⟩⟩
theorem more (h : Gs w B A n c gs) (hB : B ≤ B') : Gs w B' A n c gs :=
  ⟨h.len, h.cap, h.most, h.bare, fun k hk' => by
    obtain ⟨b, off, e, hb, hc⟩ := h.at_ k hk'
    exact ⟨b, off, e, by omega, hc⟩⟩
theorem below (h : Gs w B A n c gs) (hb : Below B w w') : Gs w' B A n c gs := h.keep fun _ hp => hb.cell hp
theorem none_ (w : World) (B : Nat) : Gs w B none 0 0 [] := ⟨rfl, Nat.le_refl _, by omega, fun _ => rfl, fun k h => absurd h (by omega)⟩
end Gs
/-- The cells of structs of three numbers. -/
def cells3_ (gs : List G) : List Value := gs.flatMap fun g => [.int .i64 g.1, .int .i64 g.2.1, .int .i64 g.2.2]
theorem cells3_length (gs : List G) : (cells3_ gs).length = gs.length * 3 := by
  induction gs with
  | nil => rfl
  | cons g l ih => simp only [cells3_, List.flatMap_cons, List.length_append, List.length_cons, List.length_nil] at ih ⊢; omega
theorem cells3_cons (g : G) (l : List G) : cells3_ (g :: l) = .int .i64 g.1 :: .int .i64 g.2.1 :: .int .i64 g.2.2 :: cells3_ l := rfl
theorem cells3_at : ∀ (gs : List G) (k : Nat), k < gs.length → (cells3_ gs)[k * 3]? = some (.int .i64 (gth gs k).1) ∧ (cells3_ gs)[k * 3 + 1]? = some (.int .i64 (gth gs k).2.1) ∧ (cells3_ gs)[k * 3 + 2]? = some (.int .i64 (gth gs k).2.2) := by
  intro gs
  induction gs with
  | nil => intro k h; simp at h
  | cons g l ih =>
    intro k h
    rcases k with _ | k
    · simp [cells3_cons, gth, List.getD]
    · have := ih k (by simpa using h)
      have e : gth (g :: l) (k + 1) = gth l k := by simp [gth, List.getD]
      rw [cells3_cons, e, show (k + 1) * 3 = k * 3 + 1 + 1 + 1 from by omega]
      simpa using this
/-- A slice of structs of the call's own. -/
def OwnedG (w : World) (base : Nat) (e : TypeId) (v : Value) (gs : List G) : Prop := w.ownsRow base e 3 v gs.length (cells3_ gs)
theorem OwnedG.gs {w : World} {base : Nat} {e : TypeId} {v : Value} {gs : List G} (h : OwnedG w base e v gs) : ∃ A c, v = .slice A gs.length c ∧ Gs w w.heap.size A gs.length c gs := by
  have h0 := h
  rcases h.2 with ⟨rfl, h1⟩ | ⟨g, cap, cur, rfl, _, hh, hn, hc, _, _⟩
  · have hx : gs = [] := List.eq_nil_of_length_eq_zero h1
    subst hx
    exact ⟨none, 0, rfl, Gs.none_ _ _⟩
  · refine ⟨_, _, rfl, rfl, hn, (by unfold maxLen at hc; omega), (fun e => by cases e), fun k hk => ⟨g, 0, rfl, (Array.getElem?_eq_some_iff.1 hh).1, ?_⟩⟩
    have hc3 := cells3_at gs k hk
    refine ⟨?_, ?_, ?_⟩
    · rw [Nat.zero_add, h0.cellAt _ (by omega)]; exact hc3.1
    · rw [Nat.zero_add, h0.cellAt _ (by omega)]; exact hc3.2.1
    · rw [Nat.zero_add, h0.cellAt _ (by omega)]; exact hc3.2.2
theorem info34 : (Try.prog.info? 34).map (fun i => (i.zero, i.size, i.bytes)) = some (some (.agg #[.int .i64 0, .int .i64 0, .int .i64 0]), 3, 24) := by kernel_rfl
theorem info68 : (Try.prog.info? 68).map (fun i => (i.zero, i.size, i.bytes)) = some (some (.agg #[.int .i64 0, .int .i64 0, .int .i64 0]), 3, 24) := by kernel_rfl
theorem cells3_app (gs hs : List G) : cells3_ (gs ++ hs) = cells3_ gs ++ cells3_ hs := by simp [cells3_]

theorem OwnedG.to {w : World} {base : Nat} {e : TypeId} {v : Value} {gs : List G} (h : OwnedG w base e v gs) : ∃ A n c, v = .slice A n c ∧ Gs w w.heap.size A n c gs := by
  obtain ⟨A, c, e, hg⟩ := h.gs
  exact ⟨A, _, c, e, hg⟩
theorem OwnedG.lt {w : World} {base : Nat} {e : TypeId} {v : Value} {gs : List G} (h : OwnedG w base e v gs) : ∀ k, v.ownBlock = some k → base ≤ k ∧ k < w.heap.size := World.ownsRow.lt h
theorem OwnedG.alloc {w : World} {base : Nat} {e : TypeId} {v : Value} {gs : List G} (h : OwnedG w base e v gs) (o : Obj) : OwnedG (w.alloc o) base e v gs := World.ownsRow.alloc h o
theorem OwnedG.below {w w' : World} {base B : Nat} {e : TypeId} {v : Value} {gs : List G} (h : OwnedG w base e v gs) (hb : Below B w w') (hB : w.heap.size ≤ B) : OwnedG w' base e v gs := by
  refine ⟨h.1, ?_⟩
  rcases h.2 with h0 | ⟨g, cap, cur, hv, hg, hh, r⟩
  · exact .inl h0
  · exact .inr ⟨g, cap, cur, hv, hg, by rw [hb.block g (by have := (Array.getElem?_eq_some_iff.1 hh).1; omega)]; exact hh, r⟩
theorem run_appG {w : World} {base : Nat} {t e : TypeId} {v : Value} {gs : List G} {g : G} (ty : TypeId) (ht : Try.prog.underlying t = some (.slice e)) (hi : (Try.prog.info? e).map (fun i => (i.zero, i.size, i.bytes)) = some (some (.agg #[.int .i64 0, .int .i64 0, .int .i64 0]), 3, 24))
    (ho : OwnedG w base e v gs) (hl : gs.length ≤ 1000000) (hbase : base ≤ w.heap.size) :
    ∃ v' w', (Builtin.append_ #[t, t] ty #[v, .slice (some ⟨w.heap.size, 0, none⟩) 1 1]).run Try.prog (w.alloc (.cells #[.int .i64 g.1, .int .i64 g.2.1, .int .i64 g.2.2] e)) = .ok v' w' ∧ OwnedG w' base e v' (gs ++ [g]) ∧ Below base w w' ∧ w.grownBy w' v.ownBlock := by
  obtain ⟨i0, h0, hz0, hz1, hz2⟩ := info_parts hi
  have hcell : ∀ j u, ([Value.int .i64 g.1, .int .i64 g.2.1, .int .i64 g.2.2] : List Value)[j]? = some u → (w.alloc (.cells #[.int .i64 g.1, .int .i64 g.2.1, .int .i64 g.2.2] e)).cell? ((⟨w.heap.size, 0, none⟩ : Addr).add j) = some u := by
    intro j u hu
    have hadd : (⟨w.heap.size, 0, none⟩ : Addr).add j = ⟨w.heap.size, j, none⟩ := by unfold Addr.add; split <;> simp_all
    rw [hadd, World.cell?_alloc_at _ _ _ _ rfl]
    simpa using hu
  obtain ⟨v', w', hrun, h2, h3, _, _⟩ := run_append_own_at (P := Try.prog) (w.alloc (.cells #[.int .i64 g.1, .int .i64 g.2.1, .int .i64 g.2.2] e)) base t ty e i0 (.agg #[.int .i64 0, .int .i64 0, .int .i64 0]) 3 24 ht h0 hz0 hz1 hz2 rfl (by omega) v _ _ (World.ownsRow.alloc ho _) ⟨w.heap.size, 0, none⟩ 1 1
    [.int .i64 g.1, .int .i64 g.2.1, .int .i64 g.2.2] rfl hcell (by intro u hu; simp at hu; rcases hu with rfl | rfl | rfl <;> rfl) (by unfold maxLen; omega) (by omega) (by simp; omega)
  refine ⟨v', w', hrun, ?_, ((Below.refl base w).alloc hbase _).grown h3 (by simp; omega) (fun k hk => (World.ownsRow.lt ho k hk).1), ⟨h3.os, h3.tape, h3.output, by have := h3.size; simp at this; omega, fun k hk hne => (h3.block k (by simp; omega) hne).trans (Below.heap_alloc _ _ _ hk)⟩⟩
  unfold OwnedG
  rw [List.length_append, cells3_app]
  exact h2
theorem wpList_appG {w : World} {ops : Array Oper} {rest : List Oper} {o : Oper} {a : Act} {Q : Exit → Act → World → Prop} (hg : o.guard = none) (s x : Operand) (t e : TypeId)
    (hop : o.op = .call { callee := .builtin .append, args := #[s, x], argTypes := #[t, t] }) (ht : Try.prog.underlying t = some (.slice e)) (hi : (Try.prog.info? e).map (fun i => (i.zero, i.size, i.bytes)) = some (some (.agg #[.int .i64 0, .int .i64 0, .int .i64 0]), 3, 24))
    {base : Nat} {v : Value} {gs : List G} {f d m : Int} (hs : a.eval s = v) (hx : a.eval x = .slice (some ⟨w.heap.size, 0, none⟩) 1 1) (ho : OwnedG w base e v gs) (hl : gs.length ≤ 1000000) (hbase : base ≤ w.heap.size)
    (h : ∀ v' w', OwnedG w' base e v' (gs ++ [(f, d, m)]) → Below base w w' → w.grownBy w' v.ownBlock → wpList Try.prog ops Q rest (a.put o.dst v') w') : wpList Try.prog ops Q (o :: rest) a (w.alloc (.cells #[.int .i64 f, .int .i64 d, .int .i64 m] e)) :=
  wpList_plain hg fun K hK => by
    obtain ⟨v', w', hrun, h2, h3, h4⟩ := run_appG (g := (f, d, m)) o.type ht hi ho hl hbase
    unfold Oper.wp execOp
    simp only [hop, resolve, invoke, builtin, Sem.run_bind, Sem.run_pure, Result.andThen_ok, List.map_toArray, List.map_cons, List.map_nil, hs, hx, hrun]
    exact hK _ _ (h v' w' h2 h3 h4)
theorem gtake (gs : List G) (k : Nat) (h : k < gs.length) : gs.take (k + 1) = gs.take k ++ [gth gs k] := by
  rw [List.take_succ_eq_append_getElem h]; simp [gth, List.getD, h]

theorem gth_mem {gs : List G} {k : Nat} (h : k < gs.length) : gth gs k ∈ gs := by simp [gth, List.getD, h]
end Go.Proofs.Ytdlbahoenhhkdaa
