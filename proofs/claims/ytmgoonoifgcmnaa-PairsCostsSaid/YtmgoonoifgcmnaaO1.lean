/-
  Blocks that are known whole; slices of numbers of the call's own, append, slices.Clone.
-/
import Derived.Test.YtmgoonoifgcmnaaBase
import Derived.Below
import Derived.ChangeKeysEq
import Derived.Laws.Rows
import Derived.Laws.Tables
import Derived.Maps.AppendAt
import Derived.Deep.RegionLaw
import Derived.WalkSpells
namespace Go.Proofs.Ytmgoonoifgcmnaa
open Go.RowKit

theorem Ints.drewN {w : World} {B n c : Nat} {A : Option Addr} {xs : List Int} (h : Ints w B A n c xs) (k : Nat) : Ints (w.drewN k) B A n c xs := ⟨h.len, h.cap, h.most, h.bare, h.at_⟩
theorem quiet_q (w : World) (a b : Nat) : ∃ r, (w.drewN a).drewN b = w.drewN r := ⟨a + b, World.drewN_drewN _ _ _⟩

/-- Block g holds just the cells cs. -/
def Blk (w : World) (g : Nat) (t : TypeId) (cs : Array Value) : Prop := w.heap[g]? = some (.cells cs t (0, 0))
section
variable {w w' : World} {g : Nat} {t : TypeId} {cs : Array Value}
theorem Blk.lt (h : Blk w g t cs) : g < w.heap.size := by
  rcases Nat.lt_or_ge g w.heap.size with hlt | hge
  · exact hlt
  · unfold Blk at h; rw [Array.getElem?_eq_none hge] at h; cases h
theorem Blk.cell (h : Blk w g t cs) (i : Nat) : w.cell? ⟨g, i, none⟩ = cs[i]? := cell_of_row w g i cs t (0, 0) h
theorem Blk.frozen (h : Blk w g t cs) (i : Nat) : w.frozen? ⟨g, i, none⟩ = false := frozen_of_row w g i cs t h
theorem Blk.new (w : World) (t : TypeId) (cs : Array Value) : Blk (w.alloc (.cells cs t)) w.heap.size t cs := heap_alloc_new w _
theorem Blk.drewN (h : Blk w g t cs) (n : Nat) : Blk (w.drewN n) g t cs := h
theorem Blk.alloc (h : Blk w g t cs) (o : Obj) : Blk (w.alloc o) g t cs := (Below.heap_alloc w o g h.lt).trans h
theorem Blk.set_ (h : Blk w g t cs) (i : Nat) (u : Value) : Blk (w.setCell ⟨g, i, none⟩ u) g t (cs.setIfInBounds i u) := heap_setCell_same w g i cs t u h
theorem Blk.far (h : Blk w g t cs) {p : Addr} (hp : g ≠ p.block) (u : Value) : Blk (w.setCell p u) g t cs := (heap_setCell_other w p g u hp).trans h
theorem Blk.below {B : Nat} (h : Blk w g t cs) (hb : Below B w w') (hg : g < B) : Blk w' g t cs := (hb.block g hg).trans h
end

theorem Below.drewN' {B : Nat} {a w : World} (h : Below B a w) (n : Nat) : Below B a (w.drewN n) := ⟨h.os, h.tape, h.output, h.size, h.block⟩


/-- A slice of the call's own (blocks from 'base' on) that holds the numbers xs. -/
def Owned (w : World) (base : Nat) (v : Value) (xs : List Int) : Prop := w.ownsRow base 3 1 v xs.length (xs.map (Value.int .i64))

theorem Owned.ints {w : World} {base : Nat} {v : Value} {xs : List Int} (h : Owned w base v xs) : ∃ A c, v = .slice A xs.length c ∧ Ints w w.heap.size A xs.length c xs := by
  rcases h.2 with ⟨rfl, h0⟩ | ⟨g, cap, cur, rfl, _, hh, hn, hc, _, _⟩
  · have hx : xs = [] := List.eq_nil_of_length_eq_zero h0
    subst hx
    exact ⟨none, 0, rfl, Ints.none_ _ _⟩
  · refine ⟨_, _, rfl, rfl, hn, (by unfold maxLen at hc; omega), (fun e => by cases e), fun k hk => ⟨g, 0, rfl, (Array.getElem?_eq_some_iff.1 hh).1, ?_⟩⟩
    rw [Nat.zero_add, h.cellAt k (by omega)]
    simp [nth, List.getD, List.getElem?_eq_getElem hk]

theorem Owned.below {w w' : World} {base B : Nat} {v : Value} {xs : List Int} (h : Owned w base v xs) (hb : Below B w w') (hB : w.heap.size ≤ B) : Owned w' base v xs := by
  refine ⟨h.1, ?_⟩
  rcases h.2 with h0 | ⟨g, cap, cur, hv, hg, hh, r⟩
  · exact .inl h0
  · exact .inr ⟨g, cap, cur, hv, hg, by rw [hb.block g (by have := (Array.getElem?_eq_some_iff.1 hh).1; omega)]; exact hh, r⟩

theorem Ints.cells {w : World} {B n c : Nat} {A : Option Addr} {xs : List Int} (h : Ints w B A n c xs) (hn : 0 < n) :
    ∃ b off, A = some ⟨b, off, none⟩ ∧ b < B ∧ ∀ j, j < xs.length → w.cell? ⟨b, off + j, none⟩ = some (.int .i64 (xs.getD j 0)) := by
  obtain ⟨b, off, e, hb, _⟩ := h.at_ 0 hn
  refine ⟨b, off, e, hb, fun j hj => ?_⟩
  obtain ⟨b1, off1, e1, _, hc⟩ := h.at_ j (by have := h.len; omega)
  rw [e] at e1
  simp only [Option.some.injEq, Addr.mk.injEq, and_true] at e1
  obtain ⟨rfl, rfl⟩ := e1
  exact hc

theorem Ints.cut {w : World} {B n c : Nat} {A : Option Addr} {xs : List Int} (h : Ints w B A n c xs) {k : Nat} (hk : k ≤ n) : Ints w B A k c (xs.take k) :=
  ⟨by have := h.len; simp; omega, by have := h.cap; omega, h.most, h.bare, fun j hj => by
    obtain ⟨b, off, e, hb, hc⟩ := h.at_ j (by omega)
    exact ⟨b, off, e, hb, by rw [hc]; simp [nth, List.getD, List.getElem?_take, hj]⟩⟩

theorem info3 : (Try.prog.info? 3).map (fun i => (i.zero, i.size, i.bytes)) = some (some (.int .i64 0), 1, 8) := by kernel_rfl

theorem run_app {w : World} {base B m c : Nat} {v : Value} {xs ys : List Int} {A : Option Addr} (ty : TypeId) (ho : Owned w base v xs) (hi : Ints w B A m c ys) (hl : xs.length + ys.length ≤ 1000000) (hbase : base ≤ w.heap.size) :
    ∃ v' w', (Builtin.append_ #[22, 22] ty #[v, .slice A m c]).run Try.prog w = .ok v' w' ∧ Owned w' base v' (xs ++ ys) ∧ w.grownBy w' v.ownBlock ∧ (v'.ownBlock = v.ownBlock ∨ v'.ownBlock = some w.heap.size) := by
  obtain ⟨i0, h0, hz0, hz1, hz2⟩ := info_parts info3
  have hm := hi.len
  have put : ∀ (v' : Value) (w' : World), w'.ownsRow base 3 1 v' (xs.length + m) (xs.map (Value.int .i64) ++ ys.map (Value.int .i64)) → Owned w' base v' (xs ++ ys) := by
    intro v' w' h
    unfold Owned
    rw [List.length_append, hm, List.map_append]
    exact h
  cases A with
  | none =>
    have hc := hi.bare rfl; have hcap := hi.cap
    obtain rfl : m = 0 := by omega
    obtain rfl : c = 0 := by omega
    obtain rfl : ys = [] := List.eq_nil_of_length_eq_zero hm
    exact ⟨v, w, run_append_owned_none (P := Try.prog) w base 22 ty 3 i0 1 Try.underlying22 h0 v _ _ ho, by simpa using ho, World.grownBy.refl w _, .inl rfl⟩
  | some a =>
    have hnews : ∀ j u, (ys.map (Value.int .i64))[j]? = some u → w.cell? (a.add j) = some u := by
      intro j u hu
      have hj : j < ys.length := by have := (List.getElem?_eq_some_iff.1 hu).1; simpa using this
      obtain ⟨b, off, e, _, hc⟩ := hi.at_ j (by omega)
      cases e
      rw [Addr.add_lit, hc]
      simp [nth, List.getD, hj] at hu ⊢
      exact hu
    obtain ⟨v', w', hrun, h2, h3, _, h5⟩ := run_append_own_at (P := Try.prog) w base 22 ty 3 i0 (.int .i64 0) 1 8 Try.underlying22 h0 hz0 hz1 hz2 rfl (by omega) v _ _ ho a m c (ys.map (Value.int .i64)) (by simp [hm]) hnews (ints_oneCell _ _)
      (by unfold maxLen; omega) (by omega) hbase
    exact ⟨v', w', hrun, put _ _ h2, h3, h5⟩

theorem wp_app {w : World} {o : Oper} {a : Act} {K : Act → World → Prop} {Q : Exit → Act → World → Prop} (s x : Operand)
    (hop : o.op = .call { callee := .builtin .append, args := #[s, x], argTypes := #[22, 22] })
    {base B m c : Nat} {v : Value} {xs ys : List Int} {A : Option Addr} (hs : a.eval s = v) (hx : a.eval x = .slice A m c) (ho : Owned w base v xs) (hi : Ints w B A m c ys) (hl : xs.length + ys.length ≤ 1000000) (hbase : base ≤ w.heap.size)
    (h : ∀ v' w', Owned w' base v' (xs ++ ys) → w.grownBy w' v.ownBlock → (v'.ownBlock = v.ownBlock ∨ v'.ownBlock = some w.heap.size) → K (a.put o.dst v') w') : o.wp Try.prog a w K Q := by
  obtain ⟨v', w', hrun, h2, h3, h4⟩ := run_app o.type ho hi hl hbase
  unfold Oper.wp execOp
  simp only [hop, resolve, invoke, builtin, Sem.run_bind, Sem.run_pure, Result.andThen_ok, List.map_toArray, List.map_cons, List.map_nil, hs, hx, hrun]
  exact h v' w' h2 h3 h4

theorem wpList_app {w : World} {ops : Array Oper} {rest : List Oper} {o : Oper} {a : Act} {Q : Exit → Act → World → Prop} (hg : o.guard = none) (s x : Operand)
    (hop : o.op = .call { callee := .builtin .append, args := #[s, x], argTypes := #[22, 22] })
    {base B m c : Nat} {v : Value} {xs ys : List Int} {A : Option Addr} (hs : a.eval s = v) (hx : a.eval x = .slice A m c) (ho : Owned w base v xs) (hi : Ints w B A m c ys) (hl : xs.length + ys.length ≤ 1000000) (hbase : base ≤ w.heap.size)
    (h : ∀ v' w', Owned w' base v' (xs ++ ys) → w.grownBy w' v.ownBlock → (v'.ownBlock = v.ownBlock ∨ v'.ownBlock = some w.heap.size) → wpList Try.prog ops Q rest (a.put o.dst v') w') : wpList Try.prog ops Q (o :: rest) a w :=
  wpList_plain hg fun _ hK => wp_app s x hop hs hx ho hi hl hbase fun v' w' h2 h3 h4 => hK _ _ (h v' w' h2 h3 h4)

theorem step_app {w : World} {ops : Array Oper} {o : Oper} {a : Act} {K : Act → World → Prop} {Q : Exit → Act → World → Prop} {E : Prop} (hg : o.guard = none) (s x : Operand)
    (hop : o.op = .call { callee := .builtin .append, args := #[s, x], argTypes := #[22, 22] })
    {base B m c : Nat} {v : Value} {xs ys : List Int} {A : Option Addr} (hs : a.eval s = v) (hx : a.eval x = .slice A m c) (ho : Owned w base v xs) (hi : Ints w B A m c ys) (hl : xs.length + ys.length ≤ 1000000) (hbase : base ≤ w.heap.size)
    (h : ∀ v' w', Owned w' base v' (xs ++ ys) → w.grownBy w' v.ownBlock → (v'.ownBlock = v.ownBlock ∨ v'.ownBlock = some w.heap.size) → K (a.put o.dst v') w') :
    if Region.wanted o (yielded ops a.tmps) = true then Oper.wp Try.prog o a w K Q else E := by
  have hw : Region.wanted o (yielded ops a.tmps) = true := by simp [Region.wanted, hg]
  rw [if_pos hw]
  exact wp_app s x hop hs hx ho hi hl hbase h

/-- The one number in a new block. -/
theorem ints_one (w : World) (z : Int) : Ints (w.alloc (.cells #[.int .i64 z] 3)) (w.heap.size + 1) (some ⟨w.heap.size, 0, none⟩) 1 1 [z] :=
  ⟨rfl, Nat.le_refl _, by omega, (fun e => by cases e), fun k hk => ⟨w.heap.size, 0, rfl, by omega, by
    obtain rfl : k = 0 := by omega
    rw [World.cell?_alloc_at _ _ _ _ rfl]; rfl⟩⟩

theorem owned_new (w : World) (base : Nat) (h : base ≤ w.heap.size) : Owned (w.alloc (.cells #[] 3)) base (.slice (some ⟨w.heap.size, 0, none⟩) 0 0) [] :=
  World.ownsRow_made w #[] 0 h (Nat.zero_le _) rfl

theorem Ints.alloc {w : World} {B n c : Nat} {A : Option Addr} {xs : List Int} (h : Ints w B A n c xs) (hB : B ≤ w.heap.size) (o : Obj) : Ints (w.alloc o) B A n c xs :=
  h.keep fun p hp => World.cell?_alloc_lt w o p (by omega)

set_option maxHeartbeats 400000 in
theorem clone_any (A : Option Addr) (n c : Nat) (xs : List Int) (w : World) (B : Nat) (h : Ints w B A n c xs) (hn : n ≤ 100000) (hB : B ≤ w.heap.size) :
    Calls Try.prog 59 #[.slice A n c] w fun e w' => ∃ v, e = .returned v ∧ Owned w' w.heap.size v xs ∧ Below w.heap.size w w' := by
  have hl := h.len
  have hm := h.most; have hcap := h.cap
  have hlen : ([] : List Int).length + xs.length ≤ 1000000 := by simp; omega
  have hl' := hide hl; clear hl
  have hnil := fun (W : World) (m m' q q' : Nat) (D : Option Addr) => Lib.run_eql_slice_nil (P := Try.prog) W 22 3 D m q m' q' Try.underlying22
  cases A with
  | none =>
    have hc0 := h.bare rfl
    go_enter Try.func59, Try.ntmps59
    go_wp2
    go_ret
    have hx : xs = [] := List.eq_nil_of_length_eq_zero (by have := hl'.out; omega)
    subst hx
    exact ⟨_, rfl, World.ownsRow_nil _ _ _ _, Below.refl _ _⟩
  | some a =>
    have hi := h.alloc hB (.cells #[] 3)
    go_enter Try.func59, Try.ntmps59
    go_wp2_with (at_builtin; refine wpList_app rfl _ _ rfl rfl rfl (owned_new w w.heap.size (Nat.le_refl _)) hi hlen (by simp) ?_; intro v' w' ho hg _)
    go_ret
    refine ⟨_, rfl, by simpa using ho, ?_⟩
    exact ((Below.refl w.heap.size w).alloc (Nat.le_refl _) _).grown hg (by simp) (fun k hk => by cases hk; exact Nat.le_refl _)

/-- append of one number that the statement lays into a block of its own. -/
theorem wpList_app1 {w : World} {ops : Array Oper} {rest : List Oper} {o : Oper} {a : Act} {Q : Exit → Act → World → Prop} (hg : o.guard = none) (s x : Operand)
    (hop : o.op = .call { callee := .builtin .append, args := #[s, x], argTypes := #[22, 22] })
    {base : Nat} {v : Value} {xs : List Int} {z : Int} (hs : a.eval s = v) (hx : a.eval x = .slice (some ⟨w.heap.size, 0, none⟩) 1 1) (ho : Owned w base v xs) (hl : xs.length ≤ 100000) (hbase : base ≤ w.heap.size)
    (h : ∀ v' w', Owned w' base v' (xs ++ [z]) → Below base w w' → wpList Try.prog ops Q rest (a.put o.dst v') w') : wpList Try.prog ops Q (o :: rest) a (w.alloc (.cells #[.int .i64 z] 3)) := by
  have hal := ho.below (Below.alloc (Below.refl w.heap.size w) (Nat.le_refl _) (.cells #[.int .i64 z] 3)) (Nat.le_refl _)
  refine wpList_app hg s x hop hs hx hal (ints_one w z) (by simp; omega) (by simp; omega) fun v' w' h2 h3 _ => h v' w' h2 ?_
  exact ((Below.refl base w).alloc hbase _).grown h3 (by simp; omega) (fun k hk => (World.ownsRow.lt ho k hk).1)
end Go.Proofs.Ytmgoonoifgcmnaa
