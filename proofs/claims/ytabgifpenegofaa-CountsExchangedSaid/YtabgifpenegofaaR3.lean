/-
  A slice of slices of numbers, all of the call's own, that may be written to.
-/
import Derived.Test.YtabgifpenegofaaW9
namespace Go.Proofs.Ytabgifpenegofaa
open Go.RowKit

/-- A slice of n slices of the call's own; each of its rows, too, in a block of its own. -/
structure OwnT (w : World) (base : Nat) (v : Value) (n : Nat) (V : Nat → Value) (X : Nat → List Int) : Prop where
  own : w.ownsRow base 23 1 v n ((List.range n).map V)
  rows : ∀ r, r < n → Owned w base (V r) (X r)
  sep : ∀ r, r < n → ∀ g, (V r).ownBlock = some g → v.ownBlock ≠ some g
  inj : ∀ r s, r < n → s < n → r ≠ s → ∀ g, (V r).ownBlock = some g → (V s).ownBlock ≠ some g

theorem ownT_nil (w : World) (base : Nat) (V : Nat → Value) (X : Nat → List Int) : OwnT w base (.slice none 0 0) 0 V X :=
  ⟨World.ownsRow_nil _ _ _ _, fun r h => absurd h (by omega), fun r h => absurd h (by omega), fun r s h => absurd h (by omega)⟩
theorem ownsRow_of_block {w w' : World} {base : Nat} {e : TypeId} {size : Nat} {v : Value} {n : Nat} {cs : List Value} (h : w.ownsRow base e size v n cs) (hb : ∀ g, v.ownBlock = some g → w'.heap[g]? = w.heap[g]?) : w'.ownsRow base e size v n cs := by
  refine ⟨h.1, ?_⟩
  rcases h.2 with h0 | ⟨g, cap, cur, hv, hg, hh, r⟩
  · exact .inl h0
  · exact .inr ⟨g, cap, cur, hv, hg, by rw [hb g (by rw [hv]; rfl)]; exact hh, r⟩
theorem Owned.of_block {w w' : World} {base : Nat} {v : Value} {xs : List Int} (h : Owned w base v xs) (hb : ∀ g, v.ownBlock = some g → w'.heap[g]? = w.heap[g]?) : Owned w' base v xs := ownsRow_of_block h hb
theorem Owned.blk_lt {w : World} {base : Nat} {v : Value} {xs : List Int} (h : Owned w base v xs) : ∀ g, v.ownBlock = some g → base ≤ g ∧ g < w.heap.size := fun g hg => World.ownsRow.lt h g hg
theorem OwnT.below {w w' : World} {base n : Nat} {v : Value} {V : Nat → Value} {X : Nat → List Int} (h : OwnT w base v n V X) (hb : Below w.heap.size w w') : OwnT w' base v n V X :=
  ⟨ownsRow_of_block h.own fun g hg => hb.block g (World.ownsRow.lt h.own g hg).2, fun r hr => (h.rows r hr).below hb (Nat.le_refl _), h.sep, h.inj⟩
theorem OwnT.drewN {w : World} {base n : Nat} {v : Value} {V : Nat → Value} {X : Nat → List Int} (h : OwnT w base v n V X) (q : Nat) : OwnT (w.drewN q) base v n V X := ⟨h.own, h.rows, h.sep, h.inj⟩

theorem OwnT.ownedR {w : World} {base n : Nat} {v : Value} {V : Nat → Value} {X : Nat → List Int} (h : OwnT w base v n V X) : OwnedR w base v ((List.range n).map X) := by
  refine ⟨(List.range n).map V, by simp, by simpa using h.own, fun k u hu => ?_⟩
  have hk : k < n := by have := (List.getElem?_eq_some_iff.1 hu).1; simpa using this
  obtain rfl : V k = u := by simpa [hk] using hu
  obtain ⟨A, c, e, hi⟩ := (h.rows k hk).ints
  refine ⟨A, _, c, e, ?_, fun b off eb => ?_⟩
  · rw [show row ((List.range n).map X) k = X k from by simp [row, List.getD, hk]]; exact hi
  · have hob : (V k).ownBlock = some b := by rw [e, eb]; rfl
    exact ⟨fun e2 => h.sep k hk b hob e2.symm, ((h.rows k hk).blk_lt b hob).2⟩
theorem OwnT.to {w : World} {base n : Nat} {v : Value} {V : Nat → Value} {X : Nat → List Int} (h : OwnT w base v n V X) : ∃ A c, v = .slice A n c ∧ Rows_ w w.heap.size A n c ((List.range n).map X) := by
  obtain ⟨A, c, e, hr⟩ := h.ownedR.rows
  rw [List.length_map, List.length_range] at e hr
  exact ⟨A, c, e, hr⟩

/-- append of one row that is the call's own. -/
theorem run_appT {w : World} {base n : Nat} {v : Value} {V : Nat → Value} {X : Nat → List Int} {u : Value} (ty : TypeId) (ho : OwnT w base v n V X) (hu : Owned w base u (X n)) (hne : ∀ g, u.ownBlock = some g → v.ownBlock ≠ some g ∧ ∀ r, r < n → (V r).ownBlock ≠ some g)
    (hl : n ≤ 1000000) (hbase : base ≤ w.heap.size) (hone : u.oneCell' = true) :
    ∃ v' w', (Builtin.append_ #[22, 22] ty #[v, .slice (some ⟨w.heap.size, 0, none⟩) 1 1]).run Try.prog (w.alloc (.cells #[u] 23)) = .ok v' w' ∧ OwnT w' base v' (n + 1) (fun r => if r = n then u else V r) X ∧ Below base w w' := by
  obtain ⟨i0, h0, hz0, hz1, hz2⟩ := info_parts info23
  have hcell : ∀ j x, ([u] : List Value)[j]? = some x → (w.alloc (.cells #[u] 23)).cell? ((⟨w.heap.size, 0, none⟩ : Addr).add j) = some x := by
    intro j x hx
    obtain rfl : j = 0 := by
      rcases j with _ | j
      · rfl
      · simp at hx
    simp at hx
    subst hx
    rw [show (⟨w.heap.size, 0, none⟩ : Addr).add 0 = ⟨w.heap.size, 0, none⟩ from rfl, World.cell?_alloc_at _ _ _ _ rfl]; rfl
  obtain ⟨v', w', hrun, h2, h3, _, h5⟩ := run_append_own_at (P := Try.prog) (w.alloc (.cells #[u] 23)) base 22 ty 23 i0 (.slice none 0 0) 1 24 Try.underlying22 h0 hz0 hz1 hz2 rfl (by omega) v _ _ (World.ownsRow.alloc ho.own _) ⟨w.heap.size, 0, none⟩ 1 1 [u] rfl hcell
    (by intro x hx; simp at hx; subst hx; exact hone) (by unfold maxLen; omega) (by omega) (by simp; omega)
  have hsz : (w.alloc (.cells #[u] 23)).heap.size = w.heap.size + 1 := by simp
  have same : ∀ g, g < w.heap.size → v.ownBlock ≠ some g → w'.heap[g]? = w.heap[g]? := fun g hg hv => by
    rw [h3.block g (by rw [hsz]; omega) (fun e => hv e.symm)]
    exact Below.heap_alloc w _ g hg
  have fresh : ∀ g, g < w.heap.size → v.ownBlock ≠ some g → v'.ownBlock ≠ some g := fun g hg hv => by
    rcases h5 with e | e
    · rw [e]; exact hv
    · rw [e, hsz]; intro hx; cases hx; omega
  have key : ∀ r, r < n + 1 → Owned w base (if r = n then u else V r) (X r) ∧ ∀ g, (if r = n then u else V r).ownBlock = some g → v.ownBlock ≠ some g := by
    intro r hr
    by_cases e : r = n
    · rw [if_pos e, e]; exact ⟨hu, fun g hg => (hne g hg).1⟩
    · rw [if_neg e]; exact ⟨ho.rows r (by omega), fun g hg => ho.sep r (by omega) g hg⟩
  refine ⟨v', w', hrun, ⟨?_, fun r hr => ?_, fun r hr g hg => ?_, fun r s hr hs hrs g hg => ?_⟩, ?_⟩
  · have e : (List.range (n + 1)).map (fun r => if r = n then u else V r) = (List.range n).map V ++ [u] := by
      have e1 : (List.range n).map (fun r => if r = n then u else V r) = (List.range n).map V := by
        apply List.map_congr_left
        intro r hr
        have := List.mem_range.1 hr
        rw [if_neg (by omega)]
      rw [List.range_succ, List.map_append, e1]
      simp
    rw [e]
    exact h2
  · exact (key r hr).1.of_block fun g hg => same g ((key r hr).1.blk_lt g hg).2 ((key r hr).2 g hg)
  · exact fresh g ((key r hr).1.blk_lt g hg).2 ((key r hr).2 g hg)
  · by_cases e1 : r = n
    · simp only [e1, if_true] at hg
      simp only [show s ≠ n by omega, if_false]
      exact (hne g hg).2 s (by omega)
    · simp only [e1, if_false] at hg
      by_cases e2 : s = n
      · simp only [e2, if_true]
        intro e3
        exact (hne g e3).2 r (by omega) hg
      · simp only [e2, if_false]
        exact ho.inj r s (by omega) (by omega) hrs g hg
  · exact ((Below.refl base w).alloc hbase _).grown h3 (by rw [hsz]; omega) (fun k hk => (World.ownsRow.lt ho.own k hk).1)

theorem wpList_appT {w : World} {ops : Array Oper} {rest : List Oper} {o : Oper} {a : Act} {Q : Exit → Act → World → Prop} (hg : o.guard = none) (s x : Operand)
    (hop : o.op = .call { callee := .builtin .append, args := #[s, x], argTypes := #[22, 22] })
    {base n : Nat} {v : Value} {V : Nat → Value} {X : Nat → List Int} {u : Value} (hs : a.eval s = v) (hx : a.eval x = .slice (some ⟨w.heap.size, 0, none⟩) 1 1) (ho : OwnT w base v n V X) (hu : Owned w base u (X n))
    (hne : ∀ g, u.ownBlock = some g → v.ownBlock ≠ some g ∧ ∀ r, r < n → (V r).ownBlock ≠ some g) (hl : n ≤ 1000000) (hbase : base ≤ w.heap.size) (hone : u.oneCell' = true)
    (h : ∀ v' w', OwnT w' base v' (n + 1) (fun r => if r = n then u else V r) X → Below base w w' → wpList Try.prog ops Q rest (a.put o.dst v') w') : wpList Try.prog ops Q (o :: rest) a (w.alloc (.cells #[u] 23)) :=
  wpList_plain hg fun K hK => by
    obtain ⟨v', w', hrun, h2, h3⟩ := run_appT o.type ho hu hne hl hbase hone
    unfold Oper.wp execOp
    simp only [hop, resolve, invoke, builtin, Sem.run_bind, Sem.run_pure, Result.andThen_ok, List.map_toArray, List.map_cons, List.map_nil, hs, hx, hrun]
    exact hK _ _ (h v' w' h2 h3)

/-- Where a number lies. -/
theorem OwnT.at_ {w : World} {base n : Nat} {v : Value} {V : Nat → Value} {X : Nat → List Int} (h : OwnT w base v n V X) {i j : Nat} (hi : i < n) (hj : j < (X i).length) :
    ∃ go c gi ci, v = .slice (some ⟨go, 0, none⟩) n c ∧ V i = .slice (some ⟨gi, 0, none⟩) (X i).length ci ∧ n ≤ c ∧ (X i).length ≤ ci ∧ base ≤ gi ∧ w.cell? ⟨go, i, none⟩ = some (V i) ∧ w.cell? ⟨gi, j, none⟩ = some (.int .i64 (nth (X i) j)) ∧ w.frozen? ⟨gi, j, none⟩ = false := by
  have hrow := h.rows i hi
  have ho := h.own
  rcases ho.2 with ⟨_, h0⟩ | ⟨go, cap, cur, hv, hg, hh, hn, hc, _, _⟩
  · omega
  · have hr0 := hrow
    rcases hrow.2 with ⟨_, h0⟩ | ⟨gi, cap', cur', hv', hg', hh', hn', hc', _, _⟩
    · omega
    · refine ⟨go, cap, gi, cap', hv, hv', hn, hn', hg', ?_, ?_, ?_⟩
      · subst hv
        rw [ho.cellAt i (by simpa using hi)]
        simp [hi]
      · rw [hv'] at hr0
        rw [World.ownsRow.cellAt hr0 j (by simpa using hj)]
        simp [nth, List.getD, hj]
      · exact frozen_of_row w gi j cur' 3 hh'
theorem Owned.open_ {w : World} {base : Nat} {A : Option Addr} {n c : Nat} {xs : List Int} (h : Owned w base (.slice A n c) xs) (hp : 0 < n) :
    ∃ g, A = some ⟨g, 0, none⟩ ∧ base ≤ g ∧ g < w.heap.size ∧ xs.length = n ∧ n ≤ c ∧ c ≤ 9223372036854775807 ∧ ∀ p, p < n → w.cell? ⟨g, p, none⟩ = some (.int .i64 (nth xs p)) ∧ w.frozen? ⟨g, p, none⟩ = false ∧
      ∀ z, Owned (w.setCell ⟨g, p, none⟩ (.int .i64 z)) base (.slice (some ⟨g, 0, none⟩) n c) (xs.set p z) := by
  rcases h.2 with ⟨hv, _⟩ | ⟨g, cap, cur, hv, hg, hh, hn, hc, hs, ht⟩
  · cases hv; omega
  · simp only [Value.slice.injEq] at hv
    obtain ⟨rfl, rfl, rfl⟩ := hv
    refine ⟨g, rfl, hg, (Array.getElem?_eq_some_iff.1 hh).1, rfl, hn, by unfold maxLen at hc; omega, fun p hpn => ⟨?_, frozen_of_row w g p cur 3 hh, fun z => ?_⟩⟩
    · rw [h.cellAt p (by omega)]
      simp [nth, List.getD, hpn]
    · refine ⟨by simp, .inr ⟨g, c, cur.setIfInBounds p (.int .i64 z), by simp, hg, heap_setCell_same w g p cur 3 _ hh, by simpa using hn, hc, by simpa using hs, ?_⟩⟩
      simp only [Nat.mul_one] at ht ⊢
      simp only [List.length_set, Array.toList_setIfInBounds, List.map_set]
      rw [List.take_set, ht]

theorem OwnT.put {w : World} {base n : Nat} {v : Value} {V : Nat → Value} {X : Nat → List Int} (h : OwnT w base v n V X) {i j gi ci : Nat} (hi : i < n) (hj : j < (X i).length) (hV : V i = .slice (some ⟨gi, 0, none⟩) (X i).length ci) (y : Int) (X' : Nat → List Int) (hX : X' i = (X i).set j y) (hO : ∀ r, r ≠ i → X' r = X r) :
    OwnT (w.setCell ⟨gi, j, none⟩ (.int .i64 y)) base v n V X' := by
  have hob : (V i).ownBlock = some gi := by rw [hV]; rfl
  refine ⟨ownsRow_of_block h.own fun g hg => heap_setCell_other w ⟨gi, j, none⟩ g _ (fun e => h.sep i hi gi hob (by rw [hg, e])), fun r hr => ?_, h.sep, h.inj⟩
  by_cases e : r = i
  · subst e
    have hr1 := h.rows r hr
    rw [hV] at hr1
    obtain ⟨g, e2, _, _, _, _, _, hp⟩ := hr1.open_ (by omega)
    cases e2
    rw [hV, hX]
    have := (hp j hj).2.2 y
    exact this
  · rw [hO r e]
    exact (h.rows r hr).of_block fun g hg => heap_setCell_other w ⟨gi, j, none⟩ g _ (fun e2 => h.inj i r hi hr (fun e3 => e e3.symm) gi hob (by rw [hg, e2]))
end Go.Proofs.Ytabgifpenegofaa
