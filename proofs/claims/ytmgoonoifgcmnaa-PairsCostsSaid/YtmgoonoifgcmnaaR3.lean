/-
  Own rows that lie in young blocks.
-/
import Derived.Test.YtmgoonoifgcmnaaR1
namespace Go.Proofs.Ytmgoonoifgcmnaa
open Go.RowKit

structure But (w w' : World) (o : Option Nat) : Prop where
  size : w.heap.size ≤ w'.heap.size
  at_ : ∀ k, k < w.heap.size → some k ≠ o → w'.heap[k]? = w.heap[k]?
theorem But.refl (w : World) (o : Option Nat) : But w w o := ⟨Nat.le_refl _, fun _ _ _ => rfl⟩
theorem But.below {w w' w2 : World} {o : Option Nat} (h : But w w' o) (hb : Below w'.heap.size w' w2) : But w w2 o :=
  ⟨Nat.le_trans h.size hb.size, fun k hk hne => (hb.block k (by have := h.size; omega)).trans (h.at_ k hk hne)⟩


/-- Rows of the call's own, each in a block from base on. -/
def OwnF (w : World) (base : Nat) (v : Value) (xss : List (List Int)) : Prop :=
  ∃ vs : List Value, vs.length = xss.length ∧ w.ownsRow base 22 1 v xss.length vs ∧ ∀ k u, vs[k]? = some u → Elem w v.ownBlock u (row xss k) ∧ ∀ A n c, u = .slice A n c → ∀ b off, A = some ⟨b, off, none⟩ → base ≤ b
theorem OwnF.toR {w : World} {base : Nat} {v : Value} {xss : List (List Int)} (h : OwnF w base v xss) : OwnedR w base v xss := by
  obtain ⟨vs, hl, ho, he⟩ := h
  exact ⟨vs, hl, ho, fun k u hu => (he k u hu).1⟩
theorem ownF_nil (w : World) (base : Nat) : OwnF w base (.slice none 0 0) [] := ⟨[], rfl, World.ownsRow_nil _ _ _ _, fun k u h => by simp at h⟩
theorem OwnF.below {w w' : World} {base : Nat} {v : Value} {xss : List (List Int)} (h : OwnF w base v xss) (hb : Below w.heap.size w w') : OwnF w' base v xss := by
  obtain ⟨vs, hl, ho, he⟩ := h
  refine ⟨vs, hl, ⟨ho.1, ?_⟩, fun k u hu => ⟨?_, (he k u hu).2⟩⟩
  · rcases ho.2 with h0 | ⟨g, cap, cur, hv, hg, hh, r⟩
    · exact .inl h0
    · exact .inr ⟨g, cap, cur, hv, hg, by rw [hb.block g (Array.getElem?_eq_some_iff.1 hh).1]; exact hh, r⟩
  · obtain ⟨A', n', c', e, hi, hne⟩ := (he k u hu).1
    exact ⟨A', n', c', e, (hi.below hb).more hb.size, fun b off e => ⟨(hne b off e).1, Nat.lt_of_lt_of_le (hne b off e).2 hb.size⟩⟩
theorem OwnF.lower {w : World} {base base' : Nat} {v : Value} {xss : List (List Int)} (h : OwnF w base v xss) (hb : base' ≤ base) : OwnF w base' v xss := by
  obtain ⟨vs, hl, ho, he⟩ := h
  refine ⟨vs, hl, ⟨ho.1, ?_⟩, fun k u hu => ⟨(he k u hu).1, fun A n c e b off e2 => Nat.le_trans hb ((he k u hu).2 A n c e b off e2)⟩⟩
  rcases ho.2 with h0 | ⟨g, cap, cur, hv, hg, r⟩
  · exact .inl h0
  · exact .inr ⟨g, cap, cur, hv, by omega, r⟩
theorem OwnF.lt {w : World} {base : Nat} {v : Value} {xss : List (List Int)} (h : OwnF w base v xss) : ∀ b, v.ownBlock = some b → base ≤ b ∧ b < w.heap.size := h.toR.lt
theorem run_appF {w : World} {base : Nat} {v : Value} {xss : List (List Int)} {A' : Option Addr} {n' c' : Nat} {xs : List Int} (ty : TypeId) (ho : OwnF w base v xss) (hi : Ints w w.heap.size A' n' c' xs)
    (hne : ∀ b off, A' = some ⟨b, off, none⟩ → some b ≠ v.ownBlock ∧ b < w.heap.size) (hnb : ∀ b off, A' = some ⟨b, off, none⟩ → base ≤ b) (hl : xss.length ≤ 1000000) (hbase : base ≤ w.heap.size) :
    ∃ v' w', (Builtin.append_ #[39, 39] ty #[v, .slice (some ⟨w.heap.size, 0, none⟩) 1 1]).run Try.prog (w.alloc (.cells #[.slice A' n' c'] 22)) = .ok v' w' ∧ OwnF w' base v' (xss ++ [xs]) ∧ Below base w w' ∧ (∀ k, k < w.heap.size → some k ≠ v.ownBlock → w'.heap[k]? = w.heap[k]?) ∧ (v'.ownBlock = v.ownBlock ∨ v'.ownBlock = some (w.heap.size + 1)) := by
  obtain ⟨i0, h0, hz0, hz1, hz2⟩ := info_parts info22
  obtain ⟨vs, hvl, hown, he⟩ := ho
  have hcell : ∀ j u, ([Value.slice A' n' c'] : List Value)[j]? = some u → (w.alloc (.cells #[.slice A' n' c'] 22)).cell? ((⟨w.heap.size, 0, none⟩ : Addr).add j) = some u := by
    intro j u hu
    obtain rfl : j = 0 := by
      rcases j with _ | j
      · rfl
      · simp at hu
    simp at hu
    subst hu
    rw [show (⟨w.heap.size, 0, none⟩ : Addr).add 0 = ⟨w.heap.size, 0, none⟩ from rfl, World.cell?_alloc_at _ _ _ _ rfl]; rfl
  obtain ⟨v', w', hrun, h2, h3, _, h5⟩ := run_append_own_at (P := Try.prog) (w.alloc (.cells #[.slice A' n' c'] 22)) base 39 ty 22 i0 (.slice none 0 0) 1 24 Try.underlying39 h0 hz0 hz1 hz2 rfl (by omega) v _ _ (World.ownsRow.alloc hown _) ⟨w.heap.size, 0, none⟩ 1 1 [.slice A' n' c'] rfl hcell
    (by intro u hu; simp at hu; subst hu; rfl) (by unfold maxLen; omega) (by omega) (by simp; omega)
  have hsz : (w.alloc (.cells #[.slice A' n' c'] 22)).heap.size = w.heap.size + 1 := by simp
  have hgs := h3.size
  rw [hsz] at hgs
  have keep : ∀ (A : Option Addr) (n c : Nat) (zs : List Int), Ints w w.heap.size A n c zs → (∀ b off, A = some ⟨b, off, none⟩ → some b ≠ v.ownBlock) → Ints w' w'.heap.size A n c zs := by
    intro A n c zs hz hb
    refine ⟨hz.len, hz.cap, hz.most, hz.bare, fun k hk => ?_⟩
    obtain ⟨b, off, e, hlt, hc⟩ := hz.at_ k hk
    refine ⟨b, off, e, by omega, ?_⟩
    rw [World.cell?_of_block (h3.block b (by rw [hsz]; omega) (hb b off e)), World.cell?_alloc_lt _ _ _ (by exact hlt)]
    exact hc
  have apart : ∀ b, b < w.heap.size → some b ≠ v.ownBlock → some b ≠ v'.ownBlock := by
    intro b hb hv
    rcases h5 with e | e
    · rw [e]; exact hv
    · rw [e, hsz]; intro hx; cases hx; omega
  refine ⟨v', w', hrun, ⟨vs ++ [.slice A' n' c'], by simp [hvl], by rw [List.length_append]; exact h2, fun k u hu => ?_⟩, ?_⟩
  · rcases Nat.lt_or_ge k vs.length with hlt | hge
    · rw [List.getElem?_append_left hlt] at hu
      obtain ⟨⟨A1, n1, c1, e1, hi1, hn1⟩, hb1⟩ := he k u hu
      have hr : row (xss ++ [xs]) k = row xss k := by simp [row, List.getD, List.getElem?_append_left (show k < xss.length by omega)]
      rw [hr]
      refine ⟨⟨A1, n1, c1, e1, keep _ _ _ _ hi1 (fun b off e => (hn1 b off e).1), fun b off e => ⟨apart b (hn1 b off e).2 (hn1 b off e).1, by have := (hn1 b off e).2; omega⟩⟩, hb1⟩
    · have hk : k = vs.length := by
        have := (List.getElem?_eq_some_iff.1 hu).1
        simp at this
        omega
      subst hk
      simp at hu
      subst hu
      have hr : row (xss ++ [xs]) vs.length = xs := by simp [row, List.getD, hvl]
      rw [hr]
      exact ⟨⟨A', n', c', rfl, keep _ _ _ _ hi (fun b off e => (hne b off e).1), fun b off e => ⟨apart b (hne b off e).2 (hne b off e).1, by have := (hne b off e).2; omega⟩⟩, fun A2 n2 c2 e b off e2 => by cases e; exact hnb b off e2⟩
  · exact ⟨((Below.refl base w).alloc hbase _).grown h3 (by rw [hsz]; omega) (fun k hk => (World.ownsRow.lt hown k hk).1), fun k hk hne => (h3.block k (by rw [hsz]; omega) hne).trans (Below.heap_alloc _ _ _ hk), by rw [hsz] at h5; exact h5⟩
theorem wpList_appF {w : World} {ops : Array Oper} {rest : List Oper} {o : Oper} {a : Act} {Q : Exit → Act → World → Prop} (hg : o.guard = none) (s x : Operand)
    (hop : o.op = .call { callee := .builtin .append, args := #[s, x], argTypes := #[39, 39] })
    {base n' c' : Nat} {v : Value} {xss : List (List Int)} {xs : List Int} {A' : Option Addr} (hs : a.eval s = v) (hx : a.eval x = .slice (some ⟨w.heap.size, 0, none⟩) 1 1) (ho : OwnF w base v xss) (hi : Ints w w.heap.size A' n' c' xs)
    (hne : ∀ b off, A' = some ⟨b, off, none⟩ → some b ≠ v.ownBlock ∧ b < w.heap.size) (hnb : ∀ b off, A' = some ⟨b, off, none⟩ → base ≤ b) (hl : xss.length ≤ 1000000) (hbase : base ≤ w.heap.size)
    (h : ∀ v' w', OwnF w' base v' (xss ++ [xs]) → Below base w w' → (∀ k, k < w.heap.size → some k ≠ v.ownBlock → w'.heap[k]? = w.heap[k]?) → (v'.ownBlock = v.ownBlock ∨ v'.ownBlock = some (w.heap.size + 1)) → wpList Try.prog ops Q rest (a.put o.dst v') w') : wpList Try.prog ops Q (o :: rest) a (w.alloc (.cells #[.slice A' n' c'] 22)) :=
  wpList_plain hg fun K hK => by
    obtain ⟨v', w', hrun, h2, h3, h4, h5⟩ := run_appF o.type ho hi hne hnb hl hbase
    unfold Oper.wp execOp
    simp only [hop, resolve, invoke, builtin, Sem.run_bind, Sem.run_pure, Result.andThen_ok, List.map_toArray, List.map_cons, List.map_nil, hs, hx, hrun]
    exact hK _ _ (h v' w' h2 h3 h4 h5)
/-- Own rows read as long as all blocks but one older one stay. -/
theorem OwnF.but {w w' : World} {base : Nat} {v : Value} {xss : List (List Int)} {o : Option Nat} (h : OwnF w base v xss) (hb : But w w' o) (ho : ∀ b, o = some b → b < base) : OwnF w' base v xss := by
  obtain ⟨vs, hl, hw, he⟩ := h
  have nb : ∀ b, base ≤ b → some b ≠ o := fun b h1 e => by have := ho b e.symm; omega
  refine ⟨vs, hl, ⟨hw.1, ?_⟩, fun k u hu => ⟨?_, (he k u hu).2⟩⟩
  · rcases hw.2 with h0 | ⟨g, cap, cur, hv, hg, hh, r⟩
    · exact .inl h0
    · exact .inr ⟨g, cap, cur, hv, hg, by rw [hb.at_ g (Array.getElem?_eq_some_iff.1 hh).1 (nb g hg)]; exact hh, r⟩
  · obtain ⟨⟨A', n', c', e, hi, hne⟩, hbase⟩ := he k u hu
    refine ⟨A', n', c', e, ⟨hi.len, hi.cap, hi.most, hi.bare, fun j hj => ?_⟩, fun b off e => ⟨(hne b off e).1, Nat.lt_of_lt_of_le (hne b off e).2 hb.size⟩⟩
    obtain ⟨b, off, e2, hlt, hc⟩ := hi.at_ j hj
    exact ⟨b, off, e2, Nat.lt_of_lt_of_le hlt hb.size, by rw [World.cell?_of_block (hb.at_ b hlt (nb b (hbase A' n' c' e b off e2)))]; exact hc⟩

theorem step_appF {w : World} {ops : Array Oper} {o : Oper} {a : Act} {K : Act → World → Prop} {Q : Exit → Act → World → Prop} {E : Prop} (hg : o.guard = none) (s x : Operand)
    (hop : o.op = .call { callee := .builtin .append, args := #[s, x], argTypes := #[39, 39] })
    {base n' c' : Nat} {v : Value} {xss : List (List Int)} {xs : List Int} {A' : Option Addr} (hs : a.eval s = v) (hx : a.eval x = .slice (some ⟨w.heap.size, 0, none⟩) 1 1) (ho : OwnF w base v xss) (hi : Ints w w.heap.size A' n' c' xs)
    (hne : ∀ b off, A' = some ⟨b, off, none⟩ → some b ≠ v.ownBlock ∧ b < w.heap.size) (hnb : ∀ b off, A' = some ⟨b, off, none⟩ → base ≤ b) (hl : xss.length ≤ 1000000) (hbase : base ≤ w.heap.size)
    (h : ∀ v' w', OwnF w' base v' (xss ++ [xs]) → Below base w w' → K (a.put o.dst v') w') :
    if Region.wanted o (yielded ops a.tmps) = true then Oper.wp Try.prog o a (w.alloc (.cells #[.slice A' n' c'] 22)) K Q else E := by
  have hw : Region.wanted o (yielded ops a.tmps) = true := by simp [Region.wanted, hg]
  rw [if_pos hw]
  obtain ⟨v', w', hrun, h2, h3, _⟩ := run_appF o.type ho hi hne hnb hl hbase
  unfold Oper.wp execOp
  simp only [hop, resolve, invoke, builtin, Sem.run_bind, Sem.run_pure, Result.andThen_ok, List.map_toArray, List.map_cons, List.map_nil, hs, hx, hrun]
  exact h _ _ h2 h3
/-- A store into one older cell. -/
theorem But.set (w : World) (g o : Nat) (u : Value) : But w (w.setCell ⟨g, o, none⟩ u) (some g) :=
  ⟨by simp, fun k _ hne => heap_setCell_other w ⟨g, o, none⟩ k u (fun e => hne (by rw [e]))⟩
theorem OwnF.set {w : World} {base g o : Nat} {v : Value} {xss : List (List Int)} (h : OwnF w base v xss) (hg : g < base) (u : Value) : OwnF (w.setCell ⟨g, o, none⟩ u) base v xss :=
  h.but (But.set w g o u) (fun b e => by cases e; exact hg)
theorem OwnF.drewN {w : World} {base : Nat} {v : Value} {xss : List (List Int)} (h : OwnF w base v xss) (q : Nat) : OwnF (w.drewN q) base v xss := h.below (Below.drewN' (Below.refl _ _) q)
theorem OwnF.to {w : World} {base : Nat} {v : Value} {xss : List (List Int)} (h : OwnF w base v xss) : ∃ A n c, v = .slice A n c ∧ Rows_ w w.heap.size A n c xss := h.toR.to
theorem Rows_.on {w w' : World} {n c : Nat} {A : Option Addr} {xss : List (List Int)} (h : Rows_ w w.heap.size A n c xss) (hb : Below w.heap.size w w') : Rows_ w' w'.heap.size A n c xss := (h.below hb).more hb.size
theorem Owned.elemF {w : World} {base base0 : Nat} {A : Option Addr} {n c : Nat} {xs : List Int} (h : Owned w base (.slice A n c) xs) {g : Option Nat} (hg : ∀ b, g = some b → b < base) (hb : base0 ≤ base) :
    (∀ b off, A = some ⟨b, off, none⟩ → some b ≠ g ∧ b < w.heap.size) ∧ ∀ b off, A = some ⟨b, off, none⟩ → base0 ≤ b :=
  ⟨h.elem hg, fun b off e => by subst e; have := World.ownsRow.lt h b rfl; omega⟩
theorem cell_two {w : World} {b : Nat} {x y : Value} {t : TypeId} (h : Blk w b t #[x, y]) : w.cell? ⟨b, 0, none⟩ = some x ∧ w.cell? ⟨b, 1, none⟩ = some y ∧ w.frozen? ⟨b, 0, none⟩ = false ∧ w.frozen? ⟨b, 1, none⟩ = false :=
  ⟨h.cell 0, h.cell 1, h.frozen 0, h.frozen 1⟩
end Go.Proofs.Ytmgoonoifgcmnaa
