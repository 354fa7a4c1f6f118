import Derived.Test.YtmpdalcdkibgpaaR3
/-
  Slices of slices of numbers, the blocks' numbers bounded from below, too.
-/
namespace Go.Proofs.Ytmpdalcdkibgpaa
open Go.RowKit Go.Sort

/-- The cell v holds a slice of the numbers xs, in another block than g. -/
def ElemF (w : World) (base : Nat) (g : Option Nat) (v : Value) (xs : List Int) : Prop := ∃ A n c, v = .slice A n c ∧ Ints w w.heap.size A n c xs ∧ ∀ b off, A = some ⟨b, off, none⟩ → some b ≠ g ∧ b < w.heap.size ∧ base ≤ b

/-- A slice of slices of the call's own. -/
def OwnedF (w : World) (base : Nat) (v : Value) (xss : List (List Int)) : Prop :=
  ∃ vs : List Value, vs.length = xss.length ∧ w.ownsRow base 22 1 v xss.length vs ∧ ∀ k u, vs[k]? = some u → ElemF w base v.ownBlock u (row xss k)

theorem ownedF_nil (w : World) (base : Nat) : OwnedF w base (.slice none 0 0) [] := ⟨[], rfl, World.ownsRow_nil _ _ _ _, fun k u h => by simp at h⟩

theorem OwnedF.rows {w : World} {base : Nat} {v : Value} {xss : List (List Int)} (h : OwnedF w base v xss) : ∃ A c, v = .slice A xss.length c ∧ Rows_ w w.heap.size A xss.length c xss := by
  obtain ⟨vs, hl, ho, he⟩ := h
  have ho0 := ho
  rcases ho.2 with ⟨rfl, h0⟩ | ⟨g, cap, cur, rfl, _, hh, hn, hc, _, _⟩
  · have hx : xss = [] := List.eq_nil_of_length_eq_zero h0
    subst hx
    exact ⟨none, 0, rfl, ⟨rfl, Nat.le_refl _, by omega, (fun _ => rfl), fun k hk => absurd hk (by simp)⟩⟩
  · refine ⟨_, _, rfl, ⟨rfl, hn, by unfold maxLen at hc; omega, (fun e => by cases e), fun k hk => ?_⟩⟩
    have hk' : k < vs.length := by omega
    obtain ⟨A', n', c', e, hi, _⟩ := he k vs[k] (List.getElem?_eq_getElem hk')
    refine ⟨g, 0, A', n', c', rfl, (Array.getElem?_eq_some_iff.1 hh).1, ?_, hi⟩
    rw [Nat.zero_add, ho0.cellAt k (by omega), List.getElem?_eq_getElem hk', e]
theorem OwnedF.to {w : World} {base : Nat} {v : Value} {xss : List (List Int)} (h : OwnedF w base v xss) : ∃ A n c, v = .slice A n c ∧ Rows_ w w.heap.size A n c xss := by
  obtain ⟨A, c, e, hr⟩ := h.rows
  exact ⟨A, _, c, e, hr⟩

theorem Ints.block_ltF {w : World} {B n c b off : Nat} {xs : List Int} (h : Ints w B (some ⟨b, off, none⟩) n c xs) (hn : 0 < n) : b < B := by
  obtain ⟨b', off', e, hb, _⟩ := h.at_ 0 hn
  cases e
  exact hb

theorem OwnedF.below {w w' : World} {base : Nat} {v : Value} {xss : List (List Int)} (h : OwnedF w base v xss) (hb : Below w.heap.size w w') : OwnedF w' base v xss := by
  obtain ⟨vs, hl, ho, he⟩ := h
  refine ⟨vs, hl, ⟨ho.1, ?_⟩, fun k u hu => ?_⟩
  · rcases ho.2 with h0 | ⟨g, cap, cur, hv, hg, hh, r⟩
    · exact .inl h0
    · exact .inr ⟨g, cap, cur, hv, hg, by rw [hb.block g (Array.getElem?_eq_some_iff.1 hh).1]; exact hh, r⟩
  · obtain ⟨A', n', c', e, hi, hne⟩ := he k u hu
    exact ⟨A', n', c', e, (hi.below hb).more hb.size, fun b off e => ⟨(hne b off e).1, Nat.lt_of_lt_of_le (hne b off e).2.1 hb.size, (hne b off e).2.2⟩⟩
/-- append of one slice of numbers (it lies in a block of its own) onto a slice of slices of the call's own. -/
theorem run_appF {w : World} {base : Nat} {v : Value} {xss : List (List Int)} {A' : Option Addr} {n' c' : Nat} {xs : List Int} (ty : TypeId) (ho : OwnedF w base v xss) (hi : Ints w w.heap.size A' n' c' xs)
    (hne : ∀ b off, A' = some ⟨b, off, none⟩ → some b ≠ v.ownBlock ∧ b < w.heap.size ∧ base ≤ b) (hl : xss.length ≤ 1000000) (hbase : base ≤ w.heap.size) :
    ∃ v' w', (Builtin.append_ #[47, 47] ty #[v, .slice (some ⟨w.heap.size, 0, none⟩) 1 1]).run Try.prog (w.alloc (.cells #[.slice A' n' c'] 22)) = .ok v' w' ∧ OwnedF w' base v' (xss ++ [xs]) ∧ w.grownBy w' v.ownBlock ∧ (v'.ownBlock = v.ownBlock ∨ v'.ownBlock = some (w.heap.size + 1)) := by
  obtain ⟨i0, h0, hz0, hz1, hz2⟩ := info_parts info22
  obtain ⟨vs, hvl, hown, he⟩ := ho
  have hcell : ∀ j u, ([Value.slice A' n' c'] : List Value)[j]? = some u → (w.alloc (.cells #[.slice A' n' c'] 22)).cell? ((⟨w.heap.size, 0, none⟩ : Addr).add j) = some u := by
    intro j u hu
    obtain rfl : j = 0 := by
      rcases j with _ | j
      · rfl
      · simp at hu
    simp at hu
    subst hu
    rw [show (⟨w.heap.size, 0, none⟩ : Addr).add 0 = ⟨w.heap.size, 0, none⟩ from rfl, World.cell?_alloc_at _ _ _ _ rfl]; rfl
  obtain ⟨v', w', hrun, h2, h3, _, h5⟩ := run_append_own_at (P := Try.prog) (w.alloc (.cells #[.slice A' n' c'] 22)) base 47 ty 22 i0 (.slice none 0 0) 1 24 Try.underlying47 h0 hz0 hz1 hz2 rfl (by omega) v _ _ (World.ownsRow.alloc hown _) ⟨w.heap.size, 0, none⟩ 1 1 [.slice A' n' c'] rfl hcell
    (by intro u hu; simp at hu; subst hu; rfl) (by unfold maxLen; omega) (by omega) (by simp; omega)
  have hsz : (w.alloc (.cells #[.slice A' n' c'] 22)).heap.size = w.heap.size + 1 := by simp
  have hgs := h3.size
  rw [hsz] at hgs
  have keep : ∀ (A : Option Addr) (n c : Nat) (zs : List Int), Ints w w.heap.size A n c zs → (∀ b off, A = some ⟨b, off, none⟩ → some b ≠ v.ownBlock) → Ints w' w'.heap.size A n c zs := by
    intro A n c zs hz hb
    refine ⟨hz.len, hz.cap, hz.most, hz.bare, fun k hk => ?_⟩
    obtain ⟨b, off, e, hlt, hc⟩ := hz.at_ k hk
    refine ⟨b, off, e, by omega, ?_⟩
    rw [World.cell?_of_block (h3.block b (by rw [hsz]; omega) (hb b off e)), World.cell?_alloc_lt _ _ _ (by exact hlt)]
    exact hc
  have apart : ∀ b, b < w.heap.size → some b ≠ v.ownBlock → some b ≠ v'.ownBlock := by
    intro b hb hv
    rcases h5 with e | e
    · rw [e]; exact hv
    · rw [e, hsz]; intro hx; cases hx; omega
  refine ⟨v', w', hrun, ⟨vs ++ [.slice A' n' c'], by simp [hvl], by rw [List.length_append]; exact h2, fun k u hu => ?_⟩, ?_⟩
  · rcases Nat.lt_or_ge k vs.length with hlt | hge
    · rw [List.getElem?_append_left hlt] at hu
      obtain ⟨A1, n1, c1, e1, hi1, hn1⟩ := he k u hu
      have hr : row (xss ++ [xs]) k = row xss k := by simp [row, List.getD, List.getElem?_append_left (show k < xss.length by omega)]
      rw [hr]
      refine ⟨A1, n1, c1, e1, keep _ _ _ _ hi1 (fun b off e => (hn1 b off e).1), fun b off e => ⟨apart b (hn1 b off e).2.1 (hn1 b off e).1, by have := (hn1 b off e).2.1; omega, (hn1 b off e).2.2⟩⟩
    · have hk : k = vs.length := by
        have := (List.getElem?_eq_some_iff.1 hu).1
        simp at this
        omega
      subst hk
      simp at hu
      subst hu
      have hr : row (xss ++ [xs]) vs.length = xs := by simp [row, List.getD, hvl]
      rw [hr]
      exact ⟨A', n', c', rfl, keep _ _ _ _ hi (fun b off e => (hne b off e).1), fun b off e => ⟨apart b (hne b off e).2.1 (hne b off e).1, by have := (hne b off e).2.1; omega, (hne b off e).2.2⟩⟩
  · exact ⟨⟨h3.os, h3.tape, h3.output, by omega, fun k hk hne => (h3.block k (by rw [hsz]; omega) hne).trans (Below.heap_alloc _ _ _ hk)⟩, by rw [hsz] at h5; exact h5⟩

theorem wpList_appF {w : World} {ops : Array Oper} {rest : List Oper} {o : Oper} {a : Act} {Q : Exit → Act → World → Prop} (hg : o.guard = none) (s x : Operand)
    (hop : o.op = .call { callee := .builtin .append, args := #[s, x], argTypes := #[47, 47] })
    {base n' c' : Nat} {v : Value} {xss : List (List Int)} {xs : List Int} {A' : Option Addr} (hs : a.eval s = v) (hx : a.eval x = .slice (some ⟨w.heap.size, 0, none⟩) 1 1) (ho : OwnedF w base v xss) (hi : Ints w w.heap.size A' n' c' xs)
    (hne : ∀ b off, A' = some ⟨b, off, none⟩ → some b ≠ v.ownBlock ∧ b < w.heap.size ∧ base ≤ b) (hl : xss.length ≤ 1000000) (hbase : base ≤ w.heap.size)
    (h : ∀ v' w', OwnedF w' base v' (xss ++ [xs]) → w.grownBy w' v.ownBlock → (v'.ownBlock = v.ownBlock ∨ v'.ownBlock = some (w.heap.size + 1)) → wpList Try.prog ops Q rest (a.put o.dst v') w') : wpList Try.prog ops Q (o :: rest) a (w.alloc (.cells #[.slice A' n' c'] 22)) :=
  wpList_plain hg fun K hK => by
    obtain ⟨v', w', hrun, h2, h3, h4⟩ := run_appF o.type ho hi hne hl hbase
    unfold Oper.wp execOp
    simp only [hop, resolve, invoke, builtin, Sem.run_bind, Sem.run_pure, Result.andThen_ok, List.map_toArray, List.map_cons, List.map_nil, hs, hx, hrun]
    exact hK _ _ (h v' w' h2 h3 h4)

theorem OwnedF.lt {w : World} {base : Nat} {v : Value} {xss : List (List Int)} (h : OwnedF w base v xss) : ∀ b, v.ownBlock = some b → base ≤ b ∧ b < w.heap.size := by
  obtain ⟨vs, _, ho, _⟩ := h
  exact World.ownsRow.lt ho

/-- Rows that lie in the blocks from lo on, below B. -/
structure RowsF (w : World) (lo B : Nat) (A : Option Addr) (n c : Nat) (xss : List (List Int)) : Prop where
  rows : Rows_ w B A n c xss
  low : ∀ b off, A = some ⟨b, off, none⟩ → 0 < n → lo ≤ b
  lows : ∀ b off k A' n' c', A = some ⟨b, off, none⟩ → k < n → w.cell? ⟨b, off + k, none⟩ = some (.slice A' n' c') → ∀ b' o', A' = some ⟨b', o', none⟩ → lo ≤ b'
theorem OwnedF.rowsF {w : World} {base : Nat} {v : Value} {xss : List (List Int)} (h : OwnedF w base v xss) : ∃ A n c, v = .slice A n c ∧ RowsF w base w.heap.size A n c xss := by
  obtain ⟨A, n, c, rfl, hr⟩ := h.to
  refine ⟨A, n, c, rfl, hr, fun b off e hn => (h.lt b (by subst e; rfl)).1, fun b off k A' n' c' e hk hc b' o' e' => ?_⟩
  obtain ⟨vs, hl, ho, he⟩ := h
  subst e
  have hlen := hr.len
  rcases ho.2 with ⟨h0, _⟩ | ⟨g, cap, cur, hv, _, _, _, _, _, _⟩
  · cases h0
  · simp only [Value.slice.injEq, Option.some.injEq, Addr.mk.injEq, and_true] at hv
    obtain ⟨⟨rfl, rfl⟩, rfl, rfl⟩ := hv
    have hk' : k < vs.length := by omega
    obtain ⟨A1, n1, c1, e1, _, hlow⟩ := he k vs[k] (List.getElem?_eq_getElem hk')
    rw [Nat.zero_add, ho.cellAt k (by omega), List.getElem?_eq_getElem hk', e1] at hc
    simp only [Option.some.injEq, Value.slice.injEq] at hc
    obtain ⟨rfl, rfl, rfl⟩ := hc
    exact (hlow b' o' e').2.2
/-- Rows stay where no block of theirs is written. -/
theorem RowsF.keep {w w' : World} {lo B n c : Nat} {A : Option Addr} {xss : List (List Int)} (h : RowsF w lo B A n c xss) (hk : ∀ b, lo ≤ b → b < B → w'.heap[b]? = w.heap[b]?) : RowsF w' lo B A n c xss := by
  have hcell : ∀ b off, lo ≤ b → b < B → w'.cell? ⟨b, off, none⟩ = w.cell? ⟨b, off, none⟩ := fun b off h1 h2 => World.cell?_of_block (hk b h1 h2)
  refine ⟨⟨h.rows.len, h.rows.cap, h.rows.most, h.rows.bare, fun k hk' => ?_⟩, h.low, fun b off k A' n' c' e hkn hc => ?_⟩
  · obtain ⟨b, off, A', n', c', e, hb, hc, hi⟩ := h.rows.at_ k hk'
    have hlo := h.low b off e (by omega)
    refine ⟨b, off, A', n', c', e, hb, by rw [hcell _ _ hlo hb]; exact hc, ⟨hi.len, hi.cap, hi.most, hi.bare, fun j hj => ?_⟩⟩
    obtain ⟨b2, o2, e2, hb2, hc2⟩ := hi.at_ j hj
    exact ⟨b2, o2, e2, hb2, by rw [hcell _ _ (h.lows b off k A' n' c' e hk' hc b2 o2 e2) hb2]; exact hc2⟩
  · obtain ⟨b0, off0, _, _, _, e0, hb0, _⟩ := h.rows.at_ k hkn
    rw [e] at e0
    simp only [Option.some.injEq, Addr.mk.injEq, and_true] at e0
    obtain ⟨rfl, rfl⟩ := e0
    rw [hcell _ _ (h.low b off e (by omega)) hb0] at hc
    exact h.lows b off k A' n' c' e hkn hc
theorem RowsF.below {w w' : World} {lo B n c : Nat} {A : Option Addr} {xss : List (List Int)} (h : RowsF w lo B A n c xss) (hb : Below B w w') : RowsF w' lo B A n c xss := h.keep fun b _ h2 => hb.block b h2
theorem Owned.elemF {w : World} {base base0 : Nat} {A : Option Addr} {n c : Nat} {xs : List Int} (h : Owned w base (.slice A n c) xs) {g : Option Nat} (hg : ∀ b, g = some b → b < base) (hb : base0 ≤ base) : ∀ b off, A = some ⟨b, off, none⟩ → some b ≠ g ∧ b < w.heap.size ∧ base0 ≤ b := by
  intro b off e
  subst e
  have := World.ownsRow.lt h b rfl
  exact ⟨fun e => by have := hg b e.symm; omega, this.2, by omega⟩
end Go.Proofs.Ytmpdalcdkibgpaa
