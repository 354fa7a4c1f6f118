/-
  Append of rows onto own rows; stores into an own slice of numbers.
-/
import Derived.Test.YtmgoonoifgcmnaaW5
import Derived.Test.YtmgoonoifgcmnaaR3
namespace Go.Proofs.Ytmgoonoifgcmnaa
open Go.RowKit

theorem Owned.slot {w : World} {base g n c : Nat} {xs : List Int} (h : Owned w base (.slice (some ⟨g, 0, none⟩) n c) xs) {k : Nat} (hk : k < n) :
    w.cell? ⟨g, k, none⟩ = some (.int .i64 (nth xs k)) ∧ w.frozen? ⟨g, k, none⟩ = false := by
  obtain ⟨b, off, e, _, hc⟩ := h.reads.at_ k hk
  cases e
  rw [Nat.zero_add] at hc
  refine ⟨hc, ?_⟩
  rcases h.2 with ⟨h0, _⟩ | ⟨g', cap, cur, hv, _, hh, _⟩
  · cases h0
  · cases hv
    exact frozen_of_row w g k cur 3 hh
theorem Owned.set {w : World} {base g n c : Nat} {xs : List Int} (h : Owned w base (.slice (some ⟨g, 0, none⟩) n c) xs) {k : Nat} (hk : k < n) (z : Int) :
    Owned (w.setCell ⟨g, k, none⟩ (.int .i64 z)) base (.slice (some ⟨g, 0, none⟩) n c) (xs.set k z) := by
  have hl := h.reads.len
  refine ⟨by simp, ?_⟩
  rcases h.2 with ⟨h0, _⟩ | ⟨g', cap, cur, hv, hg, hh, h1, h2, h3, h4⟩
  · cases h0
  · cases hv
    refine .inr ⟨g, c, cur.setIfInBounds k (.int .i64 z), by rw [List.length_set, hl], hg, heap_setCell_same w g k cur 3 _ hh, by rw [List.length_set]; exact h1, h2, by simpa using h3, ?_⟩
    simp only [List.length_set, Nat.mul_one, Array.toList_setIfInBounds] at h4 ⊢
    rw [List.take_set, h4, List.map_set]
theorem Owned.blk_ {w : World} {base g n c off : Nat} {xs : List Int} (h : Owned w base (.slice (some ⟨g, off, none⟩) n c) xs) : off = 0 ∧ base ≤ g ∧ g < w.heap.size := by
  rcases h.2 with ⟨h0, _⟩ | ⟨g', cap, cur, hv, hg, hh, _⟩
  · cases h0
  · cases hv
    exact ⟨rfl, hg, (Array.getElem?_eq_some_iff.1 hh).1⟩

/-- The values of own rows, where they lie. -/
theorem OwnF.vals {w : World} {base : Nat} {v : Value} {xss : List (List Int)} (h : OwnF w base v xss) : ∃ vs : List Value, vs.length = xss.length ∧
    (∀ k u, vs[k]? = some u → Elem w v.ownBlock u (row xss k) ∧ ∀ A n c, u = .slice A n c → ∀ b off, A = some ⟨b, off, none⟩ → base ≤ b) ∧
    ((v = .slice none 0 0 ∧ xss = []) ∨ ∃ g c, v = .slice (some ⟨g, 0, none⟩) xss.length c ∧ xss.length ≤ c ∧ c ≤ maxLen ∧ ∀ j u, vs[j]? = some u → w.cell? ⟨g, j, none⟩ = some u) := by
  obtain ⟨vs, hl, ho, he⟩ := h
  refine ⟨vs, hl, he, ?_⟩
  have ho0 := ho
  rcases ho.2 with ⟨rfl, h0⟩ | ⟨g, cap, cur, rfl, _, hh, hn, hc, _, _⟩
  · exact .inl ⟨rfl, List.eq_nil_of_length_eq_zero h0⟩
  · refine .inr ⟨g, cap, rfl, hn, hc, fun j u hu => ?_⟩
    have hj : j < vs.length := (List.getElem?_eq_some_iff.1 hu).1
    rw [ho0.cellAt j (by omega)]
    exact hu
/-- append of rows onto own rows. -/
theorem run_appFF {w : World} {base base2 : Nat} {v v2 : Value} {xss yss : List (List Int)} (ty : TypeId) (ho : OwnF w base v xss) (ho2 : OwnF w base2 v2 yss) (hlt : ∀ b, v.ownBlock = some b → b < base2) (hbb : base ≤ base2)
    (hl : xss.length + yss.length ≤ 2000000000) (hbase : base ≤ w.heap.size) :
    ∃ v' w', (Builtin.append_ #[39, 39] ty #[v, v2]).run Try.prog w = .ok v' w' ∧ OwnF w' base v' (xss ++ yss) ∧ Below base w w' := by
  obtain ⟨i0, h0, hz0, hz1, hz2⟩ := info_parts info22
  obtain ⟨vs2, hvl2, he2, hform⟩ := ho2.vals
  have hoF := ho
  obtain ⟨vs, hvl, hown, he⟩ := ho
  rcases hform with ⟨rfl, rfl⟩ | ⟨g2, c2, rfl, hc1, hc2, hcell⟩
  · exact ⟨v, w, run_append_owned_none (P := Try.prog) w base 39 ty 22 i0 1 Try.underlying39 h0 v _ _ hown, by simpa using hoF, Below.refl _ _⟩
  · have hcell' : ∀ j u, vs2[j]? = some u → w.cell? ((⟨g2, 0, none⟩ : Addr).add j) = some u := by
      intro j u hu
      have hadd : (⟨g2, 0, none⟩ : Addr).add j = ⟨g2, j, none⟩ := by unfold Addr.add; split <;> simp_all
      rw [hadd]; exact hcell j u hu
    obtain ⟨v', w', hrun, h2, h3, _, h5⟩ := run_append_own_at (P := Try.prog) w base 39 ty 22 i0 (.slice none 0 0) 1 24 Try.underlying39 h0 hz0 hz1 hz2 rfl (by omega) v _ _ hown ⟨g2, 0, none⟩ yss.length c2 vs2 (by rw [hvl2]; omega) hcell'
      (by intro u hu
          obtain ⟨k, hk, e⟩ := List.mem_iff_getElem.1 hu
          obtain ⟨⟨A', n', c', e2, _⟩, _⟩ := he2 k u (by rw [← e]; exact List.getElem?_eq_getElem hk)
          rw [e2]; rfl) (by unfold maxLen; omega) (by omega) hbase
    have hgs := h3.size
    have keep : ∀ (A : Option Addr) (n c : Nat) (zs : List Int), Ints w w.heap.size A n c zs → (∀ b off, A = some ⟨b, off, none⟩ → some b ≠ v.ownBlock) → Ints w' w'.heap.size A n c zs := by
      intro A n c zs hz hb
      refine ⟨hz.len, hz.cap, hz.most, hz.bare, fun k hk => ?_⟩
      obtain ⟨b, off, e, hlt, hc⟩ := hz.at_ k hk
      refine ⟨b, off, e, by omega, ?_⟩
      rw [World.cell?_of_block (h3.block b hlt (hb b off e))]
      exact hc
    have apart : ∀ b, b < w.heap.size → some b ≠ v.ownBlock → some b ≠ v'.ownBlock := by
      intro b hb hv
      rcases h5 with e | e
      · rw [e]; exact hv
      · rw [e]; intro hx; cases hx; omega
    refine ⟨v', w', hrun, ⟨vs ++ vs2, by simp [hvl, hvl2], by rw [List.length_append]; exact h2, fun k u hu => ?_⟩, ?_⟩
    · rcases Nat.lt_or_ge k vs.length with hlt1 | hge
      · rw [List.getElem?_append_left hlt1] at hu
        obtain ⟨⟨A1, n1, c1, e1, hi1, hn1⟩, hb1⟩ := he k u hu
        have hr : row (xss ++ yss) k = row xss k := by simp [row, List.getD, List.getElem?_append_left (show k < xss.length by omega)]
        rw [hr]
        exact ⟨⟨A1, n1, c1, e1, keep _ _ _ _ hi1 (fun b off e => (hn1 b off e).1), fun b off e => ⟨apart b (hn1 b off e).2 (hn1 b off e).1, by have := (hn1 b off e).2; omega⟩⟩, hb1⟩
      · rw [List.getElem?_append_right hge] at hu
        obtain ⟨⟨A1, n1, c1, e1, hi1, hn1⟩, hb1⟩ := he2 _ u hu
        have hr : row (xss ++ yss) k = row yss (k - vs.length) := by simp [row, List.getD, List.getElem?_append_right (show xss.length ≤ k by omega), hvl]
        rw [hr]
        have hne : ∀ b off, A1 = some ⟨b, off, none⟩ → some b ≠ v.ownBlock := fun b off e e3 => by
          have := hb1 A1 n1 c1 e1 b off e
          have := hlt b e3.symm
          omega
        exact ⟨⟨A1, n1, c1, e1, keep _ _ _ _ hi1 hne, fun b off e => ⟨apart b (hn1 b off e).2 (hne b off e), by have := (hn1 b off e).2; omega⟩⟩, fun A n c e b off e2 => Nat.le_trans hbb (hb1 A n c e b off e2)⟩
    · exact (Below.refl base w).grown h3 hbase (fun k hk => (World.ownsRow.lt hown k hk).1)
theorem wpList_appFF {w : World} {ops : Array Oper} {rest : List Oper} {o : Oper} {a : Act} {Q : Exit → Act → World → Prop} (hg : o.guard = none) (s x : Operand)
    (hop : o.op = .call { callee := .builtin .append, args := #[s, x], argTypes := #[39, 39] })
    {base base2 : Nat} {v v2 : Value} {xss yss : List (List Int)} (hs : a.eval s = v) (hx : a.eval x = v2) (ho : OwnF w base v xss) (ho2 : OwnF w base2 v2 yss) (hlt : ∀ b, v.ownBlock = some b → b < base2) (hbb : base ≤ base2)
    (hl : xss.length + yss.length ≤ 2000000000) (hbase : base ≤ w.heap.size)
    (h : ∀ v' w', OwnF w' base v' (xss ++ yss) → Below base w w' → wpList Try.prog ops Q rest (a.put o.dst v') w') : wpList Try.prog ops Q (o :: rest) a w :=
  wpList_plain hg fun K hK => by
    obtain ⟨v', w', hrun, h2, h3⟩ := run_appFF o.type ho ho2 hlt hbb hl hbase
    unfold Oper.wp execOp
    simp only [hop, resolve, invoke, builtin, Sem.run_bind, Sem.run_pure, Result.andThen_ok, List.map_toArray, List.map_cons, List.map_nil, hs, hx, hrun]
    exact hK _ _ (h v' w' h2 h3)
/-- One row in a new block. -/
theorem ownF_one {w : World} {base n c : Nat} {A : Option Addr} {xs : List Int} (hb : base ≤ w.heap.size) (hi : Ints w w.heap.size A n c xs) (hA : ∀ b off, A = some ⟨b, off, none⟩ → base ≤ b ∧ b < w.heap.size) :
    OwnF (w.alloc (.cells #[.slice A n c] 22)) base (.slice (some ⟨w.heap.size, 0, none⟩) 1 1) [xs] := by
  refine ⟨[.slice A n c], rfl, ⟨by simp, .inr ⟨w.heap.size, 1, #[.slice A n c], rfl, hb, ?_, Nat.le_refl _, by unfold maxLen; omega, rfl, rfl⟩⟩, fun k u hu => ?_⟩
  · show (w.heap.push _)[w.heap.size]? = _
    simp
  · obtain rfl : k = 0 := by
      rcases k with _ | k
      · rfl
      · simp at hu
    simp at hu
    subst hu
    refine ⟨⟨A, n, c, rfl, (hi.alloc (Nat.le_refl _) _).more (by simp), fun b off e => ⟨?_, by have := (hA b off e).2; simp; omega⟩⟩, fun A' n' c' e b off e2 => by cases e; exact (hA b off e2).1⟩
    have := (hA b off e).2
    show some b ≠ some w.heap.size
    intro e3; cases e3; omega
end Go.Proofs.Ytmgoonoifgcmnaa
