import Derived.Test.YtmgoonoifgcmnaaO2
import Derived.WalkSpells
/-
  A slice of slices of numbers: of the call's own (it may be appended to), and one that is only read.
-/
namespace Go.Proofs.Ytmgoonoifgcmnaa
open Go.RowKit

def row (xss : List (List Int)) (k : Nat) : List Int := xss.getD k []
/-- The cell v holds a slice of the numbers xs, in another block than g. -/
def Elem (w : World) (g : Option Nat) (v : Value) (xs : List Int) : Prop := ∃ A n c, v = .slice A n c ∧ Ints w w.heap.size A n c xs ∧ ∀ b off, A = some ⟨b, off, none⟩ → some b ≠ g ∧ b < w.heap.size

structure Rows_ (w : World) (B : Nat) (A : Option Addr) (n c : Nat) (xss : List (List Int)) : Prop where
  len : xss.length = n
  cap : n ≤ c
  most : c ≤ 9223372036854775807
  bare : A = none → c = 0
  at_ : ∀ k, k < n → ∃ b off A' n' c', A = some ⟨b, off, none⟩ ∧ b < B ∧ w.cell? ⟨b, off + k, none⟩ = some (.slice A' n' c') ∧ Ints w B A' n' c' (row xss k)

theorem Rows_.below {w w' : World} {B n c : Nat} {A : Option Addr} {xss : List (List Int)} (h : Rows_ w B A n c xss) (hb : Below B w w') : Rows_ w' B A n c xss :=
  ⟨h.len, h.cap, h.most, h.bare, fun k hk => by
    obtain ⟨b, off, A', n', c', e, hB, hc, hi⟩ := h.at_ k hk
    exact ⟨b, off, A', n', c', e, hB, (hb.cell hB).trans hc, hi.below hb⟩⟩
theorem Rows_.more {w : World} {B B' n c : Nat} {A : Option Addr} {xss : List (List Int)} (h : Rows_ w B A n c xss) (hB : B ≤ B') : Rows_ w B' A n c xss :=
  ⟨h.len, h.cap, h.most, h.bare, fun k hk => by
    obtain ⟨b, off, A', n', c', e, hb, hc, hi⟩ := h.at_ k hk
    exact ⟨b, off, A', n', c', e, by omega, hc, hi.more hB⟩⟩
theorem Rows_.drewN {w : World} {B n c : Nat} {A : Option Addr} {xss : List (List Int)} (h : Rows_ w B A n c xss) (q : Nat) : Rows_ (w.drewN q) B A n c xss :=
  ⟨h.len, h.cap, h.most, h.bare, fun k hk => by
    obtain ⟨b, off, A', n', c', e, hb, hc, hi⟩ := h.at_ k hk
    exact ⟨b, off, A', n', c', e, hb, hc, hi.drewN q⟩⟩
/-- A row's slice, and the rest of it, once the outer address is known. -/
theorem Rows_.get {w : World} {B n c b off : Nat} {xss : List (List Int)} (h : Rows_ w B (some ⟨b, off, none⟩) n c xss) {k : Nat} (hk : k < n) :
    ∃ A' n' c', w.cell? ⟨b, off + k, none⟩ = some (.slice A' n' c') ∧ Ints w B A' n' c' (row xss k) := by
  obtain ⟨b', off', A', n', c', e, _, hc, hi⟩ := h.at_ k hk
  cases e
  exact ⟨A', n', c', hc, hi⟩
theorem Rows_.addr {w : World} {B n c : Nat} {A : Option Addr} {xss : List (List Int)} (h : Rows_ w B A n c xss) (hn : 0 < n) : ∃ b off, A = some ⟨b, off, none⟩ := by
  obtain ⟨b, off, _, _, _, e, _⟩ := h.at_ 0 hn
  exact ⟨b, off, e⟩

/-- A slice of slices of the call's own. -/
def OwnedR (w : World) (base : Nat) (v : Value) (xss : List (List Int)) : Prop :=
  ∃ vs : List Value, vs.length = xss.length ∧ w.ownsRow base 22 1 v xss.length vs ∧ ∀ k u, vs[k]? = some u → Elem w v.ownBlock u (row xss k)

theorem ownedR_nil (w : World) (base : Nat) : OwnedR w base (.slice none 0 0) [] := ⟨[], rfl, World.ownsRow_nil _ _ _ _, fun k u h => by simp at h⟩

theorem OwnedR.rows {w : World} {base : Nat} {v : Value} {xss : List (List Int)} (h : OwnedR w base v xss) : ∃ A c, v = .slice A xss.length c ∧ Rows_ w w.heap.size A xss.length c xss := by
  obtain ⟨vs, hl, ho, he⟩ := h
  have ho0 := ho
  rcases ho.2 with ⟨rfl, h0⟩ | ⟨g, cap, cur, rfl, _, hh, hn, hc, _, _⟩
  · have hx : xss = [] := List.eq_nil_of_length_eq_zero h0
    subst hx
    exact ⟨none, 0, rfl, ⟨rfl, Nat.le_refl _, by omega, (fun _ => rfl), fun k hk => absurd hk (by simp)⟩⟩
  · refine ⟨_, _, rfl, ⟨rfl, hn, by unfold maxLen at hc; omega, (fun e => by cases e), fun k hk => ?_⟩⟩
    have hk' : k < vs.length := by omega
    obtain ⟨A', n', c', e, hi, _⟩ := he k vs[k] (List.getElem?_eq_getElem hk')
    refine ⟨g, 0, A', n', c', rfl, (Array.getElem?_eq_some_iff.1 hh).1, ?_, hi⟩
    rw [Nat.zero_add, ho0.cellAt k (by omega), List.getElem?_eq_getElem hk', e]
theorem OwnedR.to {w : World} {base : Nat} {v : Value} {xss : List (List Int)} (h : OwnedR w base v xss) : ∃ A n c, v = .slice A n c ∧ Rows_ w w.heap.size A n c xss := by
  obtain ⟨A, c, e, hr⟩ := h.rows
  exact ⟨A, _, c, e, hr⟩

theorem Ints.block_lt {w : World} {B n c b off : Nat} {xs : List Int} (h : Ints w B (some ⟨b, off, none⟩) n c xs) (hn : 0 < n) : b < B := by
  obtain ⟨b', off', e, hb, _⟩ := h.at_ 0 hn
  cases e
  exact hb

theorem OwnedR.below {w w' : World} {base : Nat} {v : Value} {xss : List (List Int)} (h : OwnedR w base v xss) (hb : Below w.heap.size w w') : OwnedR w' base v xss := by
  obtain ⟨vs, hl, ho, he⟩ := h
  refine ⟨vs, hl, ⟨ho.1, ?_⟩, fun k u hu => ?_⟩
  · rcases ho.2 with h0 | ⟨g, cap, cur, hv, hg, hh, r⟩
    · exact .inl h0
    · exact .inr ⟨g, cap, cur, hv, hg, by rw [hb.block g (Array.getElem?_eq_some_iff.1 hh).1]; exact hh, r⟩
  · obtain ⟨A', n', c', e, hi, hne⟩ := he k u hu
    exact ⟨A', n', c', e, (hi.below hb).more hb.size, fun b off e => ⟨(hne b off e).1, Nat.lt_of_lt_of_le (hne b off e).2 hb.size⟩⟩
theorem OwnedR.lower {w : World} {base base' : Nat} {v : Value} {xss : List (List Int)} (h : OwnedR w base v xss) (hb : base' ≤ base) : OwnedR w base' v xss := by
  obtain ⟨vs, hl, ho, he⟩ := h
  refine ⟨vs, hl, ⟨ho.1, ?_⟩, he⟩
  rcases ho.2 with h0 | ⟨g, cap, cur, hv, hg, r⟩
  · exact .inl h0
  · exact .inr ⟨g, cap, cur, hv, by omega, r⟩

theorem info22 : (Try.prog.info? 22).map (fun i => (i.zero, i.size, i.bytes)) = some (some (.slice none 0 0), 1, 24) := by kernel_rfl

/-- append of one slice of numbers (it lies in a block of its own) onto a slice of slices of the call's own. -/
theorem run_appR {w : World} {base : Nat} {v : Value} {xss : List (List Int)} {A' : Option Addr} {n' c' : Nat} {xs : List Int} (ty : TypeId) (ho : OwnedR w base v xss) (hi : Ints w w.heap.size A' n' c' xs)
    (hne : ∀ b off, A' = some ⟨b, off, none⟩ → some b ≠ v.ownBlock ∧ b < w.heap.size) (hl : xss.length ≤ 1000000) (hbase : base ≤ w.heap.size) :
    ∃ v' w', (Builtin.append_ #[39, 39] ty #[v, .slice (some ⟨w.heap.size, 0, none⟩) 1 1]).run Try.prog (w.alloc (.cells #[.slice A' n' c'] 22)) = .ok v' w' ∧ OwnedR w' base v' (xss ++ [xs]) ∧ Below base w w' := by
  obtain ⟨i0, h0, hz0, hz1, hz2⟩ := info_parts info22
  obtain ⟨vs, hvl, hown, he⟩ := ho
  have hcell : ∀ j u, ([Value.slice A' n' c'] : List Value)[j]? = some u → (w.alloc (.cells #[.slice A' n' c'] 22)).cell? ((⟨w.heap.size, 0, none⟩ : Addr).add j) = some u := by
    intro j u hu
    obtain rfl : j = 0 := by
      rcases j with _ | j
      · rfl
      · simp at hu
    simp at hu
    subst hu
    rw [show (⟨w.heap.size, 0, none⟩ : Addr).add 0 = ⟨w.heap.size, 0, none⟩ from rfl, World.cell?_alloc_at _ _ _ _ rfl]; rfl
  obtain ⟨v', w', hrun, h2, h3, _, h5⟩ := run_append_own_at (P := Try.prog) (w.alloc (.cells #[.slice A' n' c'] 22)) base 39 ty 22 i0 (.slice none 0 0) 1 24 Try.underlying39 h0 hz0 hz1 hz2 rfl (by omega) v _ _ (World.ownsRow.alloc hown _) ⟨w.heap.size, 0, none⟩ 1 1 [.slice A' n' c'] rfl hcell
    (by intro u hu; simp at hu; subst hu; rfl) (by unfold maxLen; omega) (by omega) (by simp; omega)
  have hsz : (w.alloc (.cells #[.slice A' n' c'] 22)).heap.size = w.heap.size + 1 := by simp
  have hgs := h3.size
  rw [hsz] at hgs
  have keep : ∀ (A : Option Addr) (n c : Nat) (zs : List Int), Ints w w.heap.size A n c zs → (∀ b off, A = some ⟨b, off, none⟩ → some b ≠ v.ownBlock) → Ints w' w'.heap.size A n c zs := by
    intro A n c zs hz hb
    refine ⟨hz.len, hz.cap, hz.most, hz.bare, fun k hk => ?_⟩
    obtain ⟨b, off, e, hlt, hc⟩ := hz.at_ k hk
    refine ⟨b, off, e, by omega, ?_⟩
    rw [World.cell?_of_block (h3.block b (by rw [hsz]; omega) (hb b off e)), World.cell?_alloc_lt _ _ _ (by exact hlt)]
    exact hc
  have apart : ∀ b, b < w.heap.size → some b ≠ v.ownBlock → some b ≠ v'.ownBlock := by
    intro b hb hv
    rcases h5 with e | e
    · rw [e]; exact hv
    · rw [e, hsz]; intro hx; cases hx; omega
  refine ⟨v', w', hrun, ⟨vs ++ [.slice A' n' c'], by simp [hvl], by rw [List.length_append]; exact h2, fun k u hu => ?_⟩, ?_⟩
  · rcases Nat.lt_or_ge k vs.length with hlt | hge
    · rw [List.getElem?_append_left hlt] at hu
      obtain ⟨A1, n1, c1, e1, hi1, hn1⟩ := he k u hu
      have hr : row (xss ++ [xs]) k = row xss k := by simp [row, List.getD, List.getElem?_append_left (show k < xss.length by omega)]
      rw [hr]
      refine ⟨A1, n1, c1, e1, keep _ _ _ _ hi1 (fun b off e => (hn1 b off e).1), fun b off e => ⟨apart b (hn1 b off e).2 (hn1 b off e).1, by have := (hn1 b off e).2; omega⟩⟩
    · have hk : k = vs.length := by
        have := (List.getElem?_eq_some_iff.1 hu).1
        simp at this
        omega
      subst hk
      simp at hu
      subst hu
      have hr : row (xss ++ [xs]) vs.length = xs := by simp [row, List.getD, hvl]
      rw [hr]
      exact ⟨A', n', c', rfl, keep _ _ _ _ hi (fun b off e => (hne b off e).1), fun b off e => ⟨apart b (hne b off e).2 (hne b off e).1, by have := (hne b off e).2; omega⟩⟩
  · exact ((Below.refl base w).alloc hbase _).grown h3 (by rw [hsz]; omega) (fun k hk => (World.ownsRow.lt hown k hk).1)

theorem wpList_appR {w : World} {ops : Array Oper} {rest : List Oper} {o : Oper} {a : Act} {Q : Exit → Act → World → Prop} (hg : o.guard = none) (s x : Operand)
    (hop : o.op = .call { callee := .builtin .append, args := #[s, x], argTypes := #[39, 39] })
    {base n' c' : Nat} {v : Value} {xss : List (List Int)} {xs : List Int} {A' : Option Addr} (hs : a.eval s = v) (hx : a.eval x = .slice (some ⟨w.heap.size, 0, none⟩) 1 1) (ho : OwnedR w base v xss) (hi : Ints w w.heap.size A' n' c' xs)
    (hne : ∀ b off, A' = some ⟨b, off, none⟩ → some b ≠ v.ownBlock ∧ b < w.heap.size) (hl : xss.length ≤ 1000000) (hbase : base ≤ w.heap.size)
    (h : ∀ v' w', OwnedR w' base v' (xss ++ [xs]) → Below base w w' → wpList Try.prog ops Q rest (a.put o.dst v') w') : wpList Try.prog ops Q (o :: rest) a (w.alloc (.cells #[.slice A' n' c'] 22)) :=
  wpList_plain hg fun K hK => by
    obtain ⟨v', w', hrun, h2, h3⟩ := run_appR o.type ho hi hne hl hbase
    unfold Oper.wp execOp
    simp only [hop, resolve, invoke, builtin, Sem.run_bind, Sem.run_pure, Result.andThen_ok, List.map_toArray, List.map_cons, List.map_nil, hs, hx, hrun]
    exact hK _ _ (h v' w' h2 h3)

/-- What an own slice of numbers made later than the outer one is good for as an element. -/
theorem Owned.elem {w : World} {base : Nat} {A : Option Addr} {n c : Nat} {xs : List Int} (h : Owned w base (.slice A n c) xs) {g : Option Nat} (hg : ∀ b, g = some b → b < base) : ∀ b off, A = some ⟨b, off, none⟩ → some b ≠ g ∧ b < w.heap.size := by
  intro b off e
  subst e
  have := World.ownsRow.lt h b rfl
  exact ⟨fun e => by have := hg b e.symm; omega, this.2⟩
theorem OwnedR.lt {w : World} {base : Nat} {v : Value} {xss : List (List Int)} (h : OwnedR w base v xss) : ∀ b, v.ownBlock = some b → base ≤ b ∧ b < w.heap.size := by
  obtain ⟨vs, _, ho, _⟩ := h
  exact World.ownsRow.lt ho
/-- A slice of n zeros. -/
theorem make_zeros (n : Nat) (hn : n ≤ 1000000) : ∃ Z : Array Value, Z.size = n ∧ Z.toList = List.replicate n (.int .i64 0) ∧ ∀ W : World, (Instr.makeSlice 22 (.int .i64 (n : Int)) (.int .i64 (n : Int))).run Try.prog W = .ok (.slice (some ⟨W.heap.size, 0, none⟩) n n) (W.alloc (.cells Z 3)) := by
  obtain ⟨i0, h0, hz0, hz1, hz2⟩ := info_parts info3
  refine ⟨madeCells (Value.int .i64 0).cells n, size_madeCells _ _, ?_, fun W => ?_⟩
  · unfold madeCells
    apply List.ext_getElem
    · simp
    · intro j h1 h2
      simp [Value.cells, Nat.mod_one]
  · have := run_make (P := Try.prog) W 22 3 i0 _ Try.underlying22 h0 hz0 .i64 .i64 n n (by omega) (Int.le_refl _) (by rw [hz2]; omega) (by omega)
    rw [hz1] at this
    simpa using this
theorem owned_zeros {w : World} {base n : Nat} {Z : Array Value} (hb : base ≤ w.heap.size) (hn : n ≤ 1000000) (hz : Z.size = n) (hl : Z.toList = List.replicate n (.int .i64 0)) : Owned (w.alloc (.cells Z 3)) base (.slice (some ⟨w.heap.size, 0, none⟩) n n) (List.replicate n 0) := by
  refine ⟨by simp, .inr ⟨w.heap.size, n, Z, by simp, hb, ?_, by simp, by unfold maxLen; omega, by omega, ?_⟩⟩
  · show (w.heap.push _)[w.heap.size]? = _
    simp
  · rw [List.length_replicate, hl, List.take_of_length_le (by simp), List.map_replicate]

theorem Owned.far {w : World} {base : Nat} {v : Value} {xs : List Int} (h : Owned w base v xs) {p : Addr} (hp : p.block < base) (u : Value) : Owned (w.setCell p u) base v xs := by
  refine ⟨h.1, ?_⟩
  rcases h.2 with h0 | ⟨g, cap, cur, hv, hg, hh, r⟩
  · exact .inl h0
  · exact .inr ⟨g, cap, cur, hv, hg, (heap_setCell_other w p g u (by omega)).trans hh, r⟩

/-- A slice of n slices, nil all. -/
theorem make_nils (n : Nat) (hn : n ≤ 1000000) : ∃ Z : Array Value, Z.toList = List.replicate n (.slice none 0 0) ∧ ∀ W : World, (Instr.makeSlice 39 (.int .i64 (n : Int)) (.int .i64 (n : Int))).run Try.prog W = .ok (.slice (some ⟨W.heap.size, 0, none⟩) n n) (W.alloc (.cells Z 22)) := by
  obtain ⟨i0, h0, hz0, hz1, hz2⟩ := info_parts info22
  refine ⟨madeCells (Value.slice none 0 0).cells n, ?_, fun W => ?_⟩
  · unfold madeCells
    apply List.ext_getElem
    · simp
    · intro j h1 h2
      simp [Value.cells, Nat.mod_one]
  · have := run_make (P := Try.prog) W 39 22 i0 _ Try.underlying39 h0 hz0 .i64 .i64 n n (by omega) (Int.le_refl _) (by rw [hz2]; omega) (by omega)
    rw [hz1] at this
    simpa using this

theorem Rows_.none_ (w : World) (B : Nat) : Rows_ w B none 0 0 [] := ⟨rfl, Nat.le_refl _, by omega, fun _ => rfl, fun k h => absurd h (by omega)⟩

theorem Owned.reads {w : World} {base n c : Nat} {A : Option Addr} {xs : List Int} (h : Owned w base (.slice A n c) xs) : Ints w w.heap.size A n c xs := by
  obtain ⟨A', c', e, hi⟩ := h.ints
  simp only [Value.slice.injEq] at e
  obtain ⟨rfl, rfl, rfl⟩ := e
  exact hi
theorem Owned.drewN {w : World} {base : Nat} {v : Value} {xs : List Int} (h : Owned w base v xs) (k : Nat) : Owned (w.drewN k) base v xs := h

theorem row_mem {xss : List (List Int)} {k : Nat} (h : k < xss.length) : row xss k ∈ xss := by simp [row, List.getD, h]
theorem mem_row {xss : List (List Int)} {r : List Int} (h : r ∈ xss) : ∃ k, k < xss.length ∧ row xss k = r := by
  obtain ⟨j, hj, e⟩ := List.getElem_of_mem h
  exact ⟨j, hj, by simp [row, List.getD, hj, e]⟩
/-- What the laws hand over of slices. -/
def cutT (xss : List (List Int)) : List (List Int) := (xss.take 6).map fun r => r.take 6
theorem cutT_row {xss : List (List Int)} {k : Nat} (hk : k < 6) : row (cutT xss) k = (row xss k).take 6 := by
  unfold row cutT
  simp only [List.getD, List.getElem?_map, List.getElem?_take, hk, if_true]
  cases xss[k]? <;> simp
theorem cutT_same {xss : List (List Int)} (h1 : xss.length ≤ 6) (h2 : ∀ k, k < xss.length → (row xss k).length ≤ 6) : cutT xss = xss := by
  unfold cutT
  rw [List.take_of_length_le h1]
  apply List.ext_getElem
  · simp
  · intro i a b
    have hi : i < xss.length := b
    have := h2 i hi
    simp only [row, List.getD, List.getElem?_eq_getElem hi, Option.getD_some] at this
    simp [List.take_of_length_le this]
end Go.Proofs.Ytmgoonoifgcmnaa
