/-
  backward of the reference; rows of older slices.
-/
import Derived.Test.YtjhicbiacnkpaaaDoorR4
import Derived.Test.YtjhicbiacnkpaaaDoorY3
namespace Go.Proofs.YtjhicbiacnkpaaaDoor
open Go.RowKit

theorem take_rev (xs : List Int) {j : Nat} (h : j + 1 ≤ xs.length) (x : Int) (hx : xs[j]? = some x) : (xs.drop j).reverse = (xs.drop (j + 1)).reverse ++ [x] := by
  rw [List.drop_eq_getElem_cons (show j < xs.length by omega), List.reverse_cons]
  congr 2
  rw [List.getElem?_eq_getElem (show j < xs.length by omega)] at hx
  exact Option.some.inj hx

set_option maxHeartbeats 1000000 in
theorem backward_any (A : Option Addr) (n c : Nat) (xs : List Int) (w : World) (h : Ints w w.heap.size A n c xs) (hn : Hid (n ≤ 1000)) :
    Calls Tryd.prog 86 #[.slice A n c] w fun e w' => ∃ v, e = .returned v ∧ Owned w' w.heap.size v xs.reverse ∧ Below w.heap.size w w' := by
  have hm := h.most; have hcap := h.cap
  have hl := hide h.len
  go_enter Tryd.func86, Tryd.ntmps86
  go_wp2_with fail
  go_loopw [3, 4] (fun v i wr => ∃ (j : Nat), j ≤ n ∧ i = .int .i64 ((j : Int) - 1) ∧ Owned wr w.heap.size v (xs.drop j).reverse ∧ Below w.heap.size w wr) (fun _ i _ => (intOf i + 1).toNat)
  case atStart => exact ⟨n, Nat.le_refl _, rfl, by rw [List.drop_of_length_le (by have := hl.out; omega)]; exact World.ownsRow_nil _ _ _ _, Below.refl _ _⟩
  case round =>
    obtain ⟨j, hj, rfl, ho, hb⟩ := hrel
    have HLEN := hide (show ((xs.drop j).reverse).length ≤ 100000 from by simp; have := hl.out; have := hn.out; omega)
    rcases Nat.eq_zero_or_pos j with h0 | h0
    · subst h0
      have z0 : ¬ (0 : Int) ≤ ((0 : Nat) : Int) - 1 := by omega
      go_wp2_with fail
      go_ret
      exact ⟨_, rfl, by simpa using ho, hb⟩
    · obtain ⟨k, rfl⟩ : ∃ k, j = k + 1 := ⟨j - 1, by omega⟩
      have ek : ((k + 1 : Nat) : Int) - 1 = ((k : Nat) : Int) := by omega
      rw [ek]
      obtain ⟨b, off, rfl, hb0, hc⟩ := (h.below hb).at_ k (by omega)
      have hx := hide (show xs[k]? = some (nth xs k) from by unfold nth; rw [List.getD_eq_getElem?_getD, List.getElem?_eq_getElem (show k < xs.length by have := hl.out; omega)]; rfl)
      have HY := hide (take_rev xs (show k + 1 ≤ xs.length by have := hl.out; omega) _ hx.out)
      have hbase := hb.size
      have hkn : ((k : Nat) : Int) < n := by omega
      go_wp2_with (at_builtin; refine wpList_app1 rfl _ _ rfl rfl rfl ho (unhide HLEN) hbase ?_; intro v' w3 ho3 hb3)
      go_roundw
      case rel => exact ⟨k, by omega, by first | rfl | go_num, by rw [HY.out]; exact ho3, hb.trans hb3⟩
      case measure => simp [intOf]
theorem backward_ints (A : Option Addr) (n c : Nat) (xs : List Int) (w : World) (h : Ints w w.heap.size A n c xs) (hn : Hid (n ≤ 1000)) :
    Calls Tryd.prog 86 #[.slice A n c] w fun e w' => ∃ A' n' c', e = .returned (.slice A' n' c') ∧ Owned w' w.heap.size (.slice A' n' c') xs.reverse ∧ Ints w' w'.heap.size A' n' c' xs.reverse ∧ Below w.heap.size w w' :=
  (backward_any A n c xs w h hn).mono fun _ _ ⟨_, he, ho, hb⟩ => by
    obtain ⟨A', c', rfl, hi⟩ := ho.ints
    exact ⟨A', _, c', he, ho, hi, hb⟩

/-- A slice of the call's own whose elements are slices that read in the world w0. -/
def OwnO (w0 w : World) (base : Nat) (v : Value) (xss : List (List Int)) : Prop :=
  ∃ vs : List Value, vs.length = xss.length ∧ w.ownsRow base 22 1 v xss.length vs ∧ ∀ k u, vs[k]? = some u → ∃ A n c, u = .slice A n c ∧ Ints w0 w0.heap.size A n c (row xss k)
theorem ownO_nil (w0 w : World) (base : Nat) : OwnO w0 w base (.slice none 0 0) [] := ⟨[], rfl, World.ownsRow_nil _ _ _ _, fun k u h => by simp at h⟩
theorem OwnO.but {w0 w w' : World} {base : Nat} {v : Value} {xss : List (List Int)} {o : Option Nat} (h : OwnO w0 w base v xss) (hb : But w w' o) (ho : ∀ b, o = some b → b < base) : OwnO w0 w' base v xss := by
  obtain ⟨vs, hl, hw, he⟩ := h
  refine ⟨vs, hl, ⟨hw.1, ?_⟩, he⟩
  rcases hw.2 with h0 | ⟨g, cap, cur, hv, hg, hh, r⟩
  · exact .inl h0
  · exact .inr ⟨g, cap, cur, hv, hg, by rw [hb.at_ g (Array.getElem?_eq_some_iff.1 hh).1 (fun e => by have := ho g e.symm; omega)]; exact hh, r⟩
theorem OwnO.set {w0 w : World} {base g o : Nat} {v : Value} {xss : List (List Int)} (h : OwnO w0 w base v xss) (hg : g < base) (u : Value) : OwnO w0 (w.setCell ⟨g, o, none⟩ u) base v xss :=
  h.but (But.set w g o u) (fun b e => by cases e; exact hg)
theorem OwnO.on {w0 w w' : World} {base : Nat} {v : Value} {xss : List (List Int)} (h : OwnO w0 w base v xss) (hb : Below w.heap.size w w') : OwnO w0 w' base v xss :=
  h.but (o := none) ⟨hb.size, fun k hk _ => hb.block k hk⟩ fun b e => by cases e
theorem OwnO.to {w0 w : World} {base : Nat} {v : Value} {xss : List (List Int)} (h : OwnO w0 w base v xss) (hb : Below w0.heap.size w0 w) : ∃ A n c, v = .slice A n c ∧ Rows_ w w.heap.size A n c xss := by
  obtain ⟨vs, hl, ho, he⟩ := h
  have ho0 := ho
  rcases ho.2 with ⟨rfl, h0⟩ | ⟨g, cap, cur, rfl, _, hh, hn, hc, _, _⟩
  · have hx : xss = [] := List.eq_nil_of_length_eq_zero h0
    subst hx
    exact ⟨none, _, 0, rfl, ⟨rfl, Nat.le_refl _, by omega, (fun _ => rfl), fun k hk => absurd hk (by simp)⟩⟩
  · refine ⟨_, _, _, rfl, ⟨rfl, hn, by unfold maxLen at hc; omega, (fun e => by cases e), fun k hk => ?_⟩⟩
    have hk' : k < vs.length := by omega
    obtain ⟨A', n', c', e, hi⟩ := he k vs[k] (List.getElem?_eq_getElem hk')
    refine ⟨g, 0, A', n', c', rfl, (Array.getElem?_eq_some_iff.1 hh).1, ?_, (hi.below hb).more hb.size⟩
    rw [Nat.zero_add, ho0.cellAt k (by omega), List.getElem?_eq_getElem hk', e]
theorem run_appO {w0 w : World} {base : Nat} {v : Value} {xss : List (List Int)} {A' : Option Addr} {n' c' : Nat} {xs : List Int} (ty : TypeId) (ho : OwnO w0 w base v xss) (hi : Ints w0 w0.heap.size A' n' c' xs)
    (hl : xss.length ≤ 1000000) (hbase : base ≤ w.heap.size) :
    ∃ v' w', (Builtin.append_ #[38, 38] ty #[v, .slice (some ⟨w.heap.size, 0, none⟩) 1 1]).run Tryd.prog (w.alloc (.cells #[.slice A' n' c'] 22)) = .ok v' w' ∧ OwnO w0 w' base v' (xss ++ [xs]) ∧ Below base w w' := by
  obtain ⟨i0, h0, hz0, hz1, hz2⟩ := info_parts info22
  obtain ⟨vs, hvl, hown, he⟩ := ho
  have hcell : ∀ j u, ([Value.slice A' n' c'] : List Value)[j]? = some u → (w.alloc (.cells #[.slice A' n' c'] 22)).cell? ((⟨w.heap.size, 0, none⟩ : Addr).add j) = some u := by
    intro j u hu
    obtain rfl : j = 0 := by
      rcases j with _ | j
      · rfl
      · simp at hu
    simp at hu
    subst hu
    rw [show (⟨w.heap.size, 0, none⟩ : Addr).add 0 = ⟨w.heap.size, 0, none⟩ from rfl, World.cell?_alloc_at _ _ _ _ rfl]; rfl
  obtain ⟨v', w', hrun, h2, h3, _, h5⟩ := run_append_own_at (P := Tryd.prog) (w.alloc (.cells #[.slice A' n' c'] 22)) base 38 ty 22 i0 (.slice none 0 0) 1 24 Tryd.underlying38 h0 hz0 hz1 hz2 rfl (by omega) v _ _ (World.ownsRow.alloc hown _) ⟨w.heap.size, 0, none⟩ 1 1 [.slice A' n' c'] rfl hcell
    (by intro u hu; simp at hu; subst hu; rfl) (by unfold maxLen; omega) (by omega) (by simp; omega)
  have hsz : (w.alloc (.cells #[.slice A' n' c'] 22)).heap.size = w.heap.size + 1 := by simp
  have hgs := h3.size
  rw [hsz] at hgs
  refine ⟨v', w', hrun, ⟨vs ++ [.slice A' n' c'], by simp [hvl], by rw [List.length_append]; exact h2, fun k u hu => ?_⟩, ((Below.refl base w).alloc hbase _).grown h3 (by rw [hsz]; omega) (fun k hk => (World.ownsRow.lt hown k hk).1)⟩
  rcases Nat.lt_or_ge k vs.length with hlt | hge
  · rw [List.getElem?_append_left hlt] at hu
    have hr : row (xss ++ [xs]) k = row xss k := by simp [row, List.getD, List.getElem?_append_left (show k < xss.length by omega)]
    rw [hr]
    exact he k u hu
  · have hk : k = vs.length := by
      have := (List.getElem?_eq_some_iff.1 hu).1
      simp at this
      omega
    subst hk
    simp at hu
    subst hu
    have hr : row (xss ++ [xs]) vs.length = xs := by simp [row, List.getD, hvl]
    rw [hr]
    exact ⟨A', n', c', rfl, hi⟩
theorem step_appO {w0 w : World} {ops : Array Oper} {o : Oper} {a : Act} {K : Act → World → Prop} {Q : Exit → Act → World → Prop} {E : Prop} (hg : o.guard = none) (s x : Operand)
    (hop : o.op = .call { callee := .builtin .append, args := #[s, x], argTypes := #[38, 38] })
    {base n' c' : Nat} {v : Value} {xss : List (List Int)} {xs : List Int} {A' : Option Addr} (hs : a.eval s = v) (hx : a.eval x = .slice (some ⟨w.heap.size, 0, none⟩) 1 1) (ho : OwnO w0 w base v xss) (hi : Ints w0 w0.heap.size A' n' c' xs)
    (hl : xss.length ≤ 1000000) (hbase : base ≤ w.heap.size)
    (h : ∀ v' w', OwnO w0 w' base v' (xss ++ [xs]) → Below base w w' → K (a.put o.dst v') w') :
    if Region.wanted o (yielded ops a.tmps) = true then Oper.wp Tryd.prog o a (w.alloc (.cells #[.slice A' n' c'] 22)) K Q else E := by
  have hw : Region.wanted o (yielded ops a.tmps) = true := by simp [Region.wanted, hg]
  rw [if_pos hw]
  obtain ⟨v', w', hrun, h2, h3⟩ := run_appO o.type ho hi hl hbase
  unfold Oper.wp execOp
  simp only [hop, resolve, invoke, builtin, Sem.run_bind, Sem.run_pure, Result.andThen_ok, List.map_toArray, List.map_cons, List.map_nil, hs, hx, hrun]
  exact h _ _ h2 h3
end Go.Proofs.YtjhicbiacnkpaaaDoor
