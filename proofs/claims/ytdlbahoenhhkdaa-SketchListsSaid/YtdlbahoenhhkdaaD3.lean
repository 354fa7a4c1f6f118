import Derived.Test.YtdlbahoenhhkdaaD2
import Derived.Lib.AppendZeros
import Derived.Laws.CopyOwn
/-
  slices.Insert of one struct into a slice of the call's own.
-/
namespace Go.Proofs.Ytdlbahoenhhkdaa
open Go.RowKit

theorem wpList_run3 (w : World) {ops : Array Oper} {rest : List Oper} {o : Oper} {a : Act} {Q : Exit → Act → World → Prop} (hgd : o.guard = none) (d s : Operand) (t t' : TypeId)
    (ho : o.op = .call { callee := .builtin .copy, args := #[d, s], argTypes := #[t, t'] }) (v u : Value) (hd : a.eval d = v) (hs : a.eval s = u) {v' : Value} {w' : World}
    (hr : (Builtin.copy_ #[t, t'] o.type #[v, u]).run Try.prog w = .ok v' w') (h : wpList Try.prog ops Q rest (a.put o.dst v') w') : wpList Try.prog ops Q (o :: rest) a w :=
  wpList_plain hgd fun K hK => by
    unfold Oper.wp execOp
    simp only [ho, resolve, invoke, builtin, Sem.run_bind, Sem.run_pure, Result.andThen_ok, List.map_toArray, List.map_cons, List.map_nil, hd, hs, hr]
    exact hK _ _ h
theorem wpList_apd3 (w : World) {ops : Array Oper} {rest : List Oper} {o : Oper} {a : Act} {Q : Exit → Act → World → Prop} (hgd : o.guard = none) (d s : Operand) (t t' : TypeId)
    (ho : o.op = .call { callee := .builtin .append, args := #[d, s], argTypes := #[t, t'] }) (v u : Value) (hd : a.eval d = v) (hs : a.eval s = u) {v' : Value} {w' : World}
    (hr : (Builtin.append_ #[t, t'] o.type #[v, u]).run Try.prog w = .ok v' w') (h : wpList Try.prog ops Q rest (a.put o.dst v') w') : wpList Try.prog ops Q (o :: rest) a w :=
  wpList_plain hgd fun K hK => by
    unfold Oper.wp execOp
    simp only [ho, resolve, invoke, builtin, Sem.run_bind, Sem.run_pure, Result.andThen_ok, List.map_toArray, List.map_cons, List.map_nil, hd, hs, hr]
    exact hK _ _ h
theorem run_appV {w : World} {base : Nat} {v : Value} {gs : List G} {f d m : Int} {vb : Nat} (hv : Blk w vb 68 #[.int .i64 f, .int .i64 d, .int .i64 m]) (ho : OwnedG w base 68 v gs) (hl : gs.length ≤ 1000) (hbase : base ≤ w.heap.size) :
    ∃ v' w', (∀ ty, (Builtin.append_ #[23, 23] ty #[v, .slice (some ⟨vb, 0, none⟩) 1 1]).run Try.prog w = .ok v' w') ∧ OwnedG w' base 68 v' (gs ++ [(f, d, m)]) ∧ Below base w w' ∧ w.grownBy w' v.ownBlock := by
  obtain ⟨i0, h0, hz0, hz1, hz2⟩ := info_parts info68
  have hcell : ∀ j u, ([Value.int .i64 f, .int .i64 d, .int .i64 m] : List Value)[j]? = some u → w.cell? ((⟨vb, 0, none⟩ : Addr).add j) = some u := by
    intro j u hu
    have hadd : (⟨vb, 0, none⟩ : Addr).add j = ⟨vb, j, none⟩ := by unfold Addr.add; split <;> simp_all
    rw [hadd, hv.cell]
    simpa using hu
  have H := fun ty => run_append_own_at (P := Try.prog) w base 23 ty 68 i0 (.agg #[.int .i64 0, .int .i64 0, .int .i64 0]) 3 24 Try.underlying23 h0 hz0 hz1 hz2 rfl (by omega) v _ _ ho ⟨vb, 0, none⟩ 1 1
    [.int .i64 f, .int .i64 d, .int .i64 m] rfl hcell (by intro u hu; simp at hu; rcases hu with rfl | rfl | rfl <;> rfl) (by unfold maxLen; omega) (by omega) hbase
  obtain ⟨v', w', hrun, h2, h3, _, _⟩ := H 0
  refine ⟨v', w', fun ty => ?_, ?_, (Below.refl base w).grown h3 hbase (fun k hk => (World.ownsRow.lt ho k hk).1), h3⟩
  · rw [← hrun]; rfl
  · unfold OwnedG
    rw [List.length_append, cells3_app]
    exact h2

set_option maxHeartbeats 1600000 in
set_option maxRecDepth 100000 in
/-- At the end. -/
theorem Insert_end (A : Option Addr) (n c : Nat) (gs : List G) (f d o : Int) (vb base : Nat) (w : World) (h : OwnedG w base 68 (.slice A n c) gs) (hv : Blk w vb 68 #[.int .i64 f, .int .i64 d, .int .i64 o]) (hn : n ≤ 100) (hb : base ≤ w.heap.size) :
    Calls Try.prog 85 #[.slice A n c, .int .i64 n, .slice (some ⟨vb, 0, none⟩) 1 1] w fun e w' => ∃ v, e = .returned v ∧ OwnedG w' base 68 v (gs ++ [(f, d, o)]) ∧ Below base w w' := by
  obtain ⟨A1, c1, e1, hG⟩ := h.gs
  cases e1
  have hm := hG.most; have hcap := hG.cap
  obtain ⟨v', w', hrun, h2, h3, h4⟩ := run_appV hv h (by omega) hb
  have h2 := hide h2; have h3 := hide h3
  clear hv h4
  rcases A with _ | ⟨g, off, sp⟩
  · have h0 := hG.bare rfl
    obtain ⟨ln, hln⟩ : ∃ ln, gs.length = ln := ⟨_, rfl⟩
    have hln2 := hide hln
    rw [hln] at hcap hrun hn ⊢
    obtain rfl : ln = 0 := by omega
    subst h0
    clear hG h hln
    go_enter Try.func85, Try.ntmps85
    go_wp2_with (at_builtin; refine wpList_apd3 _ rfl _ _ 23 23 rfl _ _ rfl rfl (hrun _) ?_)
    all_goals (go_ret; exact ⟨_, rfl, unhide h2, unhide h3⟩)
  · obtain ⟨rfl, rfl⟩ : off = 0 ∧ sp = none := by
      rcases h.2 with ⟨hx, _⟩ | ⟨_, _, _, hx, _⟩
      · cases hx
      · cases hx; exact ⟨rfl, rfl⟩
    obtain ⟨ln, hln⟩ : ∃ ln, gs.length = ln := ⟨_, rfl⟩
    have hln2 := hide hln
    rw [hln] at hcap hrun hn ⊢
    clear hG h hln
    go_enter Try.func85, Try.ntmps85
    go_wp2_with (at_builtin; refine wpList_apd3 _ rfl _ _ 23 23 rfl _ _ rfl rfl (hrun _) ?_)
    all_goals (go_ret; exact ⟨_, rfl, unhide h2, unhide h3⟩)
theorem step_copy3 {ops : Array Oper} {o : Oper} {a : Act} {w : World} {K : Act → World → Prop} {Q : Exit → Act → World → Prop} {E : Prop}
    (hg : o.guard = none) (d x : Operand) (dT sT : TypeId) (hop : o.op = Op.call { callee := Callee.builtin Builtin.copy, args := #[d, x], argTypes := #[dT, sT] })
    (v u : Value) (hd : a.eval d = v) (hx : a.eval x = u) {v' : Value} {w' : World} (hr : (Builtin.copy_ #[dT, sT] o.type #[v, u]).run Try.prog w = .ok v' w') (hK : K (a.put o.dst v') w') :
    if Region.wanted o (yielded ops a.tmps) = true then Oper.wp Try.prog o a w K Q else E := by
  have hw : Region.wanted o (yielded ops a.tmps) = true := by simp [Region.wanted, hg]
  rw [if_pos hw]
  unfold Oper.wp
  simp [execOp, hop, resolve, invoke, builtin, hd, hx, hr, Result.andThen]
  exact hK

theorem OwnedG.of_blk {w : World} {base g n cap : Nat} {cur : Array Value} {gs : List G} (hg : Blk w g 68 cur) (hb : base ≤ g) (hn : n = gs.length) (hnc : n ≤ cap) (hc : cap ≤ maxLen) (hs : cur.size = cap * 3) (ht : cur.toList.take (n * 3) = cells3_ gs) :
    OwnedG w base 68 (.slice (some ⟨g, 0, none⟩) n cap) gs := by
  subst hn
  exact ⟨cells3_length gs, .inr ⟨g, cap, cur, rfl, hb, hg, hnc, hc, hs, ht⟩⟩
theorem OwnedG.blk {w : World} {base g n cap : Nat} {gs : List G} (h : OwnedG w base 68 (.slice (some ⟨g, 0, none⟩) n cap) gs) :
    ∃ cur, Blk w g 68 cur ∧ base ≤ g ∧ gs.length = n ∧ n ≤ cap ∧ cap ≤ maxLen ∧ cur.size = cap * 3 ∧ cur.toList.take (n * 3) = cells3_ gs := by
  obtain ⟨A, c, e1, _⟩ := h.gs
  simp only [Value.slice.injEq] at e1
  rcases h.2 with ⟨hx, _⟩ | ⟨g1, cap1, cur, hx, hb, hh, hn, hc, hs, ht⟩
  · cases hx
  · simp only [Value.slice.injEq, Option.some.injEq, Addr.mk.injEq] at hx
    obtain ⟨⟨rfl, _, _⟩, rfl, rfl⟩ := hx
    exact ⟨cur, hh, hb, rfl, hn, hc, hs, ht⟩
theorem blk_src {w : World} {g : Nat} {cur : Array Value} (hg : Blk w g 68 cur) (o : Nat) (cs : List Value) (hcs : ∀ j v, cs[j]? = some v → cur[o + j]? = some v) : ∀ j v, cs[j]? = some v → w.cell? ((⟨g, o, none⟩ : Addr).add j) = some v := by
  intro j v hj
  have hadd : (⟨g, o, none⟩ : Addr).add j = ⟨g, o + j, none⟩ := by unfold Addr.add; split <;> simp_all
  rw [hadd, hg.cell]
  exact hcs j v hj
theorem one_src {w : World} {vb : Nat} {f d o : Int} (hv : Blk w vb 68 #[.int .i64 f, .int .i64 d, .int .i64 o]) : ∀ j v, (cells3_ [(f, d, o)])[j]? = some v → w.cell? ((⟨vb, 0, none⟩ : Addr).add j) = some v :=
  blk_src hv 0 _ (fun j v hj => by rw [Nat.zero_add]; simpa [cells3_] using hj)
theorem take_low {l : List Value} {gs : List G} {n : Nat} (h : l.take (n * 3) = cells3_ gs) (j : Nat) (hj : j < n * 3) : l[j]? = (cells3_ gs)[j]? := by
  rw [← h, List.getElem?_take, if_pos hj]
theorem drop_src {cur : Array Value} {gs : List G} {n : Nat} (h : cur.toList.take (n * 3) = cells3_ gs) (hn : gs.length = n) (i : Nat) : ∀ j v, (cells3_ (gs.drop i))[j]? = some v → cur[i * 3 + j]? = some v := by
  intro j v hj
  rw [cells3_drop, List.getElem?_drop] at hj
  have hlt : i * 3 + j < n * 3 := by
    have := (List.getElem?_eq_some_iff.1 hj).1
    rw [cells3_length, hn] at this; exact this
  rw [← take_low h _ hlt] at hj
  simpa using hj
theorem cells3_1 (g : G) : (cells3_ [g]).length = 3 := rfl

set_option maxHeartbeats 1600000 in
set_option maxRecDepth 100000 in
/-- In the midst, no room. -/
theorem Insert_grow (g n i : Nat) (gs : List G) (f d o : Int) (vb base : Nat) (w : World) (h : OwnedG w base 68 (.slice (some ⟨g, 0, none⟩) n n) gs) (hv : Blk w vb 68 #[.int .i64 f, .int .i64 d, .int .i64 o]) (hn : n ≤ 100) (hb : base ≤ w.heap.size) (hi : i < n) :
    Calls Try.prog 85 #[.slice (some ⟨g, 0, none⟩) n n, .int .i64 i, .slice (some ⟨vb, 0, none⟩) 1 1] w fun e w' => ∃ v, e = .returned v ∧ OwnedG w' base 68 v (gs.take i ++ [(f, d, o)] ++ gs.drop i) ∧ Below base w w' := by
  obtain ⟨cur, hg, hbg, hln, _, hcm, hcs, htk⟩ := h.blk
  obtain ⟨i0, h0, hz0, hz1, hz2⟩ := info_parts info68
  obtain ⟨W, hW⟩ : ∃ W, W = w.heap.size := ⟨_, rfl⟩
  obtain ⟨C, hC⟩ : ∃ C, C = grownCap w (n + 1) n 68 := ⟨_, rfl⟩
  have hC1 : n + 1 ≤ C := by rw [hC]; exact grownCap_ge w (n + 1) n 68
  have hC2 : C ≤ maxLen := by rw [hC]; exact grownCap_le_maxLen w (n + 1) n 68 (by unfold maxLen; omega)
  have hk : ((n : Int) + 1 - (i : Int)) = ((n + 1 - i : Nat) : Int) := by omega
  have hin : i + (n + 1 - i) = n + 1 := by omega
  have hlt : (cells3_ (gs.take i)).length = i * 3 := by rw [cells3_length, List.length_take, hln, show min i n = i from by omega]
  have hold : (Builtin.firstCells i0.size i (.slice (some ⟨g, 0, none⟩) i n)).run Try.prog w.drew = .ok (cells3_ (gs.take i)).toArray w.drew := by
    rw [hz1]
    refine run_firstCells_some w.drew 3 i _ i n _ hlt (blk_src (hg.drewN 1) 0 _ (fun j v hj => ?_))
    rw [cells3_take, List.getElem?_take] at hj
    split at hj
    · rw [← take_low htk j (by omega)] at hj
      rw [Nat.zero_add]; simpa using hj
    · cases hj
  obtain ⟨W1, hW1, hap⟩ : ∃ W1, Blk W1 W 68 ((cells3_ (gs.take i)).toArray ++ Builtin.zeroCells (Value.agg #[.int .i64 0, .int .i64 0, .int .i64 0]).cells (n + 1 - i) ++ Builtin.zeroCells (Value.agg #[.int .i64 0, .int .i64 0, .int .i64 0]).cells (C - (n + 1))) ∧ W1 = w.drew.alloc (.cells ((cells3_ (gs.take i)).toArray ++ Builtin.zeroCells (Value.agg #[.int .i64 0, .int .i64 0, .int .i64 0]).cells (n + 1 - i) ++ Builtin.zeroCells (Value.agg #[.int .i64 0, .int .i64 0, .int .i64 0]).cells (C - (n + 1))) 68) :=
    ⟨_, by rw [hW]; exact heap_alloc_new w.drew _, rfl⟩
  have hbel1 : Below W w W1 := by rw [hap, hW]; exact (Below.refl _ _).drew.alloc (Nat.le_refl _) _
  obtain ⟨cu, hcu⟩ : ∃ cu, cu = ((cells3_ (gs.take i)).toArray ++ Builtin.zeroCells (Value.agg #[.int .i64 0, .int .i64 0, .int .i64 0]).cells (n + 1 - i) ++ Builtin.zeroCells (Value.agg #[.int .i64 0, .int .i64 0, .int .i64 0]).cells (C - (n + 1))) := ⟨_, rfl⟩
  have hrun : ∀ ty, (Builtin.append_ #[23, 3] ty #[.slice (some ⟨g, 0, none⟩) i n, .int .i64 ((n : Int) + 1 - (i : Int))]).run Try.prog w = .ok (.slice (some ⟨W, 0, none⟩) (n + 1) C) W1 := by
    intro ty
    have := Lib.run_append_grow_zeros (P := Try.prog) w 23 3 ty 68 i0 (.agg #[.int .i64 0, .int .i64 0, .int .i64 0]) .i64 .i64 Try.underlying23 Try.underlying3 h0 hz0 (some ⟨g, 0, none⟩) i n (cells3_ (gs.take i)) hold (n + 1 - i) (by omega) (by omega) (by omega) (by omega) (by rw [hz2]; omega) (by rw [hz2]; exact growslice_fits (by omega) (by omega))
    rw [hin] at this
    rw [hk, this, hW, hap, hC]
  rw [← hcu] at hW1 hap
  have hcus : cu.size = C * 3 := by
    rw [hcu]; simp only [Array.size_append, List.size_toArray, size_zeroCells, hlt]
    show i * 3 + (n + 1 - i) * 3 + (C - (n + 1)) * 3 = C * 3
    omega
  have hlow : ∀ j, j < i * 3 → cu.toList[j]? = (cells3_ gs)[j]? := by
    intro j hj
    rw [hcu]
    simp only [Array.toList_append, List.append_assoc]
    rw [List.getElem?_append_left (by rw [hlt]; exact hj), cells3_take, List.getElem?_take, if_pos hj]
  have hvw : vb < w.heap.size := hv.lt
  have hgw : g < w.heap.size := hg.lt
  have hv1 : Blk W1 vb 68 #[.int .i64 f, .int .i64 d, .int .i64 o] := hv.below hbel1 (by omega)
  have hg1 : Blk W1 g 68 cur := hg.below hbel1 (by omega)
  clear hap
  have hcp1 : ∀ ty dc, (Builtin.copy_ #[23, 23] ty #[.slice (some ⟨W, i * 3, none⟩) (n + 1 - i) dc, .slice (some ⟨vb, 0, none⟩) 1 1]).run Try.prog W1 = .ok (goInt (1 : Nat)) (W1.setRow W (plug (i * 3) (cells3_ [(f, d, o)]) cu.toList).toArray) := fun ty dc =>
    run_copy3 W1 ty W (i * 3) _ dc _ 1 1 cu 68 1 _ hW1 (by simp only [Nat.min_def]; split <;> omega) rfl (one_src hv1) (by rw [cells3_1, hcus]; omega) (fun u hu => cells3_one _ u hu)
  obtain ⟨W2, hW2⟩ : ∃ W2, W2 = W1.setRow W (plug (i * 3) (cells3_ [(f, d, o)]) cu.toList).toArray := ⟨_, rfl⟩
  rw [← hW2] at hcp1
  have hB2 : Blk W2 W 68 (plug (i * 3) (cells3_ [(f, d, o)]) cu.toList).toArray := by rw [hW2]; exact setRow_heap _ _ _ _ _ _ hW1
  have hg2 : Blk W2 g 68 cur := by rw [hW2]; exact (setRow_other _ _ _ _ (by omega)).trans hg1
  have hbel2 : Below W w W2 := by rw [hW2]; exact below_setRow hbel1 (Nat.le_refl _) _
  clear hW2
  have hp1 : (plug (i * 3) (cells3_ [(f, d, o)]) cu.toList).length = C * 3 := by rw [plug_length (by rw [cells3_1]; simp [hcus]; omega)]; simpa using hcus
  have hdl : (cells3_ (gs.drop i)).length = (n - i) * 3 := by rw [cells3_length, List.length_drop, hln]
  have hcp2 : ∀ ty dl, dl = n - i → ∀ dc sc, (Builtin.copy_ #[23, 23] ty #[.slice (some ⟨W, (i + 1) * 3, none⟩) dl dc, .slice (some ⟨g, i * 3, none⟩) (n - i) sc]).run Try.prog W2.drew = .ok (goInt (n - i : Nat)) (W2.drew.setRow W (plug ((i + 1) * 3) (cells3_ (gs.drop i)) (plug (i * 3) (cells3_ [(f, d, o)]) cu.toList)).toArray) := fun ty dl hdl' dc sc => by
    subst hdl'
    exact run_copy3 W2.drew ty W ((i + 1) * 3) _ dc _ (n - i) sc _ 68 (n - i) _ (hB2.drewN 1) (by simp) hdl (blk_src (hg2.drewN 1) _ _ (drop_src htk hln i)) (by rw [hdl]; simp [hp1]; omega) (fun u hu => cells3_one _ u hu)
  obtain ⟨W3, hW3⟩ : ∃ W3, W3 = W2.drew.setRow W (plug ((i + 1) * 3) (cells3_ (gs.drop i)) (plug (i * 3) (cells3_ [(f, d, o)]) cu.toList)).toArray := ⟨_, rfl⟩
  rw [← hW3] at hcp2
  have hB3 : Blk W3 W 68 (plug ((i + 1) * 3) (cells3_ (gs.drop i)) (plug (i * 3) (cells3_ [(f, d, o)]) cu.toList)).toArray := by rw [hW3]; exact setRow_heap _ _ _ _ _ _ (hB2.drewN 1)
  have hbel3 : Below W w W3 := by rw [hW3]; exact below_setRow hbel2.drew (Nat.le_refl _) _
  clear hW3
  have hfin := hide (show OwnedG W3 base 68 (.slice (some ⟨W, 0, none⟩) (n + 1) C) (gs.take i ++ [(f, d, o)] ++ gs.drop i) from by
    refine OwnedG.of_blk hB3 (by omega) (by simp; omega) hC1 hC2 (by simp only [List.size_toArray]; rw [plug_length (by rw [hdl, hp1]; omega)]; exact hp1) ?_
    have := (ins_cells gs (f, d, o) i cu.toList (by omega) (by rw [hln]; simp [hcus]; omega) hlow).2
    rw [hln] at this
    simpa using this)
  have hbf := hide (hbel3.mono (show base ≤ W by omega))
  have hcm2 : C ≤ 9223372036854775807 := by unfold maxLen at hC2; omega
  clear hB3 hbel3 hp1 hdl hbel2 hg2 hB2 hg1 hv1 hlow hcus hcu hbel1 hW1 hold hlt hin hk hC hC2 h0 hz0 hz1 hz2 htk hcs hcm hln hg h hv
  have hz2 : ¬ ((i : Int) = (n : Int)) := by omega
  have hw1 : IntKind.i64.wrap ((i : Int) + 1) = (i : Int) + 1 := by rw [IntKind.wrap_i64]; omega
  have hb4 : ¬ (C = i) := by omega
  have hb5 : ¬ (C = i + 1) := by omega
  have hb6 : ¬ ((n : Int) + 1 ≤ (n : Int)) := by omega
  have hb7 : (0 : Int) ≤ (i : Int) + 1 := by omega
  have hb8 : i ≤ n := by omega
  have hb9 : ¬ (n = i) := by omega
  have htn : ((i : Int) + 1).toNat = i + 1 := by omega
  have hWh := hide hW
  clear hW
  go_enter Try.func85, Try.ntmps85
  go_wp2_with (first | (at_builtin; refine wpList_apd3 _ rfl _ _ 23 3 rfl _ _ rfl rfl (hrun _) ?_) | (at_builtin; refine wpList_run3 _ rfl _ _ 23 23 rfl _ _ rfl rfl (hcp1 _ _) ?_))
  go_region_law (refine step_copy3 rfl _ _ 23 23 rfl _ _ (by simp [Act.eval, Act.put]) (by simp [Act.eval, Act.put]) (hcp2 _ _ (by omega) _ _) ?_)
  go_wp2_with fail
  go_ret
  exact ⟨_, rfl, unhide hfin, unhide hbf⟩
theorem Blk.shape {w : World} {g : Nat} {t : TypeId} {cs : Array Value} (h : Blk w g t cs) : w.shape? g = some (t, cs.size) := by
  unfold Blk at h
  simp [World.shape?, h]

set_option maxHeartbeats 1600000 in
set_option maxRecDepth 100000 in
/-- In the midst, with room. -/
theorem Insert_room (g n C i : Nat) (gs : List G) (f d o : Int) (vb base : Nat) (w : World) (h : OwnedG w base 68 (.slice (some ⟨g, 0, none⟩) n C) gs) (hv : Blk w vb 68 #[.int .i64 f, .int .i64 d, .int .i64 o]) (hn : n ≤ 100) (hb : base ≤ w.heap.size) (hi : i < n) (hC1 : n + 1 ≤ C) (hne : vb ≠ g) :
    Calls Try.prog 85 #[.slice (some ⟨g, 0, none⟩) n C, .int .i64 i, .slice (some ⟨vb, 0, none⟩) 1 1] w fun e w' => ∃ v, e = .returned v ∧ OwnedG w' base 68 v (gs.take i ++ [(f, d, o)] ++ gs.drop i) ∧ Below base w w' := by
  obtain ⟨cur, hg, hbg, hln, _, hC2, hcus, htk⟩ := h.blk
  obtain ⟨i0, h0, hz0, hz1, hz2⟩ := info_parts info68
  have hlow : ∀ j, j < i * 3 → cur.toList[j]? = (cells3_ gs)[j]? := fun j hj => take_low htk j (by omega)
  have hdl : (cells3_ (gs.drop i)).length = (n - i) * 3 := by rw [cells3_length, List.length_drop, hln]
  have hov : ∀ lb cb, (callFunc 100 #[.slice (some ⟨vb, 0, none⟩) 1 1, .slice (some ⟨g, (i + 1) * 3, none⟩) lb cb]).run Try.prog w = .ok (.value (.bool false)) w := fun lb cb => by
    rw [run_callFunc_extern Try.func100 (by kernel_rfl) (by kernel_rfl) (by kernel_rfl) (e := Extern.SlicesOverlaps.overlaps #[23, 23] #[4]) (by kernel_rfl),
      Lib.run_overlaps_apart w 23 4 68 Try.underlying23 3 (fun w => by simp [sizeOf, typeInfo, h0, hz1]) ⟨vb, 0, none⟩ ⟨g, (i + 1) * 3, none⟩ 1 1 lb cb hne 68 68 3 cur.size hv.shape hg.shape (by rw [hcus]; omega) (hv.frozen 0) (hv.frozen 3)]
    rfl
  have hbel : Below base w w.drew := (Below.refl _ _).drew
  have hcp2 : ∀ ty dl, dl = n - i → ∀ sl, sl = n + 1 - i → ∀ dc sc, (Builtin.copy_ #[23, 23] ty #[.slice (some ⟨g, (i + 1) * 3, none⟩) dl dc, .slice (some ⟨g, i * 3, none⟩) sl sc]).run Try.prog w.drew = .ok (goInt (n - i : Nat)) (w.drew.setRow g (plug ((i + 1) * 3) (cells3_ (gs.drop i)) cur.toList).toArray) := fun ty dl hdl' sl hsl' dc sc => by
    subst hdl'; subst hsl'
    exact run_copy3 w.drew ty g ((i + 1) * 3) _ dc _ (n + 1 - i) sc _ 68 (n - i) _ (hg.drewN 1) (by simp only [Nat.min_def]; split <;> omega) hdl (blk_src (hg.drewN 1) _ _ (drop_src htk hln i)) (by rw [hdl, hcus]; omega) (fun u hu => cells3_one _ u hu)
  obtain ⟨W2, hW2⟩ : ∃ W2, W2 = w.drew.setRow g (plug ((i + 1) * 3) (cells3_ (gs.drop i)) cur.toList).toArray := ⟨_, rfl⟩
  rw [← hW2] at hcp2
  have hB2 : Blk W2 g 68 (plug ((i + 1) * 3) (cells3_ (gs.drop i)) cur.toList).toArray := by rw [hW2]; exact setRow_heap _ _ _ _ _ _ (hg.drewN 1)
  have hv2 : Blk W2 vb 68 #[.int .i64 f, .int .i64 d, .int .i64 o] := by rw [hW2]; exact (setRow_other _ _ _ _ hne).trans (hv.drewN 1)
  have hbel2 : Below base w W2 := by rw [hW2]; exact below_setRow hbel hbg _
  clear hW2
  have hp1 : (plug ((i + 1) * 3) (cells3_ (gs.drop i)) cur.toList).length = C * 3 := by rw [plug_length (by rw [hdl]; simp [hcus]; omega)]; simpa using hcus
  have hcp1 : ∀ ty sl, sl = n + 1 - i → ∀ dc, (Builtin.copy_ #[23, 23] ty #[.slice (some ⟨g, i * 3, none⟩) sl dc, .slice (some ⟨vb, 0, none⟩) 1 1]).run Try.prog W2 = .ok (goInt (1 : Nat)) (W2.setRow g (plug (i * 3) (cells3_ [(f, d, o)]) (plug ((i + 1) * 3) (cells3_ (gs.drop i)) cur.toList)).toArray) := fun ty sl hsl dc => by
    subst hsl
    exact run_copy3 W2 ty g (i * 3) _ dc _ 1 1 _ 68 1 _ hB2 (by simp only [Nat.min_def]; split <;> omega) rfl (one_src hv2) (by rw [cells3_1]; simp [hp1]; omega) (fun u hu => cells3_one _ u hu)
  obtain ⟨W3, hW3⟩ : ∃ W3, W3 = W2.setRow g (plug (i * 3) (cells3_ [(f, d, o)]) (plug ((i + 1) * 3) (cells3_ (gs.drop i)) cur.toList)).toArray := ⟨_, rfl⟩
  rw [← hW3] at hcp1
  have hB3 : Blk W3 g 68 (plug (i * 3) (cells3_ [(f, d, o)]) (plug ((i + 1) * 3) (cells3_ (gs.drop i)) cur.toList)).toArray := by rw [hW3]; exact setRow_heap _ _ _ _ _ _ hB2
  have hbel3 : Below base w W3 := by rw [hW3]; exact below_setRow hbel2 hbg _
  clear hW3
  have hfin := hide (show OwnedG W3 base 68 (.slice (some ⟨g, 0, none⟩) (n + 1) C) (gs.take i ++ [(f, d, o)] ++ gs.drop i) from by
    refine OwnedG.of_blk hB3 hbg (by simp; omega) hC1 hC2 (by simp only [List.size_toArray]; rw [plug_length (by rw [cells3_1, hp1]; omega)]; exact hp1) ?_
    have := (ins_cells gs (f, d, o) i cur.toList (by omega) (by rw [hln]; simp [hcus]; omega) hlow).1
    rw [hln] at this
    simpa using this)
  have hbf := hide hbel3
  have hcm2 : C ≤ 9223372036854775807 := by unfold maxLen at hC2; omega
  clear hB3 hbel3 hp1 hdl hbel2 hv2 hB2 hlow hcus hC2 h0 hz0 hz1 hz2 htk hln hg h hv hbel
  have hz2 : ¬ ((i : Int) = (n : Int)) := by omega
  have hw1 : IntKind.i64.wrap ((i : Int) + 1) = (i : Int) + 1 := by rw [IntKind.wrap_i64]; omega
  have hb4 : ¬ (C = i) := by omega
  have hb5 : ¬ (C = i + 1) := by omega
  have hb6 : ¬ ((C : Int) < (n : Int) + 1) := by omega
  have hb7 : (0 : Int) ≤ (i : Int) + 1 := by omega
  have hb8 : i ≤ n := by omega
  have hb9 : ¬ (n = i) := by omega
  have hb10 : (i : Int) ≤ (n : Int) + 1 := by omega
  have htn : ((i : Int) + 1).toNat = i + 1 := by omega
  go_enter Try.func85, Try.ntmps85
  go_wp2_with (simp only [hov])
  go_region_law (refine step_copy3 rfl _ _ 23 23 rfl _ _ (by simp [Act.eval, Act.put]) (by simp [Act.eval, Act.put]) (hcp2 _ _ (by omega) _ (by omega) _ _) ?_)
  go_wp2_with (at_builtin; refine wpList_run3 _ rfl _ _ 23 23 rfl _ _ rfl rfl (hcp1 _ _ (by omega) _) ?_)
  go_ret
  exact ⟨_, rfl, unhide hfin, unhide hbf⟩

theorem Insert_any (A : Option Addr) (n c i : Nat) (gs : List G) (f d o : Int) (vb base : Nat) (w : World) (h : OwnedG w base 68 (.slice A n c) gs) (hv : Blk w vb 68 #[.int .i64 f, .int .i64 d, .int .i64 o]) (hn : n ≤ 100) (hb : base ≤ w.heap.size) (hi : i ≤ n) (hne : ∀ k, (Value.slice A n c).ownBlock = some k → vb ≠ k) :
    Calls Try.prog 85 #[.slice A n c, .int .i64 i, .slice (some ⟨vb, 0, none⟩) 1 1] w fun e w' => ∃ v, e = .returned v ∧ OwnedG w' base 68 v (gs.take i ++ [(f, d, o)] ++ gs.drop i) ∧ Below base w w' := by
  have hln : gs.length = n := by
    obtain ⟨A1, c1, e1, _⟩ := h.gs
    cases e1; rfl
  rcases Nat.lt_or_ge i n with hlt | hge
  · rcases A with _ | ⟨g, off, sp⟩
    · rcases h.2 with ⟨hx, h0⟩ | ⟨_, _, _, hx, _⟩
      · omega
      · cases hx
    · obtain ⟨rfl, rfl⟩ : off = 0 ∧ sp = none := by
        rcases h.2 with ⟨hx, _⟩ | ⟨_, _, _, hx, _⟩
        · cases hx
        · cases hx; exact ⟨rfl, rfl⟩
      obtain ⟨_, _, _, _, hnc, _⟩ := h.blk
      rcases Nat.lt_or_ge n c with h1 | h1
      · exact Insert_room g n c i gs f d o vb base w h hv hn hb hlt h1 (hne g rfl)
      · obtain rfl : n = c := by omega
        exact Insert_grow g n i gs f d o vb base w h hv hn hb hlt
  · obtain rfl : i = n := by omega
    rw [List.take_of_length_le (by omega), List.drop_of_length_le (by omega), List.append_nil]
    exact Insert_end A i c gs f d o vb base w h hv hn hb
end Go.Proofs.Ytdlbahoenhhkdaa
