/-
  slices.Delete of one pair.
-/
import Derived.Test.YtbgfiejaehpffaaY2
import Derived.Laws.CopyRow
import Derived.Laws.CopyOwn
import Derived.Deep.RegionWith
namespace Go.Proofs.Ytbgfiejaehpffaa
open Go.RowKit

def plug (o : Nat) (cs l : List Value) : List Value := l.take o ++ cs ++ l.drop (o + cs.length)
theorem plug_length {o : Nat} {cs l : List Value} (h : o + cs.length ≤ l.length) : (plug o cs l).length = l.length := by
  unfold plug; simp; omega
theorem plug_at {o : Nat} {cs l : List Value} (h : o + cs.length ≤ l.length) (j : Nat) : (plug o cs l)[j]? = if j < o then l[j]? else if j < o + cs.length then cs[j - o]? else l[j]? := by
  unfold plug
  rw [List.append_assoc, List.getElem?_append, List.getElem?_append]
  simp only [List.length_take, show min o l.length = o from by omega, List.getElem?_take, List.getElem?_drop]
  split
  · rfl
  · split
    · rw [if_pos (by omega)]
    · rw [if_neg (by omega), show o + cs.length + (j - o - cs.length) = j from by omega]
theorem cells2_drop (gs : List F) : ∀ i, cells2_ (gs.drop i) = (cells2_ gs).drop (i * 2) := by
  induction gs with
  | nil => intro i; simp [cells2_]
  | cons g l ih =>
    intro i
    cases i with
    | zero => simp
    | succ i =>
      rw [List.drop_succ_cons, ih, cells2_cons, show (i + 1) * 2 = i * 2 + 1 + 1 by omega, List.drop_succ_cons, List.drop_succ_cons]
theorem blk_src {w : World} {g : Nat} {cur : Array Value} (hg : Blk w g 30 cur) (o : Nat) (cs : List Value) (hcs : ∀ j v, cs[j]? = some v → cur[o + j]? = some v) : ∀ j v, cs[j]? = some v → w.cell? ((⟨g, o, none⟩ : Addr).add j) = some v := by
  intro j v hj
  have hadd : (⟨g, o, none⟩ : Addr).add j = ⟨g, o + j, none⟩ := by unfold Addr.add; split <;> simp_all
  rw [hadd, hg.cell]
  exact hcs j v hj
theorem take_low {l : List Value} {gs : List F} {n : Nat} (h : l.take (n * 2) = cells2_ gs) (j : Nat) (hj : j < n * 2) : l[j]? = (cells2_ gs)[j]? := by
  rw [← h, List.getElem?_take, if_pos hj]
theorem drop_src {cur : Array Value} {gs : List F} {n : Nat} (h : cur.toList.take (n * 2) = cells2_ gs) (hn : gs.length = n) (i : Nat) : ∀ j v, (cells2_ (gs.drop i))[j]? = some v → cur[i * 2 + j]? = some v := by
  intro j v hj
  rw [cells2_drop, List.getElem?_drop] at hj
  have hlt : i * 2 + j < n * 2 := by
    have := (List.getElem?_eq_some_iff.1 hj).1
    rw [cells2_length, hn] at this; exact this
  rw [← take_low h _ hlt] at hj
  simpa using hj
theorem OwnQ.of_blk {w : World} {base g n cap : Nat} {cur : Array Value} {gs : List F} (hg : Blk w g 30 cur) (hb : base ≤ g) (hn : n = gs.length) (hnc : n ≤ cap) (hc : cap ≤ maxLen) (hs : cur.size = cap * 2) (ht : cur.toList.take (n * 2) = cells2_ gs) :
    OwnQ w base 30 (.slice (some ⟨g, 0, none⟩) n cap) gs := by
  subst hn
  exact ⟨cells2_length gs, .inr ⟨g, cap, cur, rfl, hb, hg, hnc, hc, hs, ht⟩⟩
theorem OwnQ.blk {w : World} {base g n cap : Nat} {gs : List F} (h : OwnQ w base 30 (.slice (some ⟨g, 0, none⟩) n cap) gs) :
    ∃ cur, Blk w g 30 cur ∧ base ≤ g ∧ gs.length = n ∧ n ≤ cap ∧ cap ≤ maxLen ∧ cur.size = cap * 2 ∧ cur.toList.take (n * 2) = cells2_ gs := by
  obtain ⟨A, c, e1, _⟩ := h.fs
  simp only [Value.slice.injEq] at e1
  rcases h.2 with ⟨hx, _⟩ | ⟨g1, cap1, cur, hx, hb, hh, hn, hc, hs, ht⟩
  · cases hx
  · simp only [Value.slice.injEq, Option.some.injEq, Addr.mk.injEq] at hx
    obtain ⟨⟨rfl, _, _⟩, rfl, rfl⟩ := hx
    exact ⟨cur, hh, hb, rfl, hn, hc, hs, ht⟩
theorem run_clear2 (w : World) (ty : TypeId) (g o n c : Nat) (cur : Array Value) (hn : 0 < n) (hg : w.heap[g]? = some (.cells cur 30 (0, 0))) (hfit : o + n * 2 ≤ cur.size) :
    ∃ zs : List Value, zs.length = n * 2 ∧ (Builtin.clear_ #[22] ty #[.slice (some ⟨g, o, none⟩) n c]).run Try.prog w = .ok (.tuple #[]) (w.setRow g (plug o zs cur.toList).toArray) := by
  obtain ⟨i0, h0, hz0, hz1, hz2⟩ := info_parts info30
  obtain ⟨zs, hzs⟩ : ∃ zs, zs = (Builtin.zeroCells (Value.agg #[.int .i64 0, .int .i64 0]).cells n).toList := ⟨_, rfl⟩
  have hzl : zs.length = n * 2 := by rw [hzs, Array.length_toList, size_zeroCells]; rfl
  have h1 : ∀ v ∈ zs, v.oneCell' = true := by
    intro v hv
    rw [hzs] at hv
    simp only [Builtin.zeroCells, Array.toList_map, List.mem_map] at hv
    obtain ⟨i, _, rfl⟩ := hv
    have hlt : i % (Value.agg #[.int .i64 0, .int .i64 0]).cells.size < 2 := Nat.mod_lt _ (by decide)
    generalize i % (Value.agg #[.int .i64 0, .int .i64 0]).cells.size = j at hlt
    rcases j with _ | _ | j
    · rfl
    · rfl
    · omega
  have hst := run_storeCells_at Try.prog g o 30 zs 0 cur w hg (by rw [hzl]; simpa using hfit) h1
  refine ⟨zs, hzl, ?_⟩
  obtain ⟨m, rfl⟩ : ∃ m, n = m + 1 := ⟨n - 1, by omega⟩
  simp [Builtin.clear_, run_underlying Try.underlying22, zeroValue, typeInfo, h0, hz0, ← hzs, hst, plug]
theorem wpList_clr (w : World) {ops : Array Oper} {rest : List Oper} {o : Oper} {a : Act} {Q : Exit → Act → World → Prop} (hgd : o.guard = none) (s : Operand) (t : TypeId)
    (ho : o.op = .call { callee := .builtin .clear, args := #[s], argTypes := #[t] }) (v : Value) (hs : a.eval s = v) {v' : Value} {w' : World}
    (hr : (Builtin.clear_ #[t] o.type #[v]).run Try.prog w = .ok v' w') (h : wpList Try.prog ops Q rest (a.put o.dst v') w') : wpList Try.prog ops Q (o :: rest) a w :=
  wpList_plain hgd fun K hK => by
    unfold Oper.wp execOp
    simp only [ho, resolve, invoke, builtin, Sem.run_bind, Sem.run_pure, Result.andThen_ok, List.map_toArray, List.map_cons, List.map_nil, hs, hr]
    exact hK _ _ h

theorem del_cells (gs : List F) (n i : Nat) (l zs : List Value) (hn : gs.length = n) (hi : i < n) (hl : n * 2 ≤ l.length) (hz : zs.length = 2) (hlow : ∀ j, j < i * 2 → l[j]? = (cells2_ gs)[j]?) :
    (plug ((n - 1) * 2) zs (plug (i * 2) (cells2_ (gs.drop (i + 1))) l)).take ((n - 1) * 2) = cells2_ (gs.take i ++ gs.drop (i + 1)) := by
  have e2 : (cells2_ (gs.drop (i + 1))).length = (n - (i + 1)) * 2 := by rw [cells2_length, List.length_drop, hn]
  have e3 : (cells2_ (gs.take i)).length = i * 2 := by rw [cells2_length, List.length_take, show min i gs.length = i from by omega]
  have p1 : (plug (i * 2) (cells2_ (gs.drop (i + 1))) l).length = l.length := plug_length (by rw [e2]; omega)
  apply List.ext_getElem?
  intro j
  rw [List.getElem?_take, plug_at (by rw [p1, hz]; omega), plug_at (by rw [e2]; omega), cells2_app, List.getElem?_append, e3, e2]
  by_cases h1 : j < i * 2
  · rw [if_pos h1, if_pos h1, if_pos (by omega), if_pos (by omega), hlow j h1, cells2_take, List.getElem?_take, if_pos h1]
  · rw [if_neg h1, if_neg h1]
    by_cases h3 : j < (n - 1) * 2
    · rw [if_pos h3, if_pos h3, if_pos (by omega)]
    · rw [if_neg h3, List.getElem?_eq_none (by rw [e2]; omega)]

theorem step_apdP {ops : Array Oper} {o : Oper} {a : Act} {w : World} {K : Act → World → Prop} {Q : Exit → Act → World → Prop} {E : Prop}
    (hg : o.guard = none) (d x : Operand) (dT sT : TypeId) (hop : o.op = Op.call { callee := Callee.builtin Builtin.append, args := #[d, x], argTypes := #[dT, sT] })
    (v u : Value) (hd : a.eval d = v) (hx : a.eval x = u) {v' : Value} {w' : World} (hr : (Builtin.append_ #[dT, sT] o.type #[v, u]).run Try.prog w = .ok v' w') (hK : K (a.put o.dst v') w') :
    if Region.wanted o (yielded ops a.tmps) = true then Oper.wp Try.prog o a w K Q else E := by
  have hw : Region.wanted o (yielded ops a.tmps) = true := by simp [Region.wanted, hg]
  rw [if_pos hw]
  unfold Oper.wp
  simp [execOp, hop, resolve, invoke, builtin, hd, hx, hr, Result.andThen]
  exact hK

set_option maxRecDepth 100000 in
set_option maxHeartbeats 2000000 in
theorem Delete_any (A : Option Addr) (n c i : Nat) (gs : List F) (base : Nat) (w : World) (h : OwnQ w base 30 (.slice A n c) gs) (hn : n ≤ 100) (hi : i < n) :
    Calls Try.prog 35 #[.slice A n c, .int .i64 (i : Int), .int .i64 ((i : Int) + 1)] w fun e w' => ∃ v, e = .returned v ∧ OwnQ w' base 30 v (gs.take i ++ gs.drop (i + 1)) ∧ Below base w w' := by
  obtain ⟨g, rfl⟩ : ∃ g, A = some ⟨g, 0, none⟩ := by
    rcases h.2 with ⟨hx, _⟩ | ⟨g, _, _, hx, _⟩
    · simp only [Value.slice.injEq] at hx; omega
    · simp only [Value.slice.injEq] at hx; exact ⟨g, hx.1⟩
  obtain ⟨cur, hB, hbg, hln, hnc, hcm, hcs, htk⟩ := h.blk
  obtain ⟨i0, h0, hz0, hz1, hz2⟩ := info_parts info30
  have hm := h.reads.most
  have hdl : (cells2_ (gs.drop (i + 1))).length = (n - (i + 1)) * 2 := by rw [cells2_length, List.length_drop, hln]
  have hrun : ∀ ty a2 sc, (a2 = ⟨g, (i + 1) * 2, none⟩ ∨ n = i + 1) → (Builtin.append_ #[22, 22] ty #[.slice (some ⟨g, 0, none⟩) i c, .slice (some a2) (n - (i + 1)) sc]).run Try.prog w.drew = .ok (.slice (some ⟨g, 0, none⟩) (n - 1) c) (w.drew.setRow g (plug (i * 2) (cells2_ (gs.drop (i + 1))) cur.toList).toArray) := by
    intro ty a2 sc ha
    have := run_append_room (P := Try.prog) w.drew 22 ty 30 i0 Try.underlying22 h0 g i c cur (hB.drewN 1) a2 (n - (i + 1)) sc (cells2_ (gs.drop (i + 1))) (by rw [hz1]; exact hdl) (by
      intro j v hj
      rcases ha with rfl | hz
      · exact blk_src (hB.drewN 1) _ _ (drop_src htk hln (i + 1)) j v hj
      · have := (List.getElem?_eq_some_iff.1 hj).1
        rw [hdl] at this; omega) (fun u hu => cells2_one _ u hu) (by omega) (by rw [hz1, hdl, hcs]; omega)
    rw [this, hz1, show i + (n - (i + 1)) = n - 1 from by omega]
    rfl
  obtain ⟨W2, hW2⟩ : ∃ W2, W2 = w.drew.setRow g (plug (i * 2) (cells2_ (gs.drop (i + 1))) cur.toList).toArray := ⟨_, rfl⟩
  rw [← hW2] at hrun
  have hB2 : Blk W2 g 30 (plug (i * 2) (cells2_ (gs.drop (i + 1))) cur.toList).toArray := by rw [hW2]; exact setRow_heap _ _ _ _ _ _ (hB.drewN 1)
  have hbel2 : Below base w W2 := by rw [hW2]; exact below_setRow (Below.refl _ _).drew hbg _
  clear hW2
  have hp1 : (plug (i * 2) (cells2_ (gs.drop (i + 1))) cur.toList).length = c * 2 := by rw [plug_length (by rw [hdl]; simp [hcs]; omega)]; simpa using hcs
  obtain ⟨zs, hzl, hclr⟩ : ∃ zs : List Value, zs.length = 2 ∧ ∀ ty sc, (Builtin.clear_ #[22] ty #[.slice (some ⟨g, (n - 1) * 2, none⟩) 1 sc]).run Try.prog W2 = .ok (.tuple #[]) (W2.setRow g (plug ((n - 1) * 2) zs (plug (i * 2) (cells2_ (gs.drop (i + 1))) cur.toList)).toArray) := by
    obtain ⟨zs, h1, h2⟩ := run_clear2 W2 0 g ((n - 1) * 2) 1 0 _ (by omega) hB2 (by simp [hp1]; omega)
    exact ⟨zs, h1, fun ty sc => by rw [← h2]; rfl⟩
  obtain ⟨W3, hW3⟩ : ∃ W3, W3 = W2.setRow g (plug ((n - 1) * 2) zs (plug (i * 2) (cells2_ (gs.drop (i + 1))) cur.toList)).toArray := ⟨_, rfl⟩
  rw [← hW3] at hclr
  have hB3 : Blk W3 g 30 (plug ((n - 1) * 2) zs (plug (i * 2) (cells2_ (gs.drop (i + 1))) cur.toList)).toArray := by rw [hW3]; exact setRow_heap _ _ _ _ _ _ hB2
  have hbel3 := hide (show Below base w W3 by rw [hW3]; exact below_setRow hbel2 hbg _)
  clear hW3
  have hfin := hide (show OwnQ W3 base 30 (.slice (some ⟨g, 0, none⟩) (n - 1) c) (gs.take i ++ gs.drop (i + 1)) from by
    refine OwnQ.of_blk hB3 hbg (by simp; omega) (by omega) hcm (by simp only [List.size_toArray]; rw [plug_length (by rw [hzl, hp1]; omega)]; exact hp1) ?_
    simp only [List.toList_toArray]
    exact del_cells gs n i cur.toList zs hln hi (by simp [hcs]; omega) hzl (fun j hj => take_low htk j (by omega)))
  clear hB3 hp1 hbel2 hB2 hdl h0 hz0 hz1 hz2 htk hcs hcm hln hB h hzl
  obtain ⟨n1, rfl⟩ : ∃ n1, n = n1 + 1 := ⟨n - 1, by omega⟩
  simp only [Nat.add_sub_cancel] at hfin hclr hrun
  have hrun : ∀ ty a2 sc, (a2 = if c = i + 1 then some (⟨g, 0, none⟩ : Addr) else some ⟨g, (i + 1) * 2, none⟩) → (Builtin.append_ #[22, 22] ty #[.slice (some ⟨g, 0, none⟩) i c, .slice a2 (n1 - i) sc]).run Try.prog w.drew = .ok (.slice (some ⟨g, 0, none⟩) n1 c) W2 := by
    intro ty a2 sc ha
    have e : n1 + 1 - (i + 1) = n1 - i := by omega
    rw [e] at hrun
    by_cases hc : c = i + 1
    · rw [if_pos hc] at ha; subst ha; exact hrun ty _ sc (.inr (by omega))
    · rw [if_neg hc] at ha; subst ha; exact hrun ty _ sc (.inl rfl)
  have hb7 : i ≤ c := by omega
  have htn : ((i : Int) + 1).toNat = i + 1 := by omega
  have hb2 : ((i : Int) == (i : Int) + 1) = false := by simp; omega
  have hb3 : (0 : Int) ≤ (i : Int) + 1 := by omega
  have hw1 : IntKind.i64.wrap ((i : Int) + 1) = (i : Int) + 1 := by rw [IntKind.wrap_i64]; omega
  by_cases hc : c = i + 1
  · obtain rfl : n1 = i := by omega
    subst hc
    have hrun2 : ∀ ty sc, (Builtin.append_ #[22, 22] ty #[.slice (some ⟨g, 0, none⟩) n1 (n1 + 1), .slice (some ⟨g, 0, none⟩) 0 sc]).run Try.prog w.drew = .ok (.slice (some ⟨g, 0, none⟩) n1 (n1 + 1)) W2 := fun ty sc => by
      have := hrun ty (some ⟨g, 0, none⟩) sc (by rw [if_pos rfl])
      rwa [Nat.sub_self] at this
    clear hrun
    have hq : (n1 : Int) ≤ (n1 : Int) + 1 := by omega
    go_enter Try.func35, Try.ntmps35
    go_wp2_with fail
    go_region_law (refine step_apdP rfl (.tmp 22) (.tmp 25) 22 22 rfl (.slice (some ⟨g, 0, none⟩) n1 (n1 + 1)) (.slice (some ⟨g, 0, none⟩) 0 0) (by simp [Act.eval, Act.put]) (by simp [Act.eval, Act.put]) (hrun2 22 0) ?_)
    go_wp2_with (at_builtin; refine wpList_clr _ rfl _ 22 rfl _ rfl (hclr _ _) ?_)
    go_ret
    exact ⟨_, rfl, unhide hfin, unhide hbel3⟩
  · have hrun2 : ∀ ty sc, (Builtin.append_ #[22, 22] ty #[.slice (some ⟨g, 0, none⟩) i c, .slice (some ⟨g, (i + 1) * 2, none⟩) (n1 - i) sc]).run Try.prog w.drew = .ok (.slice (some ⟨g, 0, none⟩) n1 c) W2 := fun ty sc =>
      hrun ty (some ⟨g, (i + 1) * 2, none⟩) sc (by rw [if_neg hc])
    clear hrun
    have hb1 : ¬ (c = i) := by omega
    have hb4 : i ≤ n1 := by omega
    have hb5 : ¬ (c = n1) := by omega
    have hb6 : i ≤ n1 + 1 := by omega
    have hb7 : i ≤ c := by omega
    go_enter Try.func35, Try.ntmps35
    go_wp2_with fail
    go_region_law (refine step_apdP rfl (.tmp 22) (.tmp 25) 22 22 rfl (.slice (some ⟨g, 0, none⟩) i c) (.slice (some ⟨g, (i + 1) * 2, none⟩) (n1 - i) (c - (i + 1))) (by simp [Act.eval, Act.put]) (by simp [Act.eval, Act.put]) (hrun2 22 (c - (i + 1))) ?_)
    go_wp2_with (at_builtin; refine wpList_clr _ rfl _ 22 rfl _ rfl (hclr _ _) ?_)
    go_ret
    exact ⟨_, rfl, unhide hfin, unhide hbel3⟩
end Go.Proofs.Ytbgfiejaehpffaa
