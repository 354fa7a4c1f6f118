import Derived.Test.YtdlbahoenhhkdaaD8
/-
  slices.Delete of one element.
-/
namespace Go.Proofs.Ytdlbahoenhhkdaa
open Go.RowKit

theorem del_cells (gs : List G) (n i : Nat) (l zs : List Value) (hn : gs.length = n) (hi : i < n) (hl : n * 3 ≤ l.length) (hz : zs.length = 3) (hlow : ∀ j, j < i * 3 → l[j]? = (cells3_ gs)[j]?) :
    (plug ((n - 1) * 3) zs (plug (i * 3) (cells3_ (gs.drop (i + 1))) l)).take ((n - 1) * 3) = cells3_ (gs.take i ++ gs.drop (i + 1)) := by
  have e2 : (cells3_ (gs.drop (i + 1))).length = (n - (i + 1)) * 3 := by rw [cells3_length, List.length_drop, hn]
  have e3 : (cells3_ (gs.take i)).length = i * 3 := by rw [cells3_length, List.length_take, show min i gs.length = i from by omega]
  have p1 : (plug (i * 3) (cells3_ (gs.drop (i + 1))) l).length = l.length := plug_length (by rw [e2]; omega)
  apply List.ext_getElem?
  intro j
  rw [List.getElem?_take, plug_at (by rw [p1, hz]; omega), plug_at (by rw [e2]; omega), cells3_app, List.getElem?_append, e3, e2]
  by_cases h1 : j < i * 3
  · rw [if_pos h1, if_pos h1, if_pos (by omega), if_pos (by omega), hlow j h1, cells3_take, List.getElem?_take, if_pos h1]
  · rw [if_neg h1, if_neg h1]
    by_cases h3 : j < (n - 1) * 3
    · rw [if_pos h3, if_pos h3, if_pos (by omega)]
    · rw [if_neg h3, List.getElem?_eq_none (by rw [e2]; omega)]

theorem step_apd3 {ops : Array Oper} {o : Oper} {a : Act} {w : World} {K : Act → World → Prop} {Q : Exit → Act → World → Prop} {E : Prop}
    (hg : o.guard = none) (d x : Operand) (dT sT : TypeId) (hop : o.op = Op.call { callee := Callee.builtin Builtin.append, args := #[d, x], argTypes := #[dT, sT] })
    (v u : Value) (hd : a.eval d = v) (hx : a.eval x = u) {v' : Value} {w' : World} (hr : (Builtin.append_ #[dT, sT] o.type #[v, u]).run Try.prog w = .ok v' w') (hK : K (a.put o.dst v') w') :
    if Region.wanted o (yielded ops a.tmps) = true then Oper.wp Try.prog o a w K Q else E := by
  have hw : Region.wanted o (yielded ops a.tmps) = true := by simp [Region.wanted, hg]
  rw [if_pos hw]
  unfold Oper.wp
  simp [execOp, hop, resolve, invoke, builtin, hd, hx, hr, Result.andThen]
  exact hK

set_option maxRecDepth 100000 in
set_option maxHeartbeats 2000000 in
theorem Delete_any (A : Option Addr) (n c i : Nat) (gs : List G) (base : Nat) (w : World) (h : OwnedG w base 68 (.slice A n c) gs) (hn : n ≤ 100) (hi : i < n) :
    Calls Try.prog 77 #[.slice A n c, .int .i64 (i : Int), .int .i64 ((i : Int) + 1)] w fun e w' => ∃ v, e = .returned v ∧ OwnedG w' base 68 v (gs.take i ++ gs.drop (i + 1)) ∧ Below base w w' := by
  obtain ⟨g, rfl⟩ : ∃ g, A = some ⟨g, 0, none⟩ := by
    rcases h.2 with ⟨hx, _⟩ | ⟨g, _, _, hx, _⟩
    · simp only [Value.slice.injEq] at hx; omega
    · simp only [Value.slice.injEq] at hx; exact ⟨g, hx.1⟩
  obtain ⟨cur, hB, hbg, hln, hnc, hcm, hcs, htk⟩ := h.blk
  obtain ⟨i0, h0, hz0, hz1, hz2⟩ := info_parts info68
  have hm := h.reads.most
  have hdl : (cells3_ (gs.drop (i + 1))).length = (n - (i + 1)) * 3 := by rw [cells3_length, List.length_drop, hln]
  have hrun : ∀ ty a2 sc, (a2 = ⟨g, (i + 1) * 3, none⟩ ∨ n = i + 1) → (Builtin.append_ #[23, 23] ty #[.slice (some ⟨g, 0, none⟩) i c, .slice (some a2) (n - (i + 1)) sc]).run Try.prog w.drew = .ok (.slice (some ⟨g, 0, none⟩) (n - 1) c) (w.drew.setRow g (plug (i * 3) (cells3_ (gs.drop (i + 1))) cur.toList).toArray) := by
    intro ty a2 sc ha
    have := run_append_room (P := Try.prog) w.drew 23 ty 68 i0 Try.underlying23 h0 g i c cur (hB.drewN 1) a2 (n - (i + 1)) sc (cells3_ (gs.drop (i + 1))) (by rw [hz1]; exact hdl) (by
      intro j v hj
      rcases ha with rfl | hz
      · exact blk_src (hB.drewN 1) _ _ (drop_src htk hln (i + 1)) j v hj
      · have := (List.getElem?_eq_some_iff.1 hj).1
        rw [hdl] at this; omega) (fun u hu => cells3_one _ u hu) (by omega) (by rw [hz1, hdl, hcs]; omega)
    rw [this, hz1, show i + (n - (i + 1)) = n - 1 from by omega]
    rfl
  obtain ⟨W2, hW2⟩ : ∃ W2, W2 = w.drew.setRow g (plug (i * 3) (cells3_ (gs.drop (i + 1))) cur.toList).toArray := ⟨_, rfl⟩
  rw [← hW2] at hrun
  have hB2 : Blk W2 g 68 (plug (i * 3) (cells3_ (gs.drop (i + 1))) cur.toList).toArray := by rw [hW2]; exact setRow_heap _ _ _ _ _ _ (hB.drewN 1)
  have hbel2 : Below base w W2 := by rw [hW2]; exact below_setRow (Below.refl _ _).drew hbg _
  clear hW2
  have hp1 : (plug (i * 3) (cells3_ (gs.drop (i + 1))) cur.toList).length = c * 3 := by rw [plug_length (by rw [hdl]; simp [hcs]; omega)]; simpa using hcs
  obtain ⟨zs, hzl, hclr⟩ : ∃ zs : List Value, zs.length = 3 ∧ ∀ ty sc, (Builtin.clear_ #[23] ty #[.slice (some ⟨g, (n - 1) * 3, none⟩) 1 sc]).run Try.prog W2 = .ok (.tuple #[]) (W2.setRow g (plug ((n - 1) * 3) zs (plug (i * 3) (cells3_ (gs.drop (i + 1))) cur.toList)).toArray) := by
    obtain ⟨zs, h1, h2⟩ := run_clear3 W2 0 g ((n - 1) * 3) 1 0 _ (by omega) hB2 (by simp [hp1]; omega)
    exact ⟨zs, h1, fun ty sc => by rw [← h2]; rfl⟩
  obtain ⟨W3, hW3⟩ : ∃ W3, W3 = W2.setRow g (plug ((n - 1) * 3) zs (plug (i * 3) (cells3_ (gs.drop (i + 1))) cur.toList)).toArray := ⟨_, rfl⟩
  rw [← hW3] at hclr
  have hB3 : Blk W3 g 68 (plug ((n - 1) * 3) zs (plug (i * 3) (cells3_ (gs.drop (i + 1))) cur.toList)).toArray := by rw [hW3]; exact setRow_heap _ _ _ _ _ _ hB2
  have hbel3 := hide (show Below base w W3 by rw [hW3]; exact below_setRow hbel2 hbg _)
  clear hW3
  have hfin := hide (show OwnedG W3 base 68 (.slice (some ⟨g, 0, none⟩) (n - 1) c) (gs.take i ++ gs.drop (i + 1)) from by
    refine OwnedG.of_blk hB3 hbg (by simp; omega) (by omega) hcm (by simp only [List.size_toArray]; rw [plug_length (by rw [hzl, hp1]; omega)]; exact hp1) ?_
    simp only [List.toList_toArray]
    exact del_cells gs n i cur.toList zs hln hi (by simp [hcs]; omega) hzl (fun j hj => take_low htk j (by omega)))
  clear hB3 hp1 hbel2 hB2 hdl h0 hz0 hz1 hz2 htk hcs hcm hln hB h hzl
  obtain ⟨n1, rfl⟩ : ∃ n1, n = n1 + 1 := ⟨n - 1, by omega⟩
  simp only [Nat.add_sub_cancel] at hfin hclr hrun
  have hrun : ∀ ty a2 sc, (a2 = if c = i + 1 then some (⟨g, 0, none⟩ : Addr) else some ⟨g, (i + 1) * 3, none⟩) → (Builtin.append_ #[23, 23] ty #[.slice (some ⟨g, 0, none⟩) i c, .slice a2 (n1 - i) sc]).run Try.prog w.drew = .ok (.slice (some ⟨g, 0, none⟩) n1 c) W2 := by
    intro ty a2 sc ha
    have e : n1 + 1 - (i + 1) = n1 - i := by omega
    rw [e] at hrun
    by_cases hc : c = i + 1
    · rw [if_pos hc] at ha; subst ha; exact hrun ty _ sc (.inr (by omega))
    · rw [if_neg hc] at ha; subst ha; exact hrun ty _ sc (.inl rfl)
  have hb7 : i ≤ c := by omega
  have htn : ((i : Int) + 1).toNat = i + 1 := by omega
  have hb2 : ((i : Int) == (i : Int) + 1) = false := by simp; omega
  have hb3 : (0 : Int) ≤ (i : Int) + 1 := by omega
  have hw1 : IntKind.i64.wrap ((i : Int) + 1) = (i : Int) + 1 := by rw [IntKind.wrap_i64]; omega
  by_cases hc : c = i + 1
  · obtain rfl : n1 = i := by omega
    subst hc
    have hrun2 : ∀ ty sc, (Builtin.append_ #[23, 23] ty #[.slice (some ⟨g, 0, none⟩) n1 (n1 + 1), .slice (some ⟨g, 0, none⟩) 0 sc]).run Try.prog w.drew = .ok (.slice (some ⟨g, 0, none⟩) n1 (n1 + 1)) W2 := fun ty sc => by
      have := hrun ty (some ⟨g, 0, none⟩) sc (by rw [if_pos rfl])
      rwa [Nat.sub_self] at this
    clear hrun
    have hq : (n1 : Int) ≤ (n1 : Int) + 1 := by omega
    go_enter Try.func77, Try.ntmps77
    go_wp2_with fail
    go_region_law (refine step_apd3 rfl (.tmp 22) (.tmp 25) 23 23 rfl (.slice (some ⟨g, 0, none⟩) n1 (n1 + 1)) (.slice (some ⟨g, 0, none⟩) 0 0) (by simp [Act.eval, Act.put]) (by simp [Act.eval, Act.put]) (hrun2 23 0) ?_)
    go_wp2_with (at_builtin; refine wpList_clr _ rfl _ 23 rfl _ rfl (hclr _ _) ?_)
    go_ret
    exact ⟨_, rfl, unhide hfin, unhide hbel3⟩
  · have hrun2 : ∀ ty sc, (Builtin.append_ #[23, 23] ty #[.slice (some ⟨g, 0, none⟩) i c, .slice (some ⟨g, (i + 1) * 3, none⟩) (n1 - i) sc]).run Try.prog w.drew = .ok (.slice (some ⟨g, 0, none⟩) n1 c) W2 := fun ty sc =>
      hrun ty (some ⟨g, (i + 1) * 3, none⟩) sc (by rw [if_neg hc])
    clear hrun
    have hb1 : ¬ (c = i) := by omega
    have hb4 : i ≤ n1 := by omega
    have hb5 : ¬ (c = n1) := by omega
    have hb6 : i ≤ n1 + 1 := by omega
    have hb7 : i ≤ c := by omega
    go_enter Try.func77, Try.ntmps77
    go_wp2_with fail
    go_region_law (refine step_apd3 rfl (.tmp 22) (.tmp 25) 23 23 rfl (.slice (some ⟨g, 0, none⟩) i c) (.slice (some ⟨g, (i + 1) * 3, none⟩) (n1 - i) (c - (i + 1))) (by simp [Act.eval, Act.put]) (by simp [Act.eval, Act.put]) (hrun2 23 (c - (i + 1))) ?_)
    go_wp2_with (at_builtin; refine wpList_clr _ rfl _ 23 rfl _ rfl (hclr _ _) ?_)
    go_ret
    exact ⟨_, rfl, unhide hfin, unhide hbel3⟩
end Go.Proofs.Ytdlbahoenhhkdaa
