import Derived.Test.YtdlbahoenhhkdaaD6
/-
  slices.DeleteFunc (where a number is 0).
-/
namespace Go.Proofs.Ytdlbahoenhhkdaa
open Go.RowKit

theorem wpList_clr (w : World) {ops : Array Oper} {rest : List Oper} {o : Oper} {a : Act} {Q : Exit → Act → World → Prop} (hgd : o.guard = none) (s : Operand) (t : TypeId)
    (ho : o.op = .call { callee := .builtin .clear, args := #[s], argTypes := #[t] }) (v : Value) (hs : a.eval s = v) {v' : Value} {w' : World}
    (hr : (Builtin.clear_ #[t] o.type #[v]).run Try.prog w = .ok v' w') (h : wpList Try.prog ops Q rest (a.put o.dst v') w') : wpList Try.prog ops Q (o :: rest) a w :=
  wpList_plain hgd fun K hK => by
    unfold Oper.wp execOp
    simp only [ho, resolve, invoke, builtin, Sem.run_bind, Sem.run_pure, Result.andThen_ok, List.map_toArray, List.map_cons, List.map_nil, hs, hr]
    exact hK _ _ h

theorem OwnedG.at3 {w : World} {base g n c : Nat} {gs : List G} (h : OwnedG w base 68 (.slice (some ⟨g, 0, none⟩) n c) gs) (k : Nat) (hk : k < n) :
    w.cell? ⟨g, k * 3, none⟩ = some (.int .i64 (gth gs k).1) ∧ w.cell? ⟨g, k * 3 + 1, none⟩ = some (.int .i64 (gth gs k).2.1) ∧ w.cell? ⟨g, k * 3 + 2, none⟩ = some (.int .i64 (gth gs k).2.2) ∧
      w.frozen? ⟨g, k * 3, none⟩ = false ∧ w.frozen? ⟨g, k * 3 + 1, none⟩ = false ∧ w.frozen? ⟨g, k * 3 + 2, none⟩ = false := by
  obtain ⟨cur, hB, hb, hl, hnc, hc, hs, ht⟩ := h.blk
  obtain ⟨b, off, e, _, h1, h2, h3⟩ := h.reads.at_ k hk
  simp only [Option.some.injEq, Addr.mk.injEq] at e
  obtain ⟨rfl, rfl, _⟩ := e
  simp only [Nat.zero_add] at h1 h2 h3
  exact ⟨h1, h2, h3, hB.frozen _, hB.frozen _, hB.frozen _⟩

set_option maxRecDepth 100000 in
set_option maxHeartbeats 2000000 in
theorem DelF_any (A : Option Addr) (n c : Nat) (gs : List G) (base : Nat) (w : World) (h : OwnedG w base 68 (.slice A n c) gs) (hn : n ≤ 100) (hbase : base ≤ w.heap.size) :
    Calls Try.prog 75 #[.slice A n c, .func (Fn.func 76) #[] #[]] w fun e w' => ∃ v, e = .returned v ∧ OwnedG w' base 68 v (nz gs) ∧ Below base w w' := by
  have hr := h.reads
  have hm := hr.most; have hcap := hr.cap
  have hl := hide hr.len
  obtain ⟨m, hm1, hm2, hm3⟩ := first0 gs
  rw [hl.out] at hm1 hm3
  have hm2 := hide hm2
  have H := hide h
  by_cases hmn : m = n
  · have hnz := hide (nz_all (gs := gs) (by rw [hl.out, ← hmn]; exact hm2.out))
    clear hm3 h
    go_enter Try.func75, Try.ntmps75
    go_wp2_with fail
    refine (Index_any A n c gs m (-1) w hr hm1 hm2 (hide (.inl ⟨hmn, rfl⟩))).mono ?_
    rintro e w2 ⟨rfl, hb2⟩
    have HB2 := hide hb2
    clear hb2 hr
    go_wp2_with fail
    go_ret
    exact ⟨_, rfl, by rw [hnz.out]; exact (unhide H).below (unhide HB2) (Nat.le_refl _), (unhide HB2).mono hbase⟩
  · have hmlt : m < n := by omega
    have hz := hide (hm3 hmlt)
    clear hm3 hmn
    obtain ⟨g, rfl⟩ : ∃ g, A = some ⟨g, 0, none⟩ := by
      rcases h.2 with ⟨hx, _⟩ | ⟨g, _, _, hx, _⟩
      · simp only [Value.slice.injEq] at hx; omega
      · simp only [Value.slice.injEq] at hx; exact ⟨g, hx.1⟩
    obtain ⟨_, _, hbg, _⟩ := h.blk
    have hs0 := hide (show nz (gs.take (m + 1)) = gs.take m by
      rw [nz_take_succ (by rw [hl.out]; exact hmlt), if_pos hz.out, List.append_nil]
      refine nz_all fun j hj => ?_
      have hj' : j < m := by rw [List.length_take] at hj; omega
      have := hm2.out j hj'
      simpa [gth, List.getD, List.getElem?_take, hj'] using this)
    clear h
    go_enter Try.func75, Try.ntmps75
    go_wp2_with fail
    refine (Index_any _ n c gs m m w hr hm1 hm2 (hide (.inr ⟨hmlt, hz.out, rfl⟩))).mono ?_
    rintro e w2 ⟨rfl, hb2⟩
    have HB2 := hide hb2
    have HO2 := hide ((unhide H).below hb2 (Nat.le_refl _))
    have hne : ((m : Int) == -1) = false := by simp
    clear hb2 hr
    go_wp2_with fail
    go_loopw [5, 6, 7] (fun a b _ wr => ∃ (i j : Nat) (hs : List G), a = .int .i64 i ∧ b = .int .i64 j ∧ i < j ∧ j ≤ n ∧ Hid (hs.take i = nz (gs.take j)) ∧ Hid (∀ x, j ≤ x → x < n → gth hs x = gth gs x) ∧ OwnedG wr base 68 (.slice (some ⟨g, 0, none⟩) n c) hs ∧ Below base w wr) (fun _ b _ _ => n - (intOf b).toNat)
    case atStart => exact ⟨m, m + 1, gs, rfl, by go_num, by omega, by omega, hide hs0.out.symm, hide (fun _ _ _ => rfl), unhide HO2, (unhide HB2).mono hbase⟩
    case round =>
      obtain ⟨i, j, hs, rfl, rfl, hij, hjn, hst, hsx, ho, hb⟩ := hrel
      have HO := hide ho; have HB := hide hb
      have hsl := hide ho.reads.len
      by_cases hlt : j < n
      · obtain ⟨e1, e2, e3, _⟩ := ho.at3 j hlt
        obtain ⟨f, hf⟩ : ∃ f, (gth hs j).1 = f := ⟨_, rfl⟩
        obtain ⟨d, hd⟩ : ∃ f, (gth hs j).2.1 = f := ⟨_, rfl⟩
        obtain ⟨q, hq⟩ : ∃ f, (gth hs j).2.2 = f := ⟨_, rfl⟩
        rw [hf] at e1; rw [hd] at e2; rw [hq] at e3
        have hG := hide (show gth gs j = (f, d, q) by rw [← hsx.out j (Nat.le_refl _) hlt, ← hf, ← hd, ← hq])
        clear hf hd hq
        have hsz := hb.size
        have o1 := ho.alloc (.cells #[.int .i64 f, .int .i64 d, .int .i64 q] 68)
        have b1 := hb.alloc (by omega) (.cells #[.int .i64 f, .int .i64 d, .int .i64 q] 68)
        have v1 := Blk.new wr 68 #[.int .i64 f, .int .i64 d, .int .i64 q]
        have O1 := hide o1; have B1 := hide b1; have V1 := hide v1
        clear o1 b1 v1 ho hb
        by_cases hd0 : d = 0
        · have D0 := hide hd0
          have D1 : Hid (decide (d = 0) = true) := hide (by simpa using hd0)
          clear hd0
          go_wp2_with fail
          refine (lz_is f d q true _ D1).mono ?_
          rintro e w3 ⟨rfl, hb3⟩
          have O3 := hide ((unhide O1).below hb3 (Nat.le_refl _))
          have B3 := hide ((unhide B1).trans (hb3.mono (by simp; omega)))
          clear hb3
          go_wp2_with fail
          go_roundw
          case rel => exact ⟨i, j + 1, hs, rfl, by go_num, by omega, by omega, hide (by rw [nz_take_succ (by rw [hl.out]; exact hlt), hG.out, if_pos D0.out, List.append_nil]; exact hst.out), hide (fun x h1 h2 => hsx.out x (by omega) h2), unhide O3, unhide B3⟩
          case measure => simp [intOf]; omega
        · have D0 := hide hd0
          have D1 : Hid (decide (d = 0) = false) := hide (by simpa using hd0)
          clear hd0
          go_wp2_with fail
          refine (lz_is f d q false _ D1).mono ?_
          rintro e w3 ⟨rfl, hb3⟩
          have O3 := hide ((unhide O1).below hb3 (Nat.le_refl _))
          have B3 := hide ((unhide B1).trans (hb3.mono (by simp; omega)))
          have V3 := (unhide V1).below hb3 (by simp)
          have x0 : w3.cell? ⟨wr.heap.size, 0, none⟩ = some (.int .i64 f) := by rw [V3.cell]; rfl
          have x1 : w3.cell? ⟨wr.heap.size, 1, none⟩ = some (.int .i64 d) := by rw [V3.cell]; rfl
          have x2 : w3.cell? ⟨wr.heap.size, 2, none⟩ = some (.int .i64 q) := by rw [V3.cell]; rfl
          obtain ⟨y0, y1, y2, z0, z1, z2⟩ := (unhide O3).at3 i (by omega)
          have O4 := hide ((unhide O3).set3 (show i < n by omega) f d q)
          have B4 := hide ((((unhide B3).setCell (p := ⟨g, i * 3, none⟩) hbg (.int .i64 f)).setCell (p := ⟨g, i * 3 + 1, none⟩) hbg (.int .i64 d)).setCell (p := ⟨g, i * 3 + 2, none⟩) hbg (.int .i64 q))
          clear hb3 V3
          go_wp2_with fail
          go_roundw
          case rel => exact ⟨i + 1, j + 1, hs.set i (f, d, q), by go_num, by go_num, by omega, by omega, hide (by
            rw [nz_take_succ (by rw [hl.out]; exact hlt), hG.out, if_neg D0.out, ← hst.out, gtake _ _ (by rw [List.length_set, hsl.out]; omega), gth_set _ _ _ _ (by rw [hsl.out]; omega), if_pos rfl, List.take_set_of_le (by omega)]), hide (fun x h1 h2 => by rw [gth_set _ _ _ _ (by rw [hsl.out]; omega), if_neg (by omega)]; exact hsx.out x (by omega) h2), unhide O4, unhide B4⟩
          case measure => simp [intOf]; omega
      · obtain rfl : j = n := by omega
        obtain ⟨cur, hB, _, _, _, hcm, hcs, htk⟩ := ho.blk
        obtain ⟨zs, hzl, hrun⟩ : ∃ zs : List Value, zs.length = (j - i) * 3 ∧ ∀ ty, (Builtin.clear_ #[23] ty #[.slice (some ⟨g, i * 3, none⟩) (j - i) (c - i)]).run Try.prog wr = .ok (.tuple #[]) (wr.setRow g (plug (i * 3) zs cur.toList).toArray) := by
          obtain ⟨zs, h1, h2⟩ := run_clear3 wr 0 g (i * 3) (j - i) (c - i) cur (by omega) hB (by rw [hcs]; omega)
          exact ⟨zs, h1, fun ty => by rw [← h2]; rfl⟩
        have HF := hide (show OwnedG (wr.setRow g (plug (i * 3) zs cur.toList).toArray) base 68 (.slice (some ⟨g, 0, none⟩) i c) (nz gs) from by
          have e1 : nz gs = hs.take i := by rw [hst.out, List.take_of_length_le (by rw [hl.out]; omega)]
          refine OwnedG.of_blk (cur := (plug (i * 3) zs cur.toList).toArray) (setRow_heap _ _ _ _ _ _ hB) hbg (by rw [e1, List.length_take, hsl.out]; omega) (by omega) hcm (by simp only [List.size_toArray]; rw [plug_length (by rw [hzl]; simp [hcs]; omega)]; simpa using hcs) ?_
          rw [e1, cells3_take, ← htk, List.take_take]
          apply List.ext_getElem?
          intro x
          simp only [List.getElem?_take]
          rw [plug_at (by rw [hzl]; simp [hcs]; omega)]
          by_cases hx : x < i * 3
          · rw [if_pos hx, if_pos hx, if_pos (by omega)]
          · rw [if_neg hx, if_neg (by omega)])
        have HBF := hide (below_setRow hb hbg (plug (i * 3) zs cur.toList).toArray)
        have hci : ¬ (c = i) := by omega
        have hin : i ≤ j := by omega
        clear hB htk ho hb
        go_wp2_with (at_builtin; refine wpList_clr _ rfl _ 23 rfl _ rfl (hrun _) ?_)
        go_ret
        exact ⟨_, rfl, unhide HF, unhide HBF⟩
end Go.Proofs.Ytdlbahoenhhkdaa
