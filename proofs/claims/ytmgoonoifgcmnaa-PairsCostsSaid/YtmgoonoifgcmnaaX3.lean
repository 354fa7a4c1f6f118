/-
  First, Count.
-/
import Derived.Test.YtmgoonoifgcmnaaX2
import Derived.StillTailTactics
namespace Go.Proofs.Ytmgoonoifgcmnaa
open Go.RowKit Go.Shelf

attribute [local go_sem] Oper.semAt_some

theorem Blk.own {A B : World} {row : Option Nat} {g : Nat} {t : TypeId} {cs : Array Value} (h : Blk A g t cs) (hg : A.grownBy B row) (hr : ∀ r, row = some r → ∃ o : Obj, A.heap[r]? = some o ∧ o.isCells = false) : Blk B g t cs := by
  refine (hg.block g (Blk.lt h) (fun e => ?_)).trans h
  obtain ⟨o, ho, hx⟩ := hr g e.symm
  rw [h] at ho; cases ho; cases hx
theorem below_own {A B w : World} {row : Option Nat} {n0 : Nat} (h : Below n0 w A) (hg : A.grownBy B row) (hn : n0 ≤ A.heap.size) (hr : ∀ r, row = some r → n0 ≤ r) : Below n0 w B := h.grown hg hn hr

/-- What First leaves in its two results' cells. -/
def FirstAt (w : World) (x : List Int) (W : World) : Prop :=
  ∃ A n c, Blk W w.heap.size 22 #[.slice A n c] ∧ Blk W (w.heap.size + 1) 23 #[.int .i64 0] ∧ Ints W W.heap.size A n c x ∧ Below w.heap.size w W

set_option maxRecDepth 100000 in
set_option maxHeartbeats 4000000 in
theorem First_ok (n s : Nat) (hn : 1 ≤ n ∧ n ≤ 8) (hs : 1 ≤ s ∧ s ≤ 2) (x : List Int) (rest : List (List Int)) (hx : Hid (rowsL n s = x :: rest)) (hxl : x.length ≤ 16) (w : World) :
    Calls Try.prog 26 #[.int .i64 n, .int .i64 s] w fun e w' => ∃ A' n' c', e = .returned (.tuple #[.slice A' n' c', .int .i64 0]) ∧ Ints w' w'.heap.size A' n' c' x ∧ Below w.heap.size w w' := by
  have HC := hide (show ctB n = true from by simp [ctB]; omega)
  have HS := hide (show shB s = true from by simp [shB]; omega)
  refine (callsIn_wide (n := 0)).1 ?_
  refine callsIn_of_wp_marks Try.func26 rfl trivial ?_ rfl
  simp only [Try.ntmps26, List.size_toArray, List.length_cons, List.length_nil, Nat.reduceAdd, Nat.reduceSub, Array.replicate_succ, Array.replicate_zero, List.push_toArray, List.append_toArray, List.nil_append, List.cons_append]
  gi_wp2_with fail
  refine ⟨trivial, rfl, (callsIn_wide.2 (isCount_any _ _ true HC)).mono ?_⟩
  rintro e w' ⟨rfl, rfl⟩
  gi_wp2_with fail
  refine ⟨trivial, rfl, (callsIn_wide.2 (isShift_any _ _ true HS)).mono ?_⟩
  rintro e w' ⟨rfl, rfl⟩
  gi_wp2_with fail
  refine ⟨trivial, rfl, (callsIn_wide.2 (rows_any _ _ _)).mono ?_⟩
  rintro e w' ⟨rfl, rfl⟩
  gi_wp2_with fail
  obtain ⟨wr, hwr⟩ : ∃ wr, wr = (((w.alloc (.cells #[.slice none 0 0] 22)).alloc (.cells #[.int .i64 0] 23)).alloc (.cells #[.int .i64 n] 3)).alloc (.cells #[.int .i64 s] 3) := ⟨_, rfl⟩
  have hb0 : Below w.heap.size w wr := by rw [hwr]; exact ((((Below.refl _ w).alloc (Nat.le_refl _) _).alloc (by simp) _).alloc (by simp; omega) _).alloc (by simp; omega) _
  have hsz : wr.heap.size = w.heap.size + 1 + 1 + 1 + 1 := by rw [hwr]; simp
  have hk0 : Blk wr w.heap.size 22 #[.slice none 0 0] := by rw [hwr]; exact (((Blk.new w _ _).alloc _).alloc _).alloc _
  have hk1 : Blk wr (w.heap.size + 1) 23 #[.int .i64 0] := by
    rw [hwr]
    have := Blk.new (w.alloc (.cells #[.slice none 0 0] 22)) 23 #[.int .i64 0]
    rw [World.size_alloc] at this
    exact (this.alloc _).alloc _
  have hcn : wr.cell? ⟨w.heap.size + 1 + 1, 0, none⟩ = some (.int .i64 n) := by
    rw [hwr, World.cell?_alloc_lt _ _ _ (by simp), World.cell?_alloc_at _ _ _ _ (by simp)]; rfl
  have hcs : wr.cell? ⟨w.heap.size + 1 + 1 + 1, 0, none⟩ = some (.int .i64 s) := by
    rw [hwr, World.cell?_alloc_at _ _ _ _ (by simp)]; rfl
  have hseq := rows_seq n s (w.heap.size + 1 + 1 + 1) (w.heap.size + 1 + 1) hn hs wr hcs hcn (by omega) (by omega)
  rw [← hwr]
  clear hwr hcn hcs
  refine wp_rangeR rfl enters99 hseq (Below.refl _ _) rfl
    (fun pre W => pre = [] ∧ Blk W w.heap.size 22 #[.slice none 0 0] ∧ Blk W (w.heap.size + 1) 23 #[.int .i64 0] ∧ Below w.heap.size w W)
    (fun c W => c = .ret ∧ FirstAt w x W) ?hI ?hIx ⟨rfl, hk0, hk1, hb0⟩
    (fun A' n' c' a' => a' = { tmps := #[.int .i64 n, .int .i64 s, undef, undef, .pointer (some ⟨w.heap.size, 0, none⟩), .pointer (some ⟨w.heap.size + 1, 0, none⟩), .slice A' n' c', .int .i64 n, .bool true, .bool false, .bool false, .int .i64 s, .bool true, .bool false, .bool false, .int .i64 n, .int .i64 s, .func (.func 99) #[] #[.pointer (some ⟨w.heap.size + 1 + 1 + 1, 0, none⟩), .pointer (some ⟨w.heap.size + 1 + 1, 0, none⟩)], .slice A' n' c', undef, undef], defers := [] })
    ?assign ?body ?done ?stop
  case hI =>
    rintro pre A B ⟨h1, h2, h3, h4⟩ hA hB
    exact ⟨h1, h2.below hB (by omega), h3.below hB (by omega), h4.trans (hB.mono (by omega))⟩
  case hIx =>
    rintro c _ A B row ⟨h0, A1, n1, c1, h1, h2, h3, h4⟩ hg hr
    have hr' : ∀ r, row = some r → ∃ o : Obj, A.heap[r]? = some o ∧ o.isCells = false := fun r e => (hr r e).2
    exact ⟨h0, A1, n1, c1, h1.own hg hr', h2.own hg hr', ints_own h3 hg hr', h4.grown hg h4.size (fun r e => by have := (hr r e).1; omega)⟩
  case assign =>
    rintro l A1 n1 c1 W K hK
    have HK := hide (hK _ rfl)
    clear hK
    gi_wp2
    exact unhide HK
  case body =>
    rintro l pre y A1 n1 c1 a' W hpre hWs ⟨rfl, h2, h3, h4⟩ hi rfl
    have hy : y = x := by
      have := hpre
      rw [hx.out] at this
      simpa using this
    subst hy
    have HL := hide hi.len
    have hn1 : n1 ≤ 16 := by have := hi.len; omega
    have HI := hide hi; have H2 := hide h2; have H3 := hide h3; have H4 := hide h4
    clear hi h2 h3 h4 hpre
    gi_wp2_with fail
    refine ⟨trivial, rfl, ((callsIn_wide.2 (clone_any _ _ _ _ _ _ (unhide HI) (by omega) (Nat.le_refl _))).inRound l).mono ?_⟩
    rintro e w1 ⟨v, rfl, ho, hb⟩
    obtain ⟨A3, c3, rfl, hi3⟩ := ho.ints
    have k0 := (unhide H2).below hb (by omega)
    have k1 := (unhide H3).below hb (by omega)
    have hb2 := (unhide H4).trans (hb.mono (by omega))
    have x0 := k0.cell 0; have x1 := k1.cell 0
    have x2 := k0.frozen 0; have x3 := k1.frozen 0
    simp only [List.getElem?_toArray, List.getElem?_cons_zero] at x0 x1
    have HF := hide (show Upper wr.heap.size W ((w1.setCell ⟨w.heap.size, 0, none⟩ (.slice A3 y.length c3)).setCell ⟨w.heap.size + 1, 0, none⟩ (.int .i64 0)) from
      ((Upper.below hb).trans (Upper.set (p := ⟨w.heap.size, 0, none⟩) (by show w.heap.size < wr.heap.size; omega) _)).trans (Upper.set (p := ⟨w.heap.size + 1, 0, none⟩) (by show w.heap.size + 1 < wr.heap.size; omega) _))
    have HG := hide (show FirstAt w y ((w1.setCell ⟨w.heap.size, 0, none⟩ (.slice A3 y.length c3)).setCell ⟨w.heap.size + 1, 0, none⟩ (.int .i64 0)) from
      ⟨A3, y.length, c3, (k0.set_ 0 _).far (by show w.heap.size ≠ w.heap.size + 1; omega) _, (k1.far (p := ⟨w.heap.size, 0, none⟩) (by show w.heap.size + 1 ≠ w.heap.size; omega) _).set_ 0 _, by
        have := ho.far (p := ⟨w.heap.size, 0, none⟩) (by show w.heap.size < W.heap.size; omega) (.slice A3 y.length c3)
        exact (this.far (p := ⟨w.heap.size + 1, 0, none⟩) (by show w.heap.size + 1 < W.heap.size; omega) (.int .i64 0)).reads,
        (hb2.setCell (p := ⟨w.heap.size, 0, none⟩) (Nat.le_refl _) _).setCell (p := ⟨w.heap.size + 1, 0, none⟩) (by show w.heap.size ≤ w.heap.size + 1; omega) _⟩)
    clear hb ho hi3 k0 k1 hb2
    gi_wp2_with fail
    exact ⟨HF.out, rfl, HG.out⟩
  case done =>
    rintro D W hD ⟨h1, _⟩ hK
    rw [hx.out] at h1; cases h1
  case stop =>
    rintro D c W hD ⟨rfl, A1, n1, c1, h1, h2, h3, h4⟩ hK
    have hDD : ∀ r, some D = some r → ∃ o : Obj, W.heap[r]? = some o ∧ o.isCells = false := fun r e => by cases e; exact ⟨_, hK, rfl⟩
    have hg := grownBy_putObj' W D (.deferred none)
    have k0 := (h1.own hg hDD).cell 0; have k1 := (h2.own hg hDD).cell 0
    simp only [List.getElem?_toArray, List.getElem?_cons_zero] at k0 k1
    have HI := hide (ints_own h3 hg hDD)
    have HB := hide (h4.grown hg h4.size (fun r e => by cases e; omega))
    gi_wp2
    refine ⟨by simp, .inl ⟨_, _, rfl, run_takeDeferred hK, ?_⟩⟩
    exact ⟨.tuple #[.slice A1 n1 c1, .int .i64 0], by simp [results, Try.results26, go_sem, k0, k1], A1, n1, c1, rfl, HI.out, HB.out⟩

set_option maxRecDepth 100000 in
set_option maxHeartbeats 4000000 in
theorem First_none (n s : Nat) (hn : 1 ≤ n ∧ n ≤ 8) (hs : 1 ≤ s ∧ s ≤ 2) (hx : Hid (rowsL n s = [])) (w : World) :
    Calls Try.prog 26 #[.int .i64 n, .int .i64 s] w fun e w' => e = .returned (.tuple #[.slice none 0 0, .int .i64 4]) ∧ Below w.heap.size w w' := by
  have HC := hide (show ctB n = true from by simp [ctB]; omega)
  have HS := hide (show shB s = true from by simp [shB]; omega)
  refine (callsIn_wide (n := 0)).1 ?_
  refine callsIn_of_wp_marks Try.func26 rfl trivial ?_ rfl
  simp only [Try.ntmps26, List.size_toArray, List.length_cons, List.length_nil, Nat.reduceAdd, Nat.reduceSub, Array.replicate_succ, Array.replicate_zero, List.push_toArray, List.append_toArray, List.nil_append, List.cons_append]
  gi_wp2_with fail
  refine ⟨trivial, rfl, (callsIn_wide.2 (isCount_any _ _ true HC)).mono ?_⟩
  rintro e w' ⟨rfl, rfl⟩
  gi_wp2_with fail
  refine ⟨trivial, rfl, (callsIn_wide.2 (isShift_any _ _ true HS)).mono ?_⟩
  rintro e w' ⟨rfl, rfl⟩
  gi_wp2_with fail
  refine ⟨trivial, rfl, (callsIn_wide.2 (rows_any _ _ _)).mono ?_⟩
  rintro e w' ⟨rfl, rfl⟩
  gi_wp2_with fail
  obtain ⟨wr, hwr⟩ : ∃ wr, wr = (((w.alloc (.cells #[.slice none 0 0] 22)).alloc (.cells #[.int .i64 0] 23)).alloc (.cells #[.int .i64 n] 3)).alloc (.cells #[.int .i64 s] 3) := ⟨_, rfl⟩
  have hb0 : Below w.heap.size w wr := by rw [hwr]; exact ((((Below.refl _ w).alloc (Nat.le_refl _) _).alloc (by simp) _).alloc (by simp; omega) _).alloc (by simp; omega) _
  have hsz : wr.heap.size = w.heap.size + 1 + 1 + 1 + 1 := by rw [hwr]; simp
  have hk0 : Blk wr w.heap.size 22 #[.slice none 0 0] := by rw [hwr]; exact (((Blk.new w _ _).alloc _).alloc _).alloc _
  have hk1 : Blk wr (w.heap.size + 1) 23 #[.int .i64 0] := by
    rw [hwr]
    have := Blk.new (w.alloc (.cells #[.slice none 0 0] 22)) 23 #[.int .i64 0]
    rw [World.size_alloc] at this
    exact (this.alloc _).alloc _
  have hcn : wr.cell? ⟨w.heap.size + 1 + 1, 0, none⟩ = some (.int .i64 n) := by
    rw [hwr, World.cell?_alloc_lt _ _ _ (by simp), World.cell?_alloc_at _ _ _ _ (by simp)]; rfl
  have hcs : wr.cell? ⟨w.heap.size + 1 + 1 + 1, 0, none⟩ = some (.int .i64 s) := by
    rw [hwr, World.cell?_alloc_at _ _ _ _ (by simp)]; rfl
  have hseq := rows_seq n s (w.heap.size + 1 + 1 + 1) (w.heap.size + 1 + 1) hn hs wr hcs hcn (by omega) (by omega)
  rw [← hwr]
  clear hwr hcn hcs
  refine wp_rangeR rfl enters99 hseq (Below.refl _ _) rfl
    (fun pre W => pre = [] ∧ Blk W w.heap.size 22 #[.slice none 0 0] ∧ Blk W (w.heap.size + 1) 23 #[.int .i64 0] ∧ Below w.heap.size w W)
    (fun _ _ => False) ?hI ?hIx ⟨rfl, hk0, hk1, hb0⟩
    (fun A' n' c' a' => a' = { tmps := #[.int .i64 n, .int .i64 s, undef, undef, .pointer (some ⟨w.heap.size, 0, none⟩), .pointer (some ⟨w.heap.size + 1, 0, none⟩), .slice A' n' c', .int .i64 n, .bool true, .bool false, .bool false, .int .i64 s, .bool true, .bool false, .bool false, .int .i64 n, .int .i64 s, .func (.func 99) #[] #[.pointer (some ⟨w.heap.size + 1 + 1 + 1, 0, none⟩), .pointer (some ⟨w.heap.size + 1 + 1, 0, none⟩)], .slice A' n' c', undef, undef], defers := [] })
    ?assign ?body ?done ?stop
  case hI =>
    rintro pre A B ⟨h1, h2, h3, h4⟩ hA hB
    exact ⟨h1, h2.below hB (by omega), h3.below hB (by omega), h4.trans (hB.mono (by omega))⟩
  case hIx => exact fun _ _ _ _ _ h _ _ => h
  case assign =>
    rintro l A1 n1 c1 W K hK
    have HK := hide (hK _ rfl)
    clear hK
    gi_wp2
    exact unhide HK
  case body =>
    rintro l pre y A1 n1 c1 a' W hpre
    rw [hx.out] at hpre
    have := hpre.length_le
    simp at this
  case done =>
    rintro D W hD ⟨_, h1, h2, h4⟩ hK
    have x0 := h1.cell 0; have x1 := h2.cell 0
    have x2 := h1.frozen 0; have x3 := h2.frozen 0
    simp only [List.getElem?_toArray, List.getElem?_cons_zero] at x0 x1
    have k0 := (h1.set_ 0 (.slice none 0 0)).far (p := ⟨w.heap.size + 1, 0, none⟩) (by show w.heap.size ≠ w.heap.size + 1; omega) (.int .i64 4)
    have k1 := (h2.far (p := ⟨w.heap.size, 0, none⟩) (by show w.heap.size + 1 ≠ w.heap.size; omega) (.slice none 0 0)).set_ 0 (.int .i64 4)
    have hK2 : ((W.setCell ⟨w.heap.size, 0, none⟩ (.slice none 0 0)).setCell ⟨w.heap.size + 1, 0, none⟩ (.int .i64 4)).heap[D]? = some (.deferred (some [])) :=
      (heap_setCell_other _ ⟨w.heap.size + 1, 0, none⟩ D _ (by show D ≠ w.heap.size + 1; omega)).trans ((heap_setCell_other _ ⟨w.heap.size, 0, none⟩ D _ (by show D ≠ w.heap.size; omega)).trans hK)
    have hb2 := (h4.setCell (p := ⟨w.heap.size, 0, none⟩) (Nat.le_refl _) (.slice none 0 0)).setCell (p := ⟨w.heap.size + 1, 0, none⟩) (by show w.heap.size ≤ w.heap.size + 1; omega) (.int .i64 4)
    have hDD : ∀ r, some D = some r → ∃ o : Obj, ((W.setCell ⟨w.heap.size, 0, none⟩ (.slice none 0 0)).setCell ⟨w.heap.size + 1, 0, none⟩ (.int .i64 4)).heap[r]? = some o ∧ o.isCells = false := fun r e => by cases e; exact ⟨_, hK2, rfl⟩
    have hg := grownBy_putObj' ((W.setCell ⟨w.heap.size, 0, none⟩ (.slice none 0 0)).setCell ⟨w.heap.size + 1, 0, none⟩ (.int .i64 4)) D (.deferred none)
    have y0 := (k0.own hg hDD).cell 0; have y1 := (k1.own hg hDD).cell 0
    have HB := hide (hb2.grown hg hb2.size (fun r e => by cases e; omega))
    have HK2 := hide hK2
    clear h1 h2 h4 k0 k1 hb2 hDD hg hK2
    gi_wp2
    refine ⟨by simp, .inl ⟨_, _, rfl, run_takeDeferred HK2.out, ?_⟩⟩
    exact ⟨.tuple #[.slice none 0 0, .int .i64 4], by simp [results, Try.results26, go_sem, y0, y1], rfl, HB.out⟩
  case stop =>
    rintro D c W _ h _
    exact h.elim

set_option maxRecDepth 100000 in
set_option maxHeartbeats 4000000 in
theorem First_no (n s : Int) (h : Hid ((ctB n && shB s) = false)) (w : World) :
    Calls Try.prog 26 #[.int .i64 n, .int .i64 s] w fun e w' => e = .returned (.tuple #[.slice none 0 0, .int .i64 2]) ∧ Below w.heap.size w w' := by
  have HB := hide (((Below.refl w.heap.size w).alloc (Nat.le_refl _) (.cells #[.slice none 0 0] 22)).alloc (by simp) (.cells #[.int .i64 2] 23))
  have hk0 := ((Blk.new w 22 #[.slice none 0 0]).alloc (.cells #[.int .i64 2] 23)).cell 0
  have hk1 := (Blk.new (w.alloc (.cells #[.slice none 0 0] 22)) 23 #[.int .i64 2]).cell 0
  rw [World.size_alloc] at hk1
  simp only [List.getElem?_toArray, List.getElem?_cons_zero] at hk0 hk1
  have HX := hide (And.intro hk0 hk1)
  clear hk0 hk1
  cases hc : ctB n with
  | false =>
    go_enter Try.func26, Try.ntmps26
    go_wp2_with (go_at_call 72; refine (isCount_any _ _ false (hide hc)).mono ?_; rintro e w' ⟨rfl, rfl⟩)
    refine bodyPost_ret (v := .tuple #[.slice none 0 0, .int .i64 2]) (by simp [results, Try.results26, go_sem, HX.out.1, HX.out.2]) rfl ⟨rfl, unhide HB⟩
  | true =>
    have hs : shB s = false := by have := h.out; rw [hc] at this; simpa using this
    go_enter Try.func26, Try.ntmps26
    go_wp2_with (first
      | (go_at_call 72; refine (isCount_any _ _ true (hide hc)).mono ?_; rintro e w' ⟨rfl, rfl⟩)
      | (go_at_call 68; refine (isShift_any _ _ false (hide hs)).mono ?_; rintro e w' ⟨rfl, rfl⟩))
    refine bodyPost_ret (v := .tuple #[.slice none 0 0, .int .i64 2]) (by simp [results, Try.results26, go_sem, HX.out.1, HX.out.2]) rfl ⟨rfl, unhide HB⟩
end Go.Proofs.Ytmgoonoifgcmnaa
