/-
  slices.AppendSeq, slices.Collect of whole points; Points.
-/
import Derived.Test.YtccfhcoioakmpaaC3
import Derived.Test.YtccfhcoioakmpaaQ1
namespace Go.Proofs.Ytccfhcoioakmpaa
open Go.RowKit Go.Shelf
attribute [local go_sem] Oper.semAt_some

theorem OwnQ.low {w : World} {base b' : Nat} {e : TypeId} {v : Value} {fs : List F} (h : OwnQ w base e v fs) (hb : b' ≤ base) : OwnQ w b' e v fs := by
  refine ⟨h.1, ?_⟩
  rcases h.2 with h0 | ⟨g, cap, cur, hv, hg, r⟩
  · exact .inl h0
  · exact .inr ⟨g, cap, cur, hv, Nat.le_trans hb hg, r⟩
theorem new_cells (w : World) (t : TypeId) (us : List Value) : ∀ (j : Nat) (u : Value), us[j]? = some u → (w.alloc (.cells us.toArray t)).cell? ((⟨w.heap.size, 0, none⟩ : Addr).add j) = some u := by
  intro j u hu
  have hadd : (⟨w.heap.size, 0, none⟩ : Addr).add j = ⟨w.heap.size, j, none⟩ := by unfold Addr.add; split <;> simp_all
  rw [hadd, World.cell?_alloc_at _ _ _ _ rfl]
  simpa using hu

set_option maxRecDepth 100000 in
set_option maxHeartbeats 4000000 in
theorem appendSeq_any (gf : Nat) (lb : Array Value) (eg : ∀ args w, (callFunc gf args).run Try.prog w = .ok (.enter gf args) w) (xs : List (Int × Int)) (S : Nat → Prop) (w : World) (hseq : Seqs Try.prog gf lb encP xs S w) (hlen : xs.length ≤ 1000000) (hS : ∀ k, S k → k < w.heap.size) :
    Calls Try.prog 94 #[.slice none 0 0, .func (.func gf) #[] lb] w fun e w' => ∃ v, e = .returned v ∧ OwnQ w' w.heap.size 43 v xs ∧ Below w.heap.size w w' := by
  obtain ⟨i0, hi, hz0, hz1, hz2⟩ := info_parts info43
  refine (callsIn_wide (n := 0)).1 ?_
  refine callsIn_of_wp_marks Try.func94 rfl trivial ?_ rfl
  simp only [Try.ntmps94, List.size_toArray, List.length_cons, List.length_nil, Nat.reduceAdd, Nat.reduceSub, Array.replicate_succ, Array.replicate_zero, List.push_toArray, List.append_toArray, List.nil_append, List.cons_append]
  gi_wp2
  have bO := Boxed.new w 29 (.slice none 0 0)
  have hB0 : Below w.heap.size w (w.alloc (.cells #[.slice none 0 0] 29)) := (Below.refl _ w).alloc (Nat.le_refl _) _
  refine wp_range rfl eg hseq hB0 (by intro k hk; have := hS k hk; simp; omega) (fun _ => rfl)
    (fun pre W => (∃ v, Boxed W w.heap.size 29 v ∧ OwnQ W w.heap.size 43 v pre ∧ True) ∧ Below w.heap.size w W) (fun _ _ => False)
    (OwnFrom.and (Own.from (holdsRow_own w.heap.size w.heap.size 29 43 2 (fun pre => pre.length) (fun pre => cells2_ pre) (fun _ _ => True)) _) (ownFrom_below (Nat.le_refl _) (by simp)))
    (fun _ _ _ _ _ hs _ _ => hs)
    ⟨⟨_, bO, World.ownsRow_nil _ _ _ _, trivial⟩, hB0⟩
    (fun x a' W => ∃ Bx, w.heap.size < Bx ∧ W.heap[Bx]? = some (.cells #[.int .i64 x.1, .int .i64 x.2] 43 (0, 0)) ∧ a' = { tmps := #[.slice none 0 0, .func (.func gf) #[] lb, .pointer (some ⟨w.heap.size, 0, none⟩), undef, .slice none 0 0, .pointer (some ⟨Bx, 0, none⟩), .func (.func gf) #[] lb, .agg #[.int .i64 x.1, .int .i64 x.2], undef, undef, undef, undef, undef], defers := [] })
    ?ax ?assign ?body ?done ?stop
  case assign =>
    rintro l pre x W K hpre ⟨hI, hB⟩ hK
    obtain ⟨v, hv, hrow, _⟩ := hI
    have hsz := hv.lt
    have hS1 : ∀ k, S k → k < W.heap.size := fun k hk => by have := hS k hk; omega
    have HK := hide (hK { tmps := #[.slice none 0 0, .func (.func gf) #[] lb, .pointer (some ⟨w.heap.size, 0, none⟩), undef, .slice none 0 0, .pointer (some ⟨W.heap.size, 0, none⟩), .func (.func gf) #[] lb, .agg #[.int .i64 x.1, .int .i64 x.2], undef, undef, undef, undef, undef], defers := [] } (W.alloc (.cells #[.int .i64 x.1, .int .i64 x.2] 43)) ((KeepsOthers.alloc _ _).from _) (Kept.below ((Below.refl _ _).alloc (Nat.le_refl _) _) hS1)
      ⟨⟨v, hv.alloc _, World.ownsRow.alloc hrow _, trivial⟩, hB.alloc (by omega) _⟩ ⟨W.heap.size, hsz, heap_new_ _ _, rfl⟩)
    clear hK hv hrow hB hS1
    gi_wp2
    exact unhide HK
  case ax =>
    intro x a' s A B row hs hg hr
    obtain ⟨Bx, h1, h2, h3⟩ := hs
    refine ⟨Bx, h1, (hg.block Bx (Array.getElem?_eq_some_iff.1 h2).1 (fun e => ?_)).trans h2, h3⟩
    obtain ⟨_, o, ho, hc⟩ := hr Bx e.symm
    rw [h2] at ho; cases ho; cases hc
  case body =>
    rintro l pre x a' W hpre ⟨⟨v, hv, hrow, _⟩, hB⟩ ⟨Bx, hBx, hbx, rfl⟩
    have hc := hv.cell
    have hx0 : W.cell? ⟨Bx, 0, none⟩ = some (.int .i64 x.1) := by rw [cell_row_ hbx]; rfl
    have hx1 : W.cell? ⟨Bx, 1, none⟩ = some (.int .i64 x.2) := by rw [cell_row_ hbx]; rfl
    have hpl := hpre.length_le
    simp only [List.length_append, List.length_cons, List.length_nil] at hpl
    have HB := hide hB
    have HV := hide hv
    have HS := hide hS
    clear hpre hbx hB hv hseq hS
    gi_wp2_with (gi_at_builtin; refine wpListIn_append_own _ rfl _ _ 29 rfl w.heap.size 43 i0 (.agg #[.int .i64 0, .int .i64 0]) 2 16 Try.underlying29 hi hz0 hz1 hz2 rfl (by decide) _ _ _ rfl (World.ownsRow.alloc hrow _) ⟨W.heap.size, 0, none⟩ 1 1 [.int .i64 x.1, .int .i64 x.2] rfl rfl (new_cells _ _ _) (by simp [Value.oneCell']) (by unfold maxLen; omega) (by omega) (by have := (unhide HB).size; simp; omega) ?_; intro v' w1 hown' hgrow _; obtain ⟨g', cap', rfl⟩ := ownsRow_succ hown'; obtain ⟨hv1, hv2, hr2, hk2, hb2⟩ := (unhide HV).appended (by decide) hrow (unhide HB).size (Nat.le_refl _) hown' hgrow; have hc1 := hv1.cell; have hf1 := hv1.frozen)
    refine ⟨hk2.from _, ?_, ⟨⟨_, hv2, ?_, trivial⟩, (unhide HB).trans hb2⟩⟩
    · exact ⟨hb2.size, fun k hk => hb2.block k ((unhide HS) k hk)⟩
    · unfold OwnQ; rw [List.length_append, cells2_app]; exact hr2
  case done =>
    rintro D W hD ⟨⟨v, hv, hrow, _⟩, hB⟩ hK
    have hc := hv.cell
    gi_wp2
    refine ⟨by simp, .inl ⟨_, _, rfl, run_takeDeferred hK, ?_⟩⟩
    exact ⟨_, results_tmp rfl _ _ _, v, rfl, ownsRow_putObj hrow _ hK rfl, hB.trans (belowK_b (w := w) (Nat.le_refl _) W D _ _ (by simp at hD; omega) hK rfl rfl)⟩
  case stop =>
    rintro D c W _ h _
    exact h.elim

set_option maxHeartbeats 400000 in
theorem collect_any (gf : Nat) (lb : Array Value) (eg : ∀ args w, (callFunc gf args).run Try.prog w = .ok (.enter gf args) w) (xs : List (Int × Int)) (S : Nat → Prop) (w : World) (hseq : Seqs Try.prog gf lb encP xs S w) (hlen : xs.length ≤ 1000000) (hS : ∀ k, S k → k < w.heap.size) :
    Calls Try.prog 68 #[.func (.func gf) #[] lb] w fun e w' => ∃ v, e = .returned v ∧ OwnQ w' w.heap.size 43 v xs ∧ Below w.heap.size w w' := by
  have HA := hide (appendSeq_any gf lb eg xs S w hseq hlen hS)
  clear hseq hS
  go_enter Try.func68, Try.ntmps68
  go_wp2_with fail
  refine (unhide HA).mono ?_
  rintro e w1 ⟨v, rfl, ho, hb⟩
  have HO := hide ho; have HB := hide hb
  clear ho hb HA
  go_wp2_with fail
  go_ret
  exact ⟨v, rfl, unhide HO, unhide HB⟩

theorem wholePoints_any (A : Option Addr) (n c : Nat) (w : World) :
    Calls Try.prog 69 #[.slice A n c] w fun e w' => e = .returned (.func (.func 95) #[] #[.pointer (some ⟨w.heap.size, 0, none⟩)]) ∧ w' = w.alloc (.cells #[.slice A n c] 27) := by
  go_enter Try.func69, Try.ntmps69
  go_wp2_with fail
  go_ret
  exact ⟨rfl, rfl⟩

theorem seg_length (x lo : Int) (m : Nat) : (seg x lo m).length = m := by simp [seg]
theorem ptsTo_length (gs : List G) (ho : OkAll gs) : ∀ k, k ≤ 641 → (ptsTo gs k).length ≤ k * 641
  | 0, _ => by simp [ptsTo]
  | k + 1, hk => by
    have := ptsTo_length gs ho k (by omega)
    have hb := colF_bd (x := (k : Int) - 320) (gs := gs) (by omega) ho
    rw [ptsTo_succ, List.length_append, colL, seg_length, colM]
    omega
theorem ptsF_length (gs : List G) (ho : OkAll gs) : (ptsF gs).length ≤ 410881 := ptsTo_length gs ho 641 (Nat.le_refl _)
theorem plF_ok {gs : List G} (h : plF gs = true) : OkAll gs := by
  simp only [plF, Bool.and_eq_true] at h
  exact List.all_eq_true.1 h.1.2

theorem enters95 : ∀ args w, (callFunc 95 args).run Try.prog w = .ok (.enter 95 args) w := enters_of Try.func95 (by kernel_rfl) rfl

set_option maxHeartbeats 800000 in
theorem Points_no (A : Option Addr) (n c : Nat) (gs : List G) (w : World) (h : Gs w w.heap.size A n c gs) (hp : Hid (plF gs = false)) :
    Calls Try.prog 19 #[.slice A n c] w fun e w' => e = .returned (.tuple #[.slice none 0 0, .int .i64 2]) ∧ Below w.heap.size w w' := by
  have H := hide h; clear h
  go_enter Try.func19, Try.ntmps19
  go_wp2_with fail
  refine (isPlate_is _ _ _ _ _ (unhide H) _ hp).mono ?_
  rintro e w1 ⟨rfl, hb⟩
  have HB := hide hb; clear hb
  go_wp2_with fail
  go_ret2
  exact ⟨rfl, unhide HB⟩

set_option maxHeartbeats 800000 in
theorem Points_yes (A : Option Addr) (n c : Nat) (gs : List G) (w : World) (h : Gs w w.heap.size A n c gs) (hp : Hid (plF gs = true)) :
    Calls Try.prog 19 #[.slice A n c] w fun e w' => ∃ v, e = .returned (.tuple #[v, .int .i64 0]) ∧ OwnQ w' w.heap.size 43 v (ptsF gs) ∧ Below w.heap.size w w' := by
  have H := hide h; clear h
  go_enter Try.func19, Try.ntmps19
  go_wp2_with fail
  refine (isPlate_is _ _ _ _ _ (unhide H) _ hp).mono ?_
  rintro e w1 ⟨rfl, hb⟩
  have HB := hide hb; clear hb
  have HG := hide (show Gs (w1.alloc (.cells #[.slice A n c] 27)) w1.heap.size A n c gs from (((unhide H).below (unhide HB)).more (unhide HB).size).below ((Below.refl _ _).alloc (Nat.le_refl _) _))
  have HA := hide (collect_any 95 #[.pointer (some ⟨w1.heap.size, 0, none⟩)] enters95 (ptsF gs) (fun k => k < w1.heap.size ∨ k = w1.heap.size) (w1.alloc (.cells #[.slice A n c] 27))
    (points_seq gs A n c w1.heap.size w1.heap.size _ _ (unhide HG) (hide (plF_ok hp.out)) (by rw [World.cell?_alloc_at _ _ _ _ rfl]; rfl) (by simp) (by simp) (fun k hk => hk) (fun k hk => by simp; omega))
    (by have := ptsF_length gs (plF_ok hp.out); omega) (fun k hk => by simp; omega))
  go_wp2_with (go_at_call 69; refine (wholePoints_any _ _ _ _).mono ?_; rintro e w' ⟨rfl, rfl⟩)
  refine (unhide HA).mono ?_
  rintro e w2 ⟨v, rfl, ho, hb⟩
  have hsz : w.heap.size ≤ (w1.alloc (.cells #[.slice A n c] 27)).heap.size := by have := (unhide HB).size; simp; omega
  have HB2 := hide (((unhide HB).alloc (unhide HB).size (.cells #[.slice A n c] 27)).trans (hb.mono hsz))
  have HO := hide (show OwnQ w2 w.heap.size 43 v (ptsF gs) from OwnQ.low ho hsz)
  clear ho hb HA
  go_wp2_with fail
  go_ret2
  exact ⟨v, rfl, unhide HO, unhide HB2⟩
end Go.Proofs.Ytccfhcoioakmpaa
