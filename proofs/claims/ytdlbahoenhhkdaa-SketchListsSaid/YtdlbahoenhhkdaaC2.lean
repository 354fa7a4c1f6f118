import Derived.Test.YtdlbahoenhhkdaaC1
import Derived.Laws.StructEq
/-
  Lists of counts: Of, own, slices.Equal.
-/
namespace Go.Proofs.Ytdlbahoenhhkdaa
open Go.RowKit

set_option maxHeartbeats 800000 in
theorem Of_any (A : Option Addr) (n c : Nat) (gs : List G) (w : World) (h : Gs w w.heap.size A n c gs) :
    Calls Try.prog 32 #[.slice A n c] w fun e w' => ∃ A' n' c', e = .returned (.slice A' n' c') ∧ Gs w' w'.heap.size A' n' c' (gs.take 11) ∧ Below w.heap.size w w' := by
  have hm := h.most; have hcap := h.cap
  have hl := hide h.len
  have H := hide h; clear h
  go_enter Try.func32, Try.ntmps32
  go_wp2_with fail
  go_loopw [8, 3] (fun i v wr => ∃ (k : Nat) (A1 : Option Addr) (n1 c1 : Nat), k ≤ n ∧ i = .int .i64 k ∧ v = .slice A1 n1 c1 ∧ OwnedG wr w.heap.size 68 (.slice A1 n1 c1) (gs.take (min k 11)) ∧ Below w.heap.size w wr) (fun i _ _ => n - (intOf i).toNat)
  case atStart => exact ⟨0, none, 0, 0, Nat.zero_le _, rfl, rfl, World.ownsRow_nil _ _ _ _, Below.refl _ _⟩
  case round =>
    obtain ⟨k, A1, n1, c1, hk, rfl, rfl, ho, hb⟩ := hrel
    have HO := hide ho; have HB := hide hb; clear ho hb
    by_cases hlt : k < n
    · obtain ⟨b, off, rfl, hbb, e1, e2, e3⟩ := ((unhide H).below (unhide HB)).at_ k hlt
      obtain ⟨f, hf⟩ : ∃ f, (gth gs k).1 = f := ⟨_, rfl⟩
      obtain ⟨d, hd⟩ : ∃ f, (gth gs k).2.1 = f := ⟨_, rfl⟩
      obtain ⟨m, hmm⟩ : ∃ f, (gth gs k).2.2 = f := ⟨_, rfl⟩
      rw [hf] at e1; rw [hd] at e2; rw [hmm] at e3
      have hgk := hide (show gth gs k = (f, d, m) from by rw [← hf, ← hd, ← hmm])
      clear hf hd hmm
      by_cases h60 : k < 11
      · have hst := hide (show gs.take (min (k + 1) 11) = gs.take (min k 11) ++ [(f, d, m)] from by
          rw [show min (k + 1) 11 = k + 1 from by omega, show min k 11 = k from by omega, gtake gs k (by rw [hl.out]; exact hlt), hgk.out])
        have hbs := (unhide HB).size
        go_wp2_with (at_builtin
                     refine wpList_appG (w := wr.alloc (.cells #[.int .i64 f, .int .i64 d, .int .i64 m] 34)) (by rfl) (.tmp 15) (.tmp 23) 23 68 (by rfl) Try.underlying23 info68 (by rfl) (by simp [Act.eval]) ((unhide HO).alloc _) (by rw [List.length_take]; omega) (by simp; omega) ?_
                     intro v1 w1 ho1 hb1 _
                     obtain ⟨A3, c3, e3, _⟩ := ho1.gs
                     have HO1 := hide ho1; have E3 := hide e3
                     have HB1 := hide (((unhide HB).alloc hbs (.cells #[.int .i64 f, .int .i64 d, .int .i64 m] 34)).trans hb1)
                     clear ho1 hb1 e3)
        go_roundw
        case rel => exact ⟨k + 1, A3, _, c3, by omega, by go_num, E3.out, by rw [hst.out, ← E3.out]; exact unhide HO1, unhide HB1⟩
        case measure => simp [intOf]; omega
      · have hst := hide (show gs.take (min (k + 1) 11) = gs.take (min k 11) from by rw [show min (k + 1) 11 = 11 from by omega, show min k 11 = 11 from by omega])
        have hbs := (unhide HB).size
        have HB1 := hide ((unhide HB).alloc hbs (.cells #[.int .i64 f, .int .i64 d, .int .i64 m] 34))
        have HO1 := hide ((unhide HO).alloc (.cells #[.int .i64 f, .int .i64 d, .int .i64 m] 34))
        go_wp2_with fail
        go_roundw
        case rel => exact ⟨k + 1, A1, n1, c1, by omega, by go_num, rfl, by rw [hst.out]; first | exact unhide HO1 | exact (unhide HO1), by first | exact unhide HB1 | exact (unhide HB1).drew⟩
        case measure => simp [intOf]; omega
    · obtain rfl : k = n := by omega
      go_wp2_with fail
      go_ret
      obtain ⟨A4, n4, c4, e4, hg⟩ := (unhide HO).to
      cases e4
      have e11 : gs.take (min k 11) = gs.take 11 := by
        rcases Nat.lt_or_ge k 11 with h1 | h1
        · rw [show min k 11 = k from by omega, List.take_of_length_le (by rw [hl.out]; exact Nat.le_refl _), List.take_of_length_le (by rw [hl.out]; omega)]
        · rw [show min k 11 = 11 from by omega]
      rw [e11] at hg
      exact ⟨_, _, _, rfl, hg, unhide HB⟩
set_option maxHeartbeats 1600000 in
/-- The sides, as the reference has them. -/
theorem own_map (A : Option Addr) (n c : Nat) (gs : List G) (w : World) (h : Gs w w.heap.size A n c gs) (hn : n ≤ 1000) :
    Calls Try.prog 23 #[.slice A n c] w fun e w' => ∃ v, e = .returned v ∧ OwnedG w' w.heap.size 34 v (gs.map fun g => ((g.1, g.2.1, g.2.2) : G)) ∧ Below w.heap.size w w' := by
  have hm := h.most; have hcap := h.cap
  have hl := hide h.len
  have H := hide h; clear h
  go_enter Try.func23, Try.ntmps23
  go_wp2_with fail
  go_loopw [8, 3] (fun i v wr => ∃ (k : Nat) (A1 : Option Addr) (n1 c1 : Nat), k ≤ n ∧ i = .int .i64 k ∧ v = .slice A1 n1 c1 ∧ OwnedG wr w.heap.size 34 (.slice A1 n1 c1) ((gs.take k).map fun g => ((g.1, g.2.1, g.2.2) : G)) ∧ Below w.heap.size w wr) (fun i _ _ => n - (intOf i).toNat)
  case atStart => exact ⟨0, none, 0, 0, Nat.zero_le _, rfl, rfl, World.ownsRow_nil _ _ _ _, Below.refl _ _⟩
  case round =>
    obtain ⟨k, A1, n1, c1, hk, rfl, rfl, ho, hb⟩ := hrel
    have HO := hide ho; have HB := hide hb; clear ho hb
    by_cases hlt : k < n
    · obtain ⟨b, off, rfl, hbb, e1, e2, e3⟩ := ((unhide H).below (unhide HB)).at_ k hlt
      have hkl : k < gs.length := by rw [hl.out]; exact hlt
      have hst := hide (show (gs.take (k + 1)).map (fun g => ((g.1, g.2.1, g.2.2) : G)) = (gs.take k).map (fun g => ((g.1, g.2.1, g.2.2) : G)) ++ [(fun g : G => ((g.1, g.2.1, g.2.2) : G)) (gth gs k)] from by rw [gtake gs k hkl, List.map_append]; rfl)
      
      revert hst
      obtain ⟨⟨f, d, m⟩, hgk⟩ : ∃ q, gth gs k = q := ⟨_, rfl⟩
      rw [hgk] at e1 e2 e3 ⊢
      clear hgk
      simp only at e1 e2 e3 ⊢
      intro hst
      
      have hbs := (unhide HB).size
      go_wp2_with (at_builtin
                   refine wpList_appG (w := wr.alloc (.cells #[.int .i64 f, .int .i64 d, .int .i64 m] 68)) (by rfl) (.tmp 12) (.tmp 20) 32 34 (by rfl) Try.underlying32 info34 (by rfl) (by simp [Act.eval]) ((unhide HO).alloc _) (by rw [List.length_map, List.length_take]; omega) (by simp; omega) ?_
                   intro v1 w1 ho1 hb1 _
                   obtain ⟨A3, c3, e3, _⟩ := ho1.gs
                   have HO1 := hide ho1; have E3 := hide e3
                   have HB1 := hide (((unhide HB).alloc hbs (.cells #[.int .i64 f, .int .i64 d, .int .i64 m] 68)).trans hb1)
                   clear ho1 hb1 e3)
      go_roundw
      case rel => exact ⟨k + 1, A3, _, c3, by omega, by go_num, E3.out, by rw [hst.out, ← E3.out]; exact unhide HO1, unhide HB1⟩
      case measure => simp [intOf]; omega
    · obtain rfl : k = n := by omega
      have hT := hide (show gs.take k = gs from List.take_of_length_le (by rw [hl.out]; exact Nat.le_refl _))
      go_wp2_with fail
      go_ret
      exact ⟨_, rfl, by have := unhide HO; rwa [hT.out] at this, unhide HB⟩

theorem own_any (A : Option Addr) (n c : Nat) (gs : List G) (w : World) (h : Gs w w.heap.size A n c gs) (hn : n ≤ 1000) :
    Calls Try.prog 23 #[.slice A n c] w fun e w' => ∃ v, e = .returned v ∧ OwnedG w' w.heap.size 34 v gs ∧ Below w.heap.size w w' :=
  (own_map A n c gs w h hn).mono fun _ _ ⟨v, he, ho, hb⟩ => ⟨v, he, by simpa using ho, hb⟩
theorem eqI3 (t : TypeId) (ht : Try.prog.underlying t = some (.struct (Try.prog.fieldsOf t))) (hp : Try.prog.stoodInHeld t = false) (hf : (Try.prog.fieldsOf t).toList.map (fun f => (f.type, f.offset, f.name == "_")) = [(3, 0, false), (3, 1, false), (3, 2, false)]) (a b c a' b' c' : Int) (w : World) :
    (Op.equalIn 10000 t (.agg #[.int .i64 a, .int .i64 b, .int .i64 c]) (.agg #[.int .i64 a', .int .i64 b', .int .i64 c'])).run Try.prog w = .ok (decide (((a, b, c) : G) = (a', b', c'))) w := by
  have u3 := Try.underlying3
  have a3 := Try.isAgg3
  have z3 := Try.sizeOf3
  rw [show (10000 : Nat) = 9999 + 1 from rfl, run_equalIn_agg w 9999 t _ _ ht hp]
  generalize (Try.prog.fieldsOf t).toList = fs at hf
  rcases fs with _ | ⟨f0, _ | ⟨f1, _ | ⟨f2, _ | ⟨f3, fs⟩⟩⟩⟩
  · simp at hf
  · simp at hf
  · simp at hf
  · simp only [List.map_cons, List.map_nil, List.cons.injEq, Prod.mk.injEq, and_true] at hf
    obtain ⟨⟨t0, o0, n0⟩, ⟨t1, o1, n1⟩, ⟨t2, o2, n2⟩⟩ := hf
    have m0 : f0.name ≠ "_" := by simpa using n0
    have m1 : f1.name ≠ "_" := by simpa using n1
    have m2 : f2.name ≠ "_" := by simpa using n2
    simp only [Op.eqFields, t0, t1, t2, o0, o1, o2, if_pos m0, if_pos m1, if_pos m2]
    go_simp
    by_cases h1 : a = a' <;> by_cases h2 : b = b' <;> by_cases h3 : c = c' <;> simp [h1, h2, h3]
  · simp at hf

theorem eql34 (a b c a' b' c' : Int) (w : World) : (binOp .eql 34 (.agg #[.int .i64 a, .int .i64 b, .int .i64 c]) (.agg #[.int .i64 a', .int .i64 b', .int .i64 c'])).run Try.prog w = .ok (.bool (decide (((a, b, c) : G) = (a', b', c')))) w := by
  rw [run_eql_struct, eqI3 34 (by kernel_rfl) (by kernel_rfl) (by kernel_rfl)]; rfl
theorem neq34 (a b c a' b' c' : Int) (w : World) : (binOp .neq 34 (.agg #[.int .i64 a, .int .i64 b, .int .i64 c]) (.agg #[.int .i64 a', .int .i64 b', .int .i64 c'])).run Try.prog w = .ok (.bool (!(decide (((a, b, c) : G) = (a', b', c'))))) w := by
  rw [run_neq_struct, eqI3 34 (by kernel_rfl) (by kernel_rfl) (by kernel_rfl)]; rfl
theorem eql68 (a b c a' b' c' : Int) (w : World) : (binOp .eql 68 (.agg #[.int .i64 a, .int .i64 b, .int .i64 c]) (.agg #[.int .i64 a', .int .i64 b', .int .i64 c'])).run Try.prog w = .ok (.bool (decide (((a, b, c) : G) = (a', b', c')))) w := by
  rw [run_eql_struct, eqI3 68 (by kernel_rfl) (by kernel_rfl) (by kernel_rfl)]; rfl
theorem neq68 (a b c a' b' c' : Int) (w : World) : (binOp .neq 68 (.agg #[.int .i64 a, .int .i64 b, .int .i64 c]) (.agg #[.int .i64 a', .int .i64 b', .int .i64 c'])).run Try.prog w = .ok (.bool (!(decide (((a, b, c) : G) = (a', b', c'))))) w := by
  rw [run_neq_struct, eqI3 68 (by kernel_rfl) (by kernel_rfl) (by kernel_rfl)]; rfl

theorem gth_ext {xs ys : List G} (hl : xs.length = ys.length) (h : ∀ k, k < xs.length → gth xs k = gth ys k) : xs = ys := by
  apply List.ext_getElem hl
  intro i h1 h2
  have := h i h1
  simpa [gth, List.getD, h1, h2] using this

set_option maxHeartbeats 1600000 in
theorem equalG_any (A A' : Option Addr) (n c n' c' : Nat) (xs ys : List G) (w : World) (B B' : Nat) (h : Gs w B A n c xs) (h' : Gs w B' A' n' c' ys) :
    Calls Try.prog 22 #[.slice A n c, .slice A' n' c'] w fun e w' => e = .returned (.bool (decide (xs = ys))) ∧ ∃ q, w' = w.drewN q := by
  have hm := h.most; have hcap := h.cap; have hm' := h'.most; have hcap' := h'.cap
  have hl := hide h.len; have hl' := hide h'.len
  by_cases hn : n = n'
  · subst hn
    have hb : ((n : Int) != (n : Int)) = false := by simp
    go_enter Try.func22, Try.ntmps22
    go_wp2_with fail
    go_loopw [13] (fun i wr => ∃ k : Nat, k ≤ n ∧ i = .int .i64 k ∧ Hid (∀ j, j < k → gth xs j = gth ys j) ∧ ∃ q, wr = w.drewN q) (fun i _ => n - (intOf i).toNat)
    case atStart => exact ⟨0, Nat.zero_le _, rfl, (fun j hj => by omega), 0, rfl⟩
    case round =>
      obtain ⟨k, hk, rfl, HE, q, rfl⟩ := hrel
      by_cases hlt : k < n
      · obtain ⟨b, off, rfl, _, e1, e2, e3⟩ := h.at_ k hlt
        obtain ⟨b2, off2, rfl, _, f1, f2, f3⟩ := h'.at_ k hlt
        have hks : k < xs.length := by rw [hl.out]; exact hlt
        have hno := hide (fun (hne : gth xs k ≠ gth ys k) => show decide (xs = ys) = false from by
          simp only [decide_eq_false_iff_not]; intro e; exact hne (by rw [e]))
        revert HE hno
        obtain ⟨⟨x, y, z⟩, hgx⟩ : ∃ p, gth xs k = p := ⟨_, rfl⟩
        obtain ⟨⟨x', y', z'⟩, hgy⟩ : ∃ p, gth ys k = p := ⟨_, rfl⟩
        have HGX := hide hgx; have HGY := hide hgy
        rw [hgx] at e1 e2 e3 ⊢; rw [hgy] at f1 f2 f3 ⊢
        clear hgx hgy
        simp only at e1 e2 e3 f1 f2 f3 ⊢
        intro HE hno
        by_cases he : ((x, y, z) : G) = (x', y', z')
        · have HE2 := hide (show ∀ j, j < k + 1 → gth xs j = gth ys j from fun j hj => by
            rcases Nat.lt_or_ge j k with h1 | h1
            · exact HE.out j h1
            · obtain rfl : j = k := by omega
              rw [HGX.out, HGY.out]; exact he)
          have e : ∀ w, (binOp .neq 34 (.agg #[.int .i64 x, .int .i64 y, .int .i64 z]) (.agg #[.int .i64 x', .int .i64 y', .int .i64 z'])).run Try.prog w = .ok (.bool false) w := fun w => by rw [neq34, decide_eq_true he]; rfl
          clear he
          go_wp2_with fail
          go_quiet (fail)
          go_wp2_with fail
          go_roundw
          case rel => exact ⟨k + 1, by omega, by go_num, HE2, (by first | exact ⟨_, rfl⟩ | exact quiet_q _ _ _)⟩
          case measure => simp [intOf]; omega
        · have HF := hide (hno.out he)
          have e : ∀ w, (binOp .neq 34 (.agg #[.int .i64 x, .int .i64 y, .int .i64 z]) (.agg #[.int .i64 x', .int .i64 y', .int .i64 z'])).run Try.prog w = .ok (.bool true) w := fun w => by rw [neq34, decide_eq_false he]; rfl
          clear he
          go_wp2_with fail
          go_quiet (fail)
          go_wp2_with fail
          go_ret
          exact ⟨ret_bool HF.out.symm, (by first | exact ⟨_, rfl⟩ | exact quiet_q _ _ _)⟩
      · obtain rfl : k = n := by omega
        have HF := hide (show decide (xs = ys) = true from by
          simp only [decide_eq_true_eq]
          exact gth_ext (by rw [hl.out, hl'.out]) (fun j hj => HE.out j (by rw [← hl.out]; exact hj)))
        go_wp2_with fail
        go_ret
        exact ⟨ret_bool HF.out.symm, ⟨_, rfl⟩⟩
  · have HF := hide (show decide (xs = ys) = false from by
      simp only [decide_eq_false_iff_not]; intro e; exact hn (by rw [← hl.out, ← hl'.out, e]))
    have hb : ((n : Int) != (n' : Int)) = true := by simp; omega
    have hb2 : ((n : Int) == (n' : Int)) = false := by simp; omega
    go_enter Try.func22, Try.ntmps22
    go_wp2_with fail
    go_ret
    exact ⟨ret_bool HF.out.symm, ⟨0, rfl⟩⟩

set_option maxHeartbeats 1600000 in
theorem equalC_any (A A' : Option Addr) (n c n' c' : Nat) (xs ys : List G) (w : World) (B B' : Nat) (h : Gs w B A n c xs) (h' : Gs w B' A' n' c' ys) :
    Calls Try.prog 52 #[.slice A n c, .slice A' n' c'] w fun e w' => e = .returned (.bool (decide (xs = ys))) ∧ ∃ q, w' = w.drewN q := by
  have hm := h.most; have hcap := h.cap; have hm' := h'.most; have hcap' := h'.cap
  have hl := hide h.len; have hl' := hide h'.len
  by_cases hn : n = n'
  · subst hn
    have hb : ((n : Int) != (n : Int)) = false := by simp
    go_enter Try.func52, Try.ntmps52
    go_wp2_with fail
    go_loopw [13] (fun i wr => ∃ k : Nat, k ≤ n ∧ i = .int .i64 k ∧ Hid (∀ j, j < k → gth xs j = gth ys j) ∧ ∃ q, wr = w.drewN q) (fun i _ => n - (intOf i).toNat)
    case atStart => exact ⟨0, Nat.zero_le _, rfl, (fun j hj => by omega), 0, rfl⟩
    case round =>
      obtain ⟨k, hk, rfl, HE, q, rfl⟩ := hrel
      by_cases hlt : k < n
      · obtain ⟨b, off, rfl, _, e1, e2, e3⟩ := h.at_ k hlt
        obtain ⟨b2, off2, rfl, _, f1, f2, f3⟩ := h'.at_ k hlt
        have hks : k < xs.length := by rw [hl.out]; exact hlt
        have hno := hide (fun (hne : gth xs k ≠ gth ys k) => show decide (xs = ys) = false from by
          simp only [decide_eq_false_iff_not]; intro e; exact hne (by rw [e]))
        revert HE hno
        obtain ⟨⟨x, y, z⟩, hgx⟩ : ∃ p, gth xs k = p := ⟨_, rfl⟩
        obtain ⟨⟨x', y', z'⟩, hgy⟩ : ∃ p, gth ys k = p := ⟨_, rfl⟩
        have HGX := hide hgx; have HGY := hide hgy
        rw [hgx] at e1 e2 e3 ⊢; rw [hgy] at f1 f2 f3 ⊢
        clear hgx hgy
        simp only at e1 e2 e3 f1 f2 f3 ⊢
        intro HE hno
        by_cases he : ((x, y, z) : G) = (x', y', z')
        · have HE2 := hide (show ∀ j, j < k + 1 → gth xs j = gth ys j from fun j hj => by
            rcases Nat.lt_or_ge j k with h1 | h1
            · exact HE.out j h1
            · obtain rfl : j = k := by omega
              rw [HGX.out, HGY.out]; exact he)
          have e : ∀ w, (binOp .neq 68 (.agg #[.int .i64 x, .int .i64 y, .int .i64 z]) (.agg #[.int .i64 x', .int .i64 y', .int .i64 z'])).run Try.prog w = .ok (.bool false) w := fun w => by rw [neq68, decide_eq_true he]; rfl
          clear he
          go_wp2_with fail
          go_quiet (fail)
          go_wp2_with fail
          go_roundw
          case rel => exact ⟨k + 1, by omega, by go_num, HE2, (by first | exact ⟨_, rfl⟩ | exact quiet_q _ _ _)⟩
          case measure => simp [intOf]; omega
        · have HF := hide (hno.out he)
          have e : ∀ w, (binOp .neq 68 (.agg #[.int .i64 x, .int .i64 y, .int .i64 z]) (.agg #[.int .i64 x', .int .i64 y', .int .i64 z'])).run Try.prog w = .ok (.bool true) w := fun w => by rw [neq68, decide_eq_false he]; rfl
          clear he
          go_wp2_with fail
          go_quiet (fail)
          go_wp2_with fail
          go_ret
          exact ⟨ret_bool HF.out.symm, (by first | exact ⟨_, rfl⟩ | exact quiet_q _ _ _)⟩
      · obtain rfl : k = n := by omega
        have HF := hide (show decide (xs = ys) = true from by
          simp only [decide_eq_true_eq]
          exact gth_ext (by rw [hl.out, hl'.out]) (fun j hj => HE.out j (by rw [← hl.out]; exact hj)))
        go_wp2_with fail
        go_ret
        exact ⟨ret_bool HF.out.symm, ⟨_, rfl⟩⟩
  · have HF := hide (show decide (xs = ys) = false from by
      simp only [decide_eq_false_iff_not]; intro e; exact hn (by rw [← hl.out, ← hl'.out, e]))
    have hb : ((n : Int) != (n' : Int)) = true := by simp; omega
    have hb2 : ((n : Int) == (n' : Int)) = false := by simp; omega
    go_enter Try.func52, Try.ntmps52
    go_wp2_with fail
    go_ret
    exact ⟨ret_bool HF.out.symm, ⟨0, rfl⟩⟩

end Go.Proofs.Ytdlbahoenhhkdaa
