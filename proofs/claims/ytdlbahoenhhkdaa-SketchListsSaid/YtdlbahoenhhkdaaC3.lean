import Derived.Test.YtdlbahoenhhkdaaC2
import Derived.Lib.AppendZerosOnto
/-
  slices.Grow of nil, append of a list of counts, slices.Concat of two.
-/
namespace Go.Proofs.Ytdlbahoenhhkdaa
open Go.RowKit

theorem Gs.alloc {w : World} {B n c : Nat} {A : Option Addr} {gs : List G} (h : Gs w B A n c gs) (hB : B ≤ w.heap.size) (o : Obj) : Gs (w.alloc o) B A n c gs := h.below ((Below.refl B w).alloc hB o)
theorem cells3_one (ys : List G) : ∀ u, u ∈ cells3_ ys → u.oneCell' = true := by
  intro u hu
  simp only [cells3_, List.mem_flatMap] at hu
  obtain ⟨f, _, hu⟩ := hu
  simp at hu
  rcases hu with rfl | rfl | rfl <;> rfl
theorem Gs.cells {w : World} {B n c : Nat} {A : Option Addr} {gs : List G} (h : Gs w B A n c gs) (hn : 0 < n) :
    ∃ b off, A = some ⟨b, off, none⟩ ∧ b < B ∧ ∀ j u, (cells3_ gs)[j]? = some u → w.cell? ⟨b, off + j, none⟩ = some u := by
  obtain ⟨b, off, e, hb, _⟩ := h.at_ 0 hn
  refine ⟨b, off, e, hb, fun j u hu => ?_⟩
  have hj : j < gs.length * 3 := by have := (List.getElem?_eq_some_iff.1 hu).1; rw [cells3_length] at this; exact this
  obtain ⟨b1, off1, e1, _, h1, h2, h3⟩ := h.at_ (j / 3) (by have := h.len; omega)
  rw [e] at e1
  simp only [Option.some.injEq, Addr.mk.injEq, and_true] at e1
  obtain ⟨rfl, rfl⟩ := e1
  obtain ⟨c1, c2, c3⟩ := cells3_at gs (j / 3) (by omega)
  have hm : j % 3 = 0 ∨ j % 3 = 1 ∨ j % 3 = 2 := by omega
  rcases hm with hm | hm | hm
  · have ej : j = j / 3 * 3 := by omega
    rw [ej] at hu ⊢
    rw [c1] at hu; cases hu; exact h1
  · have ej : j = j / 3 * 3 + 1 := by omega
    rw [ej] at hu ⊢
    rw [c2] at hu; cases hu; exact h2
  · have ej : j = j / 3 * 3 + 2 := by omega
    rw [ej] at hu ⊢
    rw [c3] at hu; cases hu; exact h3

theorem run_appGs {w : World} {base B m c : Nat} {t e : TypeId} {v : Value} {xs ys : List G} {A : Option Addr} (ty : TypeId) (ht : Try.prog.underlying t = some (.slice e)) (hi : (Try.prog.info? e).map (fun i => (i.zero, i.size, i.bytes)) = some (some (.agg #[.int .i64 0, .int .i64 0, .int .i64 0]), 3, 24))
    (ho : OwnedG w base e v xs) (hg : Gs w B A m c ys) (hl : xs.length + ys.length ≤ 1000000) (hbase : base ≤ w.heap.size) :
    ∃ v' w', (Builtin.append_ #[t, t] ty #[v, .slice A m c]).run Try.prog w = .ok v' w' ∧ OwnedG w' base e v' (xs ++ ys) ∧ Below base w w' := by
  obtain ⟨i0, h0, hz0, hz1, hz2⟩ := info_parts hi
  have hm := hg.len
  cases A with
  | none =>
    have hc := hg.bare rfl; have hcap := hg.cap
    obtain rfl : m = 0 := by omega
    obtain rfl : c = 0 := by omega
    obtain rfl : ys = [] := List.eq_nil_of_length_eq_zero hm
    exact ⟨v, w, run_append_owned_none (P := Try.prog) w base t ty e i0 3 ht h0 v _ _ ho, by simpa using ho, Below.refl _ _⟩
  | some a =>
    have hnews : ∀ j u, (cells3_ ys)[j]? = some u → w.cell? (a.add j) = some u := by
      intro j u hu
      have hj : 0 < m := by have := (List.getElem?_eq_some_iff.1 hu).1; rw [cells3_length] at this; omega
      obtain ⟨b, off, e, _, hc⟩ := hg.cells hj
      cases e
      rw [Addr.add_lit]
      exact hc j u hu
    obtain ⟨v', w', hrun, h2, h3, _, _⟩ := run_append_own_at (P := Try.prog) w base t ty e i0 (.agg #[.int .i64 0, .int .i64 0, .int .i64 0]) 3 24 ht h0 hz0 hz1 hz2 rfl (by omega) v _ _ ho a m c (cells3_ ys) (by rw [cells3_length, hm]) hnews (cells3_one ys)
      (by unfold maxLen; omega) (by omega) hbase
    refine ⟨v', w', hrun, ?_, (Below.refl base w).grown h3 hbase (fun k hk => (World.ownsRow.lt ho k hk).1)⟩
    unfold OwnedG
    rw [List.length_append, cells3_app, hm]
    exact h2
theorem wpList_appGs {w : World} {ops : Array Oper} {rest : List Oper} {o : Oper} {a : Act} {Q : Exit → Act → World → Prop} (hg : o.guard = none) (s x : Operand) (t e : TypeId)
    (hop : o.op = .call { callee := .builtin .append, args := #[s, x], argTypes := #[t, t] }) (ht : Try.prog.underlying t = some (.slice e)) (hi : (Try.prog.info? e).map (fun i => (i.zero, i.size, i.bytes)) = some (some (.agg #[.int .i64 0, .int .i64 0, .int .i64 0]), 3, 24))
    {base B m c : Nat} {v : Value} {xs ys : List G} {A : Option Addr} (hs : a.eval s = v) (hx : a.eval x = .slice A m c) (ho : OwnedG w base e v xs) (hgs : Gs w B A m c ys) (hl : xs.length + ys.length ≤ 1000000) (hbase : base ≤ w.heap.size)
    (h : ∀ v' w', OwnedG w' base e v' (xs ++ ys) → Below base w w' → wpList Try.prog ops Q rest (a.put o.dst v') w') : wpList Try.prog ops Q (o :: rest) a w :=
  wpList_plain hg fun K hK => by
    obtain ⟨v', w', hrun, h2, h3⟩ := run_appGs o.type ht hi ho hgs hl hbase
    unfold Oper.wp execOp
    simp only [hop, resolve, invoke, builtin, Sem.run_bind, Sem.run_pure, Result.andThen_ok, List.map_toArray, List.map_cons, List.map_nil, hs, hx, hrun]
    exact hK _ _ (h v' w' h2 h3)

set_option maxRecDepth 100000 in
set_option maxHeartbeats 1000000 in
theorem Grow_nil (n : Nat) (w : World) (hn : n ≤ 1000) :
    Calls Try.prog 80 #[.slice none 0 0, .int .i64 (n : Int)] w fun e w' => ∃ v, e = .returned v ∧ OwnedG w' w.heap.size 68 v [] ∧ Below w.heap.size w w' := by
  rcases Nat.eq_zero_or_pos n with h0 | h0
  · subst h0
    go_enter Try.func80, Try.ntmps80
    go_wp2_with fail
    go_ret
    exact ⟨_, rfl, World.ownsRow_nil _ _ _ _, Below.refl _ _⟩
  · obtain ⟨i0, hi, hz0, hz1, hz2⟩ := info_parts info68
    have hrz : ∀ ty, (Builtin.append_ #[23, 3] ty #[.slice none 0 0, .int .i64 (n : Int)]).run Try.prog w =
        .ok (.slice (some ⟨w.heap.size, 0, none⟩) n (grownCap w n 0 68)) (w.drew.alloc (.cells (([] : List Value).toArray ++ Builtin.zeroCells (Value.agg #[.int .i64 0, .int .i64 0, .int .i64 0]).cells n ++ Builtin.zeroCells (Value.agg #[.int .i64 0, .int .i64 0, .int .i64 0]).cells (grownCap w n 0 68 - n)) 68)) := fun ty => by
      have h := Lib.run_append_grow_zeros w 23 3 ty 68 i0 _ .i64 .i64 Try.underlying23 Try.underlying3 hi hz0 none 0 0 [] (run_firstCells_none w.drew i0.size 0 0 0) n h0 (by omega) (by omega) (by omega) (by rw [hz2]; omega)
        (growslice_fits (by omega) (by rw [hz2]; omega))
      simpa using h
    have hge := grownCap_ge w n 0 68
    obtain ⟨Gc, hG⟩ : ∃ Gc, Gc = grownCap w n 0 68 := ⟨_, rfl⟩
    have hG63 : Gc ≤ maxLen := by rw [hG]; exact grownCap_le_maxLen w n 0 68 (by unfold maxLen; omega)
    rw [← hG] at hrz hge
    have hG' : Gc ≤ 9223372036854775807 := by unfold maxLen at hG63; exact hG63
    clear hG
    go_enter Try.func80, Try.ntmps80
    go_wp2_with (at_builtin; refine Lib.wpList_append_run _ rfl _ _ _ _ rfl _ _ rfl rfl _ _ (hrz _) ?_)
    go_ret
    refine ⟨_, rfl, ?_, (Below.drewN' (Below.refl _ _) 1).alloc (Nat.le_refl _) _⟩
    refine ⟨by simp [cells3_], .inr ⟨w.heap.size, Gc, _, rfl, Nat.le_refl _, heap_alloc_new w.drew _, Nat.zero_le _, hG63, ?_, by simp [cells3_]⟩⟩
    simp only [Array.size_append, size_zeroCells, Value.cells]
    simp
    omega

set_option maxRecDepth 100000 in
set_option maxHeartbeats 1000000 in
/-- slices.Concat of two lists of counts. -/
theorem Concat_any (b : Nat) (A A' : Option Addr) (n c n' c' : Nat) (xs ys : List G) (w : World) (h0 : w.cell? ⟨b, 0, none⟩ = some (.slice A n c)) (h1 : w.cell? ⟨b, 1, none⟩ = some (.slice A' n' c')) (hbl : b < w.heap.size) (h : Gs w w.heap.size A n c xs) (h' : Gs w w.heap.size A' n' c' ys) (hn : n ≤ 100) (hn' : n' ≤ 100) :
    Calls Try.prog 64 #[.slice (some ⟨b, 0, none⟩) 2 2] w fun e w' => ∃ v, e = .returned v ∧ OwnedG w' w.heap.size 68 v (xs ++ ys) ∧ Below w.heap.size w w' := by
  have hl := hide h.len; have hl' := hide h'.len
  go_enter Try.func64, Try.ntmps64
  go_wp2
  go_loopw [3, 5, 11] (fun a _ i wr => ∃ k s : Nat, k ≤ 2 ∧ i = .int .i64 k ∧ a = .int .i64 s ∧ Hid (s = (if 1 ≤ k then n else 0) + (if 2 ≤ k then n' else 0)) ∧ s ≤ 1000 ∧ w = wr) (fun _ _ i _ => 2 - (intOf i).toNat)
  case atStart => exact ⟨0, 0, by omega, rfl, rfl, hide (by simp), by omega, rfl⟩
  case round =>
    obtain ⟨k, s, hk, rfl, rfl, hs, hs2, rfl⟩ := hrel
    by_cases hlt : k < 2
    · have hk2 : k = 0 ∨ k = 1 := by omega
      rcases hk2 with rfl | rfl
      · have hs0 : s = 0 := by have := hs.out; simpa using this
        subst hs0
        go_wp2
        go_roundw
        case rel => exact ⟨1, n, by omega, by go_num, by go_num, hide (by simp), by omega, trivial⟩
        case measure => simp [intOf]
      · have hs0 : s = n := by have := hs.out; simpa using this
        have HS0 := hide hs0; clear hs0
        go_wp2
        go_roundw
        case rel => exact ⟨2, s + n', by omega, by go_num, by go_num, hide (by rw [HS0.out]; simp), by have := HS0.out; omega, trivial⟩
        case measure => simp [intOf]
    · obtain rfl : k = 2 := by omega
      have hs3 : s = n + n' := by have := hs.out; simpa using this
      have HS3 := hide hs3; clear hs3
      go_wp2_with fail
      refine (Grow_nil _ _ hs2).mono ?_
      rintro e w1 ⟨v1, rfl, o1, b1⟩
      go_wp2
      go_loopw [6, 8, 27] (fun v _ i wr => ∃ k : Nat, k ≤ 2 ∧ i = .int .i64 k ∧ OwnedG wr w.heap.size 68 v ((if 1 ≤ k then xs else []) ++ (if 2 ≤ k then ys else [])) ∧ Below w.heap.size w wr) (fun _ _ i _ => 2 - (intOf i).toNat)
      case atStart => exact ⟨0, by omega, rfl, by simpa using o1, b1⟩
      case round =>
        obtain ⟨k, hk, rfl, ho, hb⟩ := hrel
        have c0 := (hb.cell (p := ⟨b, 0, none⟩) hbl).trans h0
        have c1 := (hb.cell (p := ⟨b, 1, none⟩) hbl).trans h1
        have hx := h.below hb
        have hy := h'.below hb
        have hbs := hb.size
        by_cases hlt2 : k < 2
        · have hk2 : k = 0 ∨ k = 1 := by omega
          rcases hk2 with rfl | rfl
          · have hll : ((if 1 ≤ 0 then xs else []) ++ (if 2 ≤ 0 then ys else []) : List G).length + xs.length ≤ 1000000 := by have := hl.out; simp; omega
            go_wp2_with (at_builtin; refine wpList_appGs rfl _ _ 23 68 rfl Try.underlying23 info68 rfl rfl ho hx hll hbs ?_; intro v' w2 ho2 hb2)
            go_roundw
            case rel => exact ⟨1, by omega, by go_num, by simpa using ho2, hb.trans hb2⟩
            case measure => simp [intOf]
          · have hll : ((if 1 ≤ 1 then xs else []) ++ (if 2 ≤ 1 then ys else []) : List G).length + ys.length ≤ 1000000 := by have := hl.out; have := hl'.out; simp; omega
            go_wp2_with (at_builtin; refine wpList_appGs rfl _ _ 23 68 rfl Try.underlying23 info68 rfl rfl ho hy hll hbs ?_; intro v' w2 ho2 hb2)
            go_roundw
            case rel => exact ⟨2, by omega, by go_num, by simpa using ho2, hb.trans hb2⟩
            case measure => simp [intOf]
        · obtain rfl : k = 2 := by omega
          go_wp2
          go_ret
          exact ⟨_, rfl, by simpa using ho, hb⟩
end Go.Proofs.Ytdlbahoenhhkdaa
