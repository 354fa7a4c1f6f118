/-
  Slices of pairs of the call's own: append, cut, slices.Clone, the law's list; cmp.Compare, slices.Compare.
-/
import Derived.Test.YtbgfiejaehpffaaW5
namespace Go.Proofs.Ytbgfiejaehpffaa
open Go.RowKit

theorem run_appP {w : World} {base B m c : Nat} {v : Value} {xs ys : List F} {A : Option Addr} (ty : TypeId) (ho : OwnQ w base 30 v xs) (hi : Fs w B A m c ys) (hl : xs.length + ys.length ≤ 1000000) (hbase : base ≤ w.heap.size) :
    ∃ v' w', (Builtin.append_ #[22, 22] ty #[v, .slice A m c]).run Try.prog w = .ok v' w' ∧ OwnQ w' base 30 v' (xs ++ ys) ∧ w.grownBy w' v.ownBlock ∧ (v'.ownBlock = v.ownBlock ∨ v'.ownBlock = some w.heap.size) := by
  obtain ⟨i0, h0, hz0, hz1, hz2⟩ := info_parts info30
  have hm := hi.len
  cases A with
  | none =>
    have hc := hi.bare rfl; have hcap := hi.cap
    obtain rfl : m = 0 := by omega
    obtain rfl : c = 0 := by omega
    obtain rfl : ys = [] := List.eq_nil_of_length_eq_zero hm
    exact ⟨v, w, run_append_owned_none (P := Try.prog) w base 22 ty 30 i0 2 Try.underlying22 h0 v _ _ ho, by simpa using ho, World.grownBy.refl w _, .inl rfl⟩
  | some a =>
    have hnews : ∀ j u, (cells2_ ys)[j]? = some u → w.cell? (a.add j) = some u := by
      intro j u hu
      have hj : j < (cells2_ ys).length := (List.getElem?_eq_some_iff.1 hu).1
      rw [cells2_length] at hj
      obtain ⟨b, off, e, _, hc1, hc2⟩ := hi.at_ (j / 2) (by omega)
      cases e
      have hat := cells2_at ys (j / 2) (by omega)
      rw [Addr.add_lit]
      have hp : j % 2 = 0 ∨ j % 2 = 1 := by omega
      rcases hp with hp | hp
      · have e : j / 2 * 2 = j := by omega
        rw [e] at hc1 hat
        rw [hc1, ← hu, hat.1]
      · have e : j / 2 * 2 + 1 = j := by omega
        rw [e] at hat
        rw [show off + j / 2 * 2 + 1 = off + j from by omega] at hc2
        rw [hc2, ← hu, hat.2]
    obtain ⟨v', w', hrun, h2, h3, _, h5⟩ := run_append_own_at (P := Try.prog) w base 22 ty 30 i0 (.agg #[.int .i64 0, .int .i64 0]) 2 16 Try.underlying22 h0 hz0 hz1 hz2 rfl (by omega) v _ _ ho a m c (cells2_ ys) (by rw [cells2_length, hm]) hnews (cells2_one ys)
      (by unfold maxLen; omega) (by omega) hbase
    refine ⟨v', w', hrun, ?_, h3, h5⟩
    unfold OwnQ
    rw [List.length_append, hm, cells2_app]
    exact h2
theorem wpList_appP {w : World} {ops : Array Oper} {rest : List Oper} {o : Oper} {a : Act} {Q : Exit → Act → World → Prop} (hg : o.guard = none) (s x : Operand)
    (hop : o.op = .call { callee := .builtin .append, args := #[s, x], argTypes := #[22, 22] })
    {base B m c : Nat} {v : Value} {xs ys : List F} {A : Option Addr} (hs : a.eval s = v) (hx : a.eval x = .slice A m c) (ho : OwnQ w base 30 v xs) (hi : Fs w B A m c ys) (hl : xs.length + ys.length ≤ 1000000) (hbase : base ≤ w.heap.size)
    (h : ∀ v' w', OwnQ w' base 30 v' (xs ++ ys) → w.grownBy w' v.ownBlock → (v'.ownBlock = v.ownBlock ∨ v'.ownBlock = some w.heap.size) → wpList Try.prog ops Q rest (a.put o.dst v') w') : wpList Try.prog ops Q (o :: rest) a w :=
  wpList_plain hg fun _ hK => by
    obtain ⟨v', w', hrun, h2, h3, h4⟩ := run_appP o.type ho hi hl hbase
    unfold Oper.wp execOp
    simp only [hop, resolve, invoke, builtin, Sem.run_bind, Sem.run_pure, Result.andThen_ok, List.map_toArray, List.map_cons, List.map_nil, hs, hx, hrun]
    exact hK _ _ (h v' w' h2 h3 h4)


theorem fs_one (w : World) (u v : Int) : Fs (w.alloc (.cells #[.int .i64 u, .int .i64 v] 30)) (w.heap.size + 1) (some ⟨w.heap.size, 0, none⟩) 1 1 [(u, v)] := by
  obtain ⟨c0, c1⟩ := two_at (heap_new_ w (.cells #[.int .i64 u, .int .i64 v] 30))
  refine ⟨rfl, Nat.le_refl _, by omega, (fun e => by cases e), fun j hj => ?_⟩
  obtain rfl : j = 0 := by omega
  exact ⟨_, _, rfl, by omega, c0, c1⟩

theorem cells2_take (fs : List F) : ∀ k, cells2_ (fs.take k) = (cells2_ fs).take (k * 2) := by
  induction fs with
  | nil => intro k; simp [cells2_]
  | cons g l ih =>
    intro k
    cases k with
    | zero => simp [cells2_]
    | succ k =>
      rw [List.take_succ_cons, cells2_cons, cells2_cons, ih, show (k + 1) * 2 = k * 2 + 1 + 1 by omega, List.take_succ_cons, List.take_succ_cons]
/-- A cut of a slice of the call's own. -/
theorem OwnQ.cut {w : World} {base : Nat} {e : TypeId} {A : Option Addr} {n c : Nat} {fs : List F} (h : OwnQ w base e (.slice A n c) fs) {k : Nat} (hk : k ≤ n) : OwnQ w base e (.slice A k c) (fs.take k) := by
  have hl : fs.length = n := by
    obtain ⟨A', n', e, hf⟩ := h.fs
    cases e
    rfl
  have hkl : (fs.take k).length = k := by simp; omega
  refine ⟨by rw [cells2_length], ?_⟩
  rw [hkl]
  rcases h.2 with ⟨h0, h1⟩ | ⟨g, cap, cur, hv, hg, hh, hn, hc, hs, ht⟩
  · cases h0
    have : fs.length = 0 := h1
    obtain rfl : k = 0 := by omega
    exact .inl ⟨rfl, rfl⟩
  · cases hv
    refine .inr ⟨g, c, cur, rfl, hg, hh, by omega, hc, hs, ?_⟩
    rw [cells2_take, ← ht, List.take_take]
    congr 1
    rw [hl]; omega

set_option maxHeartbeats 400000 in
theorem clone_any (A : Option Addr) (n c : Nat) (fs : List F) (w : World) (h : Fs w w.heap.size A n c fs) (hn : n ≤ 100000) :
    Calls Try.prog 41 #[.slice A n c] w fun e w' => ∃ v, e = .returned v ∧ OwnQ w' w.heap.size 30 v fs ∧ Below w.heap.size w w' := by
  have hl := h.len
  have hm := h.most; have hcap := h.cap
  have hlen : ([] : List F).length + fs.length ≤ 1000000 := by simp; omega
  have hl' := hide hl; clear hl
  have hnil := fun (W : World) (m m' q q' : Nat) (D : Option Addr) => Lib.run_eql_slice_nil (P := Try.prog) W 22 30 D m q m' q' Try.underlying22
  cases A with
  | none =>
    have hc0 := h.bare rfl
    go_enter Try.func41, Try.ntmps41
    go_wp2
    go_ret
    have hx : fs = [] := List.eq_nil_of_length_eq_zero (by have := hl'.out; omega)
    subst hx
    exact ⟨_, rfl, World.ownsRow_nil _ _ _ _, Below.refl _ _⟩
  | some a =>
    have hi := h.alloc (Nat.le_refl _) (.cells #[] 30)
    go_enter Try.func41, Try.ntmps41
    go_wp2_with (at_builtin; refine wpList_appP rfl _ _ rfl rfl rfl (ownQ_new w w.heap.size 30 (Nat.le_refl _)) hi hlen (by simp) ?_; intro v' w' ho hg _)
    go_ret
    refine ⟨_, rfl, by simpa using ho, ?_⟩
    exact ((Below.refl w.heap.size w).alloc (Nat.le_refl _) _).grown hg (by simp) (fun k hk => by cases hk; exact Nat.le_refl _)

/-- At most 11. -/
def tak (fs : List F) : List F := fs.take 11
set_option maxHeartbeats 400000 in
theorem list_any (A : Option Addr) (n c : Nat) (fs : List F) (w : World) (h : Fs w w.heap.size A n c fs) :
    Calls Try.prog 16 #[.slice A n c] w fun e w' => ∃ v, e = .returned v ∧ OwnQ w' w.heap.size 30 v (tak fs) ∧ Below w.heap.size w w' := by
  have hm := h.most; have hcap := h.cap
  obtain ⟨m, hmm, hmn, hm1⟩ : ∃ m : Nat, m = min n 11 ∧ m ≤ n ∧ (m : Int) = if (11 : Int) < (n : Int) then 11 else (n : Int) := ⟨min n 11, rfl, by omega, by split <;> omega⟩
  have hmin : ∀ w : World, (Builtin.min_ #[3, 3] 3 #[.int .i64 (n : Int), .int .i64 11]).run Try.prog w = .ok (.int .i64 (m : Int)) w := fun w => by rw [hm1]; exact run_min_int2 _ _ _ _ _ _ _
  have hf := (h.cut hmn)
  have ht : fs.take m = tak fs := by
    unfold tak
    have := h.len
    by_cases h11 : n ≤ 11
    · rw [List.take_of_length_le (by omega), List.take_of_length_le (by omega)]
    · rw [hmm]; congr 1; omega
  rw [ht] at hf
  have HC := hide (clone_any A m c (tak fs) w hf (by omega))
  have hmc : m ≤ c := by omega
  have hmc2 : (m : Int) ≤ (c : Int) := by omega
  have hm0 : (0 : Int) ≤ (m : Int) := by omega
  clear hmm hm1 ht hf
  go_enter Try.func16, Try.ntmps16
  go_wp2_with fail
  refine (unhide HC).mono ?_
  rintro e w' ⟨v, rfl, h1, h2⟩
  have H1 := hide h1; have H2 := hide h2
  clear h1 h2 hmin
  go_wp2_with fail
  go_ret
  exact ⟨_, rfl, unhide H1, unhide H2⟩

/-- The order of two numbers. -/
def cmpI (a b : Int) : Int := if a < b then -1 else if b < a then 1 else 0
set_option maxHeartbeats 400000 in
theorem isNaN_any (a : Int) (w : World) : Calls Try.prog 111 #[.int .i64 a] w fun e w' => e = .returned (.bool false) ∧ w = w' := by
  have hne : (a != a) = false := by simp
  go_enter Try.func111, Try.ntmps111
  go_wp2_with fail
  go_ret
  exact ⟨rfl, rfl⟩
set_option maxRecDepth 100000 in
set_option maxHeartbeats 1000000 in
theorem cmp_any (a b : Int) (w : World) (r : Int) (hr : Hid (cmpI a b = r)) : Calls Try.prog 99 #[.int .i64 a, .int .i64 b] w fun e w' => e = .returned (.int .i64 r) ∧ w = w' := by
  have HN := hide (fun a W => isNaN_any a W)
  by_cases h1 : a < b
  · have HR := hide (show -1 = r from by rw [← hr.out]; unfold cmpI; rw [if_pos h1])
    go_enter Try.func99, Try.ntmps99
    go_wp2_with (go_at_call 111; refine ((unhide HN) _ _).mono ?_; rintro e w' ⟨rfl, rfl⟩)
    go_ret
    exact ⟨ret_int HR.out, rfl⟩
  · by_cases h2 : b < a
    · have HR := hide (show 1 = r from by rw [← hr.out]; unfold cmpI; rw [if_neg h1, if_pos h2])
      go_enter Try.func99, Try.ntmps99
      go_wp2_with (go_at_call 111; refine ((unhide HN) _ _).mono ?_; rintro e w' ⟨rfl, rfl⟩)
      go_ret
      exact ⟨ret_int HR.out, rfl⟩
    · have HR := hide (show 0 = r from by rw [← hr.out]; unfold cmpI; rw [if_neg h1, if_neg h2])
      go_enter Try.func99, Try.ntmps99
      go_wp2_with (go_at_call 111; refine ((unhide HN) _ _).mono ?_; rintro e w' ⟨rfl, rfl⟩)
      go_ret
      exact ⟨ret_int HR.out, rfl⟩
end Go.Proofs.Ytbgfiejaehpffaa
