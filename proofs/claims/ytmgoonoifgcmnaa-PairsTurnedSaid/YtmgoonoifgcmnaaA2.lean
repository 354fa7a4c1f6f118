/-
  A slice of arrays of s numbers that reads as a list; one of the call's own; append of one array; comparing pairs and triples.
-/
import Derived.Test.YtmgoonoifgcmnaaW5
import Derived.Maps.AppendAt
namespace Go.Proofs.Ytmgoonoifgcmnaa
open Go.RowKit

def cL (xs : List (List Int)) : List Value := xs.flatMap fun x => x.map (Value.int .i64)
theorem cL_cons (x : List Int) (l : List (List Int)) : cL (x :: l) = x.map (Value.int .i64) ++ cL l := rfl
theorem cL_app (xs ys : List (List Int)) : cL (xs ++ ys) = cL xs ++ cL ys := by simp [cL]
theorem cL_length {s : Nat} : ∀ xs : List (List Int), (∀ x ∈ xs, x.length = s) → (cL xs).length = xs.length * s
  | [], _ => by simp [cL]
  | x :: l, h => by
    rw [cL_cons, List.length_append, cL_length l (fun y hy => h y (by simp [hy])), List.length_map, h x (by simp), List.length_cons, Nat.add_mul]
    omega
theorem cL_at {s : Nat} : ∀ (xs : List (List Int)) (k j : Nat), (∀ x ∈ xs, x.length = s) → k < xs.length → j < s → (cL xs)[k * s + j]? = some (.int .i64 (nth (row xs k) j))
  | x :: l, 0, j, h, _, hj => by
    have hx := h x (by simp)
    rw [cL_cons, Nat.zero_mul, Nat.zero_add, List.getElem?_append_left (by rw [List.length_map, hx]; exact hj)]
    have hj2 : j < x.length := by omega
    simp [row, nth, List.getD, hj2]
  | x :: l, k + 1, j, h, hk, hj => by
    have hx := h x (by simp)
    have := cL_at l k j (fun y hy => h y (by simp [hy])) (by simpa using hk) hj
    rw [cL_cons, List.getElem?_append_right (by rw [List.length_map, hx, Nat.add_mul]; omega), List.length_map, hx, Nat.add_mul, show k * s + 1 * s + j - s = k * s + j from by omega, this]
    simp [row, List.getD]
/-- A slice of arrays of s numbers reads as the list xs. -/
structure As (w : World) (B : Nat) (A : Option Addr) (n c s : Nat) (xs : List (List Int)) : Prop where
  len : xs.length = n
  cap : n ≤ c
  most : c ≤ 9223372036854775807
  bare : A = none → c = 0
  each : ∀ x ∈ xs, x.length = s
  at_ : ∀ k, k < n → ∃ b off, A = some ⟨b, off, none⟩ ∧ b < B ∧ ∀ j, j < s → w.cell? ⟨b, off + k * s + j, none⟩ = some (.int .i64 (nth (row xs k) j))
namespace As
variable {w w' : World} {B B' : Nat} {A : Option Addr} {n c s : Nat} {xs : List (List Int)}
theorem keep (h : As w B A n c s xs) (hk : ∀ p : Addr, p.block < B → w'.cell? p = w.cell? p) : As w' B A n c s xs :=
  ⟨h.len, h.cap, h.most, h.bare, h.each, fun k hk' => by
    obtain ⟨b, off, e, hb, h1⟩ := h.at_ k hk'
    exact ⟨b, off, e, hb, fun j hj => (hk ⟨b, _, none⟩ hb).trans (h1 j hj)⟩⟩
theorem more (h : As w B A n c s xs) (hB : B ≤ B') : As w B' A n c s xs :=
  ⟨h.len, h.cap, h.most, h.bare, h.each, fun k hk' => by
    obtain ⟨b, off, e, hb, hc⟩ := h.at_ k hk'
    exact ⟨b, off, e, by omega, hc⟩⟩
theorem below (h : As w B A n c s xs) (hb : Below B w w') : As w' B A n c s xs := h.keep fun _ hp => hb.cell hp
theorem drewN (h : As w B A n c s xs) (q : Nat) : As (w.drewN q) B A n c s xs := h.keep fun _ _ => rfl
theorem none_ (w : World) (B s : Nat) : As w B none 0 0 s [] := ⟨rfl, Nat.le_refl _, by omega, fun _ => rfl, fun x hx => by simp at hx, fun k h => absurd h (by omega)⟩
end As
/-- A slice of arrays of the call's own. -/
def OwnA (w : World) (base : Nat) (e : TypeId) (s : Nat) (v : Value) (xs : List (List Int)) : Prop := (∀ x ∈ xs, x.length = s) ∧ w.ownsRow base e s v xs.length (cL xs)
namespace OwnA
variable {w w' : World} {base s : Nat} {e : TypeId} {v : Value} {xs : List (List Int)}
theorem reads (h : OwnA w base e s v xs) : ∃ A c, v = .slice A xs.length c ∧ As w w.heap.size A xs.length c s xs := by
  obtain ⟨he, h⟩ := h
  have h0 := h
  rcases h.2 with ⟨rfl, h1⟩ | ⟨g, cap, cur, rfl, _, hh, hn, hc, _, _⟩
  · have hx : xs = [] := List.eq_nil_of_length_eq_zero h1
    subst hx
    exact ⟨none, 0, rfl, As.none_ _ _ _⟩
  · refine ⟨_, _, rfl, rfl, hn, (by unfold maxLen at hc; omega), (fun e => by cases e), he, fun k hk => ⟨g, 0, rfl, (Array.getElem?_eq_some_iff.1 hh).1, fun j hj => ?_⟩⟩
    have hlt : k * s + j < xs.length * s := by
      have : (k + 1) * s ≤ xs.length * s := Nat.mul_le_mul_right _ (by omega)
      rw [Nat.add_mul] at this
      omega
    rw [Nat.zero_add, h0.cellAt _ hlt]
    exact cL_at xs k j he hk hj
theorem blk_lt (h : OwnA w base e s v xs) : ∀ k, v.ownBlock = some k → base ≤ k ∧ k < w.heap.size := World.ownsRow.lt h.2
theorem new (w : World) (base : Nat) (e : TypeId) (s : Nat) : OwnA w base e s (.slice none 0 0) [] := ⟨fun x hx => by simp at hx, by simp [cL], .inl ⟨rfl, rfl⟩⟩
theorem alloc (h : OwnA w base e s v xs) (o : Obj) : OwnA (w.alloc o) base e s v xs := ⟨h.1, World.ownsRow.alloc h.2 o⟩
theorem below (h : OwnA w base e s v xs) (hb : Below w.heap.size w w') : OwnA w' base e s v xs := by
  refine ⟨h.1, h.2.1, ?_⟩
  rcases h.2.2 with h0 | ⟨g, cap, cur, hv, hg, hh, r⟩
  · exact .inl h0
  · exact .inr ⟨g, cap, cur, hv, hg, by rw [hb.block g (Array.getElem?_eq_some_iff.1 hh).1]; exact hh, r⟩
theorem lower {base' : Nat} (h : OwnA w base e s v xs) (hb : base' ≤ base) : OwnA w base' e s v xs := by
  refine ⟨h.1, h.2.1, ?_⟩
  rcases h.2.2 with h0 | ⟨g, cap, cur, hv, hg, r⟩
  · exact .inl h0
  · exact .inr ⟨g, cap, cur, hv, by omega, r⟩
end OwnA
theorem run_appA {w : World} {base s bytes : Nat} {t e : TypeId} {z v : Value} {xs : List (List Int)} {x : List Int} {X : Array Value} (ty : TypeId) (ht : Try.prog.underlying t = some (.slice e)) (hi : (Try.prog.info? e).map (fun i => (i.zero, i.size, i.bytes)) = some (some z, s, bytes))
    (hz : z.cells.size = s) (hs : 0 < s) (hby : bytes ≤ 100) (hx : x.length = s) (hX : X.toList = x.map (Value.int .i64)) (ho : OwnA w base e s v xs) (hl : xs.length ≤ 1000000) (hbase : base ≤ w.heap.size) :
    ∃ v' w', (Builtin.append_ #[t, t] ty #[v, .slice (some ⟨w.heap.size, 0, none⟩) 1 1]).run Try.prog (w.alloc (.cells X e)) = .ok v' w' ∧ OwnA w' base e s v' (xs ++ [x]) ∧ Below base w w' ∧ (∀ k, k < w.heap.size → some k ≠ v.ownBlock → w'.heap[k]? = w.heap[k]?) ∧ (v'.ownBlock = v.ownBlock ∨ v'.ownBlock = some (w.heap.size + 1)) := by
  obtain ⟨i0, h0, hz0, hz1, hz2⟩ := info_parts hi
  have hcell : ∀ j u, (x.map (Value.int .i64))[j]? = some u → (w.alloc (.cells X e)).cell? ((⟨w.heap.size, 0, none⟩ : Addr).add j) = some u := by
    intro j u hu
    have hadd : (⟨w.heap.size, 0, none⟩ : Addr).add j = ⟨w.heap.size, j, none⟩ := by unfold Addr.add; split <;> simp_all
    rw [hadd, World.cell?_alloc_at _ _ _ _ rfl, ← hu, ← hX]
    simp
  have hb : (xs.length + 1) * bytes ≤ 140737488355328 := by
    have := Nat.mul_le_mul (show xs.length + 1 ≤ 1000001 by omega) hby
    omega
  obtain ⟨v', w', hrun, h2, h3, _, h5⟩ := run_append_own_at (P := Try.prog) (w.alloc (.cells X e)) base t ty e i0 z s bytes ht h0 hz0 hz1 hz2 hz hs v _ _ (World.ownsRow.alloc ho.2 _) ⟨w.heap.size, 0, none⟩ 1 1
    (x.map (Value.int .i64)) (by rw [List.length_map, hx]; omega) hcell (by intro u hu; obtain ⟨y, _, rfl⟩ := List.mem_map.1 hu; rfl) (by unfold maxLen; omega) hb (by simp; omega)
  refine ⟨v', w', hrun, ⟨fun y hy => ?_, ?_⟩, ((Below.refl base w).alloc hbase _).grown h3 (by simp; omega) (fun k hk => (World.ownsRow.lt ho.2 k hk).1), fun k hk hne => (h3.block k (by simp; omega) hne).trans (Below.heap_alloc _ _ _ hk), by simpa using h5⟩
  · rcases List.mem_append.1 hy with h | h
    · exact ho.1 y h
    · rw [List.mem_singleton.1 h]; exact hx
  · rw [List.length_append, cL_app, show cL [x] = x.map (Value.int .i64) from by simp [cL]]
    exact h2
theorem info64z : (Try.prog.info? 64).map (fun i => (i.zero, i.size, i.bytes)) = some (some (.agg #[.int .i64 0, .int .i64 0, .int .i64 0]), 3, 24) := by kernel_rfl
theorem info56z : (Try.prog.info? 56).map (fun i => (i.zero, i.size, i.bytes)) = some (some (.agg #[.int .i64 0, .int .i64 0]), 2, 16) := by kernel_rfl
set_option maxRecDepth 20000 in
theorem wpList_app3 {w : World} {ops : Array Oper} {rest : List Oper} {o : Oper} {a : Act} {Q : Exit → Act → World → Prop} (hg : o.guard = none) (s x : Operand)
    (hop : o.op = .call { callee := .builtin .append, args := #[s, x], argTypes := #[58, 58] })
    {base : Nat} {v : Value} {xs : List (List Int)} {p q r : Int} (hs : a.eval s = v) (hx : a.eval x = .slice (some ⟨w.heap.size, 0, none⟩) 1 1) (ho : OwnA w base 64 3 v xs) (hl : xs.length ≤ 1000000) (hbase : base ≤ w.heap.size)
    (h : ∀ v' w', OwnA w' base 64 3 v' (xs ++ [[p, q, r]]) → Below base w w' → wpList Try.prog ops Q rest (a.put o.dst v') w') : wpList Try.prog ops Q (o :: rest) a (w.alloc (.cells #[.int .i64 p, .int .i64 q, .int .i64 r] 64)) :=
  wpList_plain hg fun K hK => by
    obtain ⟨v', w', hrun, h2, h3, _, _⟩ := run_appA (t := 58) (x := [p, q, r]) (X := #[.int .i64 p, .int .i64 q, .int .i64 r]) o.type (by kernel_rfl) info64z rfl (by omega) (by omega) rfl rfl ho hl hbase
    unfold Oper.wp execOp
    simp only [hop, resolve, invoke, builtin, Sem.run_bind, Sem.run_pure, Result.andThen_ok, List.map_toArray, List.map_cons, List.map_nil, hs, hx, hrun]
    exact hK _ _ (h v' w' h2 h3)
set_option maxRecDepth 20000 in
theorem wpList_app2 {w : World} {ops : Array Oper} {rest : List Oper} {o : Oper} {a : Act} {Q : Exit → Act → World → Prop} (hg : o.guard = none) (s x : Operand)
    (hop : o.op = .call { callee := .builtin .append, args := #[s, x], argTypes := #[53, 53] })
    {base : Nat} {v : Value} {xs : List (List Int)} {p q : Int} (hs : a.eval s = v) (hx : a.eval x = .slice (some ⟨w.heap.size, 0, none⟩) 1 1) (ho : OwnA w base 56 2 v xs) (hl : xs.length ≤ 1000000) (hbase : base ≤ w.heap.size)
    (h : ∀ v' w', OwnA w' base 56 2 v' (xs ++ [[p, q]]) → Below base w w' → wpList Try.prog ops Q rest (a.put o.dst v') w') : wpList Try.prog ops Q (o :: rest) a (w.alloc (.cells #[.int .i64 p, .int .i64 q] 56)) :=
  wpList_plain hg fun K hK => by
    obtain ⟨v', w', hrun, h2, h3, _, _⟩ := run_appA (t := 53) (x := [p, q]) (X := #[.int .i64 p, .int .i64 q]) o.type (by kernel_rfl) info56z rfl (by omega) (by omega) rfl rfl ho hl hbase
    unfold Oper.wp execOp
    simp only [hop, resolve, invoke, builtin, Sem.run_bind, Sem.run_pure, Result.andThen_ok, List.map_toArray, List.map_cons, List.map_nil, hs, hx, hrun]
    exact hK _ _ (h v' w' h2 h3)
set_option maxRecDepth 20000 in
theorem step_app2 {w : World} {ops : Array Oper} {o : Oper} {a : Act} {K : Act → World → Prop} {Q : Exit → Act → World → Prop} {E : Prop} (hg : o.guard = none) (s x : Operand)
    (hop : o.op = .call { callee := .builtin .append, args := #[s, x], argTypes := #[53, 53] })
    {base : Nat} {v : Value} {xs : List (List Int)} {p q : Int} (hs : a.eval s = v) (hx : a.eval x = .slice (some ⟨w.heap.size, 0, none⟩) 1 1) (ho : OwnA w base 56 2 v xs) (hl : xs.length ≤ 1000000) (hbase : base ≤ w.heap.size)
    (h : ∀ v' w', OwnA w' base 56 2 v' (xs ++ [[p, q]]) → Below base w w' → K (a.put o.dst v') w') :
    if Region.wanted o (yielded ops a.tmps) = true then Oper.wp Try.prog o a (w.alloc (.cells #[.int .i64 p, .int .i64 q] 56)) K Q else E := by
  have hw : Region.wanted o (yielded ops a.tmps) = true := by simp [Region.wanted, hg]
  rw [if_pos hw]
  obtain ⟨v', w', hrun, h2, h3, _, _⟩ := run_appA (t := 53) (x := [p, q]) (X := #[.int .i64 p, .int .i64 q]) o.type (by kernel_rfl) info56z rfl (by omega) (by omega) rfl rfl ho hl hbase
  unfold Oper.wp execOp
  simp only [hop, resolve, invoke, builtin, Sem.run_bind, Sem.run_pure, Result.andThen_ok, List.map_toArray, List.map_cons, List.map_nil, hs, hx, hrun]
  exact h v' w' h2 h3
theorem under56 : Try.prog.underlying 56 = some (.array 2 3) := by kernel_rfl
theorem under64 : Try.prog.underlying 64 = some (.array 3 3) := by kernel_rfl
theorem cells3' : Try.prog.cellsOf 3 = 1 := by kernel_rfl
theorem neq56 (a b a' b' : Int) (w : World) : (binOp .neq 56 (.agg #[.int .i64 a, .int .i64 b]) (.agg #[.int .i64 a', .int .i64 b'])).run Try.prog w = .ok (.bool (!(decide (a = a' ∧ b = b')))) w := by
  obtain ⟨i0, h0, hz0, hz1, hz2⟩ := info_parts info3
  have u3 := Try.underlying3
  have a3 := Try.isAgg3
  have z3 := Try.sizeOf3
  rw [run_neq_struct, show (10000 : Nat) = 9998 + 1 + 1 from rfl, run_equalIn_array w _ _ _ under56 h0]
  rw [cells3']
  simp only [show List.range 2 = [0, 1] from rfl, Op.eqItems]
  go_simp
  by_cases h1 : a = a' <;> by_cases h2 : b = b' <;> simp [h1, h2]
theorem neq64 (a b c a' b' c' : Int) (w : World) : (binOp .neq 64 (.agg #[.int .i64 a, .int .i64 b, .int .i64 c]) (.agg #[.int .i64 a', .int .i64 b', .int .i64 c'])).run Try.prog w = .ok (.bool (!(decide (a = a' ∧ b = b' ∧ c = c')))) w := by
  obtain ⟨i0, h0, hz0, hz1, hz2⟩ := info_parts info3
  have u3 := Try.underlying3
  have a3 := Try.isAgg3
  have z3 := Try.sizeOf3
  rw [run_neq_struct, show (10000 : Nat) = 9998 + 1 + 1 from rfl, run_equalIn_array w _ _ _ under64 h0]
  rw [cells3']
  simp only [show List.range 3 = [0, 1, 2] from rfl, Op.eqItems]
  go_simp
  by_cases h1 : a = a' <;> by_cases h2 : b = b' <;> by_cases h3 : c = c' <;> simp [h1, h2, h3]
theorem As.on {w w' : World} {A : Option Addr} {n c s : Nat} {xs : List (List Int)} (h : As w w.heap.size A n c s xs) (hb : Below w.heap.size w w') : As w' w'.heap.size A n c s xs := (h.below hb).more hb.size
/-- The two cells of pair k. -/
theorem As.two {w : World} {B : Nat} {A : Option Addr} {n c : Nat} {xs : List (List Int)} (h : As w B A n c 2 xs) {k : Nat} (hk : k < n) :
    ∃ b off p q, A = some ⟨b, off, none⟩ ∧ b < B ∧ row xs k = [p, q] ∧ w.cell? ⟨b, off + k * 2, none⟩ = some (.int .i64 p) ∧ w.cell? ⟨b, off + k * 2 + 1, none⟩ = some (.int .i64 q) := by
  obtain ⟨b, off, e, hb, hc⟩ := h.at_ k hk
  have h2 := h.each _ (row_mem (xss := xs) (k := k) (by rw [h.len]; exact hk))
  match hr : row xs k, h2 with
  | [p, q], _ =>
    rw [hr] at hc
    have c0 := hc 0 (by omega)
    have c1 := hc 1 (by omega)
    simp [nth] at c0 c1
    exact ⟨b, off, p, q, e, hb, rfl, c0, c1⟩
theorem As.three {w : World} {B : Nat} {A : Option Addr} {n c : Nat} {xs : List (List Int)} (h : As w B A n c 3 xs) {k : Nat} (hk : k < n) :
    ∃ b off p q r, A = some ⟨b, off, none⟩ ∧ b < B ∧ row xs k = [p, q, r] ∧ w.cell? ⟨b, off + k * 3, none⟩ = some (.int .i64 p) ∧ w.cell? ⟨b, off + k * 3 + 1, none⟩ = some (.int .i64 q) ∧ w.cell? ⟨b, off + k * 3 + 2, none⟩ = some (.int .i64 r) := by
  obtain ⟨b, off, e, hb, hc⟩ := h.at_ k hk
  have h2 := h.each _ (row_mem (xss := xs) (k := k) (by rw [h.len]; exact hk))
  match hr : row xs k, h2 with
  | [p, q, r], _ =>
    rw [hr] at hc
    have c0 := hc 0 (by omega)
    have c1 := hc 1 (by omega)
    have c2 := hc 2 (by omega)
    simp [nth] at c0 c1 c2
    exact ⟨b, off, p, q, r, e, hb, rfl, c0, c1, c2⟩
def EqA (xs ys : List (List Int)) (k : Nat) : Prop := ∀ j, j < k → row xs j = row ys j
theorem eqA_of {xs ys : List (List Int)} (hl : xs.length = ys.length) (h : EqA xs ys xs.length) : xs = ys := by
  apply List.ext_getElem hl
  intro i h1 h2
  have := h i h1
  simpa [row, List.getD, h1, h2] using this

set_option maxRecDepth 100000 in
set_option maxHeartbeats 1000000 in
theorem equal2_any (A A' : Option Addr) (n c n' c' : Nat) (xs ys : List (List Int)) (w : World) (B B' : Nat) (h : As w B A n c 2 xs) (h' : As w B' A' n' c' 2 ys) :
    Calls Try.prog 45 #[.slice A n c, .slice A' n' c'] w fun e w' => e = .returned (.bool (decide (xs = ys))) ∧ ∃ q, w' = w.drewN q := by
  have hm := h.most; have hcap := h.cap; have hm' := h'.most; have hcap' := h'.cap
  have hl := hide h.len; have hl' := hide h'.len
  by_cases hn : n = n'
  · subst hn
    go_enter Try.func45, Try.ntmps45
    go_wp2_with fail
    go_loopw [5, 13] (fun _ i wr => ∃ k : Nat, k ≤ n ∧ i = .int .i64 k ∧ Hid (EqA xs ys k) ∧ ∃ q, wr = w.drewN q) (fun _ i _ => n - (intOf i).toNat)
    case atStart => exact ⟨0, Nat.zero_le _, rfl, hide (by intro j h1; omega), 0, rfl⟩
    case round =>
      obtain ⟨k, hk, rfl, HA, q, rfl⟩ := hrel
      by_cases hlt : k < n
      · obtain ⟨b, off, p1, p2, rfl, hb, hr, c0, c1⟩ := h.two hlt
        obtain ⟨b1, off1, q1, q2, rfl, hb1, hr1, d0, d1⟩ := h'.two hlt
        have hneq := neq56 p1 p2 q1 q2
        by_cases he : p1 = q1 ∧ p2 = q2
        · have he' : (!(decide (p1 = q1 ∧ p2 = q2))) = false := by simpa using he
          have HE := hide (show row xs k = row ys k from by rw [hr, hr1, he.1, he.2])
          rw [he'] at hneq
          clear he hr hr1 he'
          go_wp2_with fail
          go_quiet (fail)
          go_wp2_with fail
          go_roundw
          case rel => exact ⟨k + 1, by omega, by go_num, hide (by
            intro j hj
            rcases Nat.lt_or_ge j k with h1 | h1
            · exact (unhide HA) j h1
            · obtain rfl : j = k := by omega
              exact HE.out), (by first | exact ⟨_, rfl⟩ | exact quiet_q _ _ _)⟩
          case measure => simp [intOf]; omega
        · have he' : (!(decide (p1 = q1 ∧ p2 = q2))) = true := by rw [decide_eq_false he]; rfl
          have HE := hide (show ¬ row xs k = row ys k from by rw [hr, hr1]; intro e; apply he; simpa using e)
          rw [he'] at hneq
          clear he hr hr1 he'
          go_wp2_with fail
          go_quiet (fail)
          go_wp2_with fail
          go_ret
          exact ⟨ret_bool (by
            symm; rw [decide_eq_false_iff_not]; intro e; exact HE.out (by rw [e])), (by first | exact ⟨_, rfl⟩ | exact quiet_q _ _ _)⟩
      · go_wp2_with fail
        go_ret
        obtain rfl : k = n := by omega
        exact ⟨ret_bool (by
          symm; rw [decide_eq_true_eq]; exact eqA_of (by rw [hl.out, hl'.out]) (by rw [hl.out]; exact unhide HA)), (by first | exact ⟨_, rfl⟩ | exact quiet_q _ _ _)⟩
  · have hn' : ((n : Int) != (n' : Int)) = true := by simp; omega
    go_enter Try.func45, Try.ntmps45
    go_wp2_with fail
    go_ret
    exact ⟨ret_bool (by
      symm; rw [decide_eq_false_iff_not]; intro e
      have e1 := hl.out; have e2 := hl'.out
      rw [e] at e1; omega), 0, rfl⟩
theorem equal2_is (A A' : Option Addr) (n c n' c' : Nat) (xs ys : List (List Int)) (w : World) (B B' : Nat) (h : As w B A n c 2 xs) (h' : As w B' A' n' c' 2 ys) (hb : Hid (xs = ys)) :
    Calls Try.prog 45 #[.slice A n c, .slice A' n' c'] w fun e w' => e = .returned (.bool true) ∧ ∃ q, w' = w.drewN q :=
  (equal2_any A A' n c n' c' xs ys w B B' h h').mono fun _ _ ⟨he, hw⟩ => ⟨by rw [he]; exact ret_bool (by rw [decide_eq_true_eq]; exact hb.out), hw⟩
end Go.Proofs.Ytmgoonoifgcmnaa
