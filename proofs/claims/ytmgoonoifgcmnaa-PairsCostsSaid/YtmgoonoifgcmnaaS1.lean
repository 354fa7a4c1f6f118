/-
  A map of pairs of numbers of the call's own: which pairs it holds; looked up, put in, taken out, counted.
-/
import Derived.Test.YtmgoonoifgcmnaaW5
import Derived.Maps.OwnSet
import Derived.Maps.Views
import Derived.DeepKeys4
import Derived.WideKeyPair
namespace Go.Proofs.Ytmgoonoifgcmnaa
open Go.RowKit

open Go.WideMaps (ArrKey)

/-- The key that a pair reads as. -/
def kk (a b : Int) : Lit := .string (keyBytes [.int .i64 a, .int .i64 b])
def I64 (a : Int) : Prop := -9223372036854775808 ≤ a ∧ a ≤ 9223372036854775807
theorem wf_of {a : Int} (h : I64 a) : (Lit.int .i64 a).wf = true := by
  unfold I64 at h
  simp [Lit.wf, IntKind.min, IntKind.max, IntKind.signed, IntKind.bits]; omega
theorem laid_out' : laidOutB Try.prog = true := by kernel_rfl
theorem row56 : (56 : TypeId) < Try.prog.types.size := of_decide_eq_true (by kernel_rfl)
theorem arr56 : ArrKey Try.prog 56 3 2 := ⟨by kernel_rfl, by kernel_rfl, by kernel_rfl, by kernel_rfl⟩
theorem wide56 : (match Try.prog.underlying 56 with | some (.array _ _) | some (.struct _) => true | _ => false) = true := by rw [arr56.hu]
set_option maxRecDepth 100000 in
theorem law56 : Maps.Keyed Try.prog 56 := Maps.Keyed.of_law (deep_law_laid laid_out' (m := 2) (by omega) row56 (by kernel_rfl) wide56)
theorem size_pos : ∃ m, Try.prog.types.size = m + 1 := Nat.exists_eq_succ_of_ne_zero (fun h => Nat.not_lt_zero 56 (h ▸ row56))
theorem key_pair {a b : Int} (ha : I64 a) (hb : I64 b) : keyOf Try.prog 56 (.agg #[.int .i64 a, .int .i64 b]) = some (kk a b) := Go.WideMaps.keyOf_pair arr56 Try.underlying3 size_pos (wf_of ha) (wf_of hb)
theorem kk_inj {a b c d : Int} (ha : I64 a) (hb : I64 b) (hc : I64 c) (hd : I64 d) (h : kk a b = kk c d) : a = c ∧ b = d := by
  have := law56.inj (key_pair ha hb) (h ▸ key_pair hc hd)
  simpa using this
theorem map97 : Try.prog.underlying 97 = some (.map 56 4) := by kernel_rfl
theorem zero4 (w : World) : (zeroValue 4).run Try.prog w = .ok (.bool false) w := by simp [Try.zeroValue4]
set_option maxRecDepth 100000 in
theorem plainElem_bool_inv {v : Value} {z : DataW Unit × List MemPlace} (h : plainElem Try.prog 4 v = some z) : ∃ x, v = .bool x ∧ z = (.lit (.bool x), []) := by
  unfold plainElem at h
  rw [Try.underlying4] at h
  cases v <;> simp at h
  exact ⟨_, rfl, h.symm⟩

/-- Block b is a map that holds just the pairs of M. -/
def MSet (w : World) (b n : Nat) (M : Int → Int → Bool) : Prop :=
  ∃ D : DataW Unit, w.ownsMap Try.prog 56 (plainElem Try.prog 4) b n D ∧ (∀ x y, I64 x → I64 y → D.atKey (kk x y) (.lit (.bool false)) = .lit (.bool (M x y))) ∧ ∀ kl, Maps.has D kl = true → ∃ x y, I64 x ∧ I64 y ∧ kl = kk x y ∧ M x y = true
namespace MSet
variable {w w' : World} {b n : Nat} {M : Int → Int → Bool}
theorem made (w : World) : MSet (w.alloc (.map #[] 0)) w.heap.size 0 (fun _ _ => false) :=
  ⟨.map [], World.ownsMap_made w Try.prog 56 _, fun _ _ _ _ => rfl, fun kl h => by simp [Maps.has] at h⟩
theorem lt (h : MSet w b n M) : b < w.heap.size := by obtain ⟨D, h1, _⟩ := h; exact h1.lt
theorem at_ (h : MSet w b n M) (hb : w'.heap[b]? = w.heap[b]?) : MSet w' b n M := by
  obtain ⟨D, ⟨es, clock, h1, h2⟩, h3⟩ := h
  exact ⟨D, ⟨es, clock, hb.trans h1, h2⟩, h3⟩
theorem below (h : MSet w b n M) (hb : Below w.heap.size w w') : MSet w' b n M := h.at_ (hb.block b h.lt)
theorem drewN (h : MSet w b n M) (q : Nat) : MSet (w.drewN q) b n M := h
theorem set (h : MSet w b n M) {p : Addr} (hp : b ≠ p.block) (u : Value) : MSet (w.setCell p u) b n M := h.at_ (heap_setCell_other w p b u hp)
theorem mono (h : MSet w b n M) {n' : Nat} (hn : n ≤ n') : MSet w b n' M := by obtain ⟨D, h1, h2⟩ := h; exact ⟨D, h1.mono hn, h2⟩
theorem ext {M' : Int → Int → Bool} (h : MSet w b n M) (e : M = M') : MSet w b n M' := e ▸ h
theorem look (h : MSet w b n M) {x y : Int} (hx : I64 x) (hy : I64 y) : (Instr.lookup 97 (.map (some b)) (.agg #[.int .i64 x, .int .i64 y]) false).run Try.prog w = .ok (.bool (M x y)) w := by
  obtain ⟨D, h1, h2, _⟩ := h
  obtain ⟨v, ps, hrun, hv⟩ := h1.lookup law56 map97 (zero4 w) (plainElem_bool Try.underlying4 false) (key_pair hx hy)
  obtain ⟨c, rfl, e⟩ := plainElem_bool_inv hv
  rw [h2 x y hx hy] at e
  simp only [Prod.mk.injEq, DataW.lit.injEq, Lit.bool.injEq] at e
  rw [hrun, e.1]
theorem put (h : MSet w b n M) (hn : n < 1000000) {x y : Int} (hx : I64 x) (hy : I64 y) :
    ∃ w', (Instr.mapUpdate 97 (.map (some b)) (.agg #[.int .i64 x, .int .i64 y]) (.bool true)).run Try.prog w = .ok () w' ∧ MSet w' b (n + 1) (fun x' y' => decide (x' = x ∧ y' = y) || M x' y') ∧ w.grownBy w' (some b) := by
  obtain ⟨D, h1, h2, h3⟩ := h
  have hm := h1.isMap
  obtain ⟨w', hrun, h4, h5⟩ := h1.update law56 map97 (by unfold maxLen; omega) (key_pair hx hy) (plainElem_bool Try.underlying4 true)
  refine ⟨w', hrun, ⟨_, h4, fun x' y' hx' hy' => ?_, fun kl hk => ?_⟩, h5⟩
  · by_cases e : kk x' y' = kk x y
    · obtain ⟨rfl, rfl⟩ := kk_inj hx' hy' hx hy e
      rw [Maps.atKey_put_same hm (by trivial)]; simp
    · rw [Maps.atKey_put_other e, h2 x' y' hx' hy']
      have : ¬ (x' = x ∧ y' = y) := fun ⟨e1, e2⟩ => e (by rw [e1, e2])
      simp [this]
  · by_cases e : kl = kk x y
    · exact ⟨x, y, hx, hy, e, by simp⟩
    · rw [Maps.has_put_other e] at hk
      obtain ⟨x', y', h6, h7, h8, h9⟩ := h3 kl hk
      exact ⟨x', y', h6, h7, h8, by simp [h9]⟩
theorem drop (h : MSet w b n M) {x y : Int} (hx : I64 x) (hy : I64 y) (ty : TypeId) :
    ∃ w', (Builtin.delete_ #[97, 56] ty #[.map (some b), .agg #[.int .i64 x, .int .i64 y]]).run Try.prog w = .ok (.tuple #[]) w' ∧ MSet w' b n (fun x' y' => !decide (x' = x ∧ y' = y) && M x' y') ∧ w.grownBy w' (some b) := by
  obtain ⟨D, h1, h2, h3⟩ := h
  obtain ⟨w', hrun, h4, h5⟩ := h1.drop law56 map97 (key_pair hx hy) ty
  refine ⟨w', hrun, ⟨_, h4, fun x' y' hx' hy' => ?_, fun kl hk => ?_⟩, h5.grown⟩
  · by_cases e : kk x' y' = kk x y
    · obtain ⟨rfl, rfl⟩ := kk_inj hx' hy' hx hy e
      rw [Maps.atKey_del_same]; simp
    · rw [Maps.atKey_del_other e, h2 x' y' hx' hy']
      have : ¬ (x' = x ∧ y' = y) := fun ⟨e1, e2⟩ => e (by rw [e1, e2])
      simp [this]
  · by_cases e : kl = kk x y
    · subst e; rw [Maps.has_del_same] at hk; cases hk
    · rw [Maps.has_del_other e] at hk
      obtain ⟨x', y', h6, h7, h8, h9⟩ := h3 kl hk
      refine ⟨x', y', h6, h7, h8, ?_⟩
      have : ¬ (x' = x ∧ y' = y) := fun ⟨e1, e2⟩ => e (by rw [h8, e1, e2])
      simp [h9, this]
end MSet
theorem wpList_mput {w : World} {ops : Array Oper} {rest : List Oper} {o : Oper} {a : Act} {Q : Exit → Act → World → Prop} (hg : o.guard = none) (m x v : Operand) (hop : o.op = Op.mapUpdate 97 m x v)
    {b n : Nat} {M : Int → Int → Bool} (hm : a.eval m = .map (some b)) (hs : MSet w b n M) (hn : n < 1000000) {p q : Int} (hx : a.eval x = .agg #[.int .i64 p, .int .i64 q]) (hv : a.eval v = .bool true) (hp : I64 p) (hq : I64 q)
    (hK : ∀ w', MSet w' b (n + 1) (fun x' y' => decide (x' = p ∧ y' = q) || M x' y') → w.grownBy w' (some b) → wpList Try.prog ops Q rest (a.put o.dst undef) w') :
    wpList Try.prog ops Q (o :: rest) a w := by
  refine wpList_plain hg fun K' hK' => ?_
  obtain ⟨w', hrun, r1, r2⟩ := hs.put hn hp hq
  unfold Oper.wp
  simp [execOp, hop, hm, hx, hv, hrun, Result.andThen]
  exact hK' _ _ (hK w' r1 r2)
theorem wpList_mlook {w : World} {ops : Array Oper} {rest : List Oper} {o : Oper} {a : Act} {Q : Exit → Act → World → Prop} (hg : o.guard = none) (m x : Operand) (hop : o.op = Op.lookup 97 m x false)
    {b n : Nat} {M : Int → Int → Bool} (hm : a.eval m = .map (some b)) (hs : MSet w b n M) {p q : Int} (hx : a.eval x = .agg #[.int .i64 p, .int .i64 q]) (hp : I64 p) (hq : I64 q)
    (hK : wpList Try.prog ops Q rest (a.put o.dst (.bool (M p q))) w) :
    wpList Try.prog ops Q (o :: rest) a w := by
  refine wpList_plain hg fun K' hK' => ?_
  have hrun := hs.look hp hq
  unfold Oper.wp
  simp [execOp, hop, hm, hx, hrun, Result.andThen]
  exact hK' _ _ hK
theorem wpList_mdel {w : World} {ops : Array Oper} {rest : List Oper} {o : Oper} {a : Act} {Q : Exit → Act → World → Prop} (hg : o.guard = none) (m x : Operand) (hop : o.op = Op.call { callee := Callee.builtin Builtin.delete, args := #[m, x], argTypes := #[97, 56] })
    {b n : Nat} {M : Int → Int → Bool} (hm : a.eval m = .map (some b)) (hs : MSet w b n M) {p q : Int} (hx : a.eval x = .agg #[.int .i64 p, .int .i64 q]) (hp : I64 p) (hq : I64 q)
    (hK : ∀ w', MSet w' b n (fun x' y' => !decide (x' = p ∧ y' = q) && M x' y') → w.grownBy w' (some b) → wpList Try.prog ops Q rest (a.put o.dst (.tuple #[])) w') :
    wpList Try.prog ops Q (o :: rest) a w := by
  refine wpList_plain hg fun K' hK' => ?_
  obtain ⟨w', hrun, r1, r2⟩ := hs.drop hp hq o.type
  unfold Oper.wp
  simp [execOp, hop, resolve, invoke, builtin, hm, hx, hrun, Result.andThen]
  exact hK' _ _ (hK w' r1 r2)
end Go.Proofs.Ytmgoonoifgcmnaa
