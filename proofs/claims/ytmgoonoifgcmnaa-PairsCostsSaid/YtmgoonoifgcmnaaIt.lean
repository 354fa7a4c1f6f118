/-
  A loop over an iterator that yields a known list: the iterator's word for whatever its caller keeps of its own cells, and the caller's law.
-/
import Derived.Test.YtmgoonoifgcmnaaBase
import Derived.RangeFuncNested
import Derived.RangeFuncBound
import Derived.RangeFuncCalls
import Derived.RangeFuncLeaves
import Derived.RangeFuncBox
import Derived.Shelf.Abstract
import Derived.Shelf.RegionOpen
import Derived.OwnWalkIn
import Derived.TacticsInMore
import Derived.LoopNIn
import Derived.LoopIn
namespace Go.Proofs.Ytmgoonoifgcmnaa
open Go.RowKit Go.Shelf

/-- The blocks of S lie as they lay. -/
structure Kept (S : Nat → Prop) (W W' : World) : Prop where
  size : W.heap.size ≤ W'.heap.size
  block : ∀ k, S k → W'.heap[k]? = W.heap[k]?
namespace Kept
variable {S T : Nat → Prop} {A B C : World}
theorem refl (S : Nat → Prop) (W : World) : Kept S W W := ⟨Nat.le_refl _, fun _ _ => rfl⟩
theorem trans (h : Kept S A B) (k : Kept S B C) : Kept S A C := ⟨Nat.le_trans h.size k.size, fun i hi => (k.block i hi).trans (h.block i hi)⟩
theorem sub (h : Kept S A B) (hT : ∀ k, T k → S k) : Kept T A B := ⟨h.size, fun i hi => h.block i (hT i hi)⟩
theorem cell (h : Kept S A B) {p : Addr} (hp : S p.block) : B.cell? p = A.cell? p := World.cell?_of_block (h.block _ hp)
theorem grown {row : Option Nat} (hg : A.grownBy B row) (hS : ∀ k, S k → k < A.heap.size) (hr : ∀ r, row = some r → ¬ S r) : Kept S A B :=
  ⟨hg.size, fun k hk => hg.block k (hS k hk) (fun e => hr k e.symm hk)⟩
theorem below (hb : Below A.heap.size A B) (hS : ∀ k, S k → k < A.heap.size) : Kept S A B := ⟨hb.size, fun k hk => hb.block k (hS k hk)⟩
end Kept

/-- The function g, with what it has captured, yields xs one by one, whatever the body does that keeps the blocks of S. -/
def Seqs {α : Type} (P : Program) (g : Nat) (lb : Array Value) (encs : α → Array Value) (xs : List α) (S : Nat → Prop) (w : World) : Prop :=
  ∀ (l : Nat) (J : List α → World → Prop) (Jx : World → Prop) (W : World), Below w.heap.size w W → OwnFrom W.heap.size J → OwnFrom W.heap.size (fun (_ : Unit) => Jx) →
    (∀ pre x W1, pre ++ [x] <+: xs → J pre W1 → YieldAt Fence.wide 0 P l (encs x) W1 fun e W' => (e = .returned (.bool true) ∧ J (pre ++ [x]) W' ∧ Kept S W1 W') ∨ (e = .returned (.bool false) ∧ Jx W')) →
    J [] W →
    CallsIn Fence.wide 0 P g (#[.func (.yield l) #[] #[]] ++ lb) W fun e W' => (∃ v, e = .returned v) ∧ (J xs W' ∨ Jx W')

theorem Seqs.later {α : Type} {P : Program} {g : Nat} {lb : Array Value} {encs : α → Array Value} {xs : List α} {S : Nat → Prop} {w w' : World}
    (h : Seqs P g lb encs xs S w) (hb : Below w.heap.size w w') : Seqs P g lb encs xs S w' :=
  fun l J Jx W hW hJ hJx hY h0 => h l J Jx W (hb.trans (hW.mono hb.size)) hJ hJx hY h0

/-- Abides a turn of one block that is no cells. -/
theorem own_put {β : Type} {B : Nat} {I : β → World → Prop} (h : OwnFrom B I) {s : β} {W : World} {l : Nat} {o : Obj} (o' : Obj) (hs : I s W) (hB : B ≤ l) (hl : W.heap[l]? = some o) (ho : o.isCells = false) : I s (W.putObj l o') :=
  OwnFrom.putObj h o' hs hB hl ho
theorem own_below {β : Type} {B : Nat} {I : β → World → Prop} (h : OwnFrom B I) {s : β} {W W' : World} (hs : I s W) (hb : Below W.heap.size W W') : I s W' :=
  h s W W' none hs ⟨hb.os, hb.tape, hb.output, hb.size, fun k hk _ => hb.block k hk⟩ (fun r e => by cases e)
theorem own_mono {β : Type} {B B' : Nat} {I : β → World → Prop} (h : OwnFrom B I) (hB : B ≤ B') : OwnFrom B' I :=
  fun s W W' row hs hg hr => h s W W' row hs hg (fun r e => ⟨Nat.le_trans hB (hr r e).1, (hr r e).2⟩)
/-- What lies in a block stays there, but for the one that turns. -/
theorem block_stays {W W' : World} {row : Option Nat} (hg : W.grownBy W' row) {B k : Nat} {o : Obj} (hr : ∀ r, row = some r → B ≤ r ∧ ∃ o : Obj, W.heap[r]? = some o ∧ o.isCells = false) (hk : W.heap[k]? = some o) (hkB : k < B) : W'.heap[k]? = some o :=
  (hg.block k (Array.getElem?_eq_some_iff.1 hk).1 (fun e => by have := (hr k e.symm).1; omega)).trans hk

theorem wp_range {α : Type} {P : Program} {g : Operand} {ps : Array Tmp} {assign body : Code} {Q : Exit → Act → World → Prop} {a : Act} {w : World} {gf : Nat} {lb : Array Value}
    {encs : α → Array Value} {xs : List α} {S : Nat → Prop} {w0 : World}
    (hg : a.eval g = .func (.func gf) #[] lb) (eg : ∀ args w, (callFunc gf args).run P w = .ok (.enter gf args) w)
    (hseq : Seqs P gf lb encs xs S w0) (hb0 : Below w0.heap.size w0 w) (hS : ∀ k, S k → k < w.heap.size) (hps : ∀ x, (encs x).size = ps.size)
    (I : List α → World → Prop) (Ix : Code → World → Prop) (hI : OwnFrom w.heap.size I) (hIx : ∀ c, OwnFrom w.heap.size (fun (_ : Unit) => Ix c)) (h0 : I [] w)
    (Ax : α → Act → World → Prop) (hAx : ∀ x a', OwnFrom w.heap.size (fun (_ : Unit) => Ax x a'))
    (hassign : ∀ (l : Nat) (pre : List α) (x : α) (W : World) (K : Act → World → Prop), pre ++ [x] <+: xs → I pre W → (∀ a' W', KeepsFrom w.heap.size W W' → Kept S W W' → I pre W' → Ax x a' W' → K a' W') →
      assign.wpIn (Fence.wide.inRound l) 0 P (Exit.then K (fun _ _ _ => False)) { tmps := (ps.zip (encs x)).foldl (fun t (p, v) => t.setIfInBounds p v) a.tmps, defers := [] } W)
    (hbody : ∀ (l : Nat) (pre : List α) (x : α) (a' : Act) (W : World), pre ++ [x] <+: xs → I pre W → Ax x a' W →
      body.wpIn (Fence.wide.inRound l) 0 P (ownPostG w.heap.size (Kept S) I (fun c _ W => Ix c W) (pre ++ [x]) W) a' W)
    (hdone : ∀ (D : Nat) (W : World), w.heap.size ≤ D → I xs W → W.heap[D]? = some (.deferred (some [])) → Q .normal { a with defers := { target := .collected D, args := #[] } :: a.defers } W)
    (hstop : ∀ (D : Nat) (c : Code) (W : World), w.heap.size ≤ D → Ix c W → W.heap[D]? = some (.deferred (some [])) → c.wpIn Fence.wide 0 P Q { a with defers := { target := .collected D, args := #[] } :: a.defers } W) :
    (Code.rangeFunc g ps assign body).wpIn Fence.wide 0 P Q a w := by
  refine wpIn_rangeFunc fun fn hfn => ?_
  -- the record, by its state and the jump that is pending
  let rc : LoopState → Option Code → Obj := fun st pe => .loop { state := st, pending := pe, fn, tmps := a.tmps, params := ps, assign, body, defers := w.heap.size }
  have hrc : ∀ st pe, (rc st pe).isCells = false := fun _ _ => rfl
  obtain ⟨D, hD⟩ : ∃ D, D = w.heap.size := ⟨_, rfl⟩
  obtain ⟨W1, hW1⟩ : ∃ W1, W1 = (w.alloc (.deferred (some []))).alloc (rc .ready none) := ⟨_, rfl⟩
  have s1 : W1.heap.size = D + 1 + 1 := by rw [hW1, hD]; simp
  have hL : W1.heap[D + 1]? = some (rc .ready none) := by
    have := World.alloc_heap_new (w.alloc (.deferred (some []))) (rc .ready none)
    rw [World.size_alloc, ← hD, ← hW1] at this; exact this
  have hK : W1.heap[D]? = some (.deferred (some [])) := by
    rw [hW1, Below.heap_alloc _ _ _ (by simp; omega), hD]; exact World.alloc_heap_new w _
  have hB1 : Below w.heap.size w W1 := by rw [hW1]; exact ((Below.refl _ w).alloc (Nat.le_refl _) _).alloc (by simp) _
  refine ⟨D + 1, [{ target := .collected D, args := #[] }], W1, { target := .fn (.func gf) lb, args := #[.func (.yield (D + 1)) #[] #[]] }, W1, gf, #[.func (.yield (D + 1)) #[] #[]] ++ lb, W1, ?_, ?_, fun _ _ => trivial, ?_, (fun h => by cases h), ?_⟩
  · rw [hW1, hD]; exact run_enterLoop_outer _ _ _ _ _
  · simp only [resolve, hg]; simp [go_sem]
  · simp [invoke, go_sem, eg]
  rw [← hD] at hI hIx hAx hassign hbody hdone hstop
  have keep : ∀ (W W' : World) (row : Option Nat), W.grownBy W' row → (∀ r, row = some r → W1.heap.size ≤ r ∧ ∃ o : Obj, W.heap[r]? = some o ∧ o.isCells = false) → ∀ r, row = some r → D ≤ r ∧ ∃ o : Obj, W.heap[r]? = some o ∧ o.isCells = false :=
    fun W W' row _ hr r e => ⟨by have := (hr r e).1; omega, (hr r e).2⟩
  have turn : ∀ (W : World) (o o' : Obj), W.heap[D + 1]? = some o → Kept S W (W.putObj (D + 1) o') := fun W o o' h =>
    Kept.grown (grownBy_putObj' W (D + 1) o') (fun k hk => by have := hS k hk; have := (Array.getElem?_eq_some_iff.1 h).1; omega) (fun k e hk => by cases e; have := hS _ hk; omega)
  refine (hseq (D + 1) (fun pre W => I pre W ∧ W.heap[D + 1]? = some (rc .ready none) ∧ W.heap[D]? = some (.deferred (some [])))
    (fun W => ∃ c, Ix c W ∧ W.heap[D + 1]? = some (rc .done (some c)) ∧ W.heap[D]? = some (.deferred (some []))) W1 (hb0.trans (hB1.mono hb0.size))
    (fun s A B row hs hgr hr => ⟨hI s A B row hs.1 hgr (keep A B row hgr hr), block_stays hgr hr hs.2.1 (by omega), block_stays hgr hr hs.2.2 (by omega)⟩)
    (fun s A B row hs hgr hr => by
      obtain ⟨c, h1, h2, h3⟩ := hs
      exact ⟨c, hIx c () A B row h1 hgr (keep A B row hgr hr), block_stays hgr hr h2 (by omega), block_stays hgr hr h3 (by omega)⟩)
    ?_ ⟨own_below hI h0 hB1, hL, hK⟩).mono ?_
  · -- a round
    rintro pre x W hpre ⟨hi, hl, hk⟩
    refine ⟨fn, _, assign, body, run_yield (P := P) (args := encs x) hl (hps x), roundIn_of_wpIn hfn (hassign _ pre x W _ hpre hi ?_)⟩
    intro a' Wa kf kb hia hax
    have hla := kf.same _ _ (by omega) hl (hrc _ _)
    have hka := kf.same _ _ (Nat.le_refl _) hk rfl
    have lla := (Array.getElem?_eq_some_iff.1 hla).1
    refine ⟨_, run_beginRound hla rfl, ?_⟩
    have hl2 : (Wa.putObj (D + 1) (rc .busy none)).heap[D + 1]? = some (rc .busy none) := World.putObj_heap_same lla
    have hk2 : (Wa.putObj (D + 1) (rc .busy none)).heap[D]? = some (.deferred (some [])) := (World.putObj_heap_other (by omega)).trans hka
    have kb2 := kb.trans (turn Wa _ (rc .busy none) hla)
    refine wpIn_mono (hbody _ pre x a' (Wa.putObj (D + 1) (rc .busy none)) hpre (own_put hI _ hia (by omega) hla (hrc _ _)) (own_put (hAx x a') (s := ()) _ hax (by omega) hla (hrc _ _))) ?_
    have over : ∀ (jump : Option Code) (W3 : World), KeepsFrom D (Wa.putObj (D + 1) (rc .busy none)) W3 → ∃ W4, W4 = W3.putObj (D + 1) (rc (if jump.isNone then .ready else .done) jump) ∧ (Instr.endRound (D + 1) jump).run P W3 = .ok (.bool jump.isNone) W4 ∧
        W3.heap[D + 1]? = some (rc .busy none) ∧ W4.heap[D + 1]? = some (rc (if jump.isNone then .ready else .done) jump) ∧ W4.heap[D]? = some (.deferred (some [])) := fun jump W3 k3 => by
      have hl3 := k3.same _ _ (by omega) hl2 (hrc _ _)
      exact ⟨_, rfl, run_endRound (P := P) jump hl3, hl3, World.putObj_heap_same (Array.getElem?_eq_some_iff.1 hl3).1, (World.putObj_heap_other (by omega)).trans (k3.same _ _ (Nat.le_refl _) hk2 rfl)⟩
    have left : ∀ (c : Code) (W3 : World), KeepsFrom D (Wa.putObj (D + 1) (rc .busy none)) W3 → Ix c W3 → ∃ v W4, (Instr.endRound (D + 1) (some c)).run P W3 = .ok v W4 ∧ ((Ending.returned v = .returned (.bool true) ∧ (I (pre ++ [x]) W4 ∧ W4.heap[D + 1]? = some (rc .ready none) ∧ W4.heap[D]? = some (.deferred (some []))) ∧ Kept S W W4) ∨
        (Ending.returned v = .returned (.bool false) ∧ ∃ c, Ix c W4 ∧ W4.heap[D + 1]? = some (rc .done (some c)) ∧ W4.heap[D]? = some (.deferred (some [])))) := fun c W3 k3 hx => by
      obtain ⟨W4, rfl, hr, hl3, hl4, hk4⟩ := over (some c) W3 k3
      exact ⟨_, _, hr, .inr ⟨rfl, c, own_put (hIx c) (s := ()) _ hx (by omega) hl3 (hrc _ _), hl4, hk4⟩⟩
    rintro e a3 W3 hp
    match e, hp with
    | .normal, hp =>
      obtain ⟨k3, b3, i3⟩ := hp
      obtain ⟨W4, rfl, hr, hl3, hl4, hk4⟩ := over none W3 k3
      exact ⟨_, _, hr, .inl ⟨rfl, ⟨own_put hI _ i3 (by omega) hl3 (hrc _ _), hl4, hk4⟩, (kb2.trans b3).trans (turn W3 _ _ hl3)⟩⟩
    | .ret, hp => exact left _ W3 hp.1 hp.2
    | .exit id, hp => exact left _ W3 hp.1 hp.2
    | .goto t, hp => exact left _ W3 hp.1 hp.2
    | .panic _, hp => exact hp.elim
    | .outgrown, hp => exact hp.elim
  · -- behind the iterator
    rintro e W2 ⟨⟨v, rfl⟩, ⟨hi, hl, hk⟩ | ⟨c, hx, hl, hk⟩⟩
    · exact ⟨none, _, run_endLoop (P := P) hl (by simp), hdone D _ (Nat.le_refl _) (own_put hI _ hi (by omega) hl (hrc _ _)) ((World.putObj_heap_other (by omega)).trans hk)⟩
    · exact ⟨some c, _, run_endLoop (P := P) hl (by simp), hstop D c _ (Nat.le_refl _) (own_put (hIx c) (s := ()) _ hx (by omega) hl (hrc _ _)) ((World.putObj_heap_other (by omega)).trans hk)⟩
end Go.Proofs.Ytmgoonoifgcmnaa
