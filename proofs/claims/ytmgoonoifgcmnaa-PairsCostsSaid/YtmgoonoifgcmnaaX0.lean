/-
  A loop over an iterator that yields slices that lie in memory of its own, which it writes between its yields.
-/
import Derived.Test.YtmgoonoifgcmnaaIu
import Derived.Test.YtmgoonoifgcmnaaW1
namespace Go.Proofs.Ytmgoonoifgcmnaa
open Go.RowKit Go.Shelf

/-- The blocks from B on lie as they lay. -/
structure Upper (B : Nat) (W W' : World) : Prop where
  size : W.heap.size ≤ W'.heap.size
  at_ : ∀ k, B ≤ k → k < W.heap.size → W'.heap[k]? = W.heap[k]?
theorem Upper.refl (B : Nat) (W : World) : Upper B W W := ⟨Nat.le_refl _, fun _ _ _ => rfl⟩
theorem Upper.trans {B : Nat} {W W' W2 : World} (h : Upper B W W') (h2 : Upper B W' W2) : Upper B W W2 :=
  ⟨Nat.le_trans h.size h2.size, fun k h3 h4 => (h2.at_ k h3 (Nat.lt_of_lt_of_le h4 h.size)).trans (h.at_ k h3 h4)⟩
theorem Upper.up {B B' : Nat} {W W' : World} (h : Upper B W W') (hB : B ≤ B') : Upper B' W W' := ⟨h.size, fun k h3 h4 => h.at_ k (Nat.le_trans hB h3) h4⟩
theorem Upper.below {B : Nat} {W W' : World} (h : Below W.heap.size W W') : Upper B W W' := ⟨h.size, fun k _ h4 => h.block k h4⟩
theorem Upper.set {B : Nat} {W : World} {p : Addr} (hp : p.block < B) (u : Value) : Upper B W (W.setCell p u) :=
  ⟨by simp, fun k h3 _ => heap_setCell_other W p k u (by omega)⟩
theorem below_put {D k : Nat} {W : World} {o : Obj} (hk : D ≤ k) (hl : k < W.heap.size) : Below D W (W.putObj k o) :=
  (Below.refl D W).grown (grownBy_putObj' W k o) (by omega) (fun j e => by cases e; exact hk)
theorem ints_own {W W' : World} {row : Option Nat} {A : Option Addr} {n c : Nat} {x : List Int} (h : Ints W W.heap.size A n c x) (hg : W.grownBy W' row) (hr : ∀ r, row = some r → ∃ o : Obj, W.heap[r]? = some o ∧ o.isCells = false) : Ints W' W'.heap.size A n c x := by
  refine ⟨h.len, h.cap, h.most, h.bare, fun k hk => ?_⟩
  obtain ⟨b, off, e, hb, hc⟩ := h.at_ k hk
  refine ⟨b, off, e, Nat.lt_of_lt_of_le hb hg.size, ?_⟩
  have hne : some b ≠ row := fun e2 => by
    obtain ⟨o, ho, hx⟩ := hr b e2.symm
    unfold World.cell? at hc
    simp only [ho] at hc
    cases o with
    | cells _ _ _ => cases hx
    | _ => simp at hc
  exact (World.cell?_of_block (hg.block b hb hne)).trans hc

def SeqR (P : Program) (g : Nat) (lb : Array Value) (xs : List (List Int)) (w : World) : Prop :=
  ∀ (l : Nat) (J : List (List Int) → World → Prop) (Jx : World → Prop) (W : World), Below w.heap.size w W →
    (∀ pre A B, J pre A → W.heap.size ≤ A.heap.size → Below W.heap.size A B → J pre B) →
    (∀ pre x W1 A n c, pre ++ [x] <+: xs → J pre W1 → W.heap.size ≤ W1.heap.size → Ints W1 W1.heap.size A n c x →
      YieldAt Fence.wide 0 P l #[.slice A n c] W1 fun e W' => (e = .returned (.bool true) ∧ J (pre ++ [x]) W' ∧ Upper W.heap.size W1 W') ∨ (e = .returned (.bool false) ∧ Jx W')) →
    J [] W →
    CallsIn Fence.wide 0 P g (#[.func (.yield l) #[] #[]] ++ lb) W fun e W' => (∃ v, e = .returned v) ∧ (J xs W' ∨ Jx W')

/-- How the body of a round may be left. -/
def postR (B : Nat) (I : List (List Int) → World → Prop) (Ix : Code → World → Prop) (xs : List (List Int)) (W : World) : Exit → Act → World → Prop
  | .normal, _, W' => Upper B W W' ∧ I xs W'
  | .ret, _, W' => Upper B W W' ∧ Ix .ret W'
  | .exit id, _, W' => Upper B W W' ∧ Ix (.exit id) W'
  | .goto t, _, W' => Upper B W W' ∧ Ix (.goto t) W'
  | .panic _, _, _ => False
  | .outgrown, _, _ => False

theorem wp_rangeR {P : Program} {g : Operand} {ps : Array Tmp} {assign body : Code} {Q : Exit → Act → World → Prop} {a : Act} {w : World} {gf : Nat} {lb : Array Value}
    {xs : List (List Int)} {w0 : World}
    (hg : a.eval g = .func (.func gf) #[] lb) (eg : ∀ args w, (callFunc gf args).run P w = .ok (.enter gf args) w)
    (hseq : SeqR P gf lb xs w0) (hb0 : Below w0.heap.size w0 w) (hps : ps.size = 1)
    (I : List (List Int) → World → Prop) (Ix : Code → World → Prop) (hI : ∀ pre A B, I pre A → w.heap.size ≤ A.heap.size → Below w.heap.size A B → I pre B) (hIx : ∀ c, OwnFrom w.heap.size (fun (_ : Unit) => Ix c)) (h0 : I [] w)
    (Ax : Option Addr → Nat → Nat → Act → Prop)
    (hassign : ∀ (l : Nat) (A : Option Addr) (n c : Nat) (W : World) (K : Act → World → Prop), (∀ a', Ax A n c a' → K a' W) →
      assign.wpIn (Fence.wide.inRound l) 0 P (Exit.then K (fun _ _ _ => False)) { tmps := (ps.zip #[.slice A n c]).foldl (fun t (p, v) => t.setIfInBounds p v) a.tmps, defers := [] } W)
    (hbody : ∀ (l : Nat) (pre : List (List Int)) (x : List Int) (A : Option Addr) (n c : Nat) (a' : Act) (W : World), pre ++ [x] <+: xs → w.heap.size ≤ W.heap.size → I pre W → Ints W W.heap.size A n c x → Ax A n c a' →
      body.wpIn (Fence.wide.inRound l) 0 P (postR w.heap.size I Ix (pre ++ [x]) W) a' W)
    (hdone : ∀ (D : Nat) (W : World), w.heap.size ≤ D → I xs W → W.heap[D]? = some (.deferred (some [])) → Q .normal { a with defers := { target := .collected D, args := #[] } :: a.defers } W)
    (hstop : ∀ (D : Nat) (c : Code) (W : World), w.heap.size ≤ D → Ix c W → W.heap[D]? = some (.deferred (some [])) → c.wpIn Fence.wide 0 P Q { a with defers := { target := .collected D, args := #[] } :: a.defers } W) :
    (Code.rangeFunc g ps assign body).wpIn Fence.wide 0 P Q a w := by
  refine wpIn_rangeFunc fun fn hfn => ?_
  let rc : LoopState → Option Code → Obj := fun st pe => .loop { state := st, pending := pe, fn, tmps := a.tmps, params := ps, assign, body, defers := w.heap.size }
  have hrc : ∀ st pe, (rc st pe).isCells = false := fun _ _ => rfl
  obtain ⟨D, hD⟩ : ∃ D, D = w.heap.size := ⟨_, rfl⟩
  obtain ⟨W1, hW1⟩ : ∃ W1, W1 = (w.alloc (.deferred (some []))).alloc (rc .ready none) := ⟨_, rfl⟩
  have s1 : W1.heap.size = D + 1 + 1 := by rw [hW1, hD]; simp
  have hL : W1.heap[D + 1]? = some (rc .ready none) := by
    have := World.alloc_heap_new (w.alloc (.deferred (some []))) (rc .ready none)
    rw [World.size_alloc, ← hD, ← hW1] at this; exact this
  have hK : W1.heap[D]? = some (.deferred (some [])) := by
    rw [hW1, Below.heap_alloc _ _ _ (by simp; omega), hD]; exact World.alloc_heap_new w _
  have hB1 : Below w.heap.size w W1 := by rw [hW1]; exact ((Below.refl _ w).alloc (Nat.le_refl _) _).alloc (by simp) _
  refine ⟨D + 1, [{ target := .collected D, args := #[] }], W1, { target := .fn (.func gf) lb, args := #[.func (.yield (D + 1)) #[] #[]] }, W1, gf, #[.func (.yield (D + 1)) #[] #[]] ++ lb, W1, ?_, ?_, fun _ _ => trivial, ?_, (fun h => by cases h), ?_⟩
  · rw [hW1, hD]; exact run_enterLoop_outer _ _ _ _ _
  · simp only [resolve, hg]; simp [go_sem]
  · simp [invoke, go_sem, eg]
  have hI1 := hI [] w W1 h0 (Nat.le_refl _) hB1
  rw [← hD] at hI hIx hbody hdone hstop
  refine (hseq (D + 1) (fun pre W => I pre W ∧ W.heap[D + 1]? = some (rc .ready none) ∧ W.heap[D]? = some (.deferred (some [])))
    (fun W => ∃ c, Ix c W ∧ W.heap[D + 1]? = some (rc .done (some c)) ∧ W.heap[D]? = some (.deferred (some []))) W1 (hb0.trans (hB1.mono hb0.size))
    (fun pre A B hs hsz hb => ⟨hI pre A B hs.1 (by omega) (hb.mono (by omega)), (hb.block _ (by omega)).trans hs.2.1, (hb.block _ (by omega)).trans hs.2.2⟩)
    ?_ ⟨hI1, hL, hK⟩).mono ?_
  · -- a round
    rintro pre x W A n c hpre ⟨hi, hl, hk⟩ hWs hx
    refine ⟨fn, _, assign, body, run_yield (P := P) (args := #[.slice A n c]) hl (by rw [hps]; rfl), roundIn_of_wpIn hfn (hassign _ A n c W _ ?_)⟩
    intro a' hax
    have lla := (Array.getElem?_eq_some_iff.1 hl).1
    refine ⟨_, run_beginRound hl rfl, ?_⟩
    have hl2 : (W.putObj (D + 1) (rc .busy none)).heap[D + 1]? = some (rc .busy none) := World.putObj_heap_same lla
    have hk2 : (W.putObj (D + 1) (rc .busy none)).heap[D]? = some (.deferred (some [])) := (World.putObj_heap_other (by omega)).trans hk
    have hx2 : Ints (W.putObj (D + 1) (rc .busy none)) (W.putObj (D + 1) (rc .busy none)).heap.size A n c x := ints_own hx (grownBy_putObj' W (D + 1) _) (fun r e => by cases e; exact ⟨_, hl, rfl⟩)
    refine wpIn_mono (hbody _ pre x A n c a' (W.putObj (D + 1) (rc .busy none)) hpre (by simp; omega) (hI pre W _ hi (by omega) (below_put (by omega) lla)) hx2 hax) ?_
    have over : ∀ (jump : Option Code) (W3 : World), Upper D (W.putObj (D + 1) (rc .busy none)) W3 → ∃ W4, W4 = W3.putObj (D + 1) (rc (if jump.isNone then .ready else .done) jump) ∧ (Instr.endRound (D + 1) jump).run P W3 = .ok (.bool jump.isNone) W4 ∧
        W3.heap[D + 1]? = some (rc .busy none) ∧ W4.heap[D + 1]? = some (rc (if jump.isNone then .ready else .done) jump) ∧ W4.heap[D]? = some (.deferred (some [])) := fun jump W3 k3 => by
      have hl3 := (k3.at_ (D + 1) (by omega) (by simp; omega)).trans hl2
      have hk3 := (k3.at_ D (Nat.le_refl _) (by simp; omega)).trans hk2
      exact ⟨_, rfl, run_endRound (P := P) jump hl3, hl3, World.putObj_heap_same (Array.getElem?_eq_some_iff.1 hl3).1, (World.putObj_heap_other (by omega)).trans hk3⟩
    have left : ∀ (c : Code) (W3 : World), Upper D (W.putObj (D + 1) (rc .busy none)) W3 → Ix c W3 → ∃ v W4, (Instr.endRound (D + 1) (some c)).run P W3 = .ok v W4 ∧ ((Ending.returned v = .returned (.bool true) ∧ (I (pre ++ [x]) W4 ∧ W4.heap[D + 1]? = some (rc .ready none) ∧ W4.heap[D]? = some (.deferred (some []))) ∧ Upper W1.heap.size W W4) ∨
        (Ending.returned v = .returned (.bool false) ∧ ∃ c, Ix c W4 ∧ W4.heap[D + 1]? = some (rc .done (some c)) ∧ W4.heap[D]? = some (.deferred (some [])))) := fun c W3 k3 hx => by
      obtain ⟨W4, rfl, hr, hl3, hl4, hk4⟩ := over (some c) W3 k3
      exact ⟨_, _, hr, .inr ⟨rfl, c, own_put (hIx c) (s := ()) _ hx (by omega) hl3 (hrc _ _), hl4, hk4⟩⟩
    rintro e a3 W3 hp
    match e, hp with
    | .normal, hp =>
      obtain ⟨k3, i3⟩ := hp
      obtain ⟨W4, rfl, hr, hl3, hl4, hk4⟩ := over none W3 k3
      have l3 := (Array.getElem?_eq_some_iff.1 hl3).1
      refine ⟨_, _, hr, .inl ⟨rfl, ⟨hI _ _ _ i3 (by omega) (below_put (by omega) l3), hl4, hk4⟩, ⟨?_, fun k hk1 hk2 => ?_⟩⟩⟩
      · have := k3.size; simp at this ⊢; exact this
      · rw [World.putObj_heap_other (by omega), k3.at_ k (by omega) (by simpa using hk2), World.putObj_heap_other (by omega)]
    | .ret, hp => exact left _ W3 hp.1 hp.2
    | .exit id, hp => exact left _ W3 hp.1 hp.2
    | .goto t, hp => exact left _ W3 hp.1 hp.2
    | .panic _, hp => exact hp.elim
    | .outgrown, hp => exact hp.elim
  · -- behind the iterator
    rintro e W2 ⟨⟨v, rfl⟩, ⟨hi, hl, hk⟩ | ⟨c, hx, hl, hk⟩⟩
    · have l3 := (Array.getElem?_eq_some_iff.1 hl).1
      exact ⟨none, _, run_endLoop (P := P) hl (by simp), hdone D _ (Nat.le_refl _) (hI _ _ _ hi (by omega) (below_put (by omega) l3)) ((World.putObj_heap_other (by omega)).trans hk)⟩
    · exact ⟨some c, _, run_endLoop (P := P) hl (by simp), hstop D c _ (Nat.le_refl _) (own_put (hIx c) (s := ()) _ hx (by omega) hl (hrc _ _)) ((World.putObj_heap_other (by omega)).trans hk)⟩
end Go.Proofs.Ytmgoonoifgcmnaa
