/-
  A loop over an iterator that keeps cells of its own: the body turns no block that it has not laid itself, but for those that lay ahead of the loop.
-/
import Derived.Test.YtmgoonoifgcmnaaIt
namespace Go.Proofs.Ytmgoonoifgcmnaa
open Go.RowKit Go.Shelf

/-- The blocks from B on that are not of O lie as they lay. -/
def Rest (B : Nat) (O : Nat → Prop) (W W' : World) : Prop := ∀ k, B ≤ k → k < W.heap.size → ¬ O k → W'.heap[k]? = W.heap[k]?
namespace Rest
variable {B : Nat} {O O' : Nat → Prop} {A C D : World}
theorem refl (B : Nat) (O : Nat → Prop) (W : World) : Rest B O W W := fun _ _ _ _ => rfl
theorem trans (h : Rest B O A C) (hs : A.heap.size ≤ C.heap.size) (hO : ∀ k, O' k → O k ∨ A.heap.size ≤ k) (k : Rest B O' C D) : Rest B O A D := fun i hB hi hn =>
  (k i hB (Nat.lt_of_lt_of_le hi hs) (fun h' => (hO i h').elim hn (fun h1 => by omega))).trans (h i hB hi hn)
theorem same (h : Rest B O A C) (hs : A.heap.size ≤ C.heap.size) (k : Rest B O C D) : Rest B O A D := h.trans hs (fun _ h => .inl h) k
theorem below (hb : Below A.heap.size A C) : Rest B O A C := fun k _ hk _ => hb.block k hk
theorem up {B' : Nat} (h : Rest B O A C) (hB : B ≤ B') : Rest B' O A C := fun k hk => h k (Nat.le_trans hB hk)
theorem grown {row : Option Nat} (hg : A.grownBy C row) (hr : ∀ r, row = some r → O r ∨ r < B) : Rest B O A C := fun k hB hk hn => hg.block k hk (fun e => (hr k e.symm).elim hn (fun h1 => by omega))
end Rest

theorem _root_.Go.KeepsFrom.up {B B' : Nat} {W W' : World} (h : KeepsFrom B W W') (hB : B ≤ B') : KeepsFrom B' W W' := ⟨h.size, fun i o hi => h.same i o (Nat.le_trans hB hi)⟩

def SeqO {α : Type} (P : Program) (g : Nat) (lb : Array Value) (encs : α → Array Value) (xs : List α) (S : Nat → Prop) (w : World) : Prop :=
  ∀ (l : Nat) (J : (Nat → Prop) → List α → World → Prop) (Jx : World → Prop) (W : World), Below w.heap.size w W → (∀ O, OwnFrom W.heap.size (J O)) → OwnFrom W.heap.size (fun (_ : Unit) => Jx) →
    (∀ O pre x W1, pre ++ [x] <+: xs → (∀ k, O k → k < W1.heap.size) → W.heap.size ≤ W1.heap.size → J O pre W1 → YieldAt Fence.wide 0 P l (encs x) W1 fun e W' => KeepsFrom W.heap.size W1 W' ∧
      ((e = .returned (.bool true) ∧ ∃ O', (∀ k, O' k → O k ∨ W1.heap.size ≤ k) ∧ (∀ k, O' k → k < W'.heap.size) ∧ J O' (pre ++ [x]) W' ∧ Kept S W1 W' ∧ Rest W.heap.size O W1 W') ∨ (e = .returned (.bool false) ∧ Jx W'))) →
    J (fun _ => False) [] W →
    CallsIn Fence.wide 0 P g (#[.func (.yield l) #[] #[]] ++ lb) W fun e W' => (∃ v, e = .returned v) ∧ ((∃ O, J O xs W') ∨ Jx W')

theorem SeqO.later {α : Type} {P : Program} {g : Nat} {lb : Array Value} {encs : α → Array Value} {xs : List α} {S : Nat → Prop} {w w' : World}
    (h : SeqO P g lb encs xs S w) (hb : Below w.heap.size w w') : SeqO P g lb encs xs S w' :=
  fun l J Jx W hW hJ hJx hY h0 => h l J Jx W (hb.trans (hW.mono hb.size)) hJ hJx hY h0

/-- How the body of a round may be left. -/
def postO {α : Type} (B : Nat) (S : Nat → Prop) (O : Nat → Prop) (I : (Nat → Prop) → List α → World → Prop) (Ix : Code → World → Prop) (xs : List α) (W : World) : Exit → Act → World → Prop
  | .normal, _, W' => KeepsFrom B W W' ∧ Kept S W W' ∧ Rest B O W W' ∧ ∃ O', (∀ k, O' k → O k ∨ W.heap.size ≤ k) ∧ (∀ k, O' k → k < W'.heap.size) ∧ I O' xs W'
  | .ret, _, W' => KeepsFrom B W W' ∧ Ix .ret W'
  | .exit id, _, W' => KeepsFrom B W W' ∧ Ix (.exit id) W'
  | .goto t, _, W' => KeepsFrom B W W' ∧ Ix (.goto t) W'
  | .panic _, _, _ => False
  | .outgrown, _, _ => False

theorem wp_rangeO {α : Type} {P : Program} {g : Operand} {ps : Array Tmp} {assign body : Code} {Q : Exit → Act → World → Prop} {a : Act} {w : World} {gf : Nat} {lb : Array Value}
    {encs : α → Array Value} {xs : List α} {S : Nat → Prop} {w0 : World}
    (hg : a.eval g = .func (.func gf) #[] lb) (eg : ∀ args w, (callFunc gf args).run P w = .ok (.enter gf args) w)
    (hseq : SeqO P gf lb encs xs S w0) (hb0 : Below w0.heap.size w0 w) (hS : ∀ k, S k → k < w.heap.size) (hps : ∀ x, (encs x).size = ps.size)
    (I : (Nat → Prop) → List α → World → Prop) (Ix : Code → World → Prop) (hI : ∀ O, OwnFrom w.heap.size (I O)) (hIx : ∀ c, OwnFrom w.heap.size (fun (_ : Unit) => Ix c)) (h0 : I (fun _ => False) [] w)
    (Ax : α → Act → World → Prop) (hAx : ∀ x a', OwnFrom w.heap.size (fun (_ : Unit) => Ax x a'))
    (hassign : ∀ (l : Nat) (O : Nat → Prop) (pre : List α) (x : α) (W : World) (K : Act → World → Prop), pre ++ [x] <+: xs → w.heap.size ≤ W.heap.size → I O pre W → (∀ a' W', KeepsFrom w.heap.size W W' → Kept S W W' → Rest w.heap.size O W W' → I O pre W' → Ax x a' W' → K a' W') →
      assign.wpIn (Fence.wide.inRound l) 0 P (Exit.then K (fun _ _ _ => False)) { tmps := (ps.zip (encs x)).foldl (fun t (p, v) => t.setIfInBounds p v) a.tmps, defers := [] } W)
    (hbody : ∀ (l : Nat) (O : Nat → Prop) (pre : List α) (x : α) (a' : Act) (W : World), pre ++ [x] <+: xs → w.heap.size ≤ W.heap.size → (∀ k, O k → k < W.heap.size) → I O pre W → Ax x a' W →
      body.wpIn (Fence.wide.inRound l) 0 P (postO w.heap.size S O I Ix (pre ++ [x]) W) a' W)
    (hdone : ∀ (D : Nat) (W : World), w.heap.size ≤ D → (∃ O, I O xs W) → W.heap[D]? = some (.deferred (some [])) → Q .normal { a with defers := { target := .collected D, args := #[] } :: a.defers } W)
    (hstop : ∀ (D : Nat) (c : Code) (W : World), w.heap.size ≤ D → Ix c W → W.heap[D]? = some (.deferred (some [])) → c.wpIn Fence.wide 0 P Q { a with defers := { target := .collected D, args := #[] } :: a.defers } W) :
    (Code.rangeFunc g ps assign body).wpIn Fence.wide 0 P Q a w := by
  refine wpIn_rangeFunc fun fn hfn => ?_
  -- the record, by its state and the jump that is pending
  let rc : LoopState → Option Code → Obj := fun st pe => .loop { state := st, pending := pe, fn, tmps := a.tmps, params := ps, assign, body, defers := w.heap.size }
  have hrc : ∀ st pe, (rc st pe).isCells = false := fun _ _ => rfl
  obtain ⟨D, hD⟩ : ∃ D, D = w.heap.size := ⟨_, rfl⟩
  obtain ⟨W1, hW1⟩ : ∃ W1, W1 = (w.alloc (.deferred (some []))).alloc (rc .ready none) := ⟨_, rfl⟩
  have s1 : W1.heap.size = D + 1 + 1 := by rw [hW1, hD]; simp
  have hL : W1.heap[D + 1]? = some (rc .ready none) := by
    have := World.alloc_heap_new (w.alloc (.deferred (some []))) (rc .ready none)
    rw [World.size_alloc, ← hD, ← hW1] at this; exact this
  have hK : W1.heap[D]? = some (.deferred (some [])) := by
    rw [hW1, Below.heap_alloc _ _ _ (by simp; omega), hD]; exact World.alloc_heap_new w _
  have hB1 : Below w.heap.size w W1 := by rw [hW1]; exact ((Below.refl _ w).alloc (Nat.le_refl _) _).alloc (by simp) _
  refine ⟨D + 1, [{ target := .collected D, args := #[] }], W1, { target := .fn (.func gf) lb, args := #[.func (.yield (D + 1)) #[] #[]] }, W1, gf, #[.func (.yield (D + 1)) #[] #[]] ++ lb, W1, ?_, ?_, fun _ _ => trivial, ?_, (fun h => by cases h), ?_⟩
  · rw [hW1, hD]; exact run_enterLoop_outer _ _ _ _ _
  · simp only [resolve, hg]; simp [go_sem]
  · simp [invoke, go_sem, eg]
  rw [← hD] at hI hIx hAx hassign hbody hdone hstop
  have keep : ∀ (W W' : World) (row : Option Nat), W.grownBy W' row → (∀ r, row = some r → W1.heap.size ≤ r ∧ ∃ o : Obj, W.heap[r]? = some o ∧ o.isCells = false) → ∀ r, row = some r → D ≤ r ∧ ∃ o : Obj, W.heap[r]? = some o ∧ o.isCells = false :=
    fun W W' row _ hr r e => ⟨by have := (hr r e).1; omega, (hr r e).2⟩
  have turn : ∀ (W : World) (o o' : Obj), W.heap[D + 1]? = some o → Kept S W (W.putObj (D + 1) o') := fun W o o' h =>
    Kept.grown (grownBy_putObj' W (D + 1) o') (fun k hk => by have := hS k hk; have := (Array.getElem?_eq_some_iff.1 h).1; omega) (fun k e hk => by cases e; have := hS _ hk; omega)
  refine (hseq (D + 1) (fun O pre W => I O pre W ∧ W.heap[D + 1]? = some (rc .ready none) ∧ W.heap[D]? = some (.deferred (some [])))
    (fun W => ∃ c, Ix c W ∧ W.heap[D + 1]? = some (rc .done (some c)) ∧ W.heap[D]? = some (.deferred (some []))) W1 (hb0.trans (hB1.mono hb0.size))
    (fun O s A B row hs hgr hr => ⟨hI O s A B row hs.1 hgr (keep A B row hgr hr), block_stays hgr hr hs.2.1 (by omega), block_stays hgr hr hs.2.2 (by omega)⟩)
    (fun s A B row hs hgr hr => by
      obtain ⟨c, h1, h2, h3⟩ := hs
      exact ⟨c, hIx c () A B row h1 hgr (keep A B row hgr hr), block_stays hgr hr h2 (by omega), block_stays hgr hr h3 (by omega)⟩)
    ?_ ⟨own_below (hI _) h0 hB1, hL, hK⟩).mono ?_
  · -- a round
    rintro O pre x W hpre hOl hWs ⟨hi, hl, hk⟩
    refine ⟨fn, _, assign, body, run_yield (P := P) (args := encs x) hl (hps x), roundIn_of_wpIn hfn (hassign _ O pre x W _ hpre (by omega) hi ?_)⟩
    intro a' Wa kf kb hrs hia hax
    have hla := kf.same _ _ (by omega) hl (hrc _ _)
    have hka := kf.same _ _ (Nat.le_refl _) hk rfl
    have lla := (Array.getElem?_eq_some_iff.1 hla).1
    refine ⟨_, run_beginRound hla rfl, ?_⟩
    have hl2 : (Wa.putObj (D + 1) (rc .busy none)).heap[D + 1]? = some (rc .busy none) := World.putObj_heap_same lla
    have hk2 : (Wa.putObj (D + 1) (rc .busy none)).heap[D]? = some (.deferred (some [])) := (World.putObj_heap_other (by omega)).trans hka
    have kb2 := kb.trans (turn Wa _ (rc .busy none) hla)
    refine wpIn_mono (hbody _ O pre x a' (Wa.putObj (D + 1) (rc .busy none)) hpre (by have := kf.size; simp; omega) (fun k hk => by have := hOl k hk; have := kf.size; simp; omega) (own_put (hI O) _ hia (by omega) hla (hrc _ _)) (own_put (hAx x a') (s := ()) _ hax (by omega) hla (hrc _ _))) ?_
    have putk : ∀ (Wp : World) (o : Obj), D + 1 < W1.heap.size → KeepsFrom W1.heap.size Wp (Wp.putObj (D + 1) o) := fun Wp o h => KeepsFrom.of_grownBy (grownBy_putObj' Wp (D + 1) o) (fun j e => by cases e; exact h)
    have over : ∀ (jump : Option Code) (W3 : World), KeepsFrom D (Wa.putObj (D + 1) (rc .busy none)) W3 → ∃ W4, W4 = W3.putObj (D + 1) (rc (if jump.isNone then .ready else .done) jump) ∧ (Instr.endRound (D + 1) jump).run P W3 = .ok (.bool jump.isNone) W4 ∧
        W3.heap[D + 1]? = some (rc .busy none) ∧ W4.heap[D + 1]? = some (rc (if jump.isNone then .ready else .done) jump) ∧ W4.heap[D]? = some (.deferred (some [])) := fun jump W3 k3 => by
      have hl3 := k3.same _ _ (by omega) hl2 (hrc _ _)
      exact ⟨_, rfl, run_endRound (P := P) jump hl3, hl3, World.putObj_heap_same (Array.getElem?_eq_some_iff.1 hl3).1, (World.putObj_heap_other (by omega)).trans (k3.same _ _ (Nat.le_refl _) hk2 rfl)⟩
    have left : ∀ (c : Code) (W3 : World), KeepsFrom D (Wa.putObj (D + 1) (rc .busy none)) W3 → Ix c W3 → ∃ v W4, (Instr.endRound (D + 1) (some c)).run P W3 = .ok v W4 ∧ KeepsFrom W1.heap.size W W4 ∧ ((Ending.returned v = .returned (.bool true) ∧ ∃ O', (∀ k, O' k → O k ∨ W.heap.size ≤ k) ∧ (∀ k, O' k → k < W4.heap.size) ∧ (I O' (pre ++ [x]) W4 ∧ W4.heap[D + 1]? = some (rc .ready none) ∧ W4.heap[D]? = some (.deferred (some []))) ∧ Kept S W W4 ∧ Rest W1.heap.size O W W4) ∨
        (Ending.returned v = .returned (.bool false) ∧ ∃ c, Ix c W4 ∧ W4.heap[D + 1]? = some (rc .done (some c)) ∧ W4.heap[D]? = some (.deferred (some [])))) := fun c W3 k3 hx => by
      obtain ⟨W4, rfl, hr, hl3, hl4, hk4⟩ := over (some c) W3 k3
      exact ⟨_, _, hr, ((kf.up (by omega)).trans (putk Wa _ (by omega))).trans ((k3.up (by omega)).trans (putk W3 _ (by omega))), .inr ⟨rfl, c, own_put (hIx c) (s := ()) _ hx (by omega) hl3 (hrc _ _), hl4, hk4⟩⟩
    rintro e a3 W3 hp
    match e, hp with
    | .normal, hp =>
      obtain ⟨k3, b3, r3, O', hO1, hO2, i3⟩ := hp
      obtain ⟨W4, rfl, hr, hl3, hl4, hk4⟩ := over none W3 k3
      have hsz := kf.size
      have hsz3 := k3.size
      simp only [World.putObj_size] at hO1 hsz3
      refine ⟨_, _, hr, ((kf.up (by omega)).trans (putk Wa _ (by omega))).trans ((k3.up (by omega)).trans (putk W3 _ (by omega))), .inl ⟨rfl, O', fun k hk => (hO1 k hk).imp id (fun h => Nat.le_trans hsz h), fun k hk => by simpa using hO2 k hk, ⟨own_put (hI O') _ i3 (by omega) hl3 (hrc _ _), hl4, hk4⟩, (kb2.trans b3).trans (turn W3 _ _ hl3), ?_⟩⟩
      intro k hkB hkl hn
      have e1 := hrs k (by omega) hkl hn
      have e2 := r3 k (by omega) (by simp; omega) hn
      rw [World.putObj_heap_other (by omega)] at e2
      rw [World.putObj_heap_other (by omega), e2, e1]
    | .ret, hp => exact left _ W3 hp.1 hp.2
    | .exit id, hp => exact left _ W3 hp.1 hp.2
    | .goto t, hp => exact left _ W3 hp.1 hp.2
    | .panic _, hp => exact hp.elim
    | .outgrown, hp => exact hp.elim
  · -- behind the iterator
    rintro e W2 ⟨⟨v, rfl⟩, ⟨O, hi, hl, hk⟩ | ⟨c, hx, hl, hk⟩⟩
    · exact ⟨none, _, run_endLoop (P := P) hl (by simp), hdone D _ (Nat.le_refl _) ⟨O, own_put (hI O) _ hi (by omega) hl (hrc _ _)⟩ ((World.putObj_heap_other (by omega)).trans hk)⟩
    · exact ⟨some c, _, run_endLoop (P := P) hl (by simp), hstop D c _ (Nat.le_refl _) (own_put (hIx c) (s := ()) _ hx (by omega) hl (hrc _ _)) ((World.putObj_heap_other (by omega)).trans hk)⟩
end Go.Proofs.Ytmgoonoifgcmnaa
