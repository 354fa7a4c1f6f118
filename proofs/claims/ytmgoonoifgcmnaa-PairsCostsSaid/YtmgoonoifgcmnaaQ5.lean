/-
  A region that draws its order, whose first n operations only read and call, but for one of them that lays a block whenever it comes up; the last ones wait for all of them: one walk in the text's order, with another operation in that one's place.
-/
import Derived.Test.YtmgoonoifgcmnaaQ4
namespace Go.Proofs.Ytmgoonoifgcmnaa
open Go.RowKit

/-- What stands in the place of the operation that lays the block. -/
def fakeOf (o : Oper) : Oper := { o with op := .move (.const undef) }

theorem put_get {a : Act} {dst : Option Tmp} {v : Value} {x : Tmp} (h : dst ≠ some x) : (a.put dst v).tmps[x]? = a.tmps[x]? := by
  cases dst with
  | none => rfl
  | some y =>
    have : y ≠ x := fun e => h (by rw [e])
    simp [Act.put, Array.getElem?_setIfInBounds, this]
theorem put_same {a : Act} {v : Value} {x : Tmp} (h : x < a.tmps.size) : (a.put (some x) v).tmps[x]? = some v := by
  simp [Act.put, h]
theorem put_off {a : Act} {v : Value} {x : Tmp} (h : a.tmps.size ≤ x) : a.put (some x) v = a := by
  cases a
  simp only [Act.put, Act.mk.injEq, and_true]
  exact Array.setIfInBounds_eq_of_size_le h
theorem put_put (a : Act) (d : Tmp) (u v : Value) : (a.put (some d) u).put (some d) v = a.put (some d) v := by
  cases a
  simp [Act.put, Array.setIfInBounds_setIfInBounds]

section
variable {P : Program} {md : Region.Mode} {ops hops : Array Oper} {n m : Nat} {d : Tmp} {om : Oper}

structure AllocAt (md : Region.Mode) (ops hops : Array Oper) (n m : Nat) (d : Tmp) (om : Oper) : Prop where
  mn : m < n
  at_ : ops[m]? = some om
  dst : om.dst = some d
  guard : om.guard = none
  sub : ∀ i, i < n → i ≠ m → hops[i]? = ops[i]?
  fake : hops[m]? = some (fakeOf om)
  size : hops.size = n
  up : upB md ops = true
  sink : Region.sinkB md ops n = true
  chain : Region.chainB md ops n = true
  sel : ∀ (i : Nat) (o : Oper) cs b, ops[i]? = some o → o.op ≠ .select cs b
  free : ∀ (i : Nat) (o : Oper), i < n → i ≠ m → ops[i]? = some o → o.guard = none ∧ d ∉ o.looksAt ops ∧ o.dst ≠ some d
  own : ∀ (i j : Nat) (oi oj : Oper) (x : Tmp), i < n → j < n → i ≠ j → hops[i]? = some oi → hops[j]? = some oj → oi.dst = some x → oj.dst ≠ some x

theorem AllocAt.hop (A : AllocAt md ops hops n m d om) {i : Nat} (hi : i < n) {o : Oper} (ho : hops[i]? = some o) : ∃ o', ops[i]? = some o' ∧ o'.after = o.after ∧ o'.guard = o.guard := by
  by_cases h : i = m
  · subst h
    rw [A.fake] at ho
    obtain rfl := Option.some.inj ho
    exact ⟨om, A.at_, rfl, rfl⟩
  · exact ⟨o, (A.sub i hi h).symm.trans ho, rfl, rfl⟩
theorem AllocAt.hop' (A : AllocAt md ops hops n m d om) {i : Nat} (hi : i < n) {o : Oper} (ho : ops[i]? = some o) : ∃ o', hops[i]? = some o' ∧ o'.after = o.after ∧ o'.guard = o.guard := by
  by_cases h : i = m
  · subst h
    rw [A.at_] at ho
    obtain rfl := Option.some.inj ho
    exact ⟨_, A.fake, rfl, rfl⟩
  · exact ⟨o, (A.sub i hi h).trans ho, rfl, rfl⟩

theorem AllocAt.ready (A : AllocAt md ops hops n m d om) {L L' : Array Bool} (hag : ∀ j, j < n → L[j]? = L'[j]?) {i : Nat} (hi : i < n) :
    i ∈ Region.ready md ops L ↔ i ∈ Region.ready md hops L' := by
  rw [mem_ready, mem_ready]
  have hg : ∀ (b : Bool) j, j < n → L.getD j b = L'.getD j b := fun b j hj => by
    rw [Array.getD_eq_getD_getElem?, Array.getD_eq_getD_getElem?, hag j hj]
  rw [hg _ i hi]
  constructor
  · rintro ⟨h0, o, ho, h⟩
    obtain ⟨o', ho', ha, _⟩ := A.hop' hi ho
    exact ⟨h0, o', ho', fun e he hb => by rw [ha] at he; rw [← hg _ _ (by have := upB_spec A.up ho e he hb; omega)]; exact h e he hb⟩
  · rintro ⟨h0, o, ho, h⟩
    obtain ⟨o', ho', ha, _⟩ := A.hop hi ho
    exact ⟨h0, o', ho', fun e he hb => by have hu := upB_spec A.up ho' e he hb; rw [ha] at he; rw [hg _ _ (by omega)]; exact h e he hb⟩

theorem AllocAt.all_listed (A : AllocAt md ops hops n m d om) {L' : Array Bool} (hL : L'.size = n) (h0 : Region.ready md hops L' = []) : ∀ i, i < n → L'[i]? = some true := by
  intro i
  induction i using Nat.strongRecOn with
  | _ i ih =>
    intro hi
    cases hv : L'[i]? with
    | none => rw [Array.getElem?_eq_none_iff] at hv; omega
    | some b =>
      cases b with
      | true => rfl
      | false =>
        have hio : i < hops.size := by rw [A.size]; exact hi
        have ho : hops[i]? = some hops[i] := Array.getElem?_eq_getElem hio
        obtain ⟨o', ho', ha, _⟩ := A.hop hi ho
        have : i ∈ Region.ready md hops L' := mem_ready.2 ⟨by rw [Array.getD_eq_getD_getElem?, hv]; rfl, _, ho, fun e he hb => by
          have h1 := upB_spec A.up ho' e (by rw [ha]; exact he) hb
          rw [Array.getD_eq_getD_getElem?, ih e.on h1 (by omega)]; rfl⟩
        rw [h0] at this
        cases this

theorem wanted_free {o : Oper} (h : o.guard = none) (y : Nat → Option Bool) : Region.wanted o y = true := by unfold Region.wanted; rw [h]

/-- What an operation has left in its slot stays there. -/
theorem AllocAt.pin (A : AllocAt md ops hops n m d om) {C : World → Prop} {F : Act} {i : Nat} {oi : Oper} {x : Tmp} (hi : i < n) (hoi : hops[i]? = some oi) (hx : oi.dst = some x) :
    ∀ (f : Nat) (L : Array Bool) (a : Act), L[i]? = some true → wpAnyQ P md hops C (fun a' => a' = F) f L a → a.tmps[x]? = F.tmps[x]?
  | 0, L, a, _, h => by rw [h.2]
  | f + 1, L, a, hl, h => by
    by_cases h0 : Region.ready md hops L = []
    · rw [h.1 h0]
    · obtain ⟨j, hj⟩ := List.exists_mem_of_ne_nil _ h0
      obtain ⟨hun, oj, hoj, _⟩ := mem_ready.1 hj
      have hji : j ≠ i := by
        rintro rfl
        rw [Array.getD_eq_getD_getElem?, hl] at hun; cases hun
      have hjn : j < n := by have := (Array.getElem?_eq_some_iff.1 hoj).1; rw [A.size] at this; exact this
      have hne := A.own i j oi oj x hi hjn (Ne.symm hji) hoi hoj hx
      have hset : (L.setIfInBounds j true)[i]? = some true := by rw [Array.getElem?_setIfInBounds, if_neg hji]; exact hl
      have hq := h.2 j hj
      unfold qOp at hq
      simp only [hoj] at hq
      split at hq
      · obtain ⟨v, _, hn⟩ := hq
        have := AllocAt.pin A hi hoi hx f _ _ hset hn
        rwa [put_get hne] at this
      · have := AllocAt.pin A hi hoi hx f _ _ hset hq
        rwa [put_get hne] at this

theorem wpAny_alloc (A : AllocAt md ops hops n m d om) {W0 : World} {F : Act} {Q : Exit → Act → World → Prop} {g : Nat} {T : TypeId} {Z : Array Value} (hN : ops.size = n + g) (hgp : 0 < g)
    (hal : ∀ (a : Act) (w : World), (execOp a.eval om).run P w = .ok (.value (.pointer (some ⟨w.heap.size, 0, none⟩))) (w.alloc (.cells Z T)))
    (hQ : ∀ (w : World) (c : Nat), Below W0.heap.size W0 w → W0.heap.size ≤ c → w.heap[c]? = some (.cells Z T (0, 0)) → wpAny P md ops Q g (Array.replicate n true ++ Array.replicate g false) (F.put (some d) (.pointer (some ⟨c, 0, none⟩))) w) :
    ∀ (f : Nat) (L L' : Array Bool) (a b : Act) (w : World), (∀ j, j < n → L[j]? = L'[j]?) → L'.size = n → HeadInv md ops n L → Below W0.heap.size W0 w →
      (∀ X, Below W0.heap.size W0 X → wpAnyQ P md hops (fun W => Below X.heap.size X W) (fun a' => a' = F) f L' a) →
      ((L'[m]? = some false ∧ b = a) ∨ (L'[m]? = some true ∧ ∃ c, W0.heap.size ≤ c ∧ w.heap[c]? = some (.cells Z T (0, 0)) ∧ b = a.put (some d) (.pointer (some ⟨c, 0, none⟩)))) →
      wpAny P md ops Q (f + g) L b w := by
  have fin : ∀ (L L' : Array Bool) (a b : Act) (w : World), (∀ j, j < n → L[j]? = L'[j]?) → L'.size = n → HeadInv md ops n L → Below W0.heap.size W0 w → Region.ready md hops L' = [] → a = F →
      ((L'[m]? = some false ∧ b = a) ∨ (L'[m]? = some true ∧ ∃ c, W0.heap.size ≤ c ∧ w.heap[c]? = some (.cells Z T (0, 0)) ∧ b = a.put (some d) (.pointer (some ⟨c, 0, none⟩)))) → wpAny P md ops Q g L b w := by
    intro L L' a b w hag hL inv hw h0 hq hb
    have hall := A.all_listed hL h0
    have hL1 : L = Array.replicate n true ++ Array.replicate g false := by
      apply Array.ext_getElem?
      intro j
      rcases Nat.lt_or_ge j n with hj | hj
      · rw [hag j hj, hall j hj, Array.getElem?_append_left (by simpa using hj)]
        simp [hj]
      · rw [Array.getElem?_append_right (by simpa using hj)]
        rcases Nat.lt_or_ge j (n + g) with hj2 | hj2
        · have h1 := inv.tail j hj (by omega)
          have h2 : j < L.size := by rw [inv.size]; omega
          rw [Array.getD_eq_getD_getElem?, Array.getElem?_eq_getElem h2] at h1
          rw [Array.getElem?_eq_getElem h2]
          have h3 : j - n < g := by omega
          simp at h1
          simp [h1, h3]
        · rw [Array.getElem?_eq_none (by rw [inv.size]; omega), Array.getElem?_eq_none (by simp; omega)]
    rcases hb with ⟨hb, _⟩ | ⟨_, c, hc, hz, rfl⟩
    · rw [hall m A.mn] at hb; cases hb
    · rw [hL1, hq]
      exact hQ w c hw hc hz
  intro f
  induction f with
  | zero =>
    intro L L' a b w hag hL inv hw h hb
    rw [Nat.zero_add]
    have h1 := h W0 (Below.refl _ _)
    exact fin L L' a b w hag hL inv hw h1.1 h1.2 hb
  | succ f ih =>
    intro L L' a b w hag hL inv hw h hb
    by_cases h0 : Region.ready md hops L' = []
    · exact wpAny_plus (fin L L' a b w hag hL inv hw h0 ((h W0 (Below.refl _ _)).1 h0) hb) (f + 1)
    · obtain ⟨i0, hi0⟩ := List.exists_mem_of_ne_nil _ h0
      have hi0n : i0 < n := by obtain ⟨_, o, ho, _⟩ := mem_ready.1 hi0; have := (Array.getElem?_eq_some_iff.1 ho).1; rw [A.size] at this; exact this
      have hi0' := (A.ready hag hi0n).2 hi0
      rw [show f + 1 + g = (f + g) + 1 by omega]
      refine ⟨fun h1 => (by rw [h1] at hi0'; cases hi0'), fun i hi => ?_⟩
      have hin : i < n := by
        rcases Nat.lt_or_ge i n with h1 | h1
        · exact h1
        · exact absurd hi (tail_waits A.sink A.chain (by omega) inv _ i0 rfl hi0n (mem_ready.1 hi0').1 i h1)
      have hi' := (A.ready hag hin).1 hi
      have hset : ∀ j, j < n → (L.setIfInBounds i true)[j]? = (L'.setIfInBounds i true)[j]? := by
        intro j hj
        have e1 : i < L.size := by rw [inv.size]; omega
        have e2 : i < L'.size := by omega
        rw [Array.getElem?_setIfInBounds, Array.getElem?_setIfInBounds, if_pos e1, if_pos e2, hag j hj]
      have hun := (mem_ready.1 hi').1
      by_cases him : i = m
      · subst him
        have hb0 : b = a := by
          rcases hb with ⟨_, hb⟩ | ⟨hb, _⟩
          · exact hb
          · rw [Array.getD_eq_getD_getElem?, hb] at hun; cases hun
        subst hb0
        unfold wpOp
        simp only [A.at_]
        rw [if_pos (wanted_free A.guard _)]
        left
        unfold Oper.wp
        rw [hal, Oper.upon_value, A.dst]
        refine ih _ _ (b.put (some d) undef) _ _ hset (by simp [hL]) (inv.set hi hin) (hw.alloc hw.size _) (fun X hX => ?_) (.inr ⟨?_, w.heap.size, hw.size, heap_new_ _ _, (put_put _ _ _ _).symm⟩)
        · have hq := (h X hX).2 i hi'
          unfold qOp at hq
          simp only [A.fake] at hq
          rw [if_pos (wanted_free (o := fakeOf om) A.guard _)] at hq
          obtain ⟨v, hv, hn⟩ := hq
          have h3 := hv X (Below.refl _ _)
          unfold Oper.quietAt at h3
          have he : (execOp b.eval (fakeOf om)).run P X = .ok (.value undef) X := rfl
          rw [he] at h3
          simp only [Oper.quietUpon] at h3
          rw [← h3.2] at hn
          have hd : (fakeOf om).dst = some d := A.dst
          rw [hd] at hn
          exact hn
        · rw [Array.getElem?_setIfInBounds, if_pos rfl, if_pos (by omega)]
      · obtain ⟨oi, hoi⟩ : ∃ o, hops[i]? = some o := by obtain ⟨_, o, ho, _⟩ := mem_ready.1 hi'; exact ⟨o, ho⟩
        have hoi' := (A.sub i hin him).symm.trans hoi
        obtain ⟨hgd, hlk, hdd⟩ := A.free i oi hin him hoi'
        have hstep : ∀ X, Below W0.heap.size W0 X → ∃ v, (∀ W, Below X.heap.size X W → oi.quietAt P a (fun W => Below X.heap.size X W) W v) ∧ wpAnyQ P md hops (fun W => Below X.heap.size X W) (fun a' => a' = F) f (L'.setIfInBounds i true) (a.put oi.dst v) := by
          intro X hX
          have hq := (h X hX).2 i hi'
          unfold qOp at hq
          simp only [hoi] at hq
          rw [if_pos (wanted_free hgd _)] at hq
          exact hq
        obtain ⟨v, hv, hn⟩ := hstep w hw
        have hsetT : (L'.setIfInBounds i true)[i]? = some true := by rw [Array.getElem?_setIfInBounds, if_pos rfl, if_pos (by omega)]
        have hsame : ∀ X, Below W0.heap.size W0 X → wpAnyQ P md hops (fun W => Below X.heap.size X W) (fun a' => a' = F) f (L'.setIfInBounds i true) (a.put oi.dst v) := by
          intro X hX
          obtain ⟨vX, _, hnX⟩ := hstep X hX
          have : a.put oi.dst vX = a.put oi.dst v := by
            cases hdst : oi.dst with
            | none => rfl
            | some x =>
              rw [hdst] at hnX hn
              have p1 := A.pin hin hoi hdst f _ _ hsetT hnX
              have p2 := A.pin hin hoi hdst f _ _ hsetT hn
              rcases Nat.lt_or_ge x a.tmps.size with hx | hx
              · rw [put_same hx] at p1 p2
                rw [← p2] at p1
                rw [Option.some.inj p1]
              · rw [put_off hx, put_off hx]
          rw [← this]
          exact hnX
        have hmset : (L'.setIfInBounds i true)[m]? = L'[m]? := by rw [Array.getElem?_setIfInBounds, if_neg him]
        have key : ∀ w'', Below w.heap.size w w'' → wpAny P md ops Q (f + g) (L.setIfInBounds i true) (b.put oi.dst v) w'' := by
          intro w'' hw''
          refine ih _ _ (a.put oi.dst v) _ _ hset (by simp [hL]) (inv.set hi hin) (hw.trans (hw''.mono hw.size)) hsame ?_
          rw [hmset]
          rcases hb with ⟨h1, rfl⟩ | ⟨h1, c, hc, hz, rfl⟩
          · exact .inl ⟨h1, rfl⟩
          · refine .inr ⟨h1, c, hc, (hw''.block c (Array.getElem?_eq_some_iff.1 hz).1).trans hz, ?_⟩
            exact Act.put_comm a _ v (fun d' hd' => by cases hd'; exact hdd)
        have hev : execOp b.eval oi = execOp a.eval oi := by
          rcases hb with ⟨_, rfl⟩ | ⟨_, c, _, _, rfl⟩
          · rfl
          · exact execOp_put (ops := ops) oi (fun cs bb => A.sel i oi cs bb hoi') a (some d) _ (fun d' hd' => by cases hd'; exact hlk)
        unfold wpOp
        simp only [hoi']
        rw [if_pos (wanted_free hgd _)]
        left
        unfold Oper.wp
        rw [hev]
        have h3 := hv w (Below.refl _ _)
        unfold Oper.quietAt at h3
        generalize (execOp a.eval oi).run P w = r at h3 ⊢
        cases r with
        | ok nx w' =>
          cases nx <;> simp only [Oper.quietUpon] at h3 <;> simp only [Oper.upon]
          case value u =>
            obtain ⟨e1, e2⟩ := h3
            rw [e1, e2]
            exact key w (Below.refl _ _)
          case skip =>
            obtain ⟨e1, e2⟩ := h3
            rw [e1, ← e2]
            exact key w (Below.refl _ _)
          case enter fn args =>
            obtain ⟨e1, hc⟩ := h3
            rw [e1]
            exact hc.mono fun e w'' ⟨he, hw''⟩ => by subst he; exact key w'' hw''
        | halt x w' => simp only [Oper.quietUpon] at h3
end

/-- Each of the first n operations but number m is without a guard, looks not at slot d and writes not into it; no two of them write into one slot. -/
def freeA (l : List Oper) (n m : Nat) (d : Tmp) : Bool :=
  (List.range n).all fun i => match l.toArray[i]? with
    | none => true
    | some o => decide (i = m) || (decide (o.guard.isNone = true) && !((o.looksAt l.toArray).contains d) && decide (o.dst ≠ some d))
def ownA (l : List Oper) (n : Nat) : Bool :=
  (List.range n).all fun i => (List.range n).all fun j => decide (i = j) || match l.toArray[i]?, l.toArray[j]? with
    | some oi, some oj => (match oi.dst with | some x => decide (oj.dst ≠ some x) | none => true)
    | _, _ => true
def allocB (l : List Oper) (n m : Nat) (d : Tmp) : Bool :=
  Region.lexB .any (((l.take n).set m (match l[m]? with | some o => fakeOf o | none => default)).toArray) && decide (m < n) && decide (n < l.length) && upB .any l.toArray && Region.sinkB .any l.toArray n && Region.chainB .any l.toArray n &&
    Region.noSelect l.toArray && freeA l n m d && ownA l n &&
    Region.seqB .any l.toArray (l.length - n) n (Array.replicate n true ++ Array.replicate (l.length - n) false)

theorem allocAt_of {l : List Oper} {n m : Nat} {d : Tmp} {om : Oper} (hmn : m < n) (hn : n < l.length) (hom : l[m]? = some om) (hd : om.dst = some d) (hg : om.guard = none) (hup : upB .any l.toArray = true) (hs : Region.sinkB .any l.toArray n = true)
    (hc : Region.chainB .any l.toArray n = true) (hsel : Region.noSelect l.toArray = true) (hf : freeA l n m d = true) (ho : ownA l n = true) : AllocAt .any l.toArray ((l.take n).set m (fakeOf om)).toArray n m d om := by
  have hsub : ∀ i, i < n → i ≠ m → ((l.take n).set m (fakeOf om)).toArray[i]? = l.toArray[i]? := by
    intro i hi him
    simp only [List.getElem?_toArray]
    rw [List.getElem?_set_ne (Ne.symm him), List.getElem?_take, if_pos hi]
  have hfk : ((l.take n).set m (fakeOf om)).toArray[m]? = some (fakeOf om) := by
    simp only [List.getElem?_toArray]
    rw [List.getElem?_set_self (by simp; omega)]
  have hfree : ∀ (i : Nat) (o : Oper), i < n → i ≠ m → l.toArray[i]? = some o → o.guard = none ∧ d ∉ o.looksAt l.toArray ∧ o.dst ≠ some d := by
    intro i o hi him hio
    have h1 := List.all_eq_true.1 hf i (List.mem_range.2 hi)
    rw [hio] at h1
    simp only [Bool.or_eq_true, Bool.and_eq_true, decide_eq_true_eq, Bool.not_eq_true', him, false_or] at h1
    obtain ⟨⟨g1, g2⟩, g3⟩ := h1
    refine ⟨by simpa using g1, fun hmem => ?_, g3⟩
    have : (o.looksAt l.toArray).contains d = true := by simpa using hmem
    rw [this] at g2; cases g2
  have hat : l.toArray[m]? = some om := by simpa using hom
  have hdst : ∀ (i : Nat) (o : Oper), i < n → ((l.take n).set m (fakeOf om)).toArray[i]? = some o → ∃ o', l.toArray[i]? = some o' ∧ o'.dst = o.dst := by
    intro i o hi hio
    by_cases him : i = m
    · subst him
      rw [hfk] at hio
      obtain rfl := Option.some.inj hio
      exact ⟨om, hat, rfl⟩
    · exact ⟨o, (hsub i hi him).symm.trans hio, rfl⟩
  refine ⟨hmn, hat, hd, hg, hsub, hfk, by simp; omega, hup, hs, hc, fun i o cs b hio => Region.noSelect_spec hsel i o cs b hio, hfree, ?_⟩
  intro i j oi oj x hi hj hij hio hjo hx
  obtain ⟨oi', h1, e1⟩ := hdst i oi hi hio
  obtain ⟨oj', h2, e2⟩ := hdst j oj hj hjo
  have h3 := List.all_eq_true.1 (List.all_eq_true.1 ho i (List.mem_range.2 hi)) j (List.mem_range.2 hj)
  rw [h1, h2] at h3
  simp only [Bool.or_eq_true, decide_eq_true_eq, hij, false_or] at h3
  rw [e1, hx] at h3
  simp only [decide_eq_true_eq] at h3
  rw [← e2]; exact h3

theorem wp_region_alloc {P : Program} {id : Nat} {Q : Exit → Act → World → Prop} {a : Act} {w : World} {l : List Oper} (n m : Nat) (d : Tmp) (om : Oper) (T : TypeId) (Z : Array Value) (W0 : World) (hm : P.follows .mixedOrders = true) (hB : allocB l n m d = true)
    (hom : l[m]? = some om) (hd : om.dst = some d) (hg : om.guard = none)
    (hal : ∀ (a : Act) (w : World), (execOp a.eval om).run P w = .ok (.value (.pointer (some ⟨w.heap.size, 0, none⟩))) (w.alloc (.cells Z T)))
    (hC : Below W0.heap.size W0 w.drew)
    (h : ∃ F : Act, (∀ X, Below W0.heap.size W0 X → wpQuiet P ((l.take n).set m (fakeOf om)).toArray (fun W => Below X.heap.size X W) (fun a' => a' = F) ((l.take n).set m (fakeOf om)) a) ∧
      ∀ (w' : World) (c : Nat), Below W0.heap.size W0 w' → W0.heap.size ≤ c → w'.heap[c]? = some (.cells Z T (0, 0)) → wpList P l.toArray Q (l.drop n) (F.put (some d) (.pointer (some ⟨c, 0, none⟩))) w') : (Code.region id l.toArray true).wp P Q a w := by
  obtain ⟨F, h, ht⟩ := h
  simp only [allocB, hom, Bool.and_eq_true, decide_eq_true_eq] at hB
  obtain ⟨⟨⟨⟨⟨⟨⟨⟨⟨hlex, hmn⟩, hn⟩, hup⟩, hs⟩, hc⟩, hsel⟩, hf⟩, ho⟩, hseq⟩ := hB
  have A := allocAt_of hmn hn hom hd hg hup hs hc hsel hf ho
  simp only [Region.lexB, Bool.and_eq_true] at hlex
  have hlen : ((l.take n).set m (fakeOf om)).length = n := by simp; omega
  have inv0 : HeadInv .any l.toArray n (Array.replicate l.toArray.size false) :=
    ⟨by simp, fun j oj _ hl => (by rw [getD_replicate_false] at hl; cases hl), fun t _ ht => getD_in (by simpa using ht) (getD_replicate_false _ _)⟩
  have hq := fun X hX => wpAnyQ_lex (C := fun W => Below X.heap.size X W) (md := .any) hlex.1 ((l.take n).set m (fakeOf om)) 0 (Array.replicate ((l.take n).set m (fakeOf om)).toArray.size false) a (by simp) (by simpa using hlex.2) (h X hX)
  refine wp_region_any hm ?_
  have H := wpAny_alloc (P := P) A (W0 := W0) (F := F) (Q := Q) (g := l.length - n) (T := T) (Z := Z) (by simp; omega) (by omega) hal
    (fun w' c hw' hc' hz' => by
      have := wpAny_of_seq (md := .any) (Q' := Q) (l.drop n) n (Array.replicate n true ++ Array.replicate (l.length - n) false) _ w' (fun j => by simp [List.getElem?_drop]) (by rw [List.length_drop]; exact hseq) (ht w' c hw' hc' hz')
      rwa [List.length_drop] at this)
    _ (Array.replicate l.toArray.size false) _ a a w.drew (fun j hj => by
      have h1 : j < l.length := by omega
      simp [h1, show min n l.length = n by omega, hj]) (by simp; omega) inv0 hC hq (.inl ⟨by rw [List.size_toArray, hlen]; simp [hmn], rfl⟩)
  rw [hlen, show n + (l.length - n) = l.toArray.size from by rw [List.size_toArray]; omega] at H
  exact H
end Go.Proofs.Ytmgoonoifgcmnaa
