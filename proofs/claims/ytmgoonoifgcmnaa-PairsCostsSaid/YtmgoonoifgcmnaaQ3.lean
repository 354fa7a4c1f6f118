/-
  A region that draws its order, whose first n operations only read (its callees keep a condition on the world), and whose last ones wait for all of them and come in their order: one walk in the text's order.
-/
import Derived.Test.YtmgoonoifgcmnaaQ2
import Derived.StillTail
namespace Go.Proofs.Ytmgoonoifgcmnaa
open Go.RowKit

/-- Each operation waits for earlier ones alone. -/
def upB (md : Region.Mode) (ops : Array Oper) : Bool :=
  (List.range ops.size).all fun i => match ops[i]? with
    | some o => o.after.all fun e => !Region.binds md e || decide (e.on < i)
    | none => true
/-- The guards of the first n operations speak of those. -/
def guardB (ops : Array Oper) (n : Nat) : Bool :=
  (List.range n).all fun i => match ops[i]? with
    | some o => match o.guard with
      | some (j, _) => decide (j < n)
      | none => true
    | none => true

theorem upB_spec {md : Region.Mode} {ops : Array Oper} (h : upB md ops = true) {i : Nat} {o : Oper} (ho : ops[i]? = some o) : ∀ e ∈ o.after, Region.binds md e = true → e.on < i := by
  intro e he hb
  have hi : i < ops.size := (Array.getElem?_eq_some_iff.1 ho).1
  have h1 := List.all_eq_true.1 h i (List.mem_range.2 hi)
  rw [ho] at h1
  have h2 := Array.all_eq_true_iff_forall_mem.1 h1 e he
  simp only [Bool.or_eq_true, decide_eq_true_eq] at h2
  rcases h2 with h2 | h2
  · rw [hb] at h2; cases h2
  · exact h2

theorem wpAny_more {P : Program} {md : Region.Mode} {ops : Array Oper} {Q : Exit → Act → World → Prop} : ∀ (f : Nat) (L : Array Bool) (a : Act) (w : World), wpAny P md ops Q f L a w → wpAny P md ops Q (f + 1) L a w
  | 0, _, _, _, h => ⟨fun _ => h.2, fun i hi => by rw [h.1] at hi; cases hi⟩
  | f + 1, _, _, _, h => ⟨h.1, fun i hi => wpOp_mono (fun a' w' h' => wpAny_more f _ a' w' h') (h.2 i hi)⟩
theorem wpAny_plus {P : Program} {md : Region.Mode} {ops : Array Oper} {Q : Exit → Act → World → Prop} {g : Nat} {L : Array Bool} {a : Act} {w : World} (h : wpAny P md ops Q g L a w) : ∀ f, wpAny P md ops Q (f + g) L a w
  | 0 => by rw [Nat.zero_add]; exact h
  | f + 1 => by rw [show f + 1 + g = (f + g) + 1 by omega]; exact wpAny_more _ _ _ _ (wpAny_plus h f)

section
variable {P : Program} {md : Region.Mode} {ops hops : Array Oper} {n : Nat}

theorem ready_head (hsub : ∀ i, i < n → hops[i]? = ops[i]?) (hup : upB md ops = true) {L L' : Array Bool} (hag : ∀ j, j < n → L[j]? = L'[j]?) {i : Nat} (hi : i < n) :
    i ∈ Region.ready md ops L ↔ i ∈ Region.ready md hops L' := by
  rw [mem_ready, mem_ready, hsub i hi]
  have hg : ∀ (d : Bool) j, j < n → L.getD j d = L'.getD j d := fun d j hj => by
    rw [Array.getD_eq_getD_getElem?, Array.getD_eq_getD_getElem?, hag j hj]
  rw [hg _ i hi]
  constructor
  · rintro ⟨h0, o, ho, h⟩
    exact ⟨h0, o, ho, fun e he hb => by rw [← hg _ _ (by have := upB_spec hup ho e he hb; omega)]; exact h e he hb⟩
  · rintro ⟨h0, o, ho, h⟩
    exact ⟨h0, o, ho, fun e he hb => by rw [hg _ _ (by have := upB_spec hup ho e he hb; omega)]; exact h e he hb⟩

theorem all_listed (hsub : ∀ i, i < n → hops[i]? = ops[i]?) (hsz : hops.size = n) (hup : upB md ops = true) {L' : Array Bool} (hL : L'.size = n) (h0 : Region.ready md hops L' = []) : ∀ i, i < n → L'[i]? = some true := by
  intro i
  induction i using Nat.strongRecOn with
  | _ i ih =>
    intro hi
    cases hv : L'[i]? with
    | none => rw [Array.getElem?_eq_none_iff] at hv; omega
    | some b =>
      cases b with
      | true => rfl
      | false =>
        have hio : i < hops.size := by omega
        have ho : hops[i]? = some hops[i] := Array.getElem?_eq_getElem hio
        have : i ∈ Region.ready md hops L' := mem_ready.2 ⟨by rw [Array.getD_eq_getD_getElem?, hv]; rfl, _, ho, fun e he hb => by
          have h1 := upB_spec hup ((hsub i hi).symm.trans ho) e he hb
          rw [Array.getD_eq_getD_getElem?, ih e.on h1 (by omega)]; rfl⟩
        rw [h0] at this
        cases this

theorem wpOp_head {Q : Exit → Act → World → Prop} (hsub : ∀ i, i < n → hops[i]? = ops[i]?) (hg : guardB ops n = true) {i : Nat} (hi : i < n) {K : Act → World → Prop} {a : Act} {w : World} (h : wpOp P hops Q i K a w) : wpOp P ops Q i K a w := by
  unfold wpOp at *
  rw [hsub i hi] at h
  cases ho : ops[i]? with
  | none => simp only [ho] at h ⊢; exact h
  | some o =>
    simp only [ho] at h ⊢
    have hw : Region.wanted o (yielded ops a.tmps) = Region.wanted o (yielded hops a.tmps) := by
      unfold Region.wanted
      have h1 := List.all_eq_true.1 hg i (List.mem_range.2 hi)
      rw [ho] at h1
      cases hgd : o.guard with
      | none => rfl
      | some jb =>
        obtain ⟨j, b⟩ := jb
        simp only [hgd, decide_eq_true_eq] at h1
        simp only [yielded, hsub j h1]
    rw [hw]; exact h

theorem wpAny_of_quiet_head {C : World → Prop} {Q1 : Act → Prop} {Q : Exit → Act → World → Prop} {g : Nat} (hsub : ∀ i, i < n → hops[i]? = ops[i]?) (hsz : hops.size = n) (hN : ops.size = n + g) (hgp : 0 < g)
    (hup : upB md ops = true) (hg : guardB ops n = true) (hs : Region.sinkB md ops n = true) (hc : Region.chainB md ops n = true)
    (hQ : ∀ a w, C w → Q1 a → wpAny P md ops Q g (Array.replicate n true ++ Array.replicate g false) a w) :
    ∀ (f : Nat) (L L' : Array Bool) (a : Act) (w : World), (∀ j, j < n → L[j]? = L'[j]?) → L'.size = n → HeadInv md ops n L → C w → wpAnyQ P md hops C Q1 f L' a → wpAny P md ops Q (f + g) L a w := by
  have fin : ∀ (L L' : Array Bool) (a : Act) (w : World), (∀ j, j < n → L[j]? = L'[j]?) → L'.size = n → HeadInv md ops n L → C w → Region.ready md hops L' = [] → Q1 a → wpAny P md ops Q g L a w := by
    intro L L' a w hag hL inv hw h0 hq
    have hL1 : L = Array.replicate n true ++ Array.replicate g false := by
      apply Array.ext_getElem?
      intro j
      rcases Nat.lt_or_ge j n with hj | hj
      · rw [hag j hj, all_listed hsub hsz hup hL h0 j hj, Array.getElem?_append_left (by simpa using hj)]
        simp [hj]
      · rw [Array.getElem?_append_right (by simpa using hj)]
        rcases Nat.lt_or_ge j (n + g) with hj2 | hj2
        · have h1 := inv.tail j hj (by omega)
          have h2 : j < L.size := by rw [inv.size]; omega
          rw [Array.getD_eq_getD_getElem?, Array.getElem?_eq_getElem h2] at h1
          rw [Array.getElem?_eq_getElem h2]
          have h3 : j - n < g := by omega
          simp at h1
          simp [h1, h3]
        · rw [Array.getElem?_eq_none (by rw [inv.size]; omega), Array.getElem?_eq_none (by simp; omega)]
    rw [hL1]
    exact hQ a w hw hq
  intro f
  induction f with
  | zero =>
    intro L L' a w hag hL inv hw h
    rw [Nat.zero_add]
    exact fin L L' a w hag hL inv hw h.1 h.2
  | succ f ih =>
    intro L L' a w hag hL inv hw h
    by_cases h0 : Region.ready md hops L' = []
    · exact wpAny_plus (fin L L' a w hag hL inv hw h0 (h.1 h0)) (f + 1)
    · obtain ⟨i0, hi0⟩ := List.exists_mem_of_ne_nil _ h0
      have hi0n : i0 < n := by obtain ⟨_, o, ho, _⟩ := mem_ready.1 hi0; have := (Array.getElem?_eq_some_iff.1 ho).1; omega
      have hi0' := (ready_head hsub hup hag hi0n).2 hi0
      rw [show f + 1 + g = (f + g) + 1 by omega]
      refine ⟨fun h1 => (by rw [h1] at hi0'; cases hi0'), fun i hi => ?_⟩
      have hin : i < n := by
        rcases Nat.lt_or_ge i n with h1 | h1
        · exact h1
        · exact absurd hi (tail_waits hs hc (by omega) inv _ i0 rfl hi0n (mem_ready.1 hi0').1 i h1)
      have hi' := (ready_head hsub hup hag hin).1 hi
      refine wpOp_head hsub hg hin (wpOp_of_qOp hw (fun a' w' hw' h' => ih (L.setIfInBounds i true) (L'.setIfInBounds i true) a' w' ?_ (by simp [hL]) (inv.set hi hin) hw' h') (h.2 i hi'))
      intro j hj
      have e1 : i < L.size := by rw [inv.size]; omega
      have e2 : i < L'.size := by omega
      rw [Array.getElem?_setIfInBounds, Array.getElem?_setIfInBounds, if_pos e1, if_pos e2, hag j hj]
end

def tailB (l : List Oper) (n : Nat) : Bool :=
  Region.lexB .any (l.take n).toArray && decide (n < l.length) && upB .any l.toArray && guardB l.toArray n && Region.sinkB .any l.toArray n && Region.chainB .any l.toArray n &&
    Region.seqB .any l.toArray (l.length - n) n (Array.replicate n true ++ Array.replicate (l.length - n) false)

theorem wp_region_quietT {P : Program} {id : Nat} {Q : Exit → Act → World → Prop} {a : Act} {w : World} {l : List Oper} (n : Nat) (C : World → Prop) (hm : P.follows .mixedOrders = true) (hB : tailB l n = true) (hC : C w.drew)
    (h : wpQuiet P (l.take n).toArray C (fun a' => ∀ w', C w' → wpList P l.toArray Q (l.drop n) a' w') (l.take n) a) : (Code.region id l.toArray true).wp P Q a w := by
  simp only [tailB, Bool.and_eq_true, decide_eq_true_eq] at hB
  obtain ⟨⟨⟨⟨⟨⟨hlex, hn⟩, hup⟩, hg⟩, hs⟩, hc⟩, hseq⟩ := hB
  simp only [Region.lexB, Bool.and_eq_true] at hlex
  have htl : (l.take n).length = n := by simp; omega
  have hsz : (l.take n).toArray.size = n := by simp; omega
  have inv0 : HeadInv .any l.toArray n (Array.replicate l.toArray.size false) :=
    ⟨by simp, fun j oj _ hl => (by rw [getD_replicate_false] at hl; cases hl), fun t _ ht => getD_in (by simpa using ht) (getD_replicate_false _ _)⟩
  have hq := wpAnyQ_lex (C := C) (md := .any) hlex.1 (l.take n) 0 (Array.replicate (l.take n).toArray.size false) a (by simp) (by simpa using hlex.2) h
  refine wp_region_any hm ?_
  have H := wpAny_of_quiet_head (P := P) (md := .any) (ops := l.toArray) (hops := (l.take n).toArray) (n := n) (g := l.length - n) (Q := Q) (C := C)
    (fun i hi => by simp [hi]) hsz (by simp; omega) (by omega) hup hg hs hc
    (fun a' w' hw' hq' => by
      have := wpAny_of_seq (md := .any) (Q' := Q) (l.drop n) n (Array.replicate n true ++ Array.replicate (l.length - n) false) a' w' (fun j => by simp [List.getElem?_drop]) (by rw [List.length_drop]; exact hseq) (hq' w' hw')
      rwa [List.length_drop] at this)
    _ (Array.replicate l.toArray.size false) _ a w.drew (fun j hj => by
      have h1 : j < l.length := by omega
      simp [h1, show min n l.length = n by omega, hj]) (by simp; omega) inv0 hC hq
  rw [htl, show n + (l.length - n) = l.toArray.size by simp; omega] at H
  exact H
end Go.Proofs.Ytmgoonoifgcmnaa
