/-
  A region as in Q3, one of whose first operations (which looks at no world) may come up beside the last ones.
-/
import Derived.Test.YtmgoonoifgcmnaaQ3
namespace Go.Proofs.Ytmgoonoifgcmnaa
open Go.RowKit

/-- What the operation yields hangs on no world. -/
def Loose (P : Program) (o : Oper) : Prop := o.guard = none ∧ ∀ a : Act, (∃ v, ∀ w, (execOp a.eval o).run P w = .ok (.value v) w) ∨ (∀ w, ∃ x w', (execOp a.eval o).run P w = .halt x w')

theorem loose_extract (P : Program) (d : Option Tmp) (t : Operand) (ix : Nat) (ty : TypeId) (pos : String) (af : Array Edge) : Loose P { dst := d, op := .extract t ix, type := ty, pos := pos, after := af, guard := none } := by
  refine ⟨rfl, fun a => ?_⟩
  simp only [execOp]
  unfold Instr.extract
  generalize a.eval t = x
  cases x
  all_goals first
    | (right; intro w; exact ⟨_, _, rfl⟩)
    | skip
  rename_i vs
  cases h : vs[ix]? with
  | none => right; intro w; exact ⟨.stuck "Extract: no such component", w, by simp [go_sem, h]⟩
  | some v => left; refine ⟨v, fun w => ?_⟩; simp [go_sem, h]

/-- All of the first n operations but number e are waited for, by way of such ones, by number n. -/
def sinkE (md : Region.Mode) (ops : Array Oper) (n e : Nat) : Bool :=
  (List.range n).all fun i => decide (i = e) || (List.range (n + 1)).any fun j => decide (i < j) && decide (j ≠ e) && Region.waitsFor md ops j i

/-- Each other operation waits for number e, or is waited for by it, or is apart from it. -/
def freeE (md : Region.Mode) (ops : Array Oper) (e : Nat) : Bool :=
  match ops[e]? with
  | none => false
  | some oe => (List.range ops.size).all fun j => decide (j = e) || Region.waitsFor md ops j e || Region.waitsFor md ops e j || match ops[j]? with
    | some oj => oe.apart ops oj
    | none => true

section
variable {P : Program} {md : Region.Mode} {ops hops : Array Oper} {n e : Nat}

theorem freeE_spec {oe : Oper} (hoe : ops[e]? = some oe) (h : freeE md ops e = true) {L : Array Bool} (hr : e ∈ Region.ready md ops L) (j : Nat) (oj : Oper) (hj : ops[j]? = some oj) (hne : j ≠ e) (hun : L.getD j true = false)
    (hno : ∀ e1 ∈ oj.after, Region.binds md e1 = true → e1.on ≠ e) : oe.apart ops oj = true := by
  unfold freeE at h
  rw [hoe] at h
  have h1 := List.all_eq_true.1 h j (List.mem_range.2 (Array.getElem?_eq_some_iff.1 hj).1)
  simp only [hj, Bool.or_eq_true, decide_eq_true_eq] at h1
  rcases h1 with ((h1 | h1) | h1) | h1
  · exact absurd h1 hne
  · obtain ⟨o', ho', e1, he, hb, hon⟩ := Region.waitsFor_spec h1
    obtain rfl : o' = oj := Option.some.inj (ho'.symm.trans hj)
    exact absurd hon (hno e1 he hb)
  · obtain ⟨o', ho', e1, he, hb, hon⟩ := Region.waitsFor_spec h1
    obtain ⟨_, o2, ho2, hall⟩ := mem_ready.1 hr
    obtain rfl : o' = o2 := Option.some.inj (ho'.symm.trans ho2)
    have := hall e1 he hb
    rw [hon, getD_both hun] at this
    cases this
  · exact h1

theorem tail_waitsE (hs : sinkE md ops n e = true) (hc : Region.chainB md ops n = true) (hen : e < n) (hn : n < ops.size) {L : Array Bool} (inv : HeadInv md ops n L) {t : Nat} (ht : n ≤ t) (hr : t ∈ Region.ready md ops L) :
    ∀ (d i : Nat), n - i = d → i < n → i ≠ e → L.getD i false = true := by
  obtain ⟨_, ot, hot, hall⟩ := mem_ready.1 hr
  have htlt : t < ops.size := (Array.getElem?_eq_some_iff.1 hot).1
  obtain rfl : t = n := by
    have h1 := List.all_eq_true.1 hc t (List.mem_range.2 htlt)
    simp only [Bool.or_eq_true, decide_eq_true_eq] at h1
    rcases h1 with h1 | h1
    · omega
    · obtain ⟨o', ho', e1, he, hb, hon⟩ := Region.waitsFor_spec h1
      obtain rfl : o' = ot := Option.some.inj (ho'.symm.trans hot)
      rcases Nat.lt_or_ge (t - 1) n with h2 | h2
      · omega
      · have h3 := hall e1 he hb
        rw [hon, getD_both (inv.tail (t - 1) h2 (by omega))] at h3
        cases h3
  intro d
  induction d using Nat.strongRecOn with
  | _ d ih =>
    intro i hd hi hie
    have h1 := List.all_eq_true.1 hs i (List.mem_range.2 hi)
    simp only [Bool.or_eq_true, decide_eq_true_eq] at h1
    rcases h1 with h1 | h1
    · exact absurd h1 hie
    · obtain ⟨j, hj, hj2⟩ := List.any_eq_true.1 h1
      simp only [Bool.and_eq_true, decide_eq_true_eq] at hj2
      obtain ⟨⟨hij, hje⟩, hw⟩ := hj2
      obtain ⟨oj, hoj, e1, he, hb, hon⟩ := Region.waitsFor_spec hw
      have hjn : j < t + 1 := List.mem_range.1 hj
      by_cases hjt : j = t
      · subst hjt
        obtain rfl : oj = ot := Option.some.inj (hoj.symm.trans hot)
        rw [← hon]; exact hall e1 he hb
      · have := ih (t - j) (by omega) j rfl (by omega) hje
        rw [← hon]; exact inv.closed j oj hoj this e1 he hb

theorem wpAny_of_quiet_headE {C : World → Prop} {Q1 : Act → Prop} {Q : Exit → Act → World → Prop} {g : Nat} (hsub : ∀ i, i < n → hops[i]? = ops[i]?) (hsz : hops.size = n) (hN : ops.size = n + g) (hgp : 0 < g) (hen : e < n)
    (hup : upB md ops = true) (hg : guardB ops n = true) (hs : sinkE md ops n e = true) (hc : Region.chainB md ops n = true) (hsel : Region.noSelect ops = true) (hfree : freeE md ops e = true)
    (hloose : ∀ o, ops[e]? = some o → Loose P o) (hp : ∀ o, ops[e]? = some o → ∀ c (a : Act) v w, Q (.panic c) (a.put o.dst v) w → Q (.panic c) a w)
    (hQ : ∀ a w, C w → Q1 a → wpAny P md ops Q g (Array.replicate n true ++ Array.replicate g false) a w) :
    ∀ (f : Nat) (L L' : Array Bool) (a : Act) (w : World), (∀ j, j < n → L[j]? = L'[j]?) → L'.size = n → HeadInv md ops n L → C w → wpAnyQ P md hops C Q1 f L' a → wpAny P md ops Q (f + g) L a w := by
  have fin : ∀ (L L' : Array Bool) (a : Act) (w : World), (∀ j, j < n → L[j]? = L'[j]?) → L'.size = n → HeadInv md ops n L → C w → Region.ready md hops L' = [] → Q1 a → wpAny P md ops Q g L a w := by
    intro L L' a w hag hL inv hw h0 hq
    have hL1 : L = Array.replicate n true ++ Array.replicate g false := by
      apply Array.ext_getElem?
      intro j
      rcases Nat.lt_or_ge j n with hj | hj
      · rw [hag j hj, all_listed hsub hsz hup hL h0 j hj, Array.getElem?_append_left (by simpa using hj)]
        simp [hj]
      · rw [Array.getElem?_append_right (by simpa using hj)]
        rcases Nat.lt_or_ge j (n + g) with hj2 | hj2
        · have h1 := inv.tail j hj (by omega)
          have h2 : j < L.size := by rw [inv.size]; omega
          rw [Array.getD_eq_getD_getElem?, Array.getElem?_eq_getElem h2] at h1
          rw [Array.getElem?_eq_getElem h2]
          have h3 : j - n < g := by omega
          simp at h1
          simp [h1, h3]
        · rw [Array.getElem?_eq_none (by rw [inv.size]; omega), Array.getElem?_eq_none (by simp; omega)]
    rw [hL1]
    exact hQ a w hw hq
  intro f
  induction f with
  | zero =>
    intro L L' a w hag hL inv hw h
    rw [Nat.zero_add]
    exact fin L L' a w hag hL inv hw h.1 h.2
  | succ f ih =>
    intro L L' a w hag hL inv hw h
    have hset : ∀ i, i < n → ∀ j, j < n → (L.setIfInBounds i true)[j]? = (L'.setIfInBounds i true)[j]? := by
      intro i hin j hj
      have e1 : i < L.size := by rw [inv.size]; omega
      have e2 : i < L'.size := by omega
      rw [Array.getElem?_setIfInBounds, Array.getElem?_setIfInBounds, if_pos e1, if_pos e2, hag j hj]
    by_cases h0 : Region.ready md hops L' = []
    · exact wpAny_plus (fin L L' a w hag hL inv hw h0 (h.1 h0)) (f + 1)
    · rw [show f + 1 + g = (f + g) + 1 by omega]
      by_cases he : e ∈ Region.ready md hops L'
      · have he' := (ready_head hsub hup hag hen).2 he
        obtain ⟨_, oe, hoe, _⟩ := mem_ready.1 he
        have hoe' := (hsub e hen).symm.trans hoe
        obtain ⟨v, hy, hK⟩ := yieldsIn_of_qOp hoe (h.2 e he)
        obtain ⟨hgd, hl⟩ := hloose oe hoe'
        have hwt : ∀ (y : Nat → Option Bool), Region.wanted oe y = true := fun y => by unfold Region.wanted; rw [hgd]
        have hY : Yields P ops oe v a := by
          refine .inl ⟨hwt _, ?_⟩
          rcases hy with ⟨_, hv⟩ | ⟨hv, _⟩
          · have h1 := hv w hw
            unfold Oper.quietAt at h1
            rcases hl a with ⟨u, hu⟩ | hh
            · rw [hu w] at h1
              simp only [Oper.quietUpon] at h1
              intro w'
              rw [hu w', h1.2]
            · obtain ⟨x, w', hx⟩ := hh w
              rw [hx] at h1
              simp only [Oper.quietUpon] at h1
          · rw [hwt] at hv; cases hv
        refine wpAny_first hoe' (Region.noSelect_spec hsel) (fun c a w => hp oe hoe' c a _ w) (f + g) L a w (freeE_spec hoe' hfree he') he' hY ?_
        exact ih _ _ _ w (hset e hen) (by simp [hL]) (inv.set he' hen) hw hK
      · obtain ⟨i0, hi0⟩ := List.exists_mem_of_ne_nil _ h0
        have hi0n : i0 < n := by obtain ⟨_, o, ho, _⟩ := mem_ready.1 hi0; have := (Array.getElem?_eq_some_iff.1 ho).1; omega
        have hi0' := (ready_head hsub hup hag hi0n).2 hi0
        refine ⟨fun h1 => (by rw [h1] at hi0'; cases hi0'), fun i hi => ?_⟩
        have hin : i < n := by
          rcases Nat.lt_or_ge i n with h1 | h1
          · exact h1
          · have h2 := tail_waitsE hs hc hen (by omega) inv h1 hi _ i0 rfl hi0n (fun h3 => he (h3 ▸ hi0))
            rw [getD_both (mem_ready.1 hi0').1] at h2
            cases h2
        have hi' := (ready_head hsub hup hag hin).1 hi
        exact wpOp_head hsub hg hin (wpOp_of_qOp hw (fun a' w' hw' h' => ih (L.setIfInBounds i true) (L'.setIfInBounds i true) a' w' (hset i hin) (by simp [hL]) (inv.set hi hin) hw' h') (h.2 i hi'))
end

def tailE (l : List Oper) (n e : Nat) : Bool :=
  Region.lexB .any (l.take n).toArray && decide (n < l.length) && decide (e < n) && upB .any l.toArray && guardB l.toArray n && sinkE .any l.toArray n e && Region.chainB .any l.toArray n &&
    Region.noSelect l.toArray && freeE .any l.toArray e &&
    Region.seqB .any l.toArray (l.length - n) n (Array.replicate n true ++ Array.replicate (l.length - n) false)

theorem wp_region_quietE {P : Program} {id : Nat} {Q : Exit → Act → World → Prop} {a : Act} {w : World} {l : List Oper} (n e : Nat) (C : World → Prop) (hm : P.follows .mixedOrders = true) (hB : tailE l n e = true) (hC : C w.drew)
    (hloose : ∀ o, l[e]? = some o → Loose P o) (hp : ∀ o, l[e]? = some o → ∀ c (a : Act) v w, Q (.panic c) (a.put o.dst v) w → Q (.panic c) a w)
    (h : wpQuiet P (l.take n).toArray C (fun a' => ∀ w', C w' → wpList P l.toArray Q (l.drop n) a' w') (l.take n) a) : (Code.region id l.toArray true).wp P Q a w := by
  simp only [tailE, Bool.and_eq_true, decide_eq_true_eq] at hB
  obtain ⟨⟨⟨⟨⟨⟨⟨⟨⟨hlex, hn⟩, hen⟩, hup⟩, hg⟩, hs⟩, hc⟩, hsel⟩, hfree⟩, hseq⟩ := hB
  simp only [Region.lexB, Bool.and_eq_true] at hlex
  have htl : (l.take n).length = n := by simp; omega
  have hsz : (l.take n).toArray.size = n := by simp; omega
  have inv0 : HeadInv .any l.toArray n (Array.replicate l.toArray.size false) :=
    ⟨by simp, fun j oj _ hl => (by rw [getD_replicate_false] at hl; cases hl), fun t _ ht => getD_in (by simpa using ht) (getD_replicate_false _ _)⟩
  have hq := wpAnyQ_lex (C := C) (md := .any) hlex.1 (l.take n) 0 (Array.replicate (l.take n).toArray.size false) a (by simp) (by simpa using hlex.2) h
  refine wp_region_any hm ?_
  have H := wpAny_of_quiet_headE (P := P) (md := .any) (ops := l.toArray) (hops := (l.take n).toArray) (n := n) (e := e) (g := l.length - n) (Q := Q) (C := C)
    (fun i hi => by simp [hi]) hsz (by simp; omega) (by omega) hen hup hg hs hc hsel hfree (fun o ho => hloose o (by simpa using ho)) (fun o ho => hp o (by simpa using ho))
    (fun a' w' hw' hq' => by
      have := wpAny_of_seq (md := .any) (Q' := Q) (l.drop n) n (Array.replicate n true ++ Array.replicate (l.length - n) false) a' w' (fun j => by simp [List.getElem?_drop]) (by rw [List.length_drop]; exact hseq) (hq' w' hw')
      rwa [List.length_drop] at this)
    _ (Array.replicate l.toArray.size false) _ a w.drew (fun j hj => by
      have h1 : j < l.length := by omega
      simp [h1, show min n l.length = n by omega, hj]) (by simp; omega) inv0 hC hq
  rw [htl, show n + (l.length - n) = l.toArray.size by simp; omega] at H
  exact H
end Go.Proofs.Ytmgoonoifgcmnaa
