/-
  The corners of offers are those of the reference's edge.
-/
import Derived.Test.YtbgfiejaehpffaaH1
namespace Go.Proofs.Ytbgfiejaehpffaa

def pth (l : List P2) (k : Nat) : P2 := l.getD k (0, 0)

/-- f lists the n corners of the edge of the offers L. -/
structure Cor (L : List P2) (f : Nat → P2) (n : Nat) : Prop where
  pos : 0 < n
  rise : Rise f n
  turn : Turn f n
  mem : ∀ j, j < n → f j ∈ L
  sup : ∀ q, q ∈ L → SupQ f n q

section
variable {L : List P2} {f : Nat → P2} {n : Nat}
/-- Weights, both above 0, with which a corner is worth the most. -/
theorem Cor.best (h : Cor L f n) {j : Nat} (hj : j < n) : ∃ A B : Int, 0 < A ∧ 0 < B ∧ ∀ q, q ∈ L → vl A B q ≤ vl A B (f j) := by
  by_cases h1 : j + 1 < n
  · have hu := h.rise.u h1
    refine ⟨ev f j, eu f j, hu.2, hu.1, fun q hq => ?_⟩
    have := (h.sup q hq).above h.rise h.turn h1
    unfold above at this; omega
  · by_cases h0 : 0 < j
    · have h2 : j - 1 + 1 < n := by omega
      have hu := h.rise.u h2
      refine ⟨ev f (j - 1), eu f (j - 1), hu.2, hu.1, fun q hq => ?_⟩
      have h3 := (h.sup q hq).above h.rise h.turn h2
      have h4 := above_i1 (f := f) (j - 1)
      rw [show j - 1 + 1 = j by omega] at h4
      unfold above at h3 h4; omega
    · obtain rfl : j = 0 := by omega
      obtain rfl : n = 1 := by omega
      refine ⟨1, 1, by omega, by omega, fun q hq => ?_⟩
      have h3 := (h.sup q hq).top h.rise
      have h4 := (h.sup q hq).right h.rise
      simp only [Nat.sub_self] at h4
      unfold vl; omega

def Last (L : List P2) (o : P2) : Prop :=
  (∀ a, a ∈ L → a ≠ o → ¬ (o.1 ≤ a.1 ∧ o.2 ≤ a.2)) ∧ ∀ a, a ∈ L → ∀ b, b ∈ L → a.1 < o.1 → o.1 < b.1 → (b.2 - a.2) * (o.1 - a.1) ≤ (o.2 - a.2) * (b.1 - a.1)

theorem no_more {A B : Int} {a o : P2} (hA : 0 < A) (hB : 0 < B) (h : vl A B a ≤ vl A B o) (h1 : o.1 ≤ a.1) (h2 : o.2 ≤ a.2) : a = o := by
  unfold vl at h
  have e1 := Int.mul_nonneg (Int.le_of_lt hA) (show 0 ≤ a.1 - o.1 by omega)
  have e2 := Int.mul_nonneg (Int.le_of_lt hB) (show 0 ≤ a.2 - o.2 by omega)
  rw [Int.mul_sub] at e1 e2
  have k1 : A * (a.1 - o.1) = 0 := by rw [Int.mul_sub]; omega
  have k2 : B * (a.2 - o.2) = 0 := by rw [Int.mul_sub]; omega
  rcases Int.mul_eq_zero.1 k1 with h3 | h3
  · omega
  · rcases Int.mul_eq_zero.1 k2 with h4 | h4
    · omega
    · exact Prod.ext (by omega) (by omega)
/-- A point on a way, weights by which neither end is worth more. -/
theorem way {A B : Int} {a o b : P2} (ha : vl A B a ≤ vl A B o) (hb : vl A B b ≤ vl A B o) (h1 : a.1 < o.1) (h2 : o.1 < b.1) : B * ((b.2 - a.2) * (o.1 - a.1) - (o.2 - a.2) * (b.1 - a.1)) ≤ 0 := by
  unfold vl at ha hb
  have e1 := Int.mul_nonneg (show 0 ≤ (A * o.1 + B * o.2) - (A * a.1 + B * a.2) by omega) (show 0 ≤ b.1 - o.1 by omega)
  have e2 := Int.mul_nonneg (show 0 ≤ (A * o.1 + B * o.2) - (A * b.1 + B * b.2) by omega) (show 0 ≤ o.1 - a.1 by omega)
  have e3 : ((A * o.1 + B * o.2) - (A * a.1 + B * a.2)) * (b.1 - o.1) + ((A * o.1 + B * o.2) - (A * b.1 + B * b.2)) * (o.1 - a.1) = - (B * ((b.2 - a.2) * (o.1 - a.1) - (o.2 - a.2) * (b.1 - a.1))) := by clear e1 e2 ha hb h1 h2; grind
  omega

theorem Cor.last (h : Cor L f n) {j : Nat} (hj : j < n) : Last L (f j) := by
  obtain ⟨A, B, hA, hB, hw⟩ := h.best hj
  constructor
  · intro a ha hne hd
    exact hne (no_more hA hB (hw a ha) hd.1 hd.2)
  · intro a ha b hb h1 h2
    have := way (hw a ha) (hw b hb) h1 h2
    rcases Int.lt_or_le 0 ((b.2 - a.2) * ((f j).1 - a.1) - ((f j).2 - a.2) * (b.1 - a.1)) with h3 | h3
    · have := Int.mul_pos hB h3; omega
    · omega

/-- What is last is a corner, or on the way between two. -/
theorem Cor.of_last (h : Cor L f n) {o : P2} (ho : o ∈ L) (hl : Last L o) : (∃ j, j < n ∧ o = f j) ∨ ∃ i, i + 1 < n ∧ (f i).1 < o.1 ∧ o.1 < (f (i + 1)).1 ∧ above f i o = 0 := by
  have dom : ∀ j, j < n → o.1 ≤ (f j).1 → o.2 ≤ (f j).2 → o = f j := by
    intro j hj h1 h2
    rcases Decidable.em (f j = o) with e | e
    · exact e.symm
    · exact absurd ⟨h1, h2⟩ (hl.1 (f j) (h.mem j hj) e)
  have ht := (h.sup o ho).top h.rise
  have hr := (h.sup o ho).right h.rise
  -- the first corner that is not left of it
  have : ∀ m, m < n → (o.1 ≤ (f m).1) → ∃ j, j ≤ m ∧ o.1 ≤ (f j).1 ∧ (j = 0 ∨ (f (j - 1)).1 < o.1) := by
    intro m
    induction m with
    | zero => intro h1 h2; exact ⟨0, by omega, h2, .inl rfl⟩
    | succ m ih =>
      intro h1 h2
      by_cases h3 : o.1 ≤ (f m).1
      · obtain ⟨j, k1, k2, k3⟩ := ih (by omega) h3
        exact ⟨j, by omega, k2, k3⟩
      · exact ⟨m + 1, by omega, h2, .inr (by simp only [Nat.add_sub_cancel]; omega)⟩
  have hp := h.pos
  obtain ⟨j, k1, k2, k3⟩ := this (n - 1) (by omega) hr
  by_cases h0 : j = 0
  · subst h0
    exact .inl ⟨0, by omega, dom 0 (by omega) k2 ht⟩
  · obtain ⟨i, rfl⟩ : ∃ i, j = i + 1 := ⟨j - 1, by omega⟩
    have hi : i + 1 < n := by omega
    have k4 := k3.resolve_left h0
    simp only [Nat.add_sub_cancel] at k4
    have hu := h.rise.u hi
    have ha := (h.sup o ho).above h.rise h.turn hi
    by_cases he : o.1 = (f (i + 1)).1
    · refine .inl ⟨i + 1, hi, dom (i + 1) hi k2 ?_⟩
      have h5 := above_i1 (f := f) i
      unfold above vl at ha h5
      rw [he] at ha
      rcases Int.lt_or_le (f (i + 1)).2 o.2 with h6 | h6
      · have := Int.mul_lt_mul_of_pos_left h6 hu.1; omega
      · exact h6
    · refine .inr ⟨i, hi, k4, by omega, ?_⟩
      have h5 := hl.2 (f i) (h.mem i (by omega)) (f (i + 1)) (h.mem _ hi) k4 (by omega)
      have h6 : 0 ≤ above f i o := by
        have : above f i o = (o.2 - (f i).2) * ((f (i + 1)).1 - (f i).1) - ((f (i + 1)).2 - (f i).2) * (o.1 - (f i).1) := by unfold above vl eu ev; grind
        omega
      omega

/-- No corner is on the way between two last ones. -/
theorem Cor.not_between (h : Cor L f n) {j : Nat} (hj : j < n) {a b : P2} (ha : a ∈ L) (hla : Last L a) (hb : b ∈ L) (h1 : a.1 < (f j).1) (h2 : (f j).1 < b.1) : (b.1 - a.1) * ((f j).2 - a.2) ≠ (b.2 - a.2) * ((f j).1 - a.1) := by
  intro he
  have hr := (h.sup b hb).right h.rise
  have hj1 : j + 1 < n := by
    rcases Nat.lt_or_ge (j + 1) n with h3 | h3
    · exact h3
    · rw [show n - 1 = j by omega] at hr; omega
  have hj0 : 0 < j := by
    rcases Nat.eq_zero_or_pos j with h3 | h3
    · subst h3
      have := (h.sup a ha).top h.rise
      exact absurd ⟨Int.le_of_lt h1, this⟩ (hla.1 (f 0) (h.mem 0 hj) (fun e => by rw [e] at h1; omega))
    · exact h3
  obtain ⟨i, rfl⟩ : ∃ i, j = i + 1 := ⟨j - 1, by omega⟩
  have u1 := h.rise.u (i := i) (by omega)
  have u2 := h.rise.u (i := i + 1) hj1
  have t := h.turn.uv (i := i) (by omega)
  have q1 : ∀ q, q ∈ L → vl (ev f i) (eu f i) q ≤ vl (ev f i) (eu f i) (f (i + 1)) := fun q hq => by
    have h3 := (h.sup q hq).above h.rise h.turn (i := i) (by omega)
    have h4 := above_i1 (f := f) i
    unfold above at h3 h4; omega
  have q2 : ∀ q, q ∈ L → vl (ev f (i + 1)) (eu f (i + 1)) q ≤ vl (ev f (i + 1)) (eu f (i + 1)) (f (i + 1)) := fun q hq => by
    have h3 := (h.sup q hq).above h.rise h.turn hj1
    unfold above at h3; omega
  generalize f (i + 1) = o at *
  generalize ev f i = v1 at *
  generalize eu f i = w1 at *
  generalize ev f (i + 1) = v2 at *
  generalize eu f (i + 1) = w2 at *
  -- by both weights a is worth as much as o
  have eqs : ∀ A B : Int, 0 < B → vl A B a ≤ vl A B o → vl A B b ≤ vl A B o → A * (o.1 - a.1) + B * (o.2 - a.2) = 0 := by
    intro A B hB k1 k2
    have d1 : 0 < o.1 - a.1 := by omega
    have d2 : 0 < b.1 - o.1 := by omega
    have e1 : 0 ≤ A * (o.1 - a.1) + B * (o.2 - a.2) := by unfold vl at k1; rw [Int.mul_sub, Int.mul_sub]; omega
    have e2 : 0 ≤ A * (o.1 - b.1) + B * (o.2 - b.2) := by unfold vl at k2; rw [Int.mul_sub, Int.mul_sub]; omega
    rcases Int.lt_or_le 0 (A * (o.1 - a.1) + B * (o.2 - a.2)) with h5 | h5
    · have e3 := Int.mul_pos h5 d2
      have e4 := Int.mul_nonneg e2 (Int.le_of_lt d1)
      have e5 : (A * (o.1 - a.1) + B * (o.2 - a.2)) * (b.1 - o.1) + (A * (o.1 - b.1) + B * (o.2 - b.2)) * (o.1 - a.1) = B * ((b.1 - a.1) * (o.2 - a.2) - (b.2 - a.2) * (o.1 - a.1)) := by grind
      rw [he, Int.sub_self, Int.mul_zero] at e5
      omega
    · omega
  have e1 := eqs v1 w1 u1.1 (q1 a ha) (q1 b hb)
  have e2 := eqs v2 w2 u2.1 (q2 a ha) (q2 b hb)
  -- v1 x + w1 y = 0, v2 x + w2 y = 0, v1 w2 < w1 v2
  have e3 : (w1 * v2 - v1 * w2) * (o.1 - a.1) = 0 := by grind
  rcases Int.mul_eq_zero.1 e3 with h3 | h3 <;> omega
end

/-! The reference's edge. -/
def bestY (L : List P2) (x : Int) : Int := L.foldl (fun m o => if o.1 = x then (if o.2 > m then o.2 else m) else m) (-1)
def lastB (L : List P2) (o : P2) : Bool :=
  L.all fun a => !(decide (a ≠ o) && decide (o.1 ≤ a.1) && decide (o.2 ≤ a.2)) && L.all fun b => !(decide (a.1 < o.1) && decide (o.1 < b.1) && decide ((o.2 - a.2) * (b.1 - a.1) < (b.2 - a.2) * (o.1 - a.1)))
def edgeAt (L : List P2) (x : Int) : List P2 := if 0 ≤ bestY L x ∧ lastB L (x, bestY L x) = true then [(x, bestY L x)] else []
def edge1 (L : List P2) : Nat → List P2
  | 0 => []
  | m + 1 => edge1 L m ++ edgeAt L m
def btw (E : List P2) (i : Nat) : Bool :=
  (E.take i).any fun a => (E.drop (i + 1)).any fun b => decide ((b.1 - a.1) * ((pth E i).2 - a.2) = (b.2 - a.2) * ((pth E i).1 - a.1))
def outE (E : List P2) : Nat → List P2
  | 0 => []
  | m + 1 => outE E m ++ (if btw E m = true then [] else [pth E m])
def edgeR (L : List P2) : List P2 := outE (edge1 L 31) (edge1 L 31).length

theorem lastB_iff (L : List P2) (o : P2) : lastB L o = true ↔ Last L o := by
  simp only [lastB, List.all_eq_true, Bool.and_eq_true, Bool.not_eq_true', Bool.and_eq_false_iff, decide_eq_false_iff_not]
  constructor
  · intro h
    refine ⟨fun a ha hne hd => ?_, fun a ha b hb h1 h2 => ?_⟩
    · rcases (h a ha).1 with (h3 | h3) | h3
      · exact h3 hne
      · exact h3 hd.1
      · exact h3 hd.2
    · rcases (h a ha).2 b hb with (h3 | h3) | h3
      · exact absurd h1 h3
      · exact absurd h2 h3
      · omega
  · intro h a ha
    refine ⟨?_, fun b hb => ?_⟩
    · by_cases h1 : a ≠ o
      · by_cases h2 : o.1 ≤ a.1
        · exact .inr fun h3 => h.1 a ha h1 ⟨h2, h3⟩
        · exact .inl (.inr h2)
      · exact .inl (.inl h1)
    · by_cases h1 : a.1 < o.1
      · by_cases h2 : o.1 < b.1
        · have := h.2 a ha b hb h1 h2
          exact .inr (by omega)
        · exact .inl (.inr h2)
      · exact .inl (.inl h1)

theorem bestY_spec (L : List P2) (x : Int) (hL : ∀ q, q ∈ L → 0 ≤ q.2) : (∀ q, q ∈ L → q.1 = x → q.2 ≤ bestY L x) ∧ (0 ≤ bestY L x → (x, bestY L x) ∈ L) := by
  have gen : ∀ (M : List P2) (m : Int), (∀ q, q ∈ M → q ∈ L) → (m = -1 ∨ (x, m) ∈ L) →
      let r := M.foldl (fun m o => if o.1 = x then (if o.2 > m then o.2 else m) else m) m
      m ≤ r ∧ (∀ q, q ∈ M → q.1 = x → q.2 ≤ r) ∧ (r = -1 ∨ (x, r) ∈ L) := by
    intro M
    induction M with
    | nil => intro m _ hm; exact ⟨Int.le_refl _, fun q hq => by simp at hq, hm⟩
    | cons o M ih =>
      intro m hM hm
      simp only [List.foldl_cons]
      by_cases h1 : o.1 = x
      · rw [if_pos h1]
        by_cases h2 : o.2 > m
        · rw [if_pos h2]
          have := ih o.2 (fun q hq => hM q (by simp [hq])) (.inr (by rw [← h1]; exact hM o (by simp)))
          refine ⟨by have := this.1; omega, fun q hq hqx => ?_, this.2.2⟩
          rcases List.mem_cons.1 hq with rfl | hq
          · exact this.1
          · exact this.2.1 q hq hqx
        · rw [if_neg h2]
          have := ih m (fun q hq => hM q (by simp [hq])) hm
          refine ⟨this.1, fun q hq hqx => ?_, this.2.2⟩
          rcases List.mem_cons.1 hq with rfl | hq
          · have := this.1; omega
          · exact this.2.1 q hq hqx
      · rw [if_neg h1]
        have := ih m (fun q hq => hM q (by simp [hq])) hm
        refine ⟨this.1, fun q hq hqx => ?_, this.2.2⟩
        rcases List.mem_cons.1 hq with rfl | hq
        · exact absurd hqx h1
        · exact this.2.1 q hq hqx
  have := gen L (-1) (fun _ h => h) (.inl rfl)
  refine ⟨this.2.1, fun h => ?_⟩
  rcases this.2.2 with h1 | h1
  · unfold bestY at h; omega
  · exact h1

theorem edgeAt_mem {L : List P2} (hL : ∀ q, q ∈ L → 0 ≤ q.2) {x : Int} {o : P2} : o ∈ edgeAt L x ↔ o.1 = x ∧ o ∈ L ∧ Last L o := by
  have hb := bestY_spec L x hL
  unfold edgeAt
  constructor
  · split
    · rename_i h
      intro ho
      obtain rfl : o = (x, bestY L x) := by simpa using ho
      exact ⟨rfl, hb.2 h.1, (lastB_iff _ _).1 h.2⟩
    · simp
  · rintro ⟨h1, h2, h3⟩
    have h4 := hb.1 o h2 h1
    have h0 := hL o h2
    have h5 : o = (x, bestY L x) := by
      rcases Decidable.em ((x, bestY L x) = o) with e | e
      · exact e.symm
      · exact absurd ⟨by simp [h1], h4⟩ (h3.1 _ (hb.2 (by omega)) e)
    rw [if_pos ⟨by omega, by rw [← h5]; exact (lastB_iff _ _).2 h3⟩, ← h5]
    simp
theorem edge1_mem {L : List P2} (hL : ∀ q, q ∈ L → 0 ≤ q.1 ∧ 0 ≤ q.2) {o : P2} : ∀ m : Nat, o ∈ edge1 L m ↔ o.1 < m ∧ o ∈ L ∧ Last L o
  | 0 => by
    simp only [edge1, List.not_mem_nil, false_iff]
    rintro ⟨h1, h2, _⟩
    have := (hL o h2).1; omega
  | m + 1 => by
    rw [edge1, List.mem_append, edge1_mem hL m, edgeAt_mem (fun q hq => (hL q hq).2)]
    constructor
    · rintro (⟨h1, h2⟩ | ⟨h1, h2⟩) <;> exact ⟨by omega, h2⟩
    · rintro ⟨h1, h2⟩
      by_cases h3 : o.1 = m
      · exact .inr ⟨h3, h2⟩
      · exact .inl ⟨by omega, h2⟩
theorem edge1_sorted {L : List P2} (hL : ∀ q, q ∈ L → 0 ≤ q.1 ∧ 0 ≤ q.2) : ∀ m : Nat, (edge1 L m).Pairwise fun a b => a.1 < b.1
  | 0 => List.Pairwise.nil
  | m + 1 => by
    rw [edge1, List.pairwise_append]
    refine ⟨edge1_sorted hL m, ?_, fun a ha b hb => ?_⟩
    · unfold edgeAt; split <;> simp
    · have h1 := (edge1_mem hL m).1 ha
      have h2 := (edgeAt_mem (fun q hq => (hL q hq).2)).1 hb
      omega
theorem outE_mem {E : List P2} {o : P2} : ∀ m, o ∈ outE E m ↔ ∃ i, i < m ∧ btw E i = false ∧ o = pth E i
  | 0 => by simp [outE]
  | m + 1 => by
    rw [outE, List.mem_append, outE_mem m]
    constructor
    · rintro (⟨i, h1, h2⟩ | h)
      · exact ⟨i, by omega, h2⟩
      · split at h
        · simp at h
        · rename_i hb
          exact ⟨m, by omega, by simpa using hb, by simpa using h⟩
    · rintro ⟨i, h1, h2, h3⟩
      by_cases hi : i = m
      · subst hi; right; rw [if_neg (by simp [h2])]; simp [h3]
      · exact .inl ⟨i, by omega, h2, h3⟩
theorem pth_lt {E : List P2} (hs : E.Pairwise fun a b => a.1 < b.1) {i j : Nat} (hij : i < j) (hj : j < E.length) : (pth E i).1 < (pth E j).1 := by
  have := List.pairwise_iff_getElem.1 hs i j (by omega) hj hij
  simpa [pth, List.getD, hj, show i < E.length by omega] using this
theorem outE_sorted {E : List P2} (hs : E.Pairwise fun a b => a.1 < b.1) : ∀ m, m ≤ E.length → (outE E m).Pairwise fun a b => a.1 < b.1
  | 0, _ => List.Pairwise.nil
  | m + 1, h => by
    rw [outE, List.pairwise_append]
    refine ⟨outE_sorted hs m (by omega), ?_, fun a ha b hb => ?_⟩
    · split <;> simp
    · obtain ⟨i, h1, _, rfl⟩ := (outE_mem m).1 ha
      split at hb
      · simp at hb
      · obtain rfl : b = pth E m := by simpa using hb
        exact pth_lt hs h1 (by omega)
/-- Rising lists of the same points are the same. -/
theorem same_sorted : ∀ (l m : List P2), (l.Pairwise fun a b => a.1 < b.1) → (m.Pairwise fun a b => a.1 < b.1) → (∀ o, o ∈ l ↔ o ∈ m) → l = m
  | [], [], _, _, _ => rfl
  | [], b :: m, _, _, h => by have := (h b).2 (by simp); simp at this
  | a :: l, [], _, _, h => by have := (h a).1 (by simp); simp at this
  | a :: l, b :: m, hl, hm, h => by
    rw [List.pairwise_cons] at hl hm
    have e : a = b := by
      rcases List.mem_cons.1 ((h a).1 (by simp)) with e | e
      · exact e
      · rcases List.mem_cons.1 ((h b).2 (by simp)) with e2 | e2
        · exact e2.symm
        · have := hm.1 a e; have := hl.1 b e2; omega
    subst e
    refine congrArg (a :: ·) (same_sorted l m hl.2 hm.2 fun o => ?_)
    constructor
    · intro ho
      rcases List.mem_cons.1 ((h o).1 (by simp [ho])) with e | e
      · have := hl.1 o ho; rw [e] at this; omega
      · exact e
    · intro ho
      rcases List.mem_cons.1 ((h o).2 (by simp [ho])) with e | e
      · have := hm.1 o ho; rw [e] at this; omega
      · exact e
theorem pth_mem {E : List P2} {i : Nat} (h : i < E.length) : pth E i ∈ E := by simp [pth, List.getD, h]
theorem mem_pth {E : List P2} {o : P2} (h : o ∈ E) : ∃ i, i < E.length ∧ o = pth E i := by
  obtain ⟨i, hi, rfl⟩ := List.mem_iff_getElem.1 h
  exact ⟨i, hi, by simp [pth, List.getD, hi]⟩
theorem btw_iff {E : List P2} {i : Nat} : btw E i = true ↔ ∃ j k, j < i ∧ j < E.length ∧ i < k ∧ k < E.length ∧ ((pth E k).1 - (pth E j).1) * ((pth E i).2 - (pth E j).2) = ((pth E k).2 - (pth E j).2) * ((pth E i).1 - (pth E j).1) := by
  simp only [btw, List.any_eq_true, decide_eq_true_eq]
  constructor
  · rintro ⟨a, ha, b, hb, h⟩
    obtain ⟨j, hj, rfl⟩ := List.mem_iff_getElem.1 ha
    obtain ⟨k, hk, rfl⟩ := List.mem_iff_getElem.1 hb
    simp at hj hk
    refine ⟨j, i + 1 + k, by omega, by omega, by omega, by omega, ?_⟩
    have e1 : pth E j = E[j]'(by omega) := by simp [pth, List.getD, show j < E.length by omega]
    have e2 : pth E (i + 1 + k) = E[i + 1 + k]'(by omega) := by simp [pth, List.getD, show i + 1 + k < E.length by omega]
    rw [e1, e2]
    simpa using h
  · rintro ⟨j, k, h1, h2, h3, h4, h⟩
    refine ⟨pth E j, ?_, pth E k, ?_, h⟩
    · rw [List.mem_iff_getElem]
      exact ⟨j, by simp; omega, by simp [pth, List.getD, h2]⟩
    · rw [List.mem_iff_getElem]
      exact ⟨k - (i + 1), by simp; omega, by simp [pth, List.getD, h4, show i + 1 + (k - (i + 1)) = k by omega]⟩

/-- The reference's edge is the list of the corners. -/
theorem Cor.edge {L : List P2} {f : Nat → P2} {n : Nat} (h : Cor L f n) (hL : ∀ q, q ∈ L → (0 ≤ q.1 ∧ q.1 ≤ 30) ∧ 0 ≤ q.2) : edgeR L = (List.range n).map f := by
  have hL' : ∀ q, q ∈ L → 0 ≤ q.1 ∧ 0 ≤ q.2 := fun q hq => ⟨(hL q hq).1.1, (hL q hq).2⟩
  have hs := edge1_sorted hL' 31
  have hm0 := fun o => edge1_mem hL' (o := o) 31
  unfold edgeR
  generalize edge1 L 31 = E at hs hm0 ⊢
  have hm : ∀ o, o ∈ E ↔ o ∈ L ∧ Last L o := fun o => by
    rw [hm0 o]
    constructor
    · intro h; exact h.2
    · intro h
      have := (hL o h.1).1.2
      exact ⟨by omega, h⟩
  refine same_sorted _ _ (outE_sorted hs _ (Nat.le_refl _)) ?_ fun o => ?_
  · rw [List.pairwise_map, List.pairwise_iff_getElem]
    intro i j hi hj hij
    simp at hi hj ⊢
    exact (rise_x h.rise hij hj).1
  · rw [outE_mem, List.mem_map]
    constructor
    · rintro ⟨i, hi, hb, rfl⟩
      obtain ⟨h1, h2⟩ := (hm _).1 (pth_mem hi)
      rcases h.of_last h1 h2 with ⟨j, hj, e⟩ | ⟨j, hj, k1, k2, k3⟩
      · exact ⟨j, by simpa using hj, e.symm⟩
      · exfalso
        obtain ⟨x, hx, ex⟩ := mem_pth ((hm _).2 ⟨h.mem j (by omega), h.last (by omega)⟩)
        obtain ⟨y, hy, ey⟩ := mem_pth ((hm _).2 ⟨h.mem (j + 1) hj, h.last hj⟩)
        have lx : x < i := by
          rcases Nat.lt_trichotomy x i with h3 | h3 | h3
          · exact h3
          · rw [← h3, ← ex] at k1; omega
          · have := pth_lt hs h3 hx; rw [← ex] at this; omega
        have ly : i < y := by
          rcases Nat.lt_trichotomy i y with h3 | h3 | h3
          · exact h3
          · rw [h3, ← ey] at k2; omega
          · have := pth_lt hs h3 hi; rw [← ey] at this; omega
        have : btw E i = true := btw_iff.2 ⟨x, y, lx, hx, ly, hy, by
          rw [← ex, ← ey]
          unfold above vl eu ev at k3
          grind⟩
        rw [this] at hb; cases hb
    · rintro ⟨j, hj, rfl⟩
      have hj' : j < n := by simpa using hj
      obtain ⟨i, hi, ei⟩ := mem_pth ((hm _).2 ⟨h.mem j hj', h.last hj'⟩)
      refine ⟨i, hi, ?_, ei⟩
      rw [Bool.eq_false_iff]
      intro hb
      obtain ⟨x, y, h1, h2, h3, h4, h5⟩ := btw_iff.1 hb
      have ma := (hm _).1 (pth_mem h2)
      have mb := (hm _).1 (pth_mem h4)
      have l1 := pth_lt hs h1 hi
      have l2 := pth_lt hs h3 h4
      rw [← ei] at l1 l2 h5
      exact h.not_between hj' ma.1 ma.2 mb.1 l1 l2 h5
end Go.Proofs.Ytbgfiejaehpffaa
