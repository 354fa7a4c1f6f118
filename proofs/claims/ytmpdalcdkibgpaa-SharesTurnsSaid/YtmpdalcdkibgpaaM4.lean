/-
  Plain facts: what is next below parts, looked at one by one.
-/
import Derived.Test.YtmpdalcdkibgpaaR4
namespace Go.Proofs.Ytmpdalcdkibgpaa

def condC (a b c : List Int) : Bool := !decide (a = c) && !decide (b = c) && unevR a c && unevR c b
def nb (a b : List Int) (L : List (List Int)) : Bool := unevR a b && !decide (a = b) && L.all fun c => !condC a b c
def rB (a : List Int) (n : Nat) : List (List Int) := (allN n).filter fun b => nb a b (allN n)

def eqN : List Nat → List Nat → Bool
  | [], [] => true
  | a :: l, b :: m => Nat.beq a b && eqN l m
  | _, _ => false
/-- The same, of the sums of the first numbers. -/
def rBf (p : List Nat) (L : List (List Int × List Nat)) (K : List (List Nat)) : List (List Int) :=
  (L.filter fun q => leAll q.2 p && !eqN p q.2 && K.all fun r => !(!eqN p r && !eqN q.2 r && leAll r p && leAll q.2 r)).map (·.1)
def pairs (n : Nat) : List (List Int × List Nat) := (allN n).map fun l => (l, prefs l)
def prefsN (n : Nat) : List (List Nat) := (allN n).map prefs
def nextSame (n : Nat) : Bool := (allN n).all fun xs => decide (belowF xs = rBf (prefs xs) (pairs n) (prefsN n))
def memGood (n : Nat) : Bool := (allN n).all fun xs => partsOk xs && decide (pre xs xs.length = n)
set_option maxRecDepth 100000 in
theorem mem_good : (List.range 13).all memGood = true := by decide +kernel

set_option maxRecDepth 100000 in
theorem next_same : (List.range 13).all nextSame = true := by decide +kernel
theorem allN_isP {xs : List Int} {n : Nat} (hn : 1 ≤ n) (h12 : n ≤ 12) (h : xs ∈ allN n) : IsP xs n := by
  have h1 := List.all_eq_true.1 mem_good n (List.mem_range.2 (by omega))
  have h2 := List.all_eq_true.1 h1 xs h
  simp only [Bool.and_eq_true, decide_eq_true_eq] at h2
  exact ⟨h2.1, h2.2, hn⟩
theorem dom_antisymm {xs ys : List Int} {n : Nat} (hx : IsP xs n) (hy : IsP ys n) (h1 : Dom xs ys) (h2 : Dom ys xs) : xs = ys := by
  have hnth : ∀ k, nth xs k = nth ys k := fun k => by
    have a := h1 k; have b := h2 k; have c := h1 (k + 1); have d := h2 (k + 1)
    simp only [pre] at c d
    omega
  have hlen : xs.length = ys.length := by
    rcases Nat.lt_trichotomy xs.length ys.length with h | h | h
    · have := hy.nth_pos h; have := hnth xs.length; rw [nth_out (Nat.le_refl _)] at this; omega
    · exact h
    · have := hx.nth_pos h; have := hnth ys.length; rw [nth_out (xs := ys) (Nat.le_refl _)] at this; omega
  apply List.ext_getElem hlen
  intro k hk1 hk2
  have := hnth k
  simpa [nth, List.getD, hk1, hk2] using this
theorem eqN_iff : ∀ {a b : List Nat}, eqN a b = true ↔ a = b := by
  intro a
  induction a with
  | nil => intro b; cases b <;> simp [eqN]
  | cons x a ih => intro b; cases b <;> simp [eqN, ih]
theorem eqN_prefs {xs ys : List Int} {n : Nat} (hx : IsP xs n) (hy : IsP ys n) : eqN (prefs xs) (prefs ys) = decide (xs = ys) := by
  rw [Bool.eq_iff_iff, eqN_iff, decide_eq_true_eq]
  refine ⟨fun h => ?_, fun h => by rw [h]⟩
  have self : ∀ l : List Nat, leAll l l = true := fun l => by induction l <;> simp [leAll, *]
  exact dom_antisymm hx hy ((leAll_dom hx hy).1 (by rw [h]; exact self _)) ((leAll_dom hy hx).1 (by rw [h]; exact self _))
theorem unevR_leAll {xs ys : List Int} {n : Nat} (hx : IsP xs n) (hy : IsP ys n) : unevR xs ys = leAll (prefs ys) (prefs xs) := by
  rw [Bool.eq_iff_iff, unevR_dom hx hy, leAll_dom hx hy]
theorem rB_eq {xs : List Int} {n : Nat} (h : IsP xs n) : rB xs n = rBf (prefs xs) (pairs n) (prefsN n) := by
  have hp : ∀ b ∈ allN n, IsP b n := fun b hb => allN_isP h.pos h.le hb
  rw [rBf, pairs, List.filter_map, List.map_map, rB]
  have e : ((fun x : List Int × List Nat => x.1) ∘ fun l : List Int => (l, prefs l)) = id := rfl
  rw [e, List.map_id]
  refine List.filter_congr fun b hb => ?_
  have hb' := hp b hb
  simp only [nb, Function.comp, prefsN, List.all_map, unevR_leAll h hb', eqN_prefs h hb']
  congr 1
  rw [Bool.eq_iff_iff, List.all_eq_true, List.all_eq_true]
  refine forall_congr' fun c => ?_
  refine forall_congr' fun hc => ?_
  have hc' := hp c hc
  simp only [Function.comp, condC, unevR_leAll h hc', unevR_leAll hc' hb', eqN_prefs h hc', eqN_prefs hb' hc']
theorem below_rB {xs : List Int} {n : Nat} (h : IsP xs n) : belowF xs = rB xs n := by
  rw [rB_eq h]
  have h1 := List.all_eq_true.1 next_same n (List.mem_range.2 (by have := h.le; omega))
  have h2 := List.all_eq_true.1 h1 xs h.mem
  simpa using h2
end Go.Proofs.Ytmpdalcdkibgpaa
