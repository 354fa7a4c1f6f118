import Derived.Test.YtdlbahoenhhkdaaTe
/-
  The law SketchOrder: combined contracts, exchanges.
-/
namespace Go.Proofs.Ytdlbahoenhhkdaa
open Go.RowKit

def errOf (b : Bool) : Int := if b then 0 else 2
def tabOut (d m : Int) (xs : List Int) : List (List Int) := if (sizeB d m && isStr xs) then tabL d.toNat m.toNat (tabF xs m.toNat) else []
def heavyOut (k : Int) (xs : List Int) : List Int := if (cntB k && isStr xs) then heavy k xs else []

theorem Rows_.none_ (w : World) (B : Nat) : Rows_ w B none 0 0 [] := ⟨rfl, Nat.le_refl _, by omega, fun _ => rfl, fun k h => absurd h (by omega)⟩

theorem Table_all (A : Option Addr) (n c : Nat) (xs : List Int) (d m : Int) (w : World) (h : Ints w w.heap.size A n c xs) :
    Calls Try.prog 35 #[.int .i64 d, .int .i64 m, .slice A n c] w fun e w' => ∃ A' n' c', e = .returned (.tuple #[.slice A' n' c', .int .i64 (errOf (sizeB d m && isStr xs))]) ∧ Rows_ w' w'.heap.size A' n' c' (tabOut d m xs) ∧ Below w.heap.size w w' := by
  rcases hv : (sizeB d m && isStr xs)
  · refine (Table_no _ _ _ _ _ _ _ _ h (hide hv)).mono ?_
    rintro e w' ⟨rfl, rfl⟩
    refine ⟨none, 0, 0, rfl, ?_, Below.refl _ _⟩
    rw [tabOut, hv]
    exact Rows_.none_ _ _
  · have hv' := hv
    simp only [Bool.and_eq_true] at hv
    obtain ⟨h1, h2⟩ := hv
    have hb := sizeB_bd h1
    obtain ⟨d', rfl⟩ : ∃ d' : Nat, d = d' := ⟨d.toNat, by omega⟩
    obtain ⟨m', rfl⟩ : ∃ m' : Nat, m = m' := ⟨m.toNat, by omega⟩
    refine (Table_ok _ _ _ _ _ _ _ h (hide h1) (hide h2)).mono ?_
    rintro e w' ⟨rfl, ht, hb'⟩
    refine ⟨_, _, _, rfl, ?_, hb'⟩
    rw [tabOut, hv', if_pos rfl]
    exact ht.rows_ (by omega) (by omega)
theorem Heavy_all (A : Option Addr) (n c : Nat) (xs : List Int) (k : Int) (w : World) (h : Ints w w.heap.size A n c xs) :
    Calls Try.prog 27 #[.int .i64 k, .slice A n c] w fun e w' => ∃ A' n' c', e = .returned (.tuple #[.slice A' n' c', .int .i64 (errOf (cntB k && isStr xs))]) ∧ Ints w' w'.heap.size A' n' c' (heavyOut k xs) ∧ Below w.heap.size w w' := by
  rcases hv : (cntB k && isStr xs)
  · refine (Heavy_no _ _ _ _ _ _ _ h (hide hv)).mono ?_
    rintro e w' ⟨rfl, rfl⟩
    refine ⟨none, 0, 0, rfl, ?_, Below.refl _ _⟩
    rw [heavyOut, hv]
    exact Ints.none_ _ _
  · have hv' := hv
    simp only [Bool.and_eq_true] at hv
    obtain ⟨h1, h2⟩ := hv
    refine (Heavy_ok _ _ _ _ _ _ h (hide h2) (hide h1)).mono ?_
    rintro e w' ⟨v, rfl, ho, hb'⟩
    obtain ⟨A', c', rfl, hi⟩ := ho.ints
    refine ⟨_, _, _, rfl, ?_, hb'⟩
    rw [heavyOut, hv', if_pos rfl]
    exact hi

theorem Owned.reads {w : World} {base n c : Nat} {A : Option Addr} {xs : List Int} (h : Owned w base (.slice A n c) xs) : Ints w w.heap.size A n c xs := by
  obtain ⟨A', c', e, hi⟩ := h.ints
  simp only [Value.slice.injEq] at e
  obtain ⟨rfl, rfl, rfl⟩ := e
  exact hi
theorem Owned.drewN {w : World} {base : Nat} {v : Value} {xs : List Int} (h : Owned w base v xs) (k : Nat) : Owned (w.drewN k) base v xs := h

/-- Two numbers exchanged. -/
def swapL (ys : List Int) (p q : Nat) : List Int := (ys.set p (nth ys q)).set q (nth ys p)
theorem swapL_perm (ys : List Int) (p q : Nat) (hp : p < ys.length) (hq : q < ys.length) : (swapL ys p q).Perm ys := by
  have h := List.set_set_perm hp hq
  simpa [swapL, nth, List.getD, hp, hq] using h
theorem swapL_same (ys : List Int) (p : Nat) : swapL ys p p = ys.set p (nth ys p) := by simp [swapL]

theorem perm_often {xs ys : List Int} (h : ys.Perm xs) (key : Int) : often ys key = often xs key := by
  rw [often_count, often_count, h.count_eq]
theorem perm_str {xs ys : List Int} (h : ys.Perm xs) : isStr ys = isStr xs := by
  unfold isStr
  rw [h.length_eq]
  congr 1
  unfold allIn
  rw [Bool.eq_iff_iff]
  simp only [List.all_eq_true]
  exact ⟨fun H x hx => H x (h.mem_iff.2 hx), fun H x hx => H x (h.mem_iff.1 hx)⟩
theorem perm_tab {xs ys : List Int} (h : ys.Perm xs) (d m : Int) : tabOut d m ys = tabOut d m xs := by
  unfold tabOut
  rw [perm_str h]
  have e : tabF ys m.toNat = tabF xs m.toNat := by
    funext r i
    unfold tabF progF
    exact sumK_congr 16 fun k _ => by rw [perm_often h]
  rw [e]
theorem perm_heavy {xs ys : List Int} (h : ys.Perm xs) (k : Int) : heavyOut k ys = heavyOut k xs := by
  unfold heavyOut
  rw [perm_str h]
  have e : ∀ j, heavyTo k ys j = heavyTo k xs j := by
    intro j
    induction j with
    | zero => rfl
    | succ j ih => rw [heavyTo, heavyTo, ih, perm_often h, h.length_eq]
  unfold heavy
  rw [e]

theorem pick_pos (x : Int) {n : Nat} (hn : 0 < n) (hn2 : n ≤ 1000) : ∃ p : Nat, wrap64 ((IntKind.u64.wrap x).tmod (n : Int)) = p ∧ p < n := by
  have h0 : 0 ≤ IntKind.u64.wrap x := by rw [IntKind.wrap_u64]; omega
  have h1 : (IntKind.u64.wrap x).tmod n = IntKind.u64.wrap x % n := Int.tmod_eq_emod_of_nonneg h0
  have h2 := Int.emod_nonneg (IntKind.u64.wrap x) (show (n : Int) ≠ 0 by omega)
  have h3 := Int.emod_lt_of_pos (IntKind.u64.wrap x) (show 0 < (n : Int) by omega)
  rw [h1, IntWalk.wrap64_in _ (by omega)]
  exact ⟨(IntKind.u64.wrap x % n).toNat, by omega, by omega⟩
theorem pick_idx (j : Nat) {n : Nat} (hn : 0 < n) : ∃ p : Nat, (j : Int) % (n : Int) = p ∧ p < n := ⟨j % n, by simp, Nat.mod_lt _ hn⟩
end Go.Proofs.Ytdlbahoenhhkdaa
