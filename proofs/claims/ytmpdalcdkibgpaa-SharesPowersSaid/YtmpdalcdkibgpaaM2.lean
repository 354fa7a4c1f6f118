/-
  Plain facts on parts: all of them listed; turned twice they are the same; turning turns the order over (looked at one by one).
-/
import Derived.Test.YtmpdalcdkibgpaaQ2
namespace Go.Proofs.Ytmpdalcdkibgpaa

/-- The numbers from m down to 1. -/
def downTo : Nat → List Nat
  | 0 => []
  | m + 1 => (m + 1) :: downTo m
/-- All parts of n with numbers up to 'most', the greatest first. -/
def allF : Nat → Nat → Nat → List (List Int)
  | 0, n, _ => if n = 0 then [[]] else []
  | f + 1, n, most => if n = 0 then [[]] else (downTo (min n most)).flatMap fun x => (allF f (n - x) x).map fun l => (x : Int) :: l

theorem mem_downTo {m x : Nat} : x ∈ downTo m ↔ 1 ≤ x ∧ x ≤ m := by
  induction m with
  | zero => simp [downTo]; omega
  | succ m ih => simp [downTo, ih]; omega

theorem nth_cons_succ (a : Int) (l : List Int) (k : Nat) : nth (a :: l) (k + 1) = nth l k := by simp [nth, List.getD]
theorem nth_cons_zero (a : Int) (l : List Int) : nth (a :: l) 0 = a := by simp [nth, List.getD]
theorem pre_cons (a : Int) (l : List Int) : ∀ k, pre (a :: l) (k + 1) = a + pre l k := by
  intro k
  induction k with
  | zero => simp [pre, nth_cons_zero]
  | succ k ih =>
    have e : pre (a :: l) (k + 1 + 1) = pre (a :: l) (k + 1) + nth (a :: l) (k + 1) := rfl
    rw [e, ih, nth_cons_succ]
    simp only [pre]
    omega
/-- Falling, positive. -/
def Fal (xs : List Int) : Prop := (∀ t, t < xs.length → 1 ≤ nth xs t) ∧ ∀ j, j < xs.length → 1 ≤ j → nth xs j ≤ nth xs (j - 1)
theorem Fal.tail {a : Int} {l : List Int} (h : Fal (a :: l)) : Fal l ∧ (∀ b r, l = b :: r → b ≤ a) ∧ 1 ≤ a := by
  refine ⟨⟨fun t ht => ?_, fun j hj h1 => ?_⟩, fun b r e => ?_, ?_⟩
  · have := h.1 (t + 1) (by simp; omega)
    rwa [nth_cons_succ] at this
  · have := h.2 (j + 1) (by simp; omega) (by omega)
    obtain ⟨i, rfl⟩ : ∃ i, j = i + 1 := ⟨j - 1, by omega⟩
    rw [nth_cons_succ, Nat.add_sub_cancel, nth_cons_succ] at this
    simpa using this
  · subst e
    have := h.2 1 (by simp) (by omega)
    rw [nth_cons_succ, nth_cons_zero] at this
    simpa [nth_cons_zero] using this
  · have := h.1 0 (by simp)
    rwa [nth_cons_zero] at this
theorem mem_allF : ∀ (xs : List Int) (f n most : Nat), Fal xs → pre xs xs.length = n → n ≤ f → (∀ b r, xs = b :: r → b ≤ most) → xs ∈ allF f n most := by
  intro xs
  induction xs with
  | nil =>
    intro f n most _ hs _ _
    have : n = 0 := by simp [pre] at hs; omega
    subst this
    cases f <;> simp [allF]
  | cons a l ih =>
    intro f n most hf hs hn hm
    obtain ⟨h1, h2, h3⟩ := hf.tail
    have hp : pre (a :: l) (a :: l).length = a + pre l l.length := pre_cons a l _
    rw [hp] at hs
    have h0 : (l.length : Int) ≤ pre l l.length := pre_pos fun t ht => h1.1 t ht
    have hma := hm a l rfl
    obtain ⟨x, rfl⟩ : ∃ x : Nat, a = x := ⟨a.toNat, by omega⟩
    obtain ⟨f, rfl⟩ : ∃ g, f = g + 1 := ⟨f - 1, by omega⟩
    have hn0 : n ≠ 0 := by omega
    rw [allF, if_neg hn0, List.mem_flatMap]
    refine ⟨x, mem_downTo.2 ⟨by omega, by omega⟩, List.mem_map.2 ⟨l, ih f (n - x) x h1 (by omega) (by omega) h2, rfl⟩⟩
theorem partsOk_Fal {xs : List Int} (h : partsOk xs = true) : Fal xs := by
  refine ⟨partsOk_pos h, ?_⟩
  have := partsOk_fal h
  rwa [isFal, decide_eq_true_eq] at this
/-- All parts of n. -/
def allN (n : Nat) : List (List Int) := allF n n n
theorem parts_mem {xs : List Int} {n : Nat} (h : partsOk xs = true) (hn : pre xs xs.length = n) : xs ∈ allN n := by
  refine mem_allF xs n n n (partsOk_Fal h) hn (Nat.le_refl _) fun b r e => ?_
  have h1 := pre_mono (partsOk_pos h) (k := 1) (by rw [e]; simp)
  have h2 : pre xs 1 = b := by rw [e]; simp [pre, nth_cons_zero]
  omega

def prefs (xs : List Int) : List Nat := (List.range 13).map fun k => (pre xs k).toNat
def leAll : List Nat → List Nat → Bool
  | a :: l, b :: m => Nat.ble a b && leAll l m
  | _, _ => true
def turnGood (n : Nat) : Bool := (allN n).all fun xs => partsOk (turnF xs) && decide (pre (turnF xs) (turnF xs).length = n) && decide (turnF (turnF xs) = xs)
def both (n : Nat) : List (List Nat × List Nat) := (allN n).map fun xs => (prefs xs, prefs (turnF xs))
def orderGood (n : Nat) : Bool := (both n).all fun p => (both n).all fun q => (leAll q.1 p.1) == (leAll p.2 q.2)
end Go.Proofs.Ytmpdalcdkibgpaa
