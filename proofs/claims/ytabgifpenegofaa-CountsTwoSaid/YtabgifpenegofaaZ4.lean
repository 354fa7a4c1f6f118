/-
  family of the program: the keys of all tables with some sums.
-/
import Derived.Test.YtabgifpenegofaaZ3
import Derived.Test.YtabgifpenegofaaX1
namespace Go.Proofs.Ytabgifpenegofaa
open Go.RowKit

/-- The key of the lines x, y and of what they leave of c. -/
def kx (c : Nat → Int) (x y : List Int) : List Int := [nth x 0, nth x 1, nth x 2, nth y 0, nth y 1, nth y 2, c 0 - nth x 0 - nth y 0, c 1 - nth x 1 - nth y 1, c 2 - nth x 2 - nth y 2]
def lft (c : Nat → Int) (x : List Int) (i : Nat) : Int := c i - nth x i
def fm2 (r c : Nat → Int) (x : List Int) (ys : List (List Int)) : List (List Int) := ys.flatMap fun y => if (c 0 - nth x 0 - nth y 0) + (c 1 - nth x 1 - nth y 1) + (c 2 - nth x 2 - nth y 2) = r 2 then [kx c x y] else []
def fm1 (r c : Nat → Int) (xs : List (List Int)) : List (List Int) := xs.flatMap fun x => fm2 r c x (ptsL (r 1) (lft c x))
/-- The keys of all tables whose rows sum to r, whose columns sum to c. -/
def famL (r c : Nat → Int) : List (List Int) := fm1 r c (ptsL (r 0) c)
theorem take_row (xs : List (List Int)) (k : Nat) (h : k < xs.length) : xs.take (k + 1) = xs.take k ++ [row xs k] := by
  rw [List.take_succ_eq_append_getElem h]; simp [row, List.getD, h]
theorem fm2_succ (r c : Nat → Int) (x : List Int) (ys : List (List Int)) (k : Nat) (h : k < ys.length) : fm2 r c x (ys.take (k + 1)) = fm2 r c x (ys.take k) ++ (if (c 0 - nth x 0 - nth (row ys k) 0) + (c 1 - nth x 1 - nth (row ys k) 1) + (c 2 - nth x 2 - nth (row ys k) 2) = r 2 then [kx c x (row ys k)] else []) := by
  rw [take_row ys k h]; unfold fm2; rw [List.flatMap_append]; simp
theorem fm1_succ (r c : Nat → Int) (xs : List (List Int)) (k : Nat) (h : k < xs.length) : fm1 r c (xs.take (k + 1)) = fm1 r c (xs.take k) ++ fm2 r c (row xs k) (ptsL (r 1) (lft c (row xs k))) := by
  rw [take_row xs k h]; unfold fm1; rw [List.flatMap_append]; simp
theorem fm2_len (r c : Nat → Int) (x : List Int) : ∀ ys : List (List Int), (fm2 r c x ys).length ≤ ys.length
  | [] => by simp [fm2]
  | y :: l => by
    have := fm2_len r c x l
    have e : fm2 r c x (y :: l) = (if (c 0 - nth x 0 - nth y 0) + (c 1 - nth x 1 - nth y 1) + (c 2 - nth x 2 - nth y 2) = r 2 then [kx c x y] else []) ++ fm2 r c x l := by simp [fm2]
    rw [e, List.length_append, List.length_cons]
    split <;> simp <;> omega
theorem fm1_len {r c : Nat → Int} (hr : r 1 ≤ 16) : ∀ xs : List (List Int), (fm1 r c xs).length ≤ 289 * xs.length
  | [] => by simp [fm1]
  | x :: l => by
    have h1 := fm1_len (c := c) hr l
    have h2 := fm2_len r c x (ptsL (r 1) (lft c x))
    have h3 := ptsL_len (h := lft c x) hr
    have e : fm1 r c (x :: l) = fm2 r c x (ptsL (r 1) (lft c x)) ++ fm1 r c l := by simp [fm1]
    rw [e, List.length_append, List.length_cons]
    omega
theorem famL_len {r c : Nat → Int} (h0 : r 0 ≤ 16) (h1 : r 1 ≤ 16) : (famL r c).length ≤ 83521 := by
  have := fm1_len (c := c) h1 (ptsL (r 0) c)
  have := ptsL_len (h := c) h0
  unfold famL
  omega
theorem infoX (a b c : Int) : (Try.prog.info? 75).map (·.size) = some (#[.int .i64 a, .int .i64 b, .int .i64 c] : Array Value).size := info75 (nth [a, b, c])
theorem allX (a b c : Int) : (#[.int .i64 a, .int .i64 b, .int .i64 c] : Array Value).all (·.oneCell') = true := lnA_all (nth [a, b, c])
theorem new_line (W : World) (a b c : Int) : ∃ W1 W2, W.alloc (.cells #[.int .i64 0, .int .i64 0, .int .i64 0] 75) = W1 ∧ W1.setRow W.heap.size #[.int .i64 a, .int .i64 b, .int .i64 c] = W2 ∧ Hid (Blk W1 W.heap.size 75 (lnA fun _ => 0)) ∧ Hid (Blk W2 W.heap.size 75 #[.int .i64 a, .int .i64 b, .int .i64 c]) ∧ Hid (Below W.heap.size W W2) := by
  have h1 : Blk (W.alloc (.cells #[.int .i64 0, .int .i64 0, .int .i64 0] 75)) W.heap.size 75 (lnA fun _ => 0) := Blk.new _ _ _
  exact ⟨_, _, rfl, rfl, hide h1, hide (setRow_heap _ W.heap.size (lnA fun _ => 0) _ 75 (0, 0) h1), hide (below_setRow ((Below.refl _ W).alloc (Nat.le_refl _) _) (Nat.le_refl _) _)⟩
theorem new_lineF (W : World) (f : Nat → Int) : ∃ W1 W2, W.alloc (.cells #[.int .i64 0, .int .i64 0, .int .i64 0] 75) = W1 ∧ W1.setRow W.heap.size (lnA f) = W2 ∧ Hid (Blk W1 W.heap.size 75 (lnA fun _ => 0)) ∧ Hid (Blk W2 W.heap.size 75 (lnA f)) ∧ Hid (Below W.heap.size W W2) := new_line W (f 0) (f 1) (f 2)
/-- All but one block of the world is as it was. -/
structure But (w w' : World) (o : Option Nat) : Prop where
  size : w.heap.size ≤ w'.heap.size
  at_ : ∀ k, k < w.heap.size → some k ≠ o → w'.heap[k]? = w.heap[k]?
theorem But.refl (w : World) (o : Option Nat) : But w w o := ⟨Nat.le_refl _, fun _ _ _ => rfl⟩
theorem But.below {w w' w2 : World} {o : Option Nat} (h : But w w' o) (hb : Below w'.heap.size w' w2) : But w w2 o :=
  ⟨Nat.le_trans h.size hb.size, fun k hk hne => (hb.block k (by have := h.size; omega)).trans (h.at_ k hk hne)⟩
theorem But.app {w w' w2 : World} {o vb : Option Nat} (hb : But w w' o) (hv : ∀ g, vb = some g → some g = o ∨ w.heap.size ≤ g) (hk : ∀ k, k < w'.heap.size → some k ≠ vb → w2.heap[k]? = w'.heap[k]?) (hs : w'.heap.size ≤ w2.heap.size) : But w w2 o := by
  refine ⟨Nat.le_trans hb.size hs, fun k hlt hne => ?_⟩
  refine (hk k (Nat.lt_of_lt_of_le hlt hb.size) ?_).trans (hb.at_ k hlt hne)
  intro e
  rcases hv k e.symm with h | h
  · exact hne h
  · omega
theorem But.blk {w w' : World} {o : Option Nat} {g : Nat} {t : TypeId} {cs : Array Value} (hb : But w w' o) (h : Blk w g t cs) (hne : some g ≠ o) : Blk w' g t cs := (hb.at_ g h.lt hne).trans h
theorem As.but {w w' : World} {A : Option Addr} {n c s : Nat} {xs : List (List Int)} {o : Option Nat} (h : As w w.heap.size A n c s xs) (hb : But w w' o) (ho : ∀ b off, A = some ⟨b, off, none⟩ → some b ≠ o) : As w' w'.heap.size A n c s xs :=
  ⟨h.len, h.cap, h.most, h.bare, h.each, fun k hk => by
    obtain ⟨b, off, e, hlt, h1⟩ := h.at_ k hk
    refine ⟨b, off, e, by have := hb.size; omega, fun j hj => ?_⟩
    rw [← h1 j hj, World.cell?_of_block (hb.at_ b hlt (ho b off e))]⟩
theorem As.three {w : World} {B : Nat} {A : Option Addr} {n c : Nat} {xs : List (List Int)} (h : As w B A n c 3 xs) {k : Nat} (hk : k < n) : ∃ b off, A = some ⟨b, off, none⟩ ∧ b < B ∧ w.cell? ⟨b, off + k * 3, none⟩ = some (.int .i64 (nth (row xs k) 0)) ∧ w.cell? ⟨b, off + k * 3 + 1, none⟩ = some (.int .i64 (nth (row xs k) 1)) ∧ w.cell? ⟨b, off + k * 3 + 2, none⟩ = some (.int .i64 (nth (row xs k) 2)) := by
  obtain ⟨b, off, e, hlt, h1⟩ := h.at_ k hk
  exact ⟨b, off, e, hlt, h1 0 (by omega), h1 1 (by omega), h1 2 (by omega)⟩
end Go.Proofs.Ytabgifpenegofaa
