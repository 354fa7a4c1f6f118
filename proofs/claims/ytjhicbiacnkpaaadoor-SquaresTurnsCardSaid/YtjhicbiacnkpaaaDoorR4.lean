/-
  Rows in young blocks, read only; the clues of a picture, plain.
-/
import Derived.Test.YtjhicbiacnkpaaaDoorR3
import Derived.Test.YtjhicbiacnkpaaaDoorM4
import Derived.Test.YtjhicbiacnkpaaaDoorW6
namespace Go.Proofs.YtjhicbiacnkpaaaDoor
open Go.RowKit

structure RowsF (w : World) (lo B : Nat) (A : Option Addr) (n c : Nat) (xss : List (List Int)) : Prop where
  len : xss.length = n
  cap : n ≤ c
  most : c ≤ 9223372036854775807
  bare : A = none → c = 0
  at_ : ∀ k, k < n → ∃ b off A' n' c', A = some ⟨b, off, none⟩ ∧ (lo ≤ b ∧ b < B) ∧ w.cell? ⟨b, off + k, none⟩ = some (.slice A' n' c') ∧ Ints w B A' n' c' (row xss k) ∧ ∀ b' off', A' = some ⟨b', off', none⟩ → lo ≤ b'
theorem RowsF.rows {w : World} {lo B n c : Nat} {A : Option Addr} {xss : List (List Int)} (h : RowsF w lo B A n c xss) : Rows_ w B A n c xss :=
  ⟨h.len, h.cap, h.most, h.bare, fun k hk => by
    obtain ⟨b, off, A', n', c', e, hb, hc, hi, _⟩ := h.at_ k hk
    exact ⟨b, off, A', n', c', e, hb.2, hc, hi⟩⟩
theorem RowsF.keep {w w' : World} {lo B n c : Nat} {A : Option Addr} {xss : List (List Int)} (h : RowsF w lo B A n c xss) (hk : ∀ b, lo ≤ b → b < B → w'.heap[b]? = w.heap[b]?) : RowsF w' lo B A n c xss :=
  ⟨h.len, h.cap, h.most, h.bare, fun k hk' => by
    obtain ⟨b, off, A', n', c', e, hb, hc, hi, hl⟩ := h.at_ k hk'
    refine ⟨b, off, A', n', c', e, hb, by rw [World.cell?_of_block (hk b hb.1 hb.2)]; exact hc, ⟨hi.len, hi.cap, hi.most, hi.bare, fun j hj => ?_⟩, hl⟩
    obtain ⟨b2, off2, e2, hb2, hc2⟩ := hi.at_ j hj
    exact ⟨b2, off2, e2, hb2, by rw [World.cell?_of_block (hk b2 (hl b2 off2 e2) hb2)]; exact hc2⟩⟩
theorem RowsF.below {w w' : World} {lo B n c : Nat} {A : Option Addr} {xss : List (List Int)} (h : RowsF w lo B A n c xss) (hb : Below B w w') : RowsF w' lo B A n c xss := h.keep fun b _ h2 => hb.block b h2
theorem RowsF.set {w : World} {lo B n c g o : Nat} {A : Option Addr} {xss : List (List Int)} (h : RowsF w lo B A n c xss) (hg : g < lo) (u : Value) : RowsF (w.setCell ⟨g, o, none⟩ u) lo B A n c xss :=
  h.keep fun b h1 _ => heap_setCell_other w ⟨g, o, none⟩ b u (by show b ≠ g; omega)
theorem OwnF.rowsF {w : World} {base : Nat} {v : Value} {xss : List (List Int)} (h : OwnF w base v xss) : ∃ A n c, v = .slice A n c ∧ RowsF w base w.heap.size A n c xss := by
  obtain ⟨A, n, c, rfl, hr⟩ := h.to
  refine ⟨A, n, c, rfl, hr.len, hr.cap, hr.most, hr.bare, fun k hk => ?_⟩
  obtain ⟨b, off, A', n', c', e, hb, hc, hi⟩ := hr.at_ k hk
  have hl := h.lt
  obtain ⟨vs, hvl, ho, he⟩ := h
  have hkv : k < vs.length := by rw [hvl, hr.len]; exact hk
  have hcell : w.cell? ⟨b, off + k, none⟩ = some vs[k] := by
    rcases ho.2 with ⟨h1, _⟩ | ⟨g, cap, cur, hv, _⟩
    · cases h1; cases e
    · simp only [Value.slice.injEq] at hv
      obtain ⟨hv1, hv2, hv3⟩ := hv
      rw [e] at hv1
      simp only [Option.some.injEq, Addr.mk.injEq, and_true] at hv1
      obtain ⟨rfl, rfl⟩ := hv1
      subst e
      have ho' := ho
      rw [← hv2] at ho'
      rw [Nat.zero_add, ho'.cellAt k (by omega)]
      exact List.getElem?_eq_getElem hkv
  rw [hc] at hcell
  simp only [Option.some.injEq] at hcell
  obtain ⟨_, h2⟩ := he k vs[k] (List.getElem?_eq_getElem hkv)
  refine ⟨b, off, A', n', c', e, ⟨?_, hb⟩, hc, hi, fun b' off' e' => h2 A' n' c' hcell.symm b' off' e'⟩
  subst e
  exact (hl b rfl).1

/-- A column of a picture, as a set. -/
def colT (xs : List Int) (c : Nat) : Nat → Nat
  | 0 => 0
  | k + 1 => colT xs c k ||| (nth xs k).toNat / 2 ^ c % 2 * 2 ^ k
theorem colT_lt (xs : List Int) (c : Nat) : ∀ k, colT xs c k < 2 ^ k := by
  intro k
  induction k with
  | zero => exact Nat.one_pos
  | succ k ih =>
    have h1 : colT xs c k < 2 ^ (k + 1) := Nat.lt_of_lt_of_le ih (Nat.pow_le_pow_right (by omega) (by omega))
    have h2 : (nth xs k).toNat / 2 ^ c % 2 * 2 ^ k < 2 ^ (k + 1) := by
      have := Nat.two_pow_pos k
      have h3 : (nth xs k).toNat / 2 ^ c % 2 < 2 := Nat.mod_lt _ (by omega)
      rw [Nat.pow_succ]
      rcases (show (nth xs k).toNat / 2 ^ c % 2 = 0 ∨ (nth xs k).toNat / 2 ^ c % 2 = 1 by omega) with h | h <;> rw [h] <;> omega
    exact Nat.or_lt_two_pow h1 h2
def colC (xs : List Int) (c : Nat) : Nat := colT xs c xs.length
def blI (z : Int) : List Int := bl z.toNat
def rowsP (xs : List Int) : List (List Int) := xs.map blI
def colsP (m : Nat) (xs : List Int) : List (List Int) := (List.range m).map fun c => bl (colC xs c)
theorem rowsP_snoc {xs : List Int} {k : Nat} (hk : k < xs.length) : (rowsP xs).take (k + 1) = (rowsP xs).take k ++ [bl (nth xs k).toNat] := by
  rw [List.take_succ_eq_append_getElem (by simpa [rowsP] using hk)]
  simp [rowsP, blI, nth, List.getD, hk]
theorem colsP_snoc (m : Nat) (xs : List Int) {k : Nat} (hk : k < m) : (colsP m xs).take (k + 1) = (colsP m xs).take k ++ [bl (colC xs k)] := by
  rw [List.take_succ_eq_append_getElem (by simpa [colsP] using hk)]
  simp [colsP]
theorem ars_at {m : Nat} (h1 : 1 ≤ m) (h2 : m ≤ 5) {xs : List Int} (h : ars m xs = true) {k : Nat} (hk : k < xs.length) : ∃ y : Nat, nth xs k = (y : Int) ∧ y < 2 ^ m := by
  unfold ars at h
  rw [Bool.and_eq_true] at h
  exact (setB_iff h1 h2 _).1 (List.all_eq_true.1 h.2 _ (nth_mem hk))
end Go.Proofs.YtjhicbiacnkpaaaDoor
