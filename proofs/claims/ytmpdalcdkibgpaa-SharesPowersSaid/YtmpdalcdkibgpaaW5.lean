import Derived.Test.YtmpdalcdkibgpaaW4
import Derived.Test.YtmpdalcdkibgpaaShelf
import Derived.Sort.OwnSortedInts
namespace Go.Proofs.Ytmpdalcdkibgpaa
open Go.RowKit Go.Sort

/-- A slice of the call's own (blocks from 'base' on) that holds the numbers xs. -/
def Owned (w : World) (base : Nat) (v : Value) (xs : List Int) : Prop := w.ownsRow base 3 1 v xs.length (xs.map (Value.int .i64))

theorem Owned.ints {w : World} {base : Nat} {v : Value} {xs : List Int} (h : Owned w base v xs) : ∃ A c, v = .slice A xs.length c ∧ Ints w w.heap.size A xs.length c xs := by
  rcases h.2 with ⟨rfl, h0⟩ | ⟨g, cap, cur, rfl, _, hh, hn, hc, _, _⟩
  · have hx : xs = [] := List.eq_nil_of_length_eq_zero h0
    subst hx
    exact ⟨none, 0, rfl, Ints.none_ _ _⟩
  · refine ⟨_, _, rfl, rfl, hn, (by unfold maxLen at hc; omega), (fun e => by cases e), fun k hk => ⟨g, 0, rfl, (Array.getElem?_eq_some_iff.1 hh).1, ?_⟩⟩
    rw [Nat.zero_add, h.cellAt k (by omega)]
    simp [nth, List.getD, List.getElem?_eq_getElem hk]

theorem Owned.below {w w' : World} {base B : Nat} {v : Value} {xs : List Int} (h : Owned w base v xs) (hb : Below B w w') (hB : w.heap.size ≤ B) : Owned w' base v xs := by
  refine ⟨h.1, ?_⟩
  rcases h.2 with h0 | ⟨g, cap, cur, hv, hg, hh, r⟩
  · exact .inl h0
  · exact .inr ⟨g, cap, cur, hv, hg, by rw [hb.block g (by have := (Array.getElem?_eq_some_iff.1 hh).1; omega)]; exact hh, r⟩

theorem Ints.cells {w : World} {B n c : Nat} {A : Option Addr} {xs : List Int} (h : Ints w B A n c xs) (hn : 0 < n) :
    ∃ b off, A = some ⟨b, off, none⟩ ∧ b < B ∧ ∀ j, j < xs.length → w.cell? ⟨b, off + j, none⟩ = some (.int .i64 (xs.getD j 0)) := by
  obtain ⟨b, off, e, hb, _⟩ := h.at_ 0 hn
  refine ⟨b, off, e, hb, fun j hj => ?_⟩
  obtain ⟨b1, off1, e1, _, hc⟩ := h.at_ j (by have := h.len; omega)
  rw [e] at e1
  simp only [Option.some.injEq, Addr.mk.injEq, and_true] at e1
  obtain ⟨rfl, rfl⟩ := e1
  exact hc

theorem clone_any (A : Option Addr) (n c : Nat) (xs : List Int) (w : World) (B : Nat) (h : Ints w B A n c xs) (hn : n * 8 ≤ 140737488355328) :
    Calls Try.prog 57 #[.slice A n c] w fun e w' => ∃ v, e = .returned v ∧ Owned w' w.heap.size v xs ∧ Below w.heap.size w w' := by
  have hl := h.len
  cases A with
  | none =>
    have hc := h.bare rfl; have hcap := h.cap
    obtain rfl : n = 0 := by omega
    obtain rfl := List.eq_nil_of_length_eq_zero hl
    exact (Try.slices_Clone_int_nil 0 c w).mono fun e w' ⟨he, hw⟩ => ⟨_, he, World.ownsRow_nil _ _ _ _, hw ▸ Below.refl _ _⟩
  | some a =>
    rcases Nat.eq_zero_or_pos n with h0 | h0
    · subst h0
      obtain rfl := List.eq_nil_of_length_eq_zero hl
      exact (Try.slices_Clone_int_zero a c w).mono fun e w' ⟨v, he, ho, _, hb⟩ => ⟨v, he, ho, hb⟩
    · obtain ⟨b, off, e, hb, hc⟩ := h.cells h0
      cases e
      refine (Try.slices_Clone_int b off n c xs w (by omega) hn hc).mono fun e w' ⟨v, he, ho, _, hb⟩ => ⟨v, he, ?_, hb⟩
      rw [List.take_of_length_le (by omega)] at ho
      subst hl
      exact ho

theorem Ints.cut {w : World} {B n c : Nat} {A : Option Addr} {xs : List Int} (h : Ints w B A n c xs) {k : Nat} (hk : k ≤ n) : Ints w B A k c (xs.take k) :=
  ⟨by have := h.len; simp; omega, by have := h.cap; omega, h.most, h.bare, fun j hj => by
    obtain ⟨b, off, e, hb, hc⟩ := h.at_ j (by omega)
    exact ⟨b, off, e, hb, by rw [hc]; simp [nth, List.getD, List.getElem?_take, hj]⟩⟩

set_option maxHeartbeats 400000 in
theorem list_any (A : Option Addr) (n c : Nat) (xs : List Int) (w : World) (B : Nat) (h : Ints w B A n c xs) :
    Calls Try.prog 18 #[.slice A n c] w fun e w' => ∃ v, e = .returned v ∧ Owned w' w.heap.size v (xs.take 15) ∧ Below w.heap.size w w' := by
  have hm := h.most; have hcap := h.cap
  have hl := hide h.len
  have hx := hide (show xs.take 15 = xs.take (min (n : Int) 15).toNat from by
    have e := hl.out
    by_cases h1 : n ≤ 15
    · rw [List.take_of_length_le (by omega), List.take_of_length_le (by omega)]
    · rw [show (min (n : Int) 15).toNat = 15 from by omega])
  have hcut := hide (h.cut (k := (min (n : Int) 15).toNat) (by omega))
  have h8 : (min (n : Int) 15).toNat * 8 ≤ 140737488355328 := by omega
  clear h
  go_enter Try.func18, Try.ntmps18
  go_wp2_with fail
  refine (clone_any _ _ _ _ _ _ (unhide hcut) h8).mono ?_
  rintro e w' ⟨v, rfl, ho, hb⟩
  go_wp2_with fail
  go_ret
  exact ⟨_, rfl, by rw [hx.out]; exact ho, hb⟩

end Go.Proofs.Ytmpdalcdkibgpaa
