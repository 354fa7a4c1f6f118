/-
  copyOf: rows of the call's own, each in a block of its own, that may be written; Turn of the program and of the reference.
-/
import Derived.Test.YtjhicbiacnkpaaaDoorWg
import Derived.Test.YtjhicbiacnkpaaaDoorWh
namespace Go.Proofs.YtjhicbiacnkpaaaDoor
open Go.RowKit

/-- The cells of n slices, of which the first k are there. -/
def outF (n : Nat) (F : Nat → Value) (k : Nat) : Array Value := ((List.range n).map fun r => if r < k then F r else .slice none 0 0).toArray
theorem outF_at (n : Nat) (F : Nat → Value) (k r : Nat) (h : r < n) : (outF n F k)[r]? = some (if r < k then F r else .slice none 0 0) := by simp [outF, h]
theorem outF_set (n : Nat) (F F' : Nat → Value) (k : Nat) (v : Value) (hv : F' k = v) (h : ∀ r, r < k → F' r = F r) (hk : k < n) : (outF n F k).setIfInBounds k v = outF n F' (k + 1) := by
  apply Array.ext_getElem?
  intro i
  rw [Array.getElem?_setIfInBounds]
  by_cases hi : k = i
  · subst hi
    rw [if_pos rfl, if_pos (by simpa [outF] using hk), outF_at _ _ _ _ hk, if_pos (by omega), hv]
  · rw [if_neg hi]
    by_cases h2 : i < n
    · rw [outF_at _ _ _ _ h2, outF_at _ _ _ _ h2]
      by_cases h3 : i < k
      · rw [if_pos h3, if_pos (by omega), h i h3]
      · rw [if_neg h3, if_neg (by omega)]
    · rw [Array.getElem?_eq_none (by simp [outF]; omega), Array.getElem?_eq_none (by simp [outF]; omega)]
theorem outF_nils (n : Nat) (F : Nat → Value) {Z : Array Value} (h : Z.toList = List.replicate n (.slice none 0 0)) : Z = outF n F 0 := by
  apply Array.toList_inj.1
  rw [h]
  simp [outF]
  apply List.ext_getElem <;> simp

/-- A slice of slices of the call's own: its outer block, and the first k rows, each of them in a block of its own behind it. -/
structure Fil (w : World) (g n k : Nat) (F : Nat → Value) (X : Nat → List Int) : Prop where
  outer : Blk w g 22 (outF n F k)
  rows : ∀ r, r < k → Owned w (g + 1) (F r) (X r)
  apart : ∀ r s, r < k → s < k → r ≠ s → ∀ b, (F r).ownBlock = some b → (F s).ownBlock ≠ some b
theorem Owned.on {w w' : World} {base : Nat} {v : Value} {xs : List Int} (h : Owned w base v xs) (hb : Below w.heap.size w w') : Owned w' base v xs := h.below hb (Nat.le_refl _)
theorem Owned.farC {w : World} {base : Nat} {v : Value} {xs : List Int} (h : Owned w base v xs) {g : Nat} (hg : g < base) (o : Nat) (u : Value) : Owned (w.setCell ⟨g, o, none⟩ u) base v xs := by
  refine ⟨h.1, ?_⟩
  rcases h.2 with h0 | ⟨b, cap, cur, hv, hb, hh, r⟩
  · exact .inl h0
  · exact .inr ⟨b, cap, cur, hv, hb, (heap_setCell_other w ⟨g, o, none⟩ b u (by show b ≠ g; omega)).trans hh, r⟩
theorem Owned.blk {w : World} {base : Nat} {v : Value} {xs : List Int} (h : Owned w base v xs) : ∀ b, v.ownBlock = some b → base ≤ b ∧ b < w.heap.size := World.ownsRow.lt h
theorem Owned.lower {w : World} {base base' : Nat} {v : Value} {xs : List Int} (h : Owned w base v xs) (hb : base' ≤ base) : Owned w base' v xs := by
  refine ⟨h.1, ?_⟩
  rcases h.2 with h0 | ⟨b, cap, cur, hv, hb2, r⟩
  · exact .inl h0
  · exact .inr ⟨b, cap, cur, hv, by omega, r⟩
theorem Fil.on {w w' : World} {g n k : Nat} {F : Nat → Value} {X : Nat → List Int} (h : Fil w g n k F X) (hb : Below w.heap.size w w') : Fil w' g n k F X :=
  ⟨h.outer.below hb h.outer.lt, fun r hr => (h.rows r hr).on hb, h.apart⟩
theorem Fil.far {w : World} {g n k p : Nat} {F : Nat → Value} {X : Nat → List Int} (h : Fil w g n k F X) (hp : p < g) (o : Nat) (u : Value) : Fil (w.setCell ⟨p, o, none⟩ u) g n k F X :=
  ⟨h.outer.far (p := ⟨p, o, none⟩) (by show g ≠ p; omega) u, fun r hr => (h.rows r hr).farC (by omega) o u, h.apart⟩
theorem Fil.put {w w' : World} {g n k : Nat} {F : Nat → Value} {X : Nat → List Int} {v : Value} (h : Fil w g n k F X) (hb : Below w.heap.size w w') (hk : k < n) (hv : Owned w' w.heap.size v (X k)) :
    Fil (w'.setCell ⟨g, k, none⟩ v) g n (k + 1) (fun r => if r = k then v else F r) X := by
  have h' := h.on hb
  have hg := h.outer.lt
  refine ⟨?_, fun r hr => ?_, fun r s hr hs hrs b e => ?_⟩
  · rw [← outF_set n F _ k v (by simp) (fun r hr => by simp; omega) hk]
    exact h'.outer.set_ k v
  · by_cases e : r = k
    · subst e; simpa using (hv.lower (show g + 1 ≤ w.heap.size by omega)).farC (Nat.lt_succ_self g) r v
    · simpa [e] using (h'.rows r (by omega)).farC (Nat.lt_succ_self g) k v
  · by_cases e1 : r = k
    · subst e1
      simp only [if_true] at e
      have h1 := (hv.blk b e).1
      rw [if_neg (fun x => hrs x.symm)]
      intro e2
      have h2 := ((h.rows s (by omega)).blk b e2).2
      omega
    · rw [if_neg e1] at e
      by_cases e3 : s = k
      · subst e3
        simp only [if_true]
        intro e2
        have h1 := (hv.blk b e2).1
        have h2 := ((h.rows r (by omega)).blk b e).2
        omega
      · rw [if_neg e3]
        exact h.apart r s (by omega) (by omega) hrs b e
theorem Fil.rowsF {w : World} {g n : Nat} {F : Nat → Value} {R : List (List Int)} (h : Fil w g n n F (row R)) (hl : R.length = n) (hn : n ≤ 1000000) : RowsF w g w.heap.size (some ⟨g, 0, none⟩) n n R := by
  refine ⟨hl, Nat.le_refl _, by omega, (fun e => by cases e), fun r hr => ?_⟩
  have ho := h.rows r hr
  obtain ⟨A, c, e, hi⟩ := ho.ints
  refine ⟨g, 0, A, _, c, rfl, ⟨Nat.le_refl _, h.outer.lt⟩, by rw [Nat.zero_add, h.outer.cell, outF_at _ _ _ _ hr, if_pos hr, e], hi, fun b off e2 => ?_⟩
  have := (ho.blk b (by rw [e, e2]; rfl)).1
  omega

set_option maxRecDepth 100000 in
set_option maxHeartbeats 1000000 in
theorem copyOf_any (A : Option Addr) (n c : Nat) (R : List (List Int)) (w : World) (h : Rows_ w w.heap.size A n c R) (hn : n ≤ 5) (HR : Hid (∀ k, k < n → (row R k).length ≤ 1000)) :
    Calls Tryd.prog 83 #[.slice A n c] w fun e w' => ∃ g F, e = .returned (.slice (some ⟨g, 0, none⟩) n n) ∧ Fil w' g n n F (row R) ∧ w.heap.size ≤ g ∧ Below w.heap.size w w' := by
  have hm := h.most; have hcap := h.cap
  obtain ⟨Z, hZ, hmk⟩ := make_nils n (by omega)
  have HZ := hide (outF_nils n (fun _ => .slice none 0 0) hZ)
  clear hZ
  obtain ⟨W0, hW0⟩ : ∃ W0 : World, W0 = w.alloc (.cells Z 22) := ⟨_, rfl⟩
  have HB0 := hide (show Below w.heap.size w W0 from by rw [hW0]; exact (Below.refl _ w).alloc (Nat.le_refl _) _)
  have HF0 := hide (show Fil W0 w.heap.size n 0 (fun _ => .slice none 0 0) (row R) from by
    refine ⟨?_, fun r hr => absurd hr (by omega), fun r s hr => absurd hr (by omega)⟩
    rw [hW0, HZ.out]
    exact Blk.new w 22 _)
  have e0 := hW0.symm
  clear hW0
  go_enter Tryd.func83, Tryd.ntmps83
  go_wp2_with fail
  clear e0 hmk
  go_loopw [4, 5, 11] (fun _ _ i wr => ∃ k : Nat, ∃ F : Nat → Value, k ≤ n ∧ i = .int .i64 k ∧ Hid (Fil wr w.heap.size n k F (row R)) ∧ Hid (Below w.heap.size w wr)) (fun _ _ i _ => n - (intOf i).toNat)
  case atStart => exact ⟨0, _, Nat.zero_le _, rfl, HF0, HB0⟩
  case round =>
    obtain ⟨k, F, hk, rfl, HF, HB⟩ := hrel
    by_cases hlt : k < n
    · obtain ⟨b, off, A', n', c', rfl, hb, hc, hi⟩ := (h.below (unhide HB)).at_ k hlt
      have hn' := hi.len
      have HI := hide (hi.more (unhide HB).size); clear hi
      have hlen := hide (show n' ≤ 100000 from by rw [← hn']; have := HR.out k hlt; omega)
      clear hn'
      have hgo := (unhide HF).outer.lt
      go_wp2_with fail
      refine (clone_any _ _ _ _ _ _ (unhide HI) hlen.out (Nat.le_refl _)).mono ?_
      rintro e w1 ⟨v1, rfl, o1, b1⟩
      have HF1 := hide ((unhide HF).on b1)
      have hf3 := (unhide HF1).outer.frozen k
      have hc3 := (unhide HF1).outer.cell k
      rw [outF_at _ _ _ _ hlt, if_neg (by omega)] at hc3
      have HP := hide ((unhide HF).put b1 hlt o1)
      have HBn := hide (((unhide HB).trans (b1.mono (unhide HB).size)).setCell (p := ⟨w.heap.size, k, none⟩) (Nat.le_refl _) v1)
      obtain ⟨A1, c1, e1, _⟩ := o1.ints
      subst e1
      clear b1 o1
      go_wp2_with fail
      go_roundw
      case rel => exact ⟨k + 1, _, by omega, by go_num, HP, HBn⟩
      case measure => simp [intOf]; omega
    · obtain rfl : n = k := by omega
      go_wp2_with fail
      go_ret
      exact ⟨_, F, rfl, unhide HF, Nat.le_refl _, unhide HB⟩
theorem cl_rows {x : Int} {R : List (List Int)} (h : acB x R = true) : R.length ≤ 5 ∧ ∀ k, k < R.length → (row R k).length ≤ 1000 := by
  unfold acB at h
  rw [Bool.and_eq_true] at h
  have h1 := sz_iff.1 h.1
  refine ⟨by omega, fun k hk => ?_⟩
  have := List.all_eq_true.1 h.2 _ (row_in hk)
  have h2 := this
  unfold clB at h2
  rw [Bool.and_eq_true] at h2
  obtain ⟨m, rfl, a, b⟩ := sz_nat h2.1
  have := cl_len (n := m) (by omega) h2.2
  omega
end Go.Proofs.YtjhicbiacnkpaaaDoor
