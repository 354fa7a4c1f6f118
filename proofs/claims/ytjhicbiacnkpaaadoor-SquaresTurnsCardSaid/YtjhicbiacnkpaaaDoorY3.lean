/-
  slices.Reverse of rows in place, and of the slice of rows.
-/
import Derived.Test.YtjhicbiacnkpaaaDoorY2
import Derived.Test.YtjhicbiacnkpaaaDoorX4
namespace Go.Proofs.YtjhicbiacnkpaaaDoor
open Go.RowKit Go.Sort

theorem But.trans {w w' w2 : World} {o : Option Nat} (h : But w w' o) (h2 : But w' w2 o) : But w w2 o :=
  ⟨Nat.le_trans h.size h2.size, fun k hk hne => (h2.at_ k (Nat.lt_of_lt_of_le hk h.size) hne).trans (h.at_ k hk hne)⟩
theorem reverse_but {w : World} {base : Nat} {v : Value} {xs : List Int} (h : Owned w base v xs) (hs : xs.length ≤ 1000) (hw : base ≤ w.heap.size) :
    Calls Tryd.prog 85 #[v] w fun e w' => e = .returned (.tuple #[]) ∧ Owned w' base v xs.reverse ∧ Below base w w' ∧ But w w' v.ownBlock := by
  rcases Nat.eq_zero_or_pos xs.length with h0 | h0
  · obtain ⟨A, c, e, _⟩ := h.ints
    subst e
    rw [h0] at h ⊢
    obtain rfl : xs = [] := List.eq_nil_of_length_eq_zero h0
    refine (Tryd.slices_Reverse_int_empty A c w).mono fun e w' ⟨he, hw'⟩ => ?_
    subst hw'
    exact ⟨he, by simpa using h, Below.refl _ _, But.refl _ _⟩
  · obtain ⟨g, cap, cur, rfl, hg, hlt, hh, hc1, hc2, hcs, ht⟩ := h.form h0
    refine (Tryd.slices_Reverse_int g 0 cap xs w (holds_of_blockI hh ht) (by omega)).mono fun e w' ⟨he, n, hw'⟩ => ⟨he, ?_, ?_, ?_⟩
    · rw [← grow_none (putRow _ _ _ _ _)] at hw'
      subst hw'
      exact owned_sorted (ts := xs.reverse) (by simp) hg hh hc1 hc2 hcs
    · rw [← grow_none (putRow _ _ _ _ _)] at hw'
      subst hw'
      exact below_sorted (ts := xs.reverse) hg hw
    · rw [← grow_none (putRow _ _ _ _ _)] at hw'
      have hgr : w.grownBy w' (some g) := by rw [hw']; exact grownBy_sortedI xs.reverse.toArray
      exact ⟨hgr.size, fun k hk hne => hgr.block k hk hne⟩

theorem Owned.but {w w' : World} {base : Nat} {v : Value} {xs : List Int} {o : Option Nat} (h : Owned w base v xs) (hb : But w w' o) (ho : ∀ b, v.ownBlock = some b → some b ≠ o) : Owned w' base v xs := by
  have hl := h.blk
  refine ⟨h.1, ?_⟩
  rcases h.2 with h0 | ⟨b, cap, cur, hv, hbb, hh, r⟩
  · exact .inl h0
  · have hbo : v.ownBlock = some b := by rw [hv]; rfl
    exact .inr ⟨b, cap, cur, hv, hbb, (hb.at_ b (hl b hbo).2 (ho b hbo)).trans hh, r⟩
theorem Fil.rev {w w' : World} {g n r : Nat} {F : Nat → Value} {X : Nat → List Int} {ys : List Int} (h : Fil w g n n F X) (hr : r < n) (hb : But w w' (F r).ownBlock) (ho : Owned w' (g + 1) (F r) ys) : Fil w' g n n F (fun s => if s = r then ys else X s) := by
  refine ⟨(hb.at_ g h.outer.lt (fun e => ?_)).trans h.outer, fun s hs => ?_, h.apart⟩
  · have := ((h.rows r hr).blk g e.symm).1; omega
  · by_cases e : s = r
    · subst e; simpa using ho
    · simp only [e, if_false]
      exact (h.rows s hs).but hb fun b e2 e3 => h.apart s r hs hr e b e2 e3.symm
theorem Fil.rows_but {w w' : World} {g n : Nat} {F : Nat → Value} {X : Nat → List Int} {o : Option Nat} (h : Fil w g n n F X) (hb : But w w' o) (ho : ∀ b, o = some b → b < g) : Fil w' g n n F X :=
  ⟨(hb.at_ g h.outer.lt (fun e => by have := ho g e.symm; omega)).trans h.outer, fun s hs => (h.rows s hs).but hb fun b e e2 => by
    have h1 := ((h.rows s hs).blk b e).1
    have h2 := ho b e2.symm
    omega, h.apart⟩

/-- The cells of a slice of which k pairs have been exchanged. -/
def rvF (n : Nat) (F : Nat → Value) (k : Nat) : Nat → Value := fun i => if i < k ∨ n < i + 1 + k then F (n - 1 - i) else F i
theorem rvF_zero (n : Nat) (F : Nat → Value) {i : Nat} (h : i < n) : rvF n F 0 i = F i := by unfold rvF; rw [if_neg (by omega)]
theorem rvF_end {n k : Nat} (F : Nat → Value) (hk : n ≤ 2 * k + 1) {i : Nat} (h : i < n) : rvF n F k i = F (n - 1 - i) := by
  unfold rvF
  by_cases h1 : i < k ∨ n < i + 1 + k
  · rw [if_pos h1]
  · rw [if_neg h1]; congr 1; omega
theorem arr_set (n : Nat) (F F' : Nat → Value) (k : Nat) (v : Value) (hv : F' k = v) (h : ∀ r, r < n → r ≠ k → F' r = F r) (hk : k < n) : (outF n F n).setIfInBounds k v = outF n F' n := by
  apply Array.ext_getElem?
  intro i
  rw [Array.getElem?_setIfInBounds]
  by_cases hi : k = i
  · subst hi
    rw [if_pos rfl, if_pos (by simpa [outF] using hk), outF_at _ _ _ _ hk, if_pos hk, hv]
  · rw [if_neg hi]
    by_cases h2 : i < n
    · rw [outF_at _ _ _ _ h2, outF_at _ _ _ _ h2, if_pos h2, if_pos h2, h i h2 (Ne.symm hi)]
    · rw [Array.getElem?_eq_none (by simp [outF]; omega), Array.getElem?_eq_none (by simp [outF]; omega)]
theorem outF_ext {n : Nat} {F F' : Nat → Value} (h : ∀ i, i < n → F i = F' i) : outF n F n = outF n F' n := by
  unfold outF
  congr 1
  refine List.map_congr_left fun i hi => ?_
  rw [List.mem_range] at hi
  rw [if_pos hi, if_pos hi, h i hi]
theorem swap_rv {W : World} {g n k : Nat} {F : Nat → Value} (h : Blk W g 22 (outF n (rvF n F k) n)) (hk : 2 * k + 1 < n) :
    Blk ((W.setCell ⟨g, k, none⟩ (F (n - 1 - k))).setCell ⟨g, n - 1 - k, none⟩ (F k)) g 22 (outF n (rvF n F (k + 1)) n) := by
  have h1 := (h.set_ k (F (n - 1 - k))).set_ (n - 1 - k) (F k)
  rw [arr_set n (rvF n F k) (fun i => if i = k then F (n - 1 - k) else rvF n F k i) k _ (by simp) (fun r _ hr => by simp [hr]) (by omega),
    arr_set n _ (rvF n F (k + 1)) (n - 1 - k) _ (by unfold rvF; rw [if_pos (by omega)]; congr 1; omega) (fun r hr hne => by
      by_cases e : r = k
      · subst e; simp only [if_true]; unfold rvF; rw [if_pos (by omega)]
      · simp only [e, if_false]
        unfold rvF
        by_cases h2 : r < k ∨ n < r + 1 + k
        · rw [if_pos h2, if_pos (by omega)]
        · rw [if_neg h2, if_neg (by omega)]) (by omega)] at h1
  exact h1

set_option maxRecDepth 100000 in
set_option maxHeartbeats 1000000 in
theorem reverseR_any (g n : Nat) (F : Nat → Value) (w : World) (h : Blk w g 22 (outF n F n)) (hF : Hid (∀ i, i < n → ∃ A m c, F i = .slice A m c)) (hn1 : 1 ≤ n) (hn : n ≤ 5) :
    Calls Tryd.prog 84 #[.slice (some ⟨g, 0, none⟩) n n] w fun e w' => e = .returned (.tuple #[]) ∧ Blk w' g 22 (outF n (fun i => F (n - 1 - i)) n) ∧ Below g w w' ∧ But w w' (some g) := by
  go_enter Tryd.func84, Tryd.ntmps84
  go_wp2_with fail
  go_loopw [2, 3] (fun i j wr => ∃ k l : Nat, i = .int .i64 k ∧ j = .int .i64 l ∧ Hid (l + k + 1 = n) ∧ Hid (Blk wr g 22 (outF n (rvF n F k) n)) ∧ Hid (Below g w wr) ∧ Hid (But w wr (some g)) ∧ k ≤ n) (fun i _ _ => n - (intOf i).toNat)
  case atStart => exact ⟨0, n - 1, rfl, by first | rfl | (congr 1; omega), hide (by omega), hide (by rw [outF_ext (F' := F) fun i hi => rvF_zero n F hi]; exact h), hide (Below.refl _ _), hide (But.refl _ _), by omega⟩
  case round =>
    obtain ⟨k, l, rfl, rfl, HL, HK, HB, HT, hkn⟩ := hrel
    by_cases hlt : k < l
    · obtain ⟨Ak, mk, ck, ek⟩ := hF.out k (by have := HL.out; omega)
      obtain ⟨Al, ml, cl, el⟩ := hF.out l (by have := HL.out; omega)
      have hl1 := hide (show l = n - 1 - k by have := HL.out; omega)
      have x1 : wr.cell? ⟨g, k, none⟩ = some (.slice Ak mk ck) := by
        rw [(unhide HK).cell, outF_at _ _ _ _ (by have := HL.out; omega), if_pos (by have := HL.out; omega), ← ek]
        congr 1; unfold rvF; rw [if_neg (by have := HL.out; omega)]
      have x2 : wr.cell? ⟨g, l, none⟩ = some (.slice Al ml cl) := by
        rw [(unhide HK).cell, outF_at _ _ _ _ (by have := HL.out; omega), if_pos (by have := HL.out; omega), ← el]
        congr 1; unfold rvF; rw [if_neg (by have := HL.out; omega)]
      have x3 : wr.frozen? ⟨g, k, none⟩ = false := (unhide HK).frozen k
      have x4 : wr.frozen? ⟨g, l, none⟩ = false := (unhide HK).frozen l
      have x5 : wr.drew.cell? ⟨g, k, none⟩ = some (.slice Ak mk ck) := x1
      have x6 : wr.drew.cell? ⟨g, l, none⟩ = some (.slice Al ml cl) := x2
      have y1 : (k : Int) < n := by have := HL.out; omega
      have y2 : (l : Int) < n := by have := HL.out; omega
      have y3 : k ≠ l := by omega
      have HS := hide (show Blk ((wr.drew.setCell ⟨g, k, none⟩ (.slice Al ml cl)).setCell ⟨g, l, none⟩ (.slice Ak mk ck)) g 22 (outF n (rvF n F (k + 1)) n) from by
        have := swap_rv (W := wr.drew) (g := g) (n := n) (k := k) (F := F) (unhide HK) (by have := HL.out; omega)
        rw [← hl1.out, ek, el] at this
        exact this)
      have HE := hide ek; have HE2 := hide el
      clear ek el
      go_wp2_with fail
      go_region
      go_wp2_with fail
      have e1 : ((l : Nat) : Int) - 1 = ((l - 1 : Nat) : Int) := by omega
      have e0 : ((k : Nat) : Int) + 1 = ((k + 1 : Nat) : Int) := by omega
      refine ⟨⟨k + 1, l - 1, by rw [e0], by rw [e1], hide (by have := HL.out; omega), hide HS.out, hide ?_, hide ?_, by have := HL.out; omega⟩, ?_⟩
      · have b1 := HB.out.setCell (p := ⟨g, k, none⟩) (Nat.le_refl g) (.slice Al ml cl)
        have b2 := b1.setCell (p := ⟨g, l, none⟩) (Nat.le_refl g) (.slice Ak mk ck)
        exact b2.drew
      · have b1 := HT.out.trans (But.set wr g k (.slice Al ml cl))
        have b2 := b1.trans (But.set _ g l (.slice Ak mk ck))
        exact ⟨b2.size, fun b hb hne => b2.at_ b hb hne⟩
      · have := HL.out; simp [intOf]; omega
    · have z1 : ¬ ((k : Nat) : Int) < ((l : Nat) : Int) := by omega
      go_wp2_with fail
      (first | refine bodyPost_ret (results_none rfl _ _ _) rfl ?_ | refine bodyPost_end (results_none rfl _ _ _) rfl ?_)
      refine ⟨rfl, ?_, HB.out, HT.out⟩
      rw [← outF_ext (fun i hi => rvF_end (k := k) F (by have := HL.out; omega) hi)]
      exact HK.out
end Go.Proofs.YtjhicbiacnkpaaaDoor
