/-
  Turn of the program and of the reference.
-/
import Derived.Test.YtabgifpenegofaaX4
import Derived.Deep.RegionLaw
namespace Go.Proofs.Ytabgifpenegofaa
open Go.RowKit

def tK (K : Nat → Nat → Int) (a b : Nat) : Int := K b a
/-- Rows that lie in blocks below b0, other ones than g. -/
def ElemB (w : World) (g b0 : Nat) (v : Value) (xs : List Int) : Prop := ∃ A n c, v = .slice A n c ∧ Ints w b0 A n c xs ∧ ∀ b off, A = some ⟨b, off, none⟩ → b ≠ g ∧ b < b0
theorem ElemB.below {w w' : World} {g b0 : Nat} {v : Value} {xs : List Int} (h : ElemB w g b0 v xs) (hb : Below b0 w w') : ElemB w' g b0 v xs := by
  obtain ⟨A, n, c, e, hi, hn⟩ := h
  exact ⟨A, n, c, e, hi.below hb, hn⟩
theorem ElemB.set_ {w : World} {g b0 : Nat} {v : Value} {xs : List Int} (h : ElemB w g b0 v xs) (i : Nat) (u : Value) : ElemB (w.setCell ⟨g, i, none⟩ u) g b0 v xs := by
  obtain ⟨A, n, c, e, hi, hn⟩ := h
  refine ⟨A, n, c, e, ⟨hi.len, hi.cap, hi.most, hi.bare, fun k hk => ?_⟩, hn⟩
  obtain ⟨b, off, e, hb, hc⟩ := hi.at_ k hk
  refine ⟨b, off, e, hb, ?_⟩
  rw [World.cell?_of_block (heap_setCell_other w ⟨g, i, none⟩ b u (hn b off e).1)]
  exact hc
theorem Elem.at_b {w : World} {g b0 : Nat} {v : Value} {xs : List Int} (h : Elem w (some g) v xs) (hb : b0 = w.heap.size) : ElemB w g b0 v xs := by
  obtain ⟨A, n, c, e, hi, hn⟩ := h
  subst hb
  exact ⟨A, n, c, e, hi, fun b off e => ⟨fun e2 => (hn b off e).1 (by rw [e2]), (hn b off e).2⟩⟩
theorem ElemB.elem {w : World} {g b0 : Nat} {v : Value} {xs : List Int} (h : ElemB w g b0 v xs) (hb : b0 ≤ w.heap.size) : Elem w (some g) v xs := by
  obtain ⟨A, n, c, e, hi, hn⟩ := h
  exact ⟨A, n, c, e, hi.more hb, fun b off e => ⟨fun e2 => (hn b off e).1 (by cases e2; rfl), by have := (hn b off e).2; omega⟩⟩
/-- The first k numbers of a column. -/
def colK (K : Nat → Nat → Int) (j k : Nat) : List Int := (List.range k).map fun i => K i j
theorem colK_succ (K : Nat → Nat → Int) (j k : Nat) : colK K j (k + 1) = colK K j k ++ [K k j] := by simp [colK, List.range_succ]
theorem colK_len (K : Nat → Nat → Int) (j k : Nat) : (colK K j k).length = k := by simp [colK]
theorem outF_more (n : Nat) (F : Nat → Value) (k : Nat) (hk : k < n) : outF n F k = outF n (fun r => if r = k then .slice none 0 0 else F r) (k + 1) := by
  unfold outF
  congr 1
  apply List.map_congr_left
  intro r hr
  by_cases e : r = k
  · subst e; simp
  · by_cases e2 : r < k
    · rw [if_pos e2, if_pos (by omega)]; simp [e]
    · rw [if_neg e2, if_neg (by omega)]
theorem outF_same (n : Nat) (F : Nat → Value) (k : Nat) (v : Value) (hk : k < n) : (outF n F (k + 1)).setIfInBounds k v = outF n (fun r => if r = k then v else F r) (k + 1) := by
  apply Array.ext_getElem?
  intro i
  rw [Array.getElem?_setIfInBounds]
  by_cases hi : k = i
  · subst hi
    rw [if_pos rfl, if_pos (by simpa [outF] using hk), outF_at _ _ _ _ hk, if_pos (by omega)]; simp
  · rw [if_neg hi]
    by_cases h2 : i < n
    · rw [outF_at _ _ _ _ h2, outF_at _ _ _ _ h2]
      have : ¬ i = k := fun e => hi e.symm
      simp [this]
    · rw [Array.getElem?_eq_none (by simp [outF]; omega), Array.getElem?_eq_none (by simp [outF]; omega)]

theorem outF_again (n : Nat) (F : Nat → Value) (k : Nat) (u v : Value) (hk : k < n) : (outF n (fun r => if r = k then u else F r) (k + 1)).setIfInBounds k v = outF n (fun r => if r = k then v else F r) (k + 1) := by
  rw [outF_same _ _ _ _ hk]
  congr 1
  funext r
  by_cases h : r = k <;> simp [h]
set_option maxRecDepth 100000 in
set_option maxHeartbeats 8000000 in
theorem Turn_ok (b off n c m : Nat) (t : List (List Int)) (w : World) (h : Rows_ w w.heap.size (some ⟨b, off, none⟩) n c t) (ht : Hid (Tb t n m)) :
    Calls Try.prog 21 #[.slice (some ⟨b, off, none⟩) n c] w fun e w' => ∃ g, e = .returned (.tuple #[.slice (some ⟨g, 0, none⟩) m m, .int .i64 0]) ∧ Rows_ w' w'.heap.size (some ⟨g, 0, none⟩) m m (tabL m n (tK (at2 t))) ∧ Below w.heap.size w w' := by
  have hm := h.most; have hcap := h.cap
  have n1 := ht.out.n1; have n3 := ht.out.n3; have m1 := ht.out.m1; have m3 := ht.out.m3
  have H0 := hide (isT_of ht.out)
  have hn0 : 0 < n := by omega
  obtain ⟨Z, hZ, hmk⟩ := make_nils m (by omega)
  have HZ := hide (outF_nils m (fun _ => .slice none 0 0) hZ)
  clear hZ
  go_enter Try.func21, Try.ntmps21
  go_wp2_with fail
  refine (isTable_is _ _ _ _ _ h _ H0).mono ?_
  rintro e w1 ⟨rfl, b1⟩
  obtain ⟨A0, c0, hc0, hi0⟩ := ht.out.get (h.below b1) hn0
  simp only [Nat.add_zero] at hc0
  clear hi0
  obtain ⟨W0, hW0⟩ : ∃ W0, W0 = w1.alloc (.cells Z 23) := ⟨_, rfl⟩
  have HB0 := hide (show Below w.heap.size w W0 from by rw [hW0]; exact b1.alloc b1.size _)
  have HF0 := hide (show Fill W0 w1.heap.size m 0 (fun _ => .slice none 0 0) (fun j => colK (at2 t) j n) from by
    refine ⟨?_, fun r hr => absurd hr (by omega)⟩
    rw [hW0, HZ.out]
    exact Blk.new _ _ _)
  obtain ⟨g, hg⟩ : ∃ g, w1.heap.size = g := ⟨_, rfl⟩
  have HG := hide (show w.heap.size ≤ g from by rw [← hg]; exact b1.size)
  have e0 := hW0.symm
  clear hW0
  go_upto_region 4 with fail
  rw [hg] at HF0
  clear e0 hmk hc0 hg b1
  go_wp2_with fail
  go_loopw [5, 7, 18] (fun _ _ i wr => ∃ j : Nat, ∃ F : Nat → Value, j ≤ m ∧ i = .int .i64 j ∧ Hid (Fill wr g m j F (fun j => colK (at2 t) j n)) ∧ Hid (Below w.heap.size w wr)) (fun _ _ i _ => m - (intOf i).toNat)
  case atStart => exact ⟨0, _, Nat.zero_le _, rfl, HF0, HB0⟩
  case round =>
    obtain ⟨wo, rfl⟩ : ∃ wo : World, wo = wr := ⟨_, rfl⟩
    obtain ⟨j, F, hj, rfl, HF, HB⟩ := hrel
    by_cases hlt : j < m
    · obtain ⟨b0, hb0⟩ : ∃ b0, b0 = wo.heap.size := ⟨_, rfl⟩
      have HGb := hide (show g < b0 from by rw [hb0]; exact (unhide HF).outer.lt)
      have HR0 := hide (show ∀ r, r < j → ElemB wo g b0 (F r) (colK (at2 t) r n) from fun r hr => ((unhide HF).rows r hr).at_b hb0)
      have HO0 := hide (show Blk wo g 23 (outF m (fun r => if r = j then .slice none 0 0 else F r) (j + 1)) from by rw [← outF_more m F j hlt]; exact (unhide HF).outer)
      have HBo := hide (show b0 ≤ wo.heap.size from by omega)
      have HBb := hide (show w.heap.size ≤ b0 from by rw [hb0]; exact (unhide HB).size)
      clear hb0 HF
      go_wp2_with fail
      go_loopw [7, 23] (fun _ i wr => ∃ k : Nat, ∃ v : Value, k ≤ n ∧ i = .int .i64 k ∧ Hid (Blk wr g 23 (outF m (fun r => if r = j then v else F r) (j + 1))) ∧ Hid (∀ r, r < j → ElemB wr g b0 (F r) (colK (at2 t) r n)) ∧ Hid (Owned wr b0 v (colK (at2 t) j k)) ∧ Hid (b0 ≤ wr.heap.size) ∧ Hid (Below w.heap.size w wr)) (fun _ i _ => n - (intOf i).toNat)
      case atStart => exact ⟨0, .slice none 0 0, Nat.zero_le _, rfl, HO0, HR0, hide (World.ownsRow_nil _ _ _ _), HBo, HB⟩
      case round =>
        obtain ⟨k, v, hk, rfl, HO, HR, HV, HS, HBr⟩ := hrel
        by_cases hkt : k < n
        · obtain ⟨A1, c1, hc1, hi1⟩ := ht.out.get (h.below (unhide HBr)) hkt
          obtain ⟨b1, o1, rfl, hb1, hx1⟩ := hi1.cells (show 0 < m by omega)
          have hx := hx1 j (by rw [ht.out.rows k hkt]; exact hlt)
          rw [show (row t k).getD j 0 = at2 t k j from rfl] at hx
          have hm1 := hi1.most; have hcap1 := hi1.cap
          clear hx1 hi1
          obtain ⟨A2, c2, e2, hi2⟩ := (unhide HV).ints
          rw [colK_len] at e2 hi2
          subst e2
          have hco := (unhide HO).cell j
          rw [outF_at _ _ _ _ hlt, if_pos (by omega), if_pos rfl] at hco
          obtain ⟨x, hxe⟩ : ∃ x, at2 t k j = x := ⟨_, rfl⟩
          rw [hxe] at hx
          have HX := hide (show colK (at2 t) j (k + 1) = colK (at2 t) j k ++ [x] from by rw [colK_succ, hxe])
          clear hxe
          have HWA := hide (show ∀ W, W = wr.drew.alloc (.cells #[.int .i64 x] 3) → Owned W b0 (.slice A2 k c2) (colK (at2 t) j k) ∧ Ints W (wr.drew.heap.size + 1) (some ⟨wr.drew.heap.size, 0, none⟩) 1 1 [x] ∧ b0 ≤ W.heap.size from fun W hW => by
            subst hW
            refine ⟨?_, ints_one _ _, by have := HS.out; simp; omega⟩
            exact ((unhide HV).drewN 1).below (Below.alloc (Below.refl wr.drew.heap.size wr.drew) (Nat.le_refl _) _) (Nat.le_refl _))
          have hcA : (wr.drew.alloc (.cells #[.int .i64 x] 3)).cell? ⟨g, j, none⟩ = some (.slice A2 k c2) := by
            rw [World.cell?_alloc_lt _ _ _ (show g < wr.drew.heap.size from (unhide HO).lt)]; exact hco
          have hcB : (wr.alloc (.cells #[.int .i64 x] 3)).cell? ⟨g, j, none⟩ = some (.slice A2 k c2) := by
            rw [World.cell?_alloc_lt _ _ _ (show g < wr.heap.size from (unhide HO).lt)]; exact hco
          have hxA : (wr.drew.alloc (.cells #[.int .i64 x] 3)).cell? ⟨b1, o1 + j, none⟩ = some (.int .i64 x) := by
            rw [World.cell?_alloc_lt _ _ _ (show b1 < wr.drew.heap.size from by have := (unhide HBr).size; show b1 < wr.heap.size; omega)]; exact hx
          go_upto_region 10 with fail
          have HAf := hide (show ∀ v2 w2, Owned w2 b0 v2 (colK (at2 t) j k ++ [x]) → (wr.drew.alloc (.cells #[.int .i64 x] 3)).grownBy w2 (Value.slice A2 k c2).ownBlock → ∃ A3 c3, v2 = .slice A3 (k + 1) c3 ∧ Hid (Owned w2 b0 (.slice A3 (k + 1) c3) (colK (at2 t) j (k + 1))) ∧ Hid (Blk w2 g 23 (outF m (fun r => if r = j then .slice A2 k c2 else F r) (j + 1))) ∧ Hid (Below b0 wr w2) ∧ w2.cell? ⟨g, j, none⟩ = some (.slice A2 k c2) ∧ w2.frozen? ⟨g, j, none⟩ = false from by
            intro v2 w2 ho2 hg2
            have bW : Below b0 wr w2 := ((Below.drewN' (Below.refl b0 wr) 1).alloc (show b0 ≤ wr.heap.size from HS.out) (.cells #[.int .i64 x] 3)).grown hg2 (by have := HS.out; rw [World.size_alloc]; show b0 ≤ wr.heap.size + 1; omega) (fun k hk => ((unhide HV).blk_lt k hk).1)
            obtain ⟨A3, c3, e3, _⟩ := ho2.ints
            rw [← HX.out, colK_len] at e3
            have hO2 := (unhide HO).below bW HGb.out
            refine ⟨A3, c3, e3, hide (by rw [HX.out, ← e3]; exact ho2), hide hO2, hide bW, ?_, hO2.frozen j⟩
            rw [hO2.cell, outF_at _ _ _ _ hlt, if_pos (by omega), if_pos rfl])
          go_region_law (refine step_app (xs := colK (at2 t) j k) (ys := [x]) (base := b0) rfl (.tmp 32) (.tmp 37) (by rfl) (by rfl) (by rfl) ((unhide HWA) _ rfl).1 ((unhide HWA) _ rfl).2.1 (by rw [colK_len]; simp; omega) ((unhide HWA) _ rfl).2.2 ?_
                         intro v2 w2 ho2 hg2 hv2
                         obtain ⟨A3, c3, rfl, HV2, HO2, bW, hc2, hf2⟩ := (unhide HAf) v2 w2 ho2 hg2
                         clear ho2 hg2 hv2)
          all_goals (
            have HO3 := hide (show Blk (w2.setCell ⟨g, j, none⟩ (.slice A3 (k + 1) c3)) g 23 (outF m (fun r => if r = j then .slice A3 (k + 1) c3 else F r) (j + 1)) from by
              rw [← outF_again m F j (.slice A2 k c2) _ hlt]
              exact (unhide HO2).set_ j _)
            go_wp2_with fail
            go_roundw)
          all_goals first
            | (case rel => exact ⟨k + 1, _, by omega, by go_num, HO3, hide (fun r hr => (((unhide HR) r hr).below (unhide bW)).set_ j _), hide ((unhide HV2).far (by exact HGb.out) _), hide (by have := (unhide bW).size; have := HS.out; simpa [World.setCell] using (by omega)), hide (((unhide HBr).trans ((unhide bW).mono HBb.out)).setCell HG.out _)⟩)
            | (case measure => simp [intOf]; omega)
        · obtain rfl : n = k := by omega
          have HFe := hide (show Fill wr g m (j + 1) (fun r => if r = j then v else F r) (fun j => colK (at2 t) j n) from by
            refine ⟨unhide HO, fun r hr => ?_⟩
            by_cases e : r = j
            · obtain ⟨A2, c2, e2, hi2⟩ := (unhide HV).ints
              simp only [e, if_true]
              exact ⟨A2, _, c2, e2, hi2, fun b off eb => by
                have := (unhide HV).blk_lt b (by rw [e2, eb]; rfl)
                exact ⟨fun e3 => by cases e3; have := HGb.out; omega, this.2⟩⟩
            · simp only [e, if_false]
              exact ((unhide HR) r (by omega)).elem HS.out)
          go_wp2_with fail
          go_roundw
          case rel => exact ⟨j + 1, _, by omega, by go_num, HFe, HBr⟩
          case measure => simp [intOf]; omega
    · obtain rfl : m = j := by omega
      have HRr := hide (show Rows_ wo wo.heap.size (some ⟨g, 0, none⟩) m m (tabL m n (tK (at2 t))) from (unhide HF).rows_ (by omega))
      go_wp2_with fail
      go_ret2
      exact ⟨_, rfl, unhide HRr, unhide HB⟩
end Go.Proofs.Ytabgifpenegofaa
