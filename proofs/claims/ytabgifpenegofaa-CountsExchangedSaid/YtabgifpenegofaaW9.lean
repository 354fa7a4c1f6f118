/-
  tableOf of the program; outer blocks of tables that are filled.
-/
import Derived.Test.YtabgifpenegofaaW8
namespace Go.Proofs.Ytabgifpenegofaa
open Go.RowKit

/-- The cells of n slices, of which the first k are there. -/
def outF (n : Nat) (F : Nat → Value) (k : Nat) : Array Value := ((List.range n).map fun r => if r < k then F r else .slice none 0 0).toArray
theorem outF_at (n : Nat) (F : Nat → Value) (k r : Nat) (h : r < n) : (outF n F k)[r]? = some (if r < k then F r else .slice none 0 0) := by simp [outF, h]
theorem outF_set (n : Nat) (F F' : Nat → Value) (k : Nat) (v : Value) (hv : F' k = v) (h : ∀ r, r < k → F' r = F r) (hk : k < n) : (outF n F k).setIfInBounds k v = outF n F' (k + 1) := by
  apply Array.ext_getElem?
  intro i
  rw [Array.getElem?_setIfInBounds]
  by_cases hi : k = i
  · subst hi
    rw [if_pos rfl, if_pos (by simpa [outF] using hk), outF_at _ _ _ _ hk, if_pos (by omega), hv]
  · rw [if_neg hi]
    by_cases h2 : i < n
    · rw [outF_at _ _ _ _ h2, outF_at _ _ _ _ h2]
      by_cases h3 : i < k
      · rw [if_pos h3, if_pos (by omega), h i h3]
      · rw [if_neg h3, if_neg (by omega)]
    · rw [Array.getElem?_eq_none (by simp [outF]; omega), Array.getElem?_eq_none (by simp [outF]; omega)]
/-- A slice of slices that is being filled: its outer block, and the first k rows. -/
structure Fill (w : World) (g n k : Nat) (F : Nat → Value) (X : Nat → List Int) : Prop where
  outer : Blk w g 23 (outF n F k)
  rows : ∀ r, r < k → Elem w (some g) (F r) (X r)
theorem Elem.below {w w' : World} {g : Option Nat} {v : Value} {xs : List Int} (h : Elem w g v xs) (hb : Below w.heap.size w w') : Elem w' g v xs := by
  obtain ⟨A, n, c, e, hi, hn⟩ := h
  exact ⟨A, n, c, e, (hi.below hb).more hb.size, fun b off e => ⟨(hn b off e).1, Nat.lt_of_lt_of_le (hn b off e).2 hb.size⟩⟩
theorem Elem.drewN {w : World} {g : Option Nat} {v : Value} {xs : List Int} (h : Elem w g v xs) (q : Nat) : Elem (w.drewN q) g v xs := by
  obtain ⟨A, n, c, e, hi, hn⟩ := h
  exact ⟨A, n, c, e, hi.drewN q, hn⟩
theorem Elem.set_ {w : World} {g : Nat} {v : Value} {xs : List Int} (h : Elem w (some g) v xs) (i : Nat) (u : Value) : Elem (w.setCell ⟨g, i, none⟩ u) (some g) v xs := by
  obtain ⟨A, n, c, e, hi, hn⟩ := h
  refine ⟨A, n, c, e, ⟨hi.len, hi.cap, hi.most, hi.bare, fun k hk => ?_⟩, fun b off e => ⟨(hn b off e).1, by have := (hn b off e).2; simpa [World.setCell] using this⟩⟩
  obtain ⟨b, off, e, hb, hc⟩ := hi.at_ k hk
  refine ⟨b, off, e, by simpa [World.setCell] using hb, ?_⟩
  have h1 := (hn b off e).1
  have hbg : b ≠ g := fun e => h1 (by rw [e])
  rw [World.cell?_of_block (heap_setCell_other w ⟨g, i, none⟩ b u hbg)]
  exact hc
theorem Fill.below {w w' : World} {g n k : Nat} {F : Nat → Value} {X : Nat → List Int} (h : Fill w g n k F X) (hb : Below w.heap.size w w') : Fill w' g n k F X :=
  ⟨h.outer.below hb h.outer.lt, fun r hr => (h.rows r hr).below hb⟩
theorem Fill.drewN {w : World} {g n k : Nat} {F : Nat → Value} {X : Nat → List Int} (h : Fill w g n k F X) (q : Nat) : Fill (w.drewN q) g n k F X := ⟨h.outer, fun r hr => (h.rows r hr).drewN q⟩
theorem Fill.put {w : World} {g n k : Nat} {F : Nat → Value} {X : Nat → List Int} {v : Value} (h : Fill w g n k F X) (hk : k < n) (hv : Elem w (some g) v (X k)) :
    Fill (w.setCell ⟨g, k, none⟩ v) g n (k + 1) (fun r => if r = k then v else F r) X := by
  refine ⟨?_, fun r hr => ?_⟩
  · rw [← outF_set n F _ k v (by simp) (fun r hr => by simp; omega) hk]
    exact h.outer.set_ k v
  · by_cases e : r = k
    · subst e; simpa using hv.set_ r v
    · simpa [e] using (h.rows r (by omega)).set_ k v
theorem Fill.rows_ {w : World} {g n : Nat} {F : Nat → Value} {X : Nat → List Int} (h : Fill w g n n F X) (hn : n ≤ 1000000) : Rows_ w w.heap.size (some ⟨g, 0, none⟩) n n ((List.range n).map X) := by
  refine ⟨by simp, Nat.le_refl _, by omega, (fun e => by cases e), fun r hr => ?_⟩
  obtain ⟨A, m, c, e, hi, _⟩ := h.rows r hr
  refine ⟨g, 0, A, m, c, rfl, h.outer.lt, by rw [Nat.zero_add, h.outer.cell, outF_at _ _ _ _ hr, if_pos hr, e], ?_⟩
  rw [show row ((List.range n).map X) r = X r from by simp [row, List.getD, hr]]
  exact hi
theorem outF_nils (n : Nat) (F : Nat → Value) {Z : Array Value} (h : Z.toList = List.replicate n (.slice none 0 0)) : Z = outF n F 0 := by
  apply Array.toList_inj.1
  rw [h]
  simp [outF]
  apply List.ext_getElem <;> simp

/-- The table with this key, of n rows and m columns. -/
def tabL (n m : Nat) (K : Nat → Nat → Int) : List (List Int) := (List.range n).map fun i => (List.range m).map (K i)
theorem tabL_at {n m : Nat} {K : Nat → Nat → Int} {i j : Nat} (hi : i < n) (hj : j < m) : at2 (tabL n m K) i j = K i j := by
  simp [at2, row, nth, tabL, List.getD, hi, hj]
theorem tabL_row {n m : Nat} {K : Nat → Nat → Int} {i : Nat} (hi : i < n) : row (tabL n m K) i = (List.range m).map (K i) := by simp [row, tabL, List.getD, hi]
theorem ints_ky {W : World} {g i m : Nat} {K : Nat → Nat → Int} (h : Blk W g 79 (kyA K)) (hi : i < 3) (hm : m ≤ 3) : Ints W W.heap.size (some ⟨g, i * 3, none⟩) m 3 ((List.range m).map (K i)) :=
  ⟨by simp, hm, by omega, (fun e => by cases e), fun j hj => ⟨g, i * 3, rfl, h.lt, by rw [h.cell, kyA_at _ _ _ hi (by omega)]; simp [nth, List.getD, hj]⟩⟩
theorem clone_ints (A : Option Addr) (n c : Nat) (xs : List Int) (w : World) (B : Nat) (h : Ints w B A n c xs) (hn : n ≤ 100000) (hB : B ≤ w.heap.size) :
    Calls Try.prog 58 #[.slice A n c] w fun e w' => ∃ A' n' c', e = .returned (.slice A' n' c') ∧ Owned w' w.heap.size (.slice A' n' c') xs ∧ Ints w' w'.heap.size A' n' c' xs ∧ Below w.heap.size w w' :=
  (clone_any A n c xs w B h hn hB).mono fun _ _ ⟨_, he, ho, hb⟩ => by
    obtain ⟨A', c', rfl, hi⟩ := ho.ints
    exact ⟨A', _, c', he, ho, hi, hb⟩

set_option maxRecDepth 100000 in
set_option maxHeartbeats 4000000 in
theorem tableOf_any (K : Nat → Nat → Int) (A : Option Addr) (n c m : Nat) (t : List (List Int)) (w : World) (h : Rows_ w w.heap.size A n c t) (ht : Hid (Tb t n m)) :
    Calls Try.prog 89 #[.agg (kyA K), .slice A n c] w fun e w' => ∃ g, e = .returned (.slice (some ⟨g, 0, none⟩) n n) ∧ Rows_ w' w'.heap.size (some ⟨g, 0, none⟩) n n (tabL n m K) ∧ w.heap.size ≤ g ∧ Below w.heap.size w w' := by
  have hm := h.most; have hcap := h.cap
  have n1 := ht.out.n1; have n3 := ht.out.n3; have m1 := ht.out.m1; have m3 := ht.out.m3
  obtain ⟨b, off, rfl⟩ := h.addr (show 0 < n by omega)
  obtain ⟨Z, hZ, hmk⟩ := make_nils n (by omega)
  have HZ := hide (outF_nils n (fun _ => .slice none 0 0) hZ)
  clear hZ
  obtain ⟨W0, hW0⟩ : ∃ W0, W0 = (w.alloc (.cells (kyA K) 79)).alloc (.cells Z 23) := ⟨_, rfl⟩
  have HB0 := hide (show Below w.heap.size w W0 from by rw [hW0]; exact ((Below.refl _ w).alloc (Nat.le_refl _) _).alloc (by simp) _)
  have HK0 := hide (show Blk W0 w.heap.size 79 (kyA K) from by rw [hW0]; exact (Blk.new _ _ _).alloc _)
  have HF0 := hide (show Fill W0 (w.heap.size + 1) n 0 (fun _ => .slice none 0 0) (fun i => (List.range m).map (K i)) from by
    refine ⟨?_, fun r hr => absurd hr (by omega)⟩
    rw [hW0, HZ.out]
    have := Blk.new (w.alloc (.cells (kyA K) 79)) 23 (outF n (fun _ => .slice none 0 0) 0)
    simpa using this)
  have hn0 : 0 < n := by omega
  have e0 := hW0.symm
  clear hW0
  go_enter Try.func89, Try.ntmps89
  go_upto_region 2 with fail
  clear e0 hmk
  go_wp2_with fail
  go_loopw [6, 12] (fun _ i wr => ∃ k : Nat, ∃ F : Nat → Value, k ≤ n ∧ i = .int .i64 k ∧ Hid (Blk wr w.heap.size 79 (kyA K)) ∧ Hid (Fill wr (w.heap.size + 1) n k F (fun i => (List.range m).map (K i))) ∧ Hid (Below w.heap.size w wr)) (fun _ i _ => n - (intOf i).toNat)
  case atStart => exact ⟨0, _, Nat.zero_le _, rfl, HK0, HF0, HB0⟩
  case round =>
    obtain ⟨k, F, hk, rfl, HK, HF, HB⟩ := hrel
    by_cases hlt : k < n
    · obtain ⟨A0, c0, hc0, hi0⟩ := ht.out.get (h.below (unhide HB)) (show 0 < n by omega)
      simp only [Nat.add_zero] at hc0
      clear hi0
      have hk3 : k < 3 := by omega
      obtain ⟨x1, x2⟩ : (0 : Int) ≤ (m : Int) ∧ (m : Int) ≤ 3 := by omega
      have HI := hide (ints_ky (unhide HK) hk3 m3)
      have HId := hide ((unhide HI).drewN 1)
      have hgo := (unhide HF).outer.lt
      go_upto_region 5 with fail
      go_region_with (go_at_call 58; go_loud (
                      refine (clone_ints _ _ _ _ _ _ (unhide HId) (by omega) (Nat.le_refl _)).mono ?_
                      rintro e w3 ⟨A3, n3', c3, rfl, o3, i3, b3⟩
                      have HK3 := hide (((unhide HK).drewN 1).below b3 (unhide HK).lt)
                      have HF3 := hide (((unhide HF).drewN 1).below b3)
                      have HB3 := hide ((unhide HB).drew.trans (b3.mono (unhide HB).size))
                      have HE3 := hide (show Elem w3 (some (w.heap.size + 1)) (.slice A3 n3' c3) ((List.range m).map (K k)) from ⟨A3, n3', c3, rfl, i3, fun b off e => o3.elem (fun b hb => by cases hb; exact hgo) b off e⟩)
                      have hf3 := (unhide HF3).outer.frozen k
                      have hc3 := (unhide HF3).outer.cell k
                      rw [outF_at _ _ _ _ hlt, if_neg (by omega)] at hc3
                      clear b3 o3 i3))
      all_goals (
        go_wp2_with fail
        go_roundw)
      all_goals first
        | (case rel => exact ⟨k + 1, _, by omega, by go_num, hide ((unhide HK3).far (by simp) _), hide ((unhide HF3).put hlt (unhide HE3)), hide ((unhide HB3).setCell (by simp) _)⟩)
        | (case measure => simp [intOf]; omega)
    · obtain rfl : n = k := by omega
      have HR := hide ((unhide HF).rows_ (by omega))
      go_wp2_with fail
      go_ret
      exact ⟨_, rfl, unhide HR, by omega, unhide HB⟩
end Go.Proofs.Ytabgifpenegofaa
