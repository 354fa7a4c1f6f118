/-
  list, Of, awake of the law.
-/
import Derived.Test.YtdbflcfjjoocgaaH6
namespace Go.Proofs.Ytdbflcfjjoocgaa
open Go.RowKit

theorem Owned.to {w : World} {base : Nat} {v : Value} {xs : List Int} (h : Owned w base v xs) : ∃ A n c, v = .slice A n c ∧ Ints w w.heap.size A n c xs := by
  obtain ⟨A, c, e, hi⟩ := h.ints
  exact ⟨A, _, c, e, hi⟩

theorem Owned.far {w : World} {base : Nat} {v : Value} {xs : List Int} (h : Owned w base v xs) {p : Addr} (hp : p.block < base) (u : Value) : Owned (w.setCell p u) base v xs := by
  refine ⟨h.1, ?_⟩
  rcases h.2 with h0 | ⟨g, cap, cur, hv, hg, hh, r⟩
  · exact .inl h0
  · exact .inr ⟨g, cap, cur, hv, hg, (heap_setCell_other w p g u (by omega)).trans hh, r⟩
theorem ints_new (w : World) (xs : List Int) (h : xs.length ≤ 1000) : Ints (w.alloc (.cells (xs.map (Value.int .i64)).toArray 3)) (w.heap.size + 1) (some ⟨w.heap.size, 0, none⟩) xs.length xs.length xs :=
  ⟨rfl, Nat.le_refl _, by omega, (fun e => by cases e), fun k hk => ⟨w.heap.size, 0, rfl, by omega, by
    rw [cell_row_ (heap_new_ _ _)]
    simp [nth, List.getD, hk]⟩⟩

set_option maxRecDepth 100000 in
set_option maxHeartbeats 1000000 in
theorem list_any (A : Option Addr) (n c : Nat) (xs : List Int) (w : World) (h : Ints w w.heap.size A n c xs) :
    Calls Try.prog 32 #[.slice A n c] w fun e w' => ∃ A' n' c', e = .returned (.slice A' n' c') ∧ Owned w' w.heap.size (.slice A' n' c') (xs.take 23) ∧ Below w.heap.size w w' := by
  have hm := h.most; have hcap := h.cap
  have H := hide h
  by_cases h9 : n ≤ 23
  · have HC := hide (show xs.take 23 = xs from List.take_of_length_le (by rw [h.len]; omega))
    clear h
    rw [HC.out]
    go_enter Try.func32, Try.ntmps32
    go_wp2_with fail
    refine (clone_any _ _ _ xs _ w.heap.size (unhide H) (by omega) (Nat.le_refl _)).mono ?_
    rintro e w1 ⟨v, rfl, ho, hb⟩
    obtain ⟨A1, n1, c1, rfl, hi⟩ := ho.to
    have HF := hide ho; have HB := hide hb; clear ho hi hb
    go_wp2_with fail
    go_ret
    exact ⟨_, _, _, rfl, unhide HF, unhide HB⟩
  · have HC := hide (h.cut (k := 23) (by omega))
    clear h
    have hc9 : 23 ≤ c := by omega
    go_enter Try.func32, Try.ntmps32
    go_wp2_with fail
    refine (clone_any _ _ _ (xs.take 23) _ w.heap.size (unhide HC) (by omega) (Nat.le_refl _)).mono ?_
    rintro e w1 ⟨v, rfl, ho, hb⟩
    obtain ⟨A1, n1, c1, rfl, hi⟩ := ho.to
    have HF := hide ho; have HB := hide hb; clear ho hi hb
    go_wp2_with fail
    go_ret
    exact ⟨_, _, _, rfl, unhide HF, unhide HB⟩

set_option maxRecDepth 100000 in
set_option maxHeartbeats 4000000 in
theorem Of_any (dg : Int) (A A' : Option Addr) (n c n' c' : Nat) (ks ps : List Int) (w : World) (hk : Ints w w.heap.size A n c ks) (hp : Ints w w.heap.size A' n' c' ps) :
    Calls Try.prog 15 #[.agg #[.int .i64 dg, .slice A n c, .slice A' n' c']] w fun e w' => ∃ A1 n1 c1 A2 n2 c2, e = .returned (.agg #[.int .i64 dg, .slice A1 n1 c1, .slice A2 n2 c2]) ∧ Ints w' w'.heap.size A1 n1 c1 (ks.take 23) ∧ Ints w' w'.heap.size A2 n2 c2 (ps.take 23) ∧ Below w.heap.size w w' := by
  obtain ⟨W0, hW0⟩ : ∃ W0, W0 = (w.alloc (.cells #[.int .i64 dg, .slice A n c, .slice A' n' c'] 24)).alloc (.cells #[.int .i64 0, .slice none 0 0, .slice none 0 0] 31) := ⟨_, rfl⟩
  have HB0 := hide (show Below w.heap.size w W0 from by rw [hW0]; exact ((Below.refl _ w).alloc (Nat.le_refl _) _).alloc (by simp) _)
  have HC0 := hide (show W0.heap[w.heap.size]? = some (.cells #[.int .i64 dg, .slice A n c, .slice A' n' c'] 24 (0, 0)) from by rw [hW0]; exact (Below.heap_alloc _ _ _ (by simp)).trans (heap_new_ w _))
  have HR0 := hide (show W0.heap[w.heap.size + 1]? = some (.cells #[.int .i64 0, .slice none 0 0, .slice none 0 0] 31 (0, 0)) from by
    rw [hW0]; have := heap_new_ (w.alloc (.cells #[.int .i64 dg, .slice A n c, .slice A' n' c'] 24)) (.cells #[.int .i64 0, .slice none 0 0, .slice none 0 0] 31); rwa [World.size_alloc] at this)
  have HWd := hide (show Below W0.heap.size W0 W0.drew from (Below.refl _ _).drew)
  have HK := hide (show Ints W0.drew W0.drew.heap.size A n c ks from (((hk.below (unhide HB0)).more (unhide HB0).size).below (unhide HWd)).more (unhide HWd).size)
  have HP := hide (show Ints W0.drew W0.drew.heap.size A' n' c' ps from (((hp.below (unhide HB0)).more (unhide HB0).size).below (unhide HWd)).more (unhide HWd).size)
  clear hk hp
  have HS := hide (show ∀ W', Below W0.heap.size W0 W' → W'.cell? ⟨w.heap.size, 0, none⟩ = some (.int .i64 dg) ∧ W'.cell? ⟨w.heap.size, 1, none⟩ = some (.slice A n c) ∧ W'.cell? ⟨w.heap.size, 2, none⟩ = some (.slice A' n' c') from fun W' hb =>
    three_at ((hb.block _ (Array.getElem?_eq_some_iff.1 (unhide HC0)).1).trans (unhide HC0)))
  have HZ := hide (show ∀ W' u v x, Below W0.heap.size W0 W' → (((W'.setCell ⟨w.heap.size + 1, 0, none⟩ u).setCell ⟨w.heap.size + 1, 1, none⟩ v).setCell ⟨w.heap.size + 1, 2, none⟩ x).cell? ⟨w.heap.size, 0, none⟩ = some (.int .i64 dg) ∧ (((W'.setCell ⟨w.heap.size + 1, 0, none⟩ u).setCell ⟨w.heap.size + 1, 1, none⟩ v).setCell ⟨w.heap.size + 1, 2, none⟩ x).cell? ⟨w.heap.size, 1, none⟩ = some (.slice A n c) ∧ (((W'.setCell ⟨w.heap.size + 1, 0, none⟩ u).setCell ⟨w.heap.size + 1, 1, none⟩ v).setCell ⟨w.heap.size + 1, 2, none⟩ x).cell? ⟨w.heap.size, 2, none⟩ = some (.slice A' n' c') from fun W' u v x hb => by
    refine three_at (t := 24) ?_
    rw [heap_setCell_other _ ⟨w.heap.size + 1, 2, none⟩ _ _ (by simp), heap_setCell_other _ ⟨w.heap.size + 1, 1, none⟩ _ _ (by simp), heap_setCell_other _ ⟨w.heap.size + 1, 0, none⟩ _ _ (by simp)]
    exact (hb.block _ (Array.getElem?_eq_some_iff.1 (unhide HC0)).1).trans (unhide HC0))
  have hW1 : (w.alloc (.cells #[.int .i64 dg, .slice A n c, .slice A' n' c'] 24)).alloc (.cells #[.int .i64 0, .slice none 0 0, .slice none 0 0] 31) = W0 := hW0.symm
  clear hW0
  obtain ⟨x0, x1, x2⟩ := (unhide HS) _ (unhide HWd)
  have HL1 := hide (list_any A n c ks _ (unhide HK))
  have HL2 := hide (list_any A' n' c' ps _ (unhide HP))
  go_enter Try.func15, Try.ntmps15
  go_upto_region 1 with fail
  clear hW1
  go_region_held3 (fun W => W.cell? ⟨w.heap.size, 0, none⟩ = some (.int .i64 dg) ∧ W.cell? ⟨w.heap.size, 1, none⟩ = some (.slice A n c) ∧ W.cell? ⟨w.heap.size, 2, none⟩ = some (.slice A' n' c')) (first | exact ⟨x0, x1, x2⟩ | exact (unhide HS) _ (unhide HWa) | exact (unhide HS) _ (unhide HWb) | exact (unhide HZ) _ _ _ _ (unhide HWb)) (first
    | (go_at_call 32; refine (unhide HL1).mono ?_; rintro e wa ⟨A1, n1, c1, rfl, i1, ba⟩; have HWa := hide ((unhide HWd).trans (ba.mono (unhide HWd).size)); have HI1 := hide i1; have HPa := hide (list_any A' n' c' ps wa (((unhide HP).below ba).more ba.size)); clear ba i1)
    | (go_at_call 32; refine (unhide HPa).mono ?_; rintro e wb ⟨A2, n2, c2, rfl, i2, bb⟩; have HWb := hide ((unhide HWa).trans (bb.mono (unhide HWa).size)); have HI2 := hide i2; have HI1b := hide ((unhide HI1).below bb (Nat.le_refl _)); have hr := ((unhide HWb).block _ (Array.getElem?_eq_some_iff.1 (unhide HR0)).1).trans (unhide HR0); obtain ⟨r0, r1, r2⟩ := three_at hr; have f0 := free_at hr 0; have f1 := free_at hr 1; have f2 := free_at hr 2; have HRR := hide hr; clear bb i2 hr)
    | (go_at_call 32; refine (unhide HL2).mono ?_; rintro e wa ⟨A2, n2, c2, rfl, i2, ba⟩; have HWa := hide ((unhide HWd).trans (ba.mono (unhide HWd).size)); have HI2 := hide i2; have HKa := hide (list_any A n c ks wa (((unhide HK).below ba).more ba.size)); clear ba i2)
    | (go_at_call 32; refine (unhide HKa).mono ?_; rintro e wb ⟨A1, n1, c1, rfl, i1, bb⟩; have HWb := hide ((unhide HWa).trans (bb.mono (unhide HWa).size)); have HI1 := hide i1; have HI2b := hide ((unhide HI2).below bb (Nat.le_refl _)); have hr := ((unhide HWb).block _ (Array.getElem?_eq_some_iff.1 (unhide HR0)).1).trans (unhide HR0); obtain ⟨r0, r1, r2⟩ := three_at hr; have f0 := free_at hr 0; have f1 := free_at hr 1; have f2 := free_at hr 2; have HRR := hide hr; clear bb i1 hr))
  all_goals (go_wp2_with fail)
  all_goals (
    have HR9 := hide (put3 (unhide HRR) (.int .i64 dg) (.slice A1 n1 c1) (.slice A2 n2 c2))
    have HB9 := hide (below_put3 ((unhide HB0).trans ((unhide HWb).mono (unhide HB0).size)) (b := w.heap.size + 1) (by omega) (.int .i64 dg) (.slice A1 n1 c1) (.slice A2 n2 c2))
    have hs0 : w.heap.size + 1 < W0.heap.size := (Array.getElem?_eq_some_iff.1 (unhide HR0)).1
    have J1 := (((unhide HI1b).far (p := ⟨w.heap.size + 1, 0, none⟩) hs0 (.int .i64 dg)).far (p := ⟨w.heap.size + 1, 1, none⟩) hs0 (.slice A1 n1 c1)).far (p := ⟨w.heap.size + 1, 2, none⟩) hs0 (.slice A2 n2 c2)
    have J2 := (((unhide HI2).far (p := ⟨w.heap.size + 1, 0, none⟩) (Nat.lt_of_lt_of_le hs0 (unhide HWa).size) (.int .i64 dg)).far (p := ⟨w.heap.size + 1, 1, none⟩) (Nat.lt_of_lt_of_le hs0 (unhide HWa).size) (.slice A1 n1 c1)).far (p := ⟨w.heap.size + 1, 2, none⟩) (Nat.lt_of_lt_of_le hs0 (unhide HWa).size) (.slice A2 n2 c2)
    obtain ⟨_, _, _, e1, k1⟩ := J1.to
    obtain ⟨_, _, _, e2, k2⟩ := J2.to
    cases e1; cases e2
    obtain ⟨s0, s1, s2⟩ := three_at (unhide HR9)
    exact bodyPost_ret (v := .agg #[.int .i64 dg, .slice A1 n1 c1, .slice A2 n2 c2]) (by simp [results, Try.results15, go_sem, s0, s1, s2]) rfl ⟨_, _, _, _, _, _, rfl, k1, k2, unhide HB9⟩)

/-- A straight line is half way up in the middle. -/
theorem wake_at : At 1 [0, 0, 2, 2] [1, 5] 1 1 (Rat.divInt 1 1) 1 := by
  refine ⟨⟨by decide, by decide, by decide, ?_, by decide, ?_, ?_, ?_, by decide⟩, fr_whole 1, by decide, ⟨by decide, by decide, by decide, ?_⟩, by decide, by decide, by decide⟩
  · exact (allIn_iff _ _ _).1 (by decide)
  · exact (allIn_iff _ _ _).1 (by decide)
  · exact (sortB_iff _).1 (by decide)
  · exact (gapB_iff _ _).1 (by decide)
  · intro i h1 h2; simp at h2; omega
theorem wake_val : Fr (VQ 1 [0, 0, 2, 2] [1, 5] 1 (Rat.divInt 1 1)) 3 1 := by
  have e : VQ 1 [0, 0, 2, 2] [1, 5] 1 (Rat.divInt 1 1) = ((3 : Int) : Rat) := by decide +kernel
  rw [e]
  exact ⟨Rat.num_intCast _, by rw [Rat.den_intCast]; rfl⟩

set_option maxRecDepth 100000 in
set_option maxHeartbeats 4000000 in
theorem awake_any (w : World) : Calls Try.prog 19 #[] w fun e w' => e = .returned (.bool true) ∧ Below w.heap.size w w' := by
  obtain ⟨W1, hW1⟩ : ∃ W1, W1 = w.alloc (.cells #[.int .i64 0, .int .i64 0, .int .i64 2, .int .i64 2] 3) := ⟨_, rfl⟩
  have hB1 : Below w.heap.size w W1 := by rw [hW1]; exact (Below.refl _ w).alloc (Nat.le_refl _) _
  have hI1 : Ints W1 W1.heap.size (some ⟨w.heap.size, 0, none⟩) 4 4 [0, 0, 2, 2] := by rw [hW1]; exact (ints_new w [0, 0, 2, 2] (by decide)).more (by simp)
  have hs1 : W1.heap.size = w.heap.size + 1 := by rw [hW1]; simp
  obtain ⟨W2, hW2⟩ : ∃ W2, W2 = W1.alloc (.cells #[.int .i64 1, .int .i64 5] 3) := ⟨_, rfl⟩
  have hB2 : Below W1.heap.size W1 W2 := by rw [hW2]; exact (Below.refl _ W1).alloc (Nat.le_refl _) _
  have hI2 : Ints W2 W2.heap.size (some ⟨w.heap.size + 1, 0, none⟩) 2 2 [1, 5] := by rw [hW2, ← hs1]; exact (ints_new W1 [1, 5] (by decide)).more (by simp)
  have HB := hide (hB1.trans (hB2.mono hB1.size))
  have HC := hide (Value_ok 1 1 1 1 (Rat.divInt 1 1) _ _ _ _ _ _ [0, 0, 2, 2] [1, 5] W2 ((hI1.below hB2).more hB2.size) hI2 (hide wake_at) 3 1 (hide wake_val))
  have he := eql26 3 1 3 1
  have hW : (w.alloc (.cells #[.int .i64 0, .int .i64 0, .int .i64 2, .int .i64 2] 3)).alloc (.cells #[.int .i64 1, .int .i64 5] 3) = W2 := by rw [hW2, hW1]
  clear hB1 hI1 hI2 hB2 hs1 hW1 hW2
  go_enter Try.func19, Try.ntmps19
  go_wp2_with fail
  refine (unhide HC).mono ?_
  rintro e w3 ⟨rfl, b3⟩
  have HB3 := hide ((unhide HB).trans (b3.mono (unhide HB).size))
  have HB4 := hide ((unhide HB3).alloc (unhide HB3).size (.cells #[.int .i64 3, .int .i64 1] 26))
  clear hW b3
  go_wp2_with fail
  go_ret
  exact ⟨rfl, unhide HB4⟩
end Go.Proofs.Ytdbflcfjjoocgaa
