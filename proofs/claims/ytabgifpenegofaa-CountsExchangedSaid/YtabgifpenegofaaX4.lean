/-
  Swap of the reference.
-/
import Derived.Test.YtabgifpenegofaaX3
namespace Go.Proofs.Ytabgifpenegofaa
open Go.RowKit

theorem Owned.lower {w : World} {base base' : Nat} {v : Value} {xs : List Int} (h : Owned w base v xs) (hb : base' ≤ base) : Owned w base' v xs := by
  refine ⟨h.1, ?_⟩
  rcases h.2 with h0 | ⟨g, cap, cur, hv, hg, r⟩
  · exact .inl h0
  · exact .inr ⟨g, cap, cur, hv, by omega, r⟩
theorem Owned.one {w : World} {base : Nat} {v : Value} {xs : List Int} (h : Owned w base v xs) : v.oneCell' = true := by
  obtain ⟨A, c, rfl, _⟩ := h.ints
  rfl
theorem row_ky {t : List (List Int)} {n m : Nat} (h : Tb t n m) {k : Nat} (hk : k < n) : row t k = (List.range m).map (at2 t k) := by
  apply List.ext_getElem
  · rw [h.rows k hk]; simp
  · intro i h1 h2
    simp [at2, nth, List.getD, h1]
def Xk (m : Nat) (K : Nat → Nat → Int) (r : Nat) : List Int := (List.range m).map (K r)
theorem Xk_set (m : Nat) (K : Nat → Nat → Int) (i j : Nat) (y : Int) : Xk m (upd K i j y) i = (Xk m K i).set j y := by
  unfold Xk
  apply List.ext_getElem
  · simp
  · intro a h1 h2
    rw [List.getElem_set]
    simp only [List.getElem_map, List.getElem_range]
    unfold upd
    by_cases e : j = a
    · subst e; simp
    · have : ¬ a = j := fun h => e h.symm
      simp [e, this]
theorem Xk_off (m : Nat) (K : Nat → Nat → Int) (i j : Nat) (y : Int) (r : Nat) (h : r ≠ i) : Xk m (upd K i j y) r = Xk m K r := by
  unfold Xk
  apply List.map_congr_left
  intro a _
  simp [upd, h]
theorem Xk_len (m : Nat) (K : Nat → Nat → Int) (r : Nat) : (Xk m K r).length = m := by simp [Xk]
theorem Xk_nth (m : Nat) (K : Nat → Nat → Int) (r j : Nat) (h : j < m) : nth (Xk m K r) j = K r j := by simp [Xk, nth, List.getD, h]
theorem Xk_tab (n m : Nat) (K : Nat → Nat → Int) : (List.range n).map (Xk m K) = tabL n m K := rfl
/-- All that a write needs. -/
theorem OwnT.cell {w : World} {base n m : Nat} {v : Value} {V : Nat → Value} {K : Nat → Nat → Int} (h : OwnT w base v n V (Xk m K)) {i j : Nat} (hi : i < n) (hj : j < m) :
    ∃ go c gi ci, v = .slice (some ⟨go, 0, none⟩) n c ∧ n ≤ c ∧ m ≤ ci ∧ base ≤ gi ∧ w.cell? ⟨go, i, none⟩ = some (.slice (some ⟨gi, 0, none⟩) m ci) ∧ w.cell? ⟨gi, j, none⟩ = some (.int .i64 (K i j)) ∧ w.frozen? ⟨gi, j, none⟩ = false ∧ ∀ y, OwnT (w.setCell ⟨gi, j, none⟩ (.int .i64 y)) base v n V (Xk m (upd K i j y)) := by
  obtain ⟨go, c, gi, ci, e1, e2, e3, e4, e5, e6, e7, e8⟩ := h.at_ (i := i) (j := j) hi (by rw [Xk_len]; exact hj)
  rw [Xk_nth _ _ _ _ hj] at e7
  refine ⟨go, c, gi, ci, e1, e3, by rw [Xk_len] at e4; exact e4, e5, by rw [e6, e2, Xk_len], e7, e8, fun y => h.put hi (by rw [Xk_len]; exact hj) e2 y _ (Xk_set m K i j y) (fun r hr => Xk_off m K i j y r hr)⟩

set_option maxRecDepth 100000 in
set_option maxHeartbeats 8000000 in
theorem RSwap_ok (b off n c m : Nat) (t : List (List Int)) (i j k l : Nat) (w : World) (h : Rows_ w w.heap.size (some ⟨b, off, none⟩) n c t) (ht : Hid (Tb t n m)) (hi : i < n) (hj : j < n) (hk : k < m) (hl : l < m) (h1 : at2 t i l ≠ 0) (h2 : at2 t j k ≠ 0) :
    Calls Try.prog 44 #[.slice (some ⟨b, off, none⟩) n c, .int .i64 (i : Int), .int .i64 (j : Int), .int .i64 (k : Int), .int .i64 (l : Int)] w fun e w' => ∃ A' c', e = .returned (.tuple #[.slice A' n c', .int .i64 0]) ∧ Rows_ w' w'.heap.size A' n c' (tabL n m (swF (at2 t) i j k l)) ∧ Below w.heap.size w w' := by
  have hm := h.most; have hcap := h.cap
  have n3 := ht.out.n3; have m3 := ht.out.m3
  obtain ⟨A0, c0, hc0, hi0⟩ := ht.out.get h hi
  obtain ⟨b0, o0, rfl, _, hx0⟩ := hi0.cells (show 0 < m by omega)
  have hx := hx0 l (by rw [ht.out.rows i hi]; exact hl)
  rw [show (row t i).getD l 0 = at2 t i l from rfl] at hx
  obtain ⟨A1, c1, hc1, hi1⟩ := ht.out.get h hj
  obtain ⟨b1, o1, rfl, _, hy0⟩ := hi1.cells (show 0 < m by omega)
  have hy := hy0 k (by rw [ht.out.rows j hj]; exact hk)
  rw [show (row t j).getD k 0 = at2 t j k from rfl] at hy
  have hm0 := hi0.most; have hcap0 := hi0.cap; have hm1 := hi1.most; have hcap1 := hi1.cap
  clear hx0 hy0 hi0 hi1
  have e1 : (at2 t i l == 0) = false := by simpa using h1
  have e2 : (at2 t j k == 0) = false := by simpa using h2
  have HBd := hide ht.out.bdd
  clear h1 h2
  go_enter Try.func44, Try.ntmps44
  go_upto_region 4 with fail
  clear e1 e2 hx hy hc0 hc1
  go_wp2_with fail
  go_loopw [12, 14, 35] (fun v _ i wr => ∃ q : Nat, ∃ V : Nat → Value, q ≤ n ∧ i = .int .i64 q ∧ Hid (OwnT wr w.heap.size v q V (Xk m (at2 t))) ∧ Hid (Below w.heap.size w wr)) (fun _ _ i _ => n - (intOf i).toNat)
  case atStart => exact ⟨0, fun _ => .slice none 0 0, Nat.zero_le _, rfl, hide (ownT_nil _ _ _ _), hide (Below.refl _ _)⟩
  case round =>
    obtain ⟨q, V, hq, rfl, HO, HB⟩ := hrel
    by_cases hlt : q < n
    · obtain ⟨A2, c2, hc2, hi2⟩ := ht.out.get (h.below (unhide HB)) hlt
      rw [row_ky ht.out hlt] at hi2
      have hbs := (unhide HB).size
      have hiA := hide ((hi2.more hbs).alloc (Nat.le_refl _) (.cells #[] 3))
      have hlen : ([] : List Int).length + ((List.range m).map (at2 t q)).length ≤ 1000000 := by simp; omega
      have hm2 := hi2.most; have hcap2 := hi2.cap
      clear hi2
      go_upto_region 7 with fail
      go_wp2_with (first
        | (at_builtin; refine wpList_app rfl _ _ rfl rfl rfl (owned_new wr wr.heap.size (Nat.le_refl _)) (unhide hiA) hlen (by simp) ?_; intro v2 w2 ho2 hg2 hv2
           obtain ⟨A3, c3, e3, _⟩ := ho2.ints
           rw [show ([] ++ (List.range m).map (at2 t q) : List Int).length = m from by simp] at e3
           subst e3
           have b2 := ((Below.refl wr.heap.size wr).alloc (Nat.le_refl _) (.cells #[] 3)).grown hg2 (by simp) (fun k hk => by cases hk; exact Nat.le_refl _)
           have HO2 := hide ((unhide HO).below b2)
           have HB2 := hide ((unhide HB).trans (b2.mono hbs))
           have HR2 := hide (show Owned w2 wr.heap.size (.slice A3 m c3) (Xk m (at2 t) q) from ho2)
           have HNE := hide (show ∀ g, (Value.slice A3 m c3).ownBlock = some g → u12.ownBlock ≠ some g ∧ ∀ r, r < q → (V r).ownBlock ≠ some g from fun g hg => by
             have hge := ((unhide HR2).blk_lt g hg).1
             exact ⟨fun e => by have := (World.ownsRow.lt (unhide HO).own g e).2; omega, fun r hr e => by have := (((unhide HO).rows r hr).blk_lt g e).2; omega⟩)
           clear hg2 hv2 ho2 b2)
        | (at_builtin; go_loud (refine wpList_appT (v := u12) rfl _ _ rfl rfl rfl (unhide HO2) ((unhide HR2).lower hbs) (unhide HNE) (by omega) (unhide HB2).size (unhide HR2).one ?_); intro v3 w3 ho3 hb3))
      go_roundw
      case rel => exact ⟨q + 1, _, by omega, by go_num, hide ho3, hide ((unhide HB2).trans hb3)⟩
      case measure => simp [intOf]; omega
    · obtain rfl : n = q := by omega
      obtain ⟨W0, hW0⟩ : ∃ W0, W0 = wr := ⟨_, rfl⟩
      obtain ⟨K0, hK0⟩ : ∃ L, L = at2 t := ⟨_, rfl⟩
      have HO0 := hide (show OwnT W0 w.heap.size u12 n V (Xk m K0) from by rw [hW0, hK0]; exact unhide HO)
      have HB0 := hide (show Below w.heap.size w W0 from by rw [hW0]; exact unhide HB)
      have BD0 := hide (show Bdd K0 1000 from by rw [hK0]; exact unhide HBd)
      have HQ0 := hide hK0
      rw [← hW0]
      clear hW0 hK0 HO HB
      go_upto_region 9 with fail
      obtain ⟨go, co, gi, ci, ev, q1, q2, q3, q4, q5, q6, q7⟩ := (unhide HO0).cell hi hk
      obtain ⟨b1, b2⟩ := (unhide BD0) i k (by omega) (by omega)
      obtain ⟨K1, hK1⟩ : ∃ L, L = upd K0 i k (K0 i k + 1) := ⟨_, rfl⟩
      have BD1 := hide (show Bdd K1 1001 from by rw [hK1]; exact (unhide BD0).upd _ _ _ (by omega))
      have HP := hide (q7 (K0 i k + 1))
      rw [← hK1] at HP
      have HQ1 := hide hK1
      clear hK1 q7
      have HBn := hide ((unhide HB0).setCell (p := ⟨gi, k, none⟩) q3 (.int .i64 (K0 i k + 1)))
      generalize K0 i k = v0 at q5 b1 b2 HP HBn
      obtain rfl : u12 = .slice (some ⟨go, 0, none⟩) n co := ev
      go_upto_region 10 with fail
      have HO1 := HP
      have HB1 := HBn
      generalize W0.setCell ⟨gi, k, none⟩ (.int .i64 (v0 + 1)) = W1 at HO1 HB1 ⊢
      clear HP HBn HO0 HB0 q4 q5 q6 b1 b2
      obtain ⟨go, co, gi, ci, ev, q1, q2, q3, q4, q5, q6, q7⟩ := (unhide HO1).cell hj hl
      obtain ⟨b1, b2⟩ := (unhide BD1) j l (by omega) (by omega)
      obtain ⟨K2, hK2⟩ : ∃ L, L = upd K1 j l (K1 j l + 1) := ⟨_, rfl⟩
      have BD2 := hide (show Bdd K2 1002 from by rw [hK2]; exact (unhide BD1).upd _ _ _ (by omega))
      have HP := hide (q7 (K1 j l + 1))
      rw [← hK2] at HP
      have HQ2 := hide hK2
      clear hK2 q7
      have HBn := hide ((unhide HB1).setCell (p := ⟨gi, l, none⟩) q3 (.int .i64 (K1 j l + 1)))
      generalize K1 j l = v0 at q5 b1 b2 HP HBn
      cases ev
      go_upto_region 11 with fail
      have HO2 := HP
      have HB2 := HBn
      generalize W1.setCell ⟨gi, l, none⟩ (.int .i64 (v0 + 1)) = W2 at HO2 HB2 ⊢
      clear HP HBn HO1 HB1 q4 q5 q6 b1 b2
      obtain ⟨go, co, gi, ci, ev, q1, q2, q3, q4, q5, q6, q7⟩ := (unhide HO2).cell hi hl
      obtain ⟨b1, b2⟩ := (unhide BD2) i l (by omega) (by omega)
      obtain ⟨K3, hK3⟩ : ∃ L, L = upd K2 i l (K2 i l - 1) := ⟨_, rfl⟩
      have BD3 := hide (show Bdd K3 1003 from by rw [hK3]; exact (unhide BD2).upd _ _ _ (by omega))
      have HP := hide (q7 (K2 i l - 1))
      rw [← hK3] at HP
      have HQ3 := hide hK3
      clear hK3 q7
      have HBn := hide ((unhide HB2).setCell (p := ⟨gi, l, none⟩) q3 (.int .i64 (K2 i l - 1)))
      generalize K2 i l = v0 at q5 b1 b2 HP HBn
      cases ev
      go_upto_region 12 with fail
      have HO3 := HP
      have HB3 := HBn
      generalize W2.setCell ⟨gi, l, none⟩ (.int .i64 (v0 - 1)) = W3 at HO3 HB3 ⊢
      clear HP HBn HO2 HB2 q4 q5 q6 b1 b2
      obtain ⟨go, co, gi, ci, ev, q1, q2, q3, q4, q5, q6, q7⟩ := (unhide HO3).cell hj hk
      obtain ⟨b1, b2⟩ := (unhide BD3) j k (by omega) (by omega)
      obtain ⟨K4, hK4⟩ : ∃ L, L = upd K3 j k (K3 j k - 1) := ⟨_, rfl⟩
      have BD4 := hide (show Bdd K4 1004 from by rw [hK4]; exact (unhide BD3).upd _ _ _ (by omega))
      have HP := hide (q7 (K3 j k - 1))
      rw [← hK4] at HP
      have HQ4 := hide hK4
      clear hK4 q7
      have HBn := hide ((unhide HB3).setCell (p := ⟨gi, k, none⟩) q3 (.int .i64 (K3 j k - 1)))
      generalize K3 j k = v0 at q5 b1 b2 HP HBn
      cases ev
      go_upto_region 13 with fail
      have HO4 := HP
      have HB4 := HBn
      generalize W3.setCell ⟨gi, k, none⟩ (.int .i64 (v0 - 1)) = W4 at HO4 HB4 ⊢
      clear HP HBn HO3 HB3 q4 q5 q6 b1 b2
      have HSW := hide (show K4 = swF (at2 t) i j k l from by rw [HQ4.out, HQ3.out, HQ2.out, HQ1.out, HQ0.out]; rfl)
      obtain ⟨A9, c9, e9, r9⟩ := (unhide HO4).to
      cases e9
      have HR9 := hide (show Rows_ W4 W4.heap.size (some ⟨go, 0, none⟩) n co (tabL n m (swF (at2 t) i j k l)) from by rw [← HSW.out]; exact r9)
      clear r9
      go_wp2_with fail
      go_ret2
      exact ⟨_, _, rfl, unhide HR9, unhide HB4⟩
end Go.Proofs.Ytabgifpenegofaa
