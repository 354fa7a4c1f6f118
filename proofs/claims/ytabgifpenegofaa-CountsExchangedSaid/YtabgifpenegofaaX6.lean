/-
  Turn and Sums of the reference.
-/
import Derived.Test.YtabgifpenegofaaX5
namespace Go.Proofs.Ytabgifpenegofaa
open Go.RowKit

theorem Turn_no (A : Option Addr) (n c : Nat) (t : List (List Int)) (w : World) (h : Rows_ w w.heap.size A n c t) (ht : Hid (isT t = false)) :
    Calls Try.prog 21 #[.slice A n c] w fun e w' => e = .returned (.tuple #[.slice none 0 0, .int .i64 2]) ∧ Below w.heap.size w w' := by
  go_enter Try.func21, Try.ntmps21
  go_wp2_with fail
  refine (isTable_is _ _ _ _ _ h _ ht).mono ?_
  rintro e w1 ⟨rfl, b1⟩
  go_wp2_with fail
  go_ret2
  exact ⟨rfl, b1⟩
theorem tabL_succ (n m : Nat) (K : Nat → Nat → Int) : tabL (n + 1) m K = tabL n m K ++ [(List.range m).map (K n)] := by simp [tabL, List.range_succ]
theorem tabL_len (n m : Nat) (K : Nat → Nat → Int) : (tabL n m K).length = n := by simp [tabL]

set_option maxRecDepth 100000 in
set_option maxHeartbeats 8000000 in
theorem RTurn_any (b off n c m : Nat) (t : List (List Int)) (w : World) (h : Rows_ w w.heap.size (some ⟨b, off, none⟩) n c t) (ht : Hid (Tb t n m)) :
    Calls Try.prog 27 #[.slice (some ⟨b, off, none⟩) n c] w fun e w' => ∃ A' c', e = .returned (.slice A' m c') ∧ Rows_ w' w'.heap.size A' m c' (tabL m n (tK (at2 t))) ∧ Below w.heap.size w w' := by
  have hm := h.most; have hcap := h.cap
  have n1 := ht.out.n1; have n3 := ht.out.n3; have m1 := ht.out.m1; have m3 := ht.out.m3
  have hn0 : 0 < n := by omega
  obtain ⟨A0, c0, hc0, hi0⟩ := ht.out.get h hn0
  simp only [Nat.add_zero] at hc0
  clear hi0
  go_enter Try.func27, Try.ntmps27
  go_upto_region 3 with fail
  clear hc0
  go_loopw [3, 4, 5, 6, 11] (fun v _ _ _ i wr => ∃ j : Nat, j ≤ m ∧ i = .int .i64 j ∧ Hid (OwnedR wr w.heap.size v (tabL j n (tK (at2 t)))) ∧ Hid (Below w.heap.size w wr)) (fun _ _ _ _ i _ => m - (intOf i).toNat)
  case atStart => exact ⟨0, Nat.zero_le _, rfl, hide (ownedR_nil _ _), hide (Below.refl _ _)⟩
  case round =>
    obtain ⟨wo, rfl⟩ : ∃ wo : World, wo = wr := ⟨_, rfl⟩
    obtain ⟨j, hj, rfl, HO, HB⟩ := hrel
    by_cases hlt : j < m
    · go_wp2_with fail
      go_loopw [5, 6, 16] (fun v _ i wr => ∃ k : Nat, k ≤ n ∧ i = .int .i64 k ∧ Hid (Owned wr wo.heap.size v (colK (at2 t) j k)) ∧ Hid (Below wo.heap.size wo wr)) (fun _ _ i _ => n - (intOf i).toNat)
      case atStart => exact ⟨0, Nat.zero_le _, rfl, hide (World.ownsRow_nil _ _ _ _), hide (Below.refl _ _)⟩
      case round =>
        obtain ⟨k, hk, rfl, HV, HW⟩ := hrel
        have HBr := hide ((unhide HB).trans ((unhide HW).mono (unhide HB).size))
        by_cases hkt : k < n
        · obtain ⟨A1, c1, hc1, hi1⟩ := ht.out.get (h.below (unhide HBr)) hkt
          obtain ⟨b1, o1, rfl, hb1, hx1⟩ := hi1.cells (show 0 < m by omega)
          have hx := hx1 j (by rw [ht.out.rows k hkt]; exact hlt)
          rw [show (row t k).getD j 0 = at2 t k j from rfl] at hx
          have hm1 := hi1.most; have hcap1 := hi1.cap
          clear hx1 hi1
          obtain ⟨x, hxe⟩ : ∃ x, at2 t k j = x := ⟨_, rfl⟩
          rw [hxe] at hx
          have HX := hide (show colK (at2 t) j (k + 1) = colK (at2 t) j k ++ [x] from by rw [colK_succ, hxe])
          clear hxe
          have hll : (colK (at2 t) j k).length ≤ 100000 := by rw [colK_len]; omega
          have hbs := (unhide HW).size
          go_wp2_with (at_builtin; refine wpList_app1 (v := u5) rfl _ _ rfl rfl rfl (unhide HV) hll hbs ?_; intro v2 w2 ho2 hb2)
          go_roundw
          case rel => exact ⟨k + 1, by omega, by go_num, hide (by rw [HX.out]; exact ho2), hide ((unhide HW).trans hb2)⟩
          case measure => simp [intOf]; omega
        · obtain rfl : n = k := by omega
          obtain ⟨A2, c2, e2, hi2⟩ := (unhide HV).ints
          rw [colK_len] at e2 hi2
          subst e2
          have HO2 := hide ((unhide HO).below (unhide HW))
          have HAP := hide ((unhide HV).elem (g := u3.ownBlock) (fun b hb => ((unhide HO).lt b hb).2))
          have hll : (tabL j n (tK (at2 t))).length ≤ 1000000 := by rw [tabL_len]; omega
          have hbase := (unhide HBr).size
          go_wp2_with (at_builtin; refine wpList_appR (v := u3) rfl _ _ rfl rfl rfl (unhide HO2) hi2 (unhide HAP) hll hbase ?_; intro v2 w2 ho2 hb2)
          go_roundw
          case rel => exact ⟨j + 1, by omega, by go_num, hide (by rw [tabL_succ]; exact ho2), hide ((unhide HBr).trans hb2)⟩
          case measure => simp [intOf]; omega
    · obtain rfl : m = j := by omega
      obtain ⟨A2, c2, e2, hr2⟩ := (unhide HO).rows
      rw [tabL_len] at e2 hr2
      subst e2
      have HR2 := hide hr2
      go_wp2_with fail
      go_ret
      exact ⟨_, _, rfl, unhide HR2, unhide HB⟩

/-- Numbers in a block that is known. -/
def rowC (m : Nat) (f : Nat → Int) : Array Value := ((List.range m).map fun i => Value.int .i64 (f i)).toArray
theorem rowC_at (m : Nat) (f : Nat → Int) (i : Nat) (h : i < m) : (rowC m f)[i]? = some (.int .i64 (f i)) := by simp [rowC, h]
theorem rowC_set (m : Nat) (f f' : Nat → Int) (p : Nat) (v : Int) (hv : f' p = v) (h : ∀ i, i ≠ p → f' i = f i) : (rowC m f).setIfInBounds p (.int .i64 v) = rowC m f' := by
  apply Array.ext_getElem?
  intro i
  rw [Array.getElem?_setIfInBounds]
  by_cases hi : p = i
  · subst hi
    rw [if_pos rfl]
    by_cases hp : p < m
    · rw [if_pos (by simpa [rowC] using hp), rowC_at _ _ _ hp, hv]
    · rw [if_neg (by simpa [rowC] using hp), Array.getElem?_eq_none (by simp [rowC]; omega)]
  · rw [if_neg hi]
    by_cases h2 : i < m
    · rw [rowC_at _ _ _ h2, rowC_at _ _ _ h2, h i (fun e => hi e.symm)]
    · rw [Array.getElem?_eq_none (by simp [rowC]; omega), Array.getElem?_eq_none (by simp [rowC]; omega)]
theorem rowC_ext {m : Nat} {f g : Nat → Int} (h : ∀ i, i < m → f i = g i) : rowC m f = rowC m g := by
  unfold rowC
  congr 1
  apply List.map_congr_left
  intro i hi
  rw [h i (List.mem_range.1 hi)]
theorem rowC_zero {m : Nat} {Z : Array Value} (h : Z.toList = List.replicate m (.int .i64 0)) : Z = rowC m fun _ => 0 := by
  apply Array.toList_inj.1
  rw [h]
  simp [rowC]
  apply List.ext_getElem <;> simp
theorem ints_rowC {w : World} {g m : Nat} {f : Nat → Int} (h : Blk w g 3 (rowC m f)) (hm : m ≤ 1000) : Ints w w.heap.size (some ⟨g, 0, none⟩) m m ((List.range m).map f) :=
  ⟨by simp, Nat.le_refl _, by omega, (fun e => by cases e), fun i hi => ⟨g, 0, rfl, h.lt, by rw [Nat.zero_add, h.cell, rowC_at _ _ _ hi]; simp [nth, List.getD, hi]⟩⟩
/-- What row i sums to after k numbers; the rows before are summed. -/
def rMid (K : Nat → Nat → Int) (m i k a : Nat) : Int := if a < i then s3 (K a) m else if a = i then s3 (K i) k else 0
def cMd (K : Nat → Nat → Int) (i k j : Nat) : Int := if j < k then cTo K (i + 1) j else cTo K i j
theorem s3_bd0 {f : Nat → Int} (hf : ∀ i, i < 3 → 0 ≤ f i ∧ f i ≤ 1000) : ∀ k, k ≤ 3 → 0 ≤ s3 f k ∧ s3 f k ≤ 3000 := by
  intro k hk
  have h0 := hf 0 (by omega); have h1 := hf 1 (by omega); have h2 := hf 2 (by omega)
  rcases (show k = 0 ∨ k = 1 ∨ k = 2 ∨ k = 3 by omega) with rfl | rfl | rfl | rfl <;> simp only [s3] <;> omega

theorem two_rows (w : World) (Y Z : Array Value) : Blk ((w.alloc (.cells Y 3)).alloc (.cells Z 3)) w.heap.size 3 Y ∧ Blk ((w.alloc (.cells Y 3)).alloc (.cells Z 3)) (w.heap.size + 1) 3 Z ∧ Below w.heap.size w ((w.alloc (.cells Y 3)).alloc (.cells Z 3)) := by
  refine ⟨(Blk.new _ _ _).alloc _, ?_, ((Below.refl _ w).alloc (Nat.le_refl _) _).alloc (by simp) _⟩
  have := Blk.new (w.alloc (.cells Y 3)) 3 Z
  simpa using this
theorem Tb.zero_row {t : List (List Int)} {n m : Nat} (h : Tb t n m) (a j : Nat) (ha : n ≤ a) : at2 t a j = 0 := by
  unfold at2; rw [row_out (by rw [h.len]; exact ha)]; rfl
theorem Tb.zero_col {t : List (List Int)} {n m : Nat} (h : Tb t n m) (a j : Nat) (hj : m ≤ j) : at2 t a j = 0 := by
  rcases Nat.lt_or_ge a n with ha | ha
  · unfold at2; exact nth_out (by rw [h.rows a ha]; exact hj)
  · exact h.zero_row a j ha

set_option maxRecDepth 100000 in
set_option maxHeartbeats 8000000 in
theorem RSums_any (b off n c m : Nat) (t : List (List Int)) (w : World) (h : Rows_ w w.heap.size (some ⟨b, off, none⟩) n c t) (ht : Hid (Tb t n m)) :
    Calls Try.prog 24 #[.slice (some ⟨b, off, none⟩) n c] w fun e w' => ∃ g1 g2, e = .returned (.tuple #[.slice (some ⟨g1, 0, none⟩) n n, .slice (some ⟨g2, 0, none⟩) m m]) ∧ Blk w' g1 3 (rowC n (rS (at2 t))) ∧ Blk w' g2 3 (rowC m (cS (at2 t))) ∧ g1 ≠ g2 ∧ w.heap.size ≤ g1 ∧ w.heap.size ≤ g2 ∧ Below w.heap.size w w' := by
  have hm := h.most; have hcap := h.cap
  have n1 := ht.out.n1; have n3 := ht.out.n3; have m1 := ht.out.m1; have m3 := ht.out.m3
  have hn0 : 0 < n := by omega
  obtain ⟨A0, c0, hc0, hi0⟩ := ht.out.get h hn0
  simp only [Nat.add_zero] at hc0
  clear hi0
  obtain ⟨b', off', _, _, _, e', hbl, _⟩ := h.at_ 0 hn0
  cases e'
  obtain ⟨Y, _, hY2, hmkY⟩ := make_zeros n (by omega)
  obtain ⟨Z, _, hZ2, hmkZ⟩ := make_zeros m (by omega)
  have HY := hide (rowC_zero hY2)
  have HZ := hide (rowC_zero hZ2)
  clear hY2 hZ2
  have hcY : (w.alloc (.cells Y 3)).cell? ⟨b, off, none⟩ = some (.slice A0 m c0) := by rw [World.cell?_alloc_lt _ _ _ hbl]; exact hc0
  have hcZ : (w.alloc (.cells Z 3)).cell? ⟨b, off, none⟩ = some (.slice A0 m c0) := by rw [World.cell?_alloc_lt _ _ _ hbl]; exact hc0
  go_enter Try.func24, Try.ntmps24
  go_upto_region 1 with fail
  go_cut [4, 5] (fun u v wc => ∃ g1 g2, u = .slice (some ⟨g1, 0, none⟩) n n ∧ v = .slice (some ⟨g2, 0, none⟩) m m ∧ Hid (Blk wc g1 3 (rowC n fun _ => 0)) ∧ Hid (Blk wc g2 3 (rowC m fun _ => 0)) ∧ g1 ≠ g2 ∧ w.heap.size ≤ g1 ∧ w.heap.size ≤ g2 ∧ Hid (Below w.heap.size w wc))
  case first =>
    go_region
    all_goals go_wp2_with fail
    all_goals go_meet
    · obtain ⟨k1, k2, k3⟩ := two_rows w Y Z
      exact ⟨_, _, rfl, rfl, hide (by rw [← HY.out]; exact k1.drewN 1), hide (by rw [← HZ.out]; exact k2.drewN 1), by omega, by omega, by omega, hide (Below.drewN' k3 1)⟩
    · obtain ⟨k1, k2, k3⟩ := two_rows w Z Y
      exact ⟨_, _, rfl, rfl, hide (by rw [← HY.out]; exact k2.drewN 1), hide (by rw [← HZ.out]; exact k1.drewN 1), by omega, by omega, by omega, hide (Below.drewN' k3 1)⟩
  case rest =>
    obtain ⟨g1, g2, rfl, rfl, HR0, HC0, hne, hg1, hg2, HB0⟩ := hcut
    clear hmkY hmkZ hcY hcZ HY HZ hc0
    have HG := hide hne
    have HG1 := hide hg1
    have HG2 := hide hg2
    clear hne hg1 hg2
    have HSm := hide ht.out.sml
    have HZc := hide (fun a j => ht.out.zero_col a j)
    have HZr := hide (fun a j => ht.out.zero_row a j)
    go_wp2_with fail
    go_loopw [6, 7, 8, 9, 20] (fun _ _ _ _ q wr => ∃ i : Nat, i ≤ n ∧ q = .int .i64 i ∧ Hid (Blk wr g1 3 (rowC n (rMid (at2 t) m i 0))) ∧ Hid (Blk wr g2 3 (rowC m (cMd (at2 t) i 0))) ∧ Hid (Below w.heap.size w wr)) (fun _ _ _ _ q _ => n - (intOf q).toNat)
    case atStart =>
      refine ⟨0, Nat.zero_le _, rfl, hide ?_, hide ?_, HB0⟩
      · rw [rowC_ext (g := fun _ => 0) (fun a ha => by unfold rMid; by_cases e : a = 0 <;> simp [e, s3])]; exact unhide HR0
      · rw [rowC_ext (g := fun _ => 0) (fun a ha => by unfold cMd; simp [cTo])]; exact unhide HC0
    case round =>
      obtain ⟨wo, rfl⟩ : ∃ wo : World, wo = wr := ⟨_, rfl⟩
      obtain ⟨i, hi, rfl, HR, HC, HB⟩ := hrel
      by_cases hlt : i < n
      · obtain ⟨A1, c1, hcw, hi1⟩ := ht.out.get h hlt
        have hc1 := ((unhide HB).cell (p := ⟨b, off + i, none⟩) hbl).trans hcw
        have hm1 := hi1.most; have hcap1 := hi1.cap
        obtain ⟨b1, o1, rfl, hb1, _⟩ := hi1.cells (show 0 < m by omega)
        have HI1 := hide hi1
        clear hi1 hcw
        go_wp2_with fail
        clear hc1
        go_loopw [8, 9, 27] (fun _ _ q wr => ∃ k : Nat, k ≤ m ∧ q = .int .i64 k ∧ Hid (Blk wr g1 3 (rowC n (rMid (at2 t) m i k))) ∧ Hid (Blk wr g2 3 (rowC m (cMd (at2 t) i k))) ∧ Hid (Below w.heap.size w wr)) (fun _ _ q _ => m - (intOf q).toNat)
        case atStart => exact ⟨0, Nat.zero_le _, rfl, HR, HC, HB⟩
        case round =>
          obtain ⟨k, hk, rfl, HRk, HCk, HBk⟩ := hrel
          by_cases hkt : k < m
          · have hx := ((unhide HI1).below (unhide HBk)).cells (show 0 < m by omega)
            obtain ⟨b1', o1', e1, _, hx⟩ := hx
            cases e1
            have hx := hx k (by rw [ht.out.rows i hlt]; exact hkt)
            rw [show (row t i).getD k 0 = at2 t i k from rfl] at hx
            have cR := (unhide HRk).cell i
            rw [rowC_at _ _ _ hlt, show rMid (at2 t) m i k i = s3 (at2 t i) k from by simp [rMid]] at cR
            have fR := (unhide HRk).frozen i
            have cC := (unhide HCk).cell k
            rw [rowC_at _ _ _ hkt, show cMd (at2 t) i k k = cTo (at2 t) i k from by simp [cMd]] at cC
            have fC := (unhide HCk).frozen k
            obtain ⟨s1, s2⟩ := s3_bd0 (f := at2 t i) (fun q hq => HSm.out i q (by omega) hq) k (by omega)
            obtain ⟨x1, x2⟩ := HSm.out i k (by omega) (by omega)
            obtain ⟨c1', c2'⟩ := cTo_bd HSm.out k (by omega) i (by omega)
            have HPR := hide (rowC_set n (rMid (at2 t) m i k) (rMid (at2 t) m i (k + 1)) i (s3 (at2 t i) k + at2 t i k) (by simp [rMid, s3]) (fun a ha => by unfold rMid; simp [ha]))
            have HPC := hide (rowC_set m (cMd (at2 t) i k) (cMd (at2 t) i (k + 1)) k (cTo (at2 t) i k + at2 t i k) (by simp [cMd, cTo]) (fun a ha => by
              unfold cMd
              by_cases e : a < k
              · rw [if_pos e, if_pos (by omega)]
              · rw [if_neg e, if_neg (by omega)]))
            have hne1 : ¬ g1 = g2 := HG.out
            have hne2 : ¬ g2 = g1 := fun e => HG.out e.symm
            go_wp2_with fail
            go_roundw
            case rel =>
              refine ⟨k + 1, by omega, by go_num, hide ?_, hide ?_, hide (((unhide HBk).setCell HG1.out _).setCell HG2.out _)⟩
              · rw [← HPR.out]; exact ((unhide HRk).set_ _ _).far hne1 _
              · rw [← HPC.out]; exact ((unhide HCk).far hne2 _).set_ _ _
            case measure => simp [intOf]; omega
          · obtain rfl : m = k := by omega
            have HRe := hide (show Blk wr g1 3 (rowC n (rMid (at2 t) m (i + 1) 0)) from by
              rw [rowC_ext (g := rMid (at2 t) m i m) (fun a ha => by
                unfold rMid
                by_cases e : a < i
                · rw [if_pos e, if_pos (by omega)]
                · by_cases e2 : a = i
                  · subst e2; simp
                  · rw [if_neg e, if_neg e2, if_neg (by omega)]
                    by_cases e3 : a = i + 1
                    · rw [if_pos e3]; rfl
                    · rw [if_neg e3])]
              exact unhide HRk)
            have HCe := hide (show Blk wr g2 3 (rowC m (cMd (at2 t) (i + 1) 0)) from by
              rw [rowC_ext (g := cMd (at2 t) i m) (fun a ha => by unfold cMd; simp [ha])]
              exact unhide HCk)
            go_wp2_with fail
            go_roundw
            case rel => exact ⟨i + 1, by omega, by go_num, HRe, HCe, HBk⟩
            case measure => simp [intOf]; omega
      · obtain rfl : n = i := by omega
        have HRe := hide (show Blk wo g1 3 (rowC n (rS (at2 t))) from by
          rw [rowC_ext (g := rMid (at2 t) m n 0) (fun a ha => by
            unfold rMid rS
            rw [if_pos ha]
            have z1 := HZc.out a 1; have z2 := HZc.out a 2
            rcases (show m = 1 ∨ m = 2 ∨ m = 3 by omega) with rfl | rfl | rfl
            · simp only [s3]; have := z1 (by omega); have := z2 (by omega); omega
            · simp only [s3]; have := z2 (by omega); omega
            · simp only [s3]; omega)]
          exact unhide HR)
        have HCe := hide (show Blk wo g2 3 (rowC m (cS (at2 t))) from by
          rw [rowC_ext (g := cMd (at2 t) n 0) (fun a ha => by
            unfold cMd cS
            rw [if_neg (by omega)]
            have z1 := HZr.out 1 a; have z2 := HZr.out 2 a
            rcases (show n = 1 ∨ n = 2 ∨ n = 3 by omega) with rfl | rfl | rfl
            · simp only [cTo]; have := z1 (by omega); have := z2 (by omega); omega
            · simp only [cTo]; have := z2 (by omega); omega
            · simp only [cTo]; omega)]
          exact unhide HC)
        go_wp2_with fail
        go_ret2
        exact ⟨g1, g2, rfl, unhide HRe, unhide HCe, HG.out, HG1.out, HG2.out, unhide HB⟩
end Go.Proofs.Ytabgifpenegofaa
