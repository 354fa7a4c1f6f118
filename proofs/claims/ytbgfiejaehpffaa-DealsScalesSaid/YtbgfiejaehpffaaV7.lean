/-
  Swap and Scale of the reference.
-/
import Derived.Test.YtbgfiejaehpffaaV6
namespace Go.Proofs.Ytbgfiejaehpffaa
open Go.RowKit

set_option maxRecDepth 100000 in
set_option maxHeartbeats 4000000 in
theorem RSwap_any (A : Option Addr) (n c : Nat) (fs : List F) (w : World) (h : Fs w w.heap.size A n c fs) (hn : n ≤ 1000) :
    Calls Try.prog 34 #[.slice A n c] w fun e w' => ∃ v, e = .returned v ∧ OwnQ w' w.heap.size 30 v (fs.map swF) ∧ Below w.heap.size w w' := by
  have hm := h.most; have hcap := h.cap
  have HI := hide h
  have HL := hide h.len
  clear h
  go_enter Try.func34, Try.ntmps34
  go_wp2_with fail
  go_loopw [3, 5, 8] (fun v _ i wr => ∃ k : Nat, k ≤ n ∧ i = .int .i64 k ∧ Hid (OwnQ wr w.heap.size 30 v ((fs.take k).map swF)) ∧ Hid (Below w.heap.size w wr)) (fun _ _ i _ => n - (intOf i).toNat)
  case atStart => exact ⟨0, Nat.zero_le _, rfl, hide (World.ownsRow_nil _ _ _ _), hide (Below.refl _ _)⟩
  case round =>
    obtain ⟨k, hk, rfl, HOw, HB⟩ := hrel
    obtain ⟨wo, ewo⟩ : ∃ wo : World, wo = wr := ⟨_, rfl⟩
    subst ewo
    by_cases hlt : k < n
    · skip
      obtain ⟨bb, off, rfl, hbb, hc1, hc2⟩ := ((unhide HI).below (unhide HB)).at_ k hlt
      have HKL := hide (show k < fs.length from by rw [HL.out]; exact hlt)
      obtain ⟨p, hpk⟩ : ∃ p, fth fs k = p := ⟨_, rfl⟩
      rw [hpk] at hc1 hc2
      have HFK := hide hpk
      clear hpk
      obtain ⟨u, v⟩ := p
      simp only at hc1 hc2
      obtain ⟨W1, hW1⟩ : ∃ W1, W1 = wo.alloc (.cells #[.int .i64 u, .int .i64 v] 30) := ⟨_, rfl⟩
      have hB1 : Below wo.heap.size wo W1 := by rw [hW1]; exact (Below.refl _ _).alloc (Nat.le_refl _) _
      obtain ⟨x0, x1⟩ := two_at (show W1.heap[wo.heap.size]? = some (.cells #[.int .i64 u, .int .i64 v] 30 (0, 0)) from by rw [hW1]; exact heap_new_ _ _)
      have HB1 := hide ((unhide HB).trans (hB1.mono (unhide HB).size))
      have HO1 := hide ((unhide HOw).below hB1 (Nat.le_refl _))
      have hW : wo.alloc (.cells #[.int .i64 u, .int .i64 v] 30) = W1 := hW1.symm
      clear hW1 hB1
      go_upto_region 5 with fail
      clear hW hc1 hc2
      have HE := hide (show (fs.take (k + 1)).map swF = (fs.take k).map swF ++ [(v, u)] from by
        rw [take_succ HKL.out, List.map_append, HFK.out]; rfl)
      have HLen := hide (show ((fs.take k).map swF).length + [((v, u) : F)].length ≤ 1000000 from by simp; omega)
      have HO4 := hide ((unhide HO1).below ((Below.refl W1.heap.size W1).alloc (Nat.le_refl _) (.cells #[.int .i64 v, .int .i64 u] 30)) (Nat.le_refl _))
      have hbs := (unhide HB1).size
      go_wp2_with (at_builtin; refine wpList_appP rfl _ _ rfl rfl rfl (unhide HO4) (fs_one W1 v u) HLen.out (by simp; omega) ?_; intro v' w4 ho4 hg4 _)
      have HB4 := hide (show Below w.heap.size w w4 from ((unhide HB1).alloc (unhide HB1).size _).grown hg4 (by simp; omega) (fun q hq => (World.ownsRow.lt (unhide HO4) q hq).1))
      rw [← HE.out] at ho4
      have HO5 := hide ho4
      clear ho4 hg4
      go_wp2_with fail
      go_roundw
      case rel => exact ⟨k + 1, by omega, by go_num, HO5, HB4⟩
      case measure => simp [intOf]; omega
    · have HE := hide (show (fs.take k).map swF = fs.map swF from by rw [List.take_of_length_le (by rw [HL.out]; omega)])
      rw [HE.out] at HOw
      go_wp2_with fail
      go_ret
      exact ⟨_, rfl, unhide HOw, unhide HB⟩

theorem prs_no {L : List F} {k : Nat} (hk : k < L.length) (h : prB (fth L k) = false) : prsB L = false := by
  rw [Bool.eq_false_iff]; intro hc
  unfold prsB at hc
  rw [List.all_eq_true] at hc
  have := hc _ (mem_fth hk)
  rw [h] at this; cases this

set_option maxRecDepth 100000 in
set_option maxHeartbeats 8000000 in
theorem RScale_any (A : Option Addr) (n c : Nat) (fs : List F) (a b : Int) (w : World) (h : Fs w w.heap.size A n c fs) (hO : Hid (Off fs)) (hi : Hid (allIn 1 30 [a, b] = true)) :
    Calls Try.prog 36 #[.slice A n c, .int .i64 a, .int .i64 b] w fun e w' =>
      ((prsB (fs.map (scF a b)) = true ∧ ∃ v, e = .returned (.tuple #[v, .int .i64 0]) ∧ OwnQ w' w.heap.size 30 v (fs.map (scF a b))) ∨ (prsB (fs.map (scF a b)) = false ∧ e = .returned (.tuple #[.slice none 0 0, .int .i64 4]))) ∧ Below w.heap.size w w' := by
  have hm := h.most; have hcap := h.cap
  have hn : n ≤ 8 := by have := hO.out.most; have := h.len; omega
  have HI := hide h
  have HL := hide h.len
  clear h
  have hab := (allIn_2 1 30 a b).1 hi.out
  obtain ⟨⟨a1, a2⟩, b1, b2⟩ := hab
  go_enter Try.func36, Try.ntmps36
  go_wp2_with fail
  go_loopw [8, 10, 13] (fun v _ i wr => ∃ k : Nat, k ≤ n ∧ i = .int .i64 k ∧ Hid (OwnQ wr w.heap.size 30 v ((fs.take k).map (scF a b))) ∧ Hid (∀ i, i < k → prB (scF a b (fth fs i)) = true) ∧ Hid (Below w.heap.size w wr)) (fun _ _ i _ => n - (intOf i).toNat)
  case atStart => exact ⟨0, Nat.zero_le _, rfl, hide (World.ownsRow_nil _ _ _ _), hide (fun i hi => absurd hi (by omega)), hide (Below.refl _ _)⟩
  case round =>
    obtain ⟨k, hk, rfl, HOw, HPk, HB⟩ := hrel
    obtain ⟨wo, ewo⟩ : ∃ wo : World, wo = wr := ⟨_, rfl⟩
    subst ewo
    by_cases hlt : k < n
    · skip
      obtain ⟨bb, off, rfl, hbb, hc1, hc2⟩ := ((unhide HI).below (unhide HB)).at_ k hlt
      have HKL := hide (show k < fs.length from by rw [HL.out]; exact hlt)
      have hsp := hO.out.pr _ (mem_fth HKL.out)
      obtain ⟨p, hpk⟩ : ∃ p, fth fs k = p := ⟨_, rfl⟩
      rw [hpk] at hc1 hc2 hsp
      have HFK := hide hpk
      clear hpk
      obtain ⟨u, v⟩ := p
      simp only at hc1 hc2
      obtain ⟨W1, hW1⟩ : ∃ W1, W1 = wo.alloc (.cells #[.int .i64 u, .int .i64 v] 30) := ⟨_, rfl⟩
      have hB1 : Below wo.heap.size wo W1 := by rw [hW1]; exact (Below.refl _ _).alloc (Nat.le_refl _) _
      obtain ⟨x0, x1⟩ := two_at (show W1.heap[wo.heap.size]? = some (.cells #[.int .i64 u, .int .i64 v] 30 (0, 0)) from by rw [hW1]; exact heap_new_ _ _)
      have HB1 := hide ((unhide HB).trans (hB1.mono (unhide HB).size))
      have HO1 := hide ((unhide HOw).below hB1 (Nat.le_refl _))
      have hW : wo.alloc (.cells #[.int .i64 u, .int .i64 v] 30) = W1 := hW1.symm
      clear hW1 hB1
      obtain ⟨⟨s1, s2⟩, s3, s4⟩ := hsp
      simp only at s1 s2 s3 s4
      obtain ⟨g1, hg1⟩ : ∃ g1, Hid (u * a = g1) := ⟨_, rfl⟩
      obtain ⟨g2, hg2⟩ : ∃ g2, Hid (v * b = g2) := ⟨_, rfl⟩
      have d1 := mul_bd (M := 30) (N := 30) (a := u) (b := a) (by omega) (by omega)
      have d2 := mul_bd (M := 30) (N := 30) (a := v) (b := b) (by omega) (by omega)
      have z1 : 0 ≤ u * a := Int.mul_nonneg s1 (by omega)
      have z2 : 0 ≤ v * b := Int.mul_nonneg s3 (by omega)
      have hx1 : u * a = g1 := hg1.out
      have hx2 : v * b = g2 := hg2.out
      rw [hx1] at d1 z1; rw [hx2] at d2 z2
      have HPP := hide (show prB (scF a b (fth fs k)) = true ↔ g1 ≤ 30 ∧ g2 ≤ 30 from by
        rw [HFK.out, prB_iff]; simp only [scF, Int.mul_comm a u, Int.mul_comm b v, hx1, hx2]; omega)
      by_cases h1 : 30 < g1
      · have HNo := hide (show prsB (fs.map (scF a b)) = false from prs_no (k := k) (by simp; exact HKL.out) (by
          rw [fth_map _ _ _ HKL.out, Bool.eq_false_iff]; intro hc; have := HPP.out.1 hc; omega))
        go_upto_region 5 with fail
        clear hW hc1 hc2
        go_wp2_with fail
        exact bodyPost_ret (v := .tuple #[.slice none 0 0, .int .i64 4]) (by simp [results, Try.results36, go_sem]) rfl ⟨.inr ⟨HNo.out, rfl⟩, unhide HB1⟩
      by_cases h2 : 30 < g2
      · have HNo := hide (show prsB (fs.map (scF a b)) = false from prs_no (k := k) (by simp; exact HKL.out) (by
          rw [fth_map _ _ _ HKL.out, Bool.eq_false_iff]; intro hc; have := HPP.out.1 hc; omega))
        go_upto_region 5 with fail
        clear hW hc1 hc2
        go_wp2_with fail
        exact bodyPost_ret (v := .tuple #[.slice none 0 0, .int .i64 4]) (by simp [results, Try.results36, go_sem]) rfl ⟨.inr ⟨HNo.out, rfl⟩, unhide HB1⟩
      have HPk1 := hide (show ∀ i, i < k + 1 → prB (scF a b (fth fs i)) = true from fun i hi => by
        by_cases e : i = k
        · rw [e]; exact HPP.out.2 (by omega)
        · exact HPk.out i (by omega))
      go_upto_region 5 with fail
      clear hW hc1 hc2
      have HE := hide (show (fs.take (k + 1)).map (scF a b) = (fs.take k).map (scF a b) ++ [(g1, g2)] from by
        rw [take_succ HKL.out, List.map_append, HFK.out]; simp only [List.map_cons, List.map_nil, scF, Int.mul_comm a u, Int.mul_comm b v, hg1.out, hg2.out])
      have HLen := hide (show ((fs.take k).map (scF a b)).length + [((g1, g2) : F)].length ≤ 1000000 from by simp; omega)
      have HO4 := hide ((unhide HO1).below ((Below.refl W1.heap.size W1).alloc (Nat.le_refl _) (.cells #[.int .i64 g1, .int .i64 g2] 30)) (Nat.le_refl _))
      have hbs := (unhide HB1).size
      go_wp2_with (at_builtin; refine wpList_appP rfl _ _ rfl rfl rfl (unhide HO4) (fs_one W1 g1 g2) HLen.out (by simp; omega) ?_; intro v' w4 ho4 hg4 _)
      have HB4 := hide (show Below w.heap.size w w4 from ((unhide HB1).alloc (unhide HB1).size _).grown hg4 (by simp; omega) (fun q hq => (World.ownsRow.lt (unhide HO4) q hq).1))
      rw [← HE.out] at ho4
      have HO5 := hide ho4
      clear ho4 hg4
      go_wp2_with fail
      go_roundw
      case rel => exact ⟨k + 1, by omega, by go_num, HO5, HPk1, HB4⟩
      case measure => simp [intOf]; omega
    · have HE := hide (show (fs.take k).map (scF a b) = fs.map (scF a b) from by rw [List.take_of_length_le (by rw [HL.out]; omega)])
      rw [HE.out] at HOw
      have HYes := hide (show prsB (fs.map (scF a b)) = true from by
        unfold prsB; rw [List.all_eq_true]; intro q hq
        rw [List.mem_map] at hq
        obtain ⟨q', hq', rfl⟩ := hq
        obtain ⟨i, hi, rfl⟩ := mem_pth hq'
        rw [pth_fth]
        exact HPk.out i (by rw [HL.out] at hi; omega))
      go_wp2_with fail
      exact bodyPost_ret (by simp [results, Try.results36, go_sem]) rfl ⟨.inl ⟨HYes.out, _, rfl, unhide HOw⟩, unhide HB⟩
end Go.Proofs.Ytbgfiejaehpffaa
