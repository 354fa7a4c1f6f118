/-
  Split of the program and of the reference.
-/
import Derived.Test.YtmgoonoifgcmnaaA2
import Derived.Deep.RegionLaw
namespace Go.Proofs.Ytmgoonoifgcmnaa
open Go.RowKit

/-- The pairs of places of a row, the first k. -/
def spT (xs : List Int) (k : Nat) : List (List Int) := (List.range k).map fun (j : Nat) => [ixI xs ((j : Int) + 1) + 1, ixI xs ((j : Int) + 1) + 1 + ((j : Int) + 1)]
def spL (xs : List Int) : List (List Int) := spT xs (xs.length / 2)
theorem spT_succ (xs : List Int) (k : Nat) : spT xs (k + 1) = spT xs k ++ [[ixI xs ((k : Int) + 1) + 1, ixI xs ((k : Int) + 1) + 1 + ((k : Int) + 1)]] := by simp [spT, List.range_succ]
theorem spT_len (xs : List Int) (k : Nat) : (spT xs k).length = k := by simp [spT]
theorem OwnA.toN {w : World} {base s : Nat} {e : TypeId} {v : Value} {xs : List (List Int)} (h : OwnA w base e s v xs) {n : Nat} (hn : xs.length = n) : ∃ A c, v = .slice A n c ∧ As w w.heap.size A n c s xs := by
  subst hn; exact h.reads
theorem plcL_len (xs : List Int) : (plcL xs).length = xs.length / 2 := by simp [plcL, plcT]
theorem plcL_at {xs : List Int} {k : Nat} (h : k < xs.length / 2) : nth (plcL xs) k = ixI xs ((k : Int) + 1) := by simp [plcL, plcT, nth, List.getD, h]

theorem Owned.toN' {w : World} {base : Nat} {v : Value} {xs : List Int} (h : Owned w base v xs) {n : Nat} (hn : xs.length = n) : ∃ A c, v = .slice A n c ∧ Ints w w.heap.size A n c xs := by
  subst hn; exact h.ints

set_option maxHeartbeats 400000 in
theorem Split_no (A : Option Addr) (n c : Nat) (xs : List Int) (w : World) (B : Nat) (h : Ints w B A n c xs) (hn : n ≤ 1000) (hb : Hid (rowB 1 xs = false)) :
    Calls Try.prog 53 #[.slice A n c] w fun e w' => e = .returned (.tuple #[.slice none 0 0, .int .i64 2]) ∧ w = w' := by
  go_enter Try.func53, Try.ntmps53
  go_wp2_with (go_at_call 69; refine (isRow_any _ _ _ _ _ _ _ h (by omega) false hb).mono ?_; rintro e w' ⟨rfl, rfl⟩)
  go_ret2
  exact ⟨rfl, rfl⟩
set_option maxRecDepth 100000 in
set_option maxHeartbeats 1000000 in
theorem Split_ok (A : Option Addr) (n c : Nat) (xs : List Int) (w : World) (h : Ints w w.heap.size A n c xs) (hb : Hid (rowB 1 xs = true)) (m : Nat) (hmn : Hid (xs.length / 2 = m)) :
    Calls Try.prog 53 #[.slice A n c] w fun e w' => ∃ A' c', e = .returned (.tuple #[.slice A' m c', .int .i64 0]) ∧ As w' w'.heap.size A' m c' 2 (spL xs) ∧ Below w.heap.size w w' := by
  have hl := hide h.len
  have hn : n ≤ 16 := by rw [← h.len]; exact row_len hb.out
  have H := hide h
  have hm8 : m ≤ 8 := by have := hmn.out; have := hl.out; omega
  clear h
  go_enter Try.func53, Try.ntmps53
  go_wp2_with (go_at_call 69; refine (isRow_any _ _ _ _ _ _ _ (unhide H) (by omega) true hb).mono ?_; rintro e w' ⟨rfl, rfl⟩)
  refine (places_any _ _ _ _ _ (unhide H) (by omega)).mono ?_
  rintro e w1 ⟨v1, rfl, ho, hb1⟩
  obtain ⟨A1, c1, rfl, hi1⟩ := ho.toN' (n := m) (by rw [plcL_len]; exact hmn.out)
  have hm1 := hi1.most; have hc1 := hi1.cap
  have HI1 := hide hi1
  have HB1 := hide hb1
  clear ho hi1 hb1
  go_wp2_with fail
  go_loopw [4, 5, 6, 7, 14] (fun v _ _ _ i wr => ∃ k : Nat, k ≤ m ∧ i = .int .i64 (k : Nat) ∧ Hid (OwnA wr w1.heap.size 56 2 v (spT xs k)) ∧ Hid (Below w1.heap.size w1 wr)) (fun _ _ _ _ i _ => m - (intOf i).toNat)
  case atStart => exact ⟨0, Nat.zero_le _, rfl, hide (OwnA.new _ _ _ _), hide (Below.refl _ _)⟩
  case round =>
    obtain ⟨k, hk, rfl, HO, HB⟩ := hrel
    by_cases hlt : k < m
    · obtain ⟨b, off, rfl, hbb, hc⟩ := ((unhide HI1).below (unhide HB)).at_ k hlt
      rw [plcL_at (by rw [hmn.out]; exact hlt)] at hc
      obtain ⟨p, j, _, _, hp2, _, _, hp⟩ := row_places hb.out (q := k) (by rw [hmn.out]; exact hlt)
      have HN := hide (spT_succ xs k)
      rw [hp] at hc HN
      have hpb : p < 1000 := by have := hl.out; omega
      have hlen : (spT xs k).length ≤ 1000000 := by rw [spT_len]; omega
      have hbase := (unhide HB).size
      clear hp hp2
      go_wp2_with (at_builtin; refine wpList_app2 rfl _ _ rfl rfl rfl (unhide HO) hlen hbase ?_; intro v' w3 ho3 hb3)
      go_roundw
      case rel => exact ⟨k + 1, by omega, by go_num, hide (by rw [HN.out]; exact ho3), hide ((unhide HB).trans hb3)⟩
      case measure => simp [intOf]; omega
    · have ho := unhide HO
      rw [show spT xs k = spL xs from by unfold spL; rw [hmn.out, show k = m by omega]] at ho
      obtain ⟨A2, c2, rfl, hi2⟩ := ho.toN (n := m) (by unfold spL; rw [spT_len]; exact hmn.out)
      have HI2 := hide hi2
      clear ho hi2
      go_wp2_with fail
      go_ret2
      exact ⟨A2, c2, rfl, unhide HI2, (unhide HB1).trans ((unhide HB).mono (unhide HB1).size)⟩

set_option maxRecDepth 100000 in
set_option maxHeartbeats 1000000 in
theorem RSplit_any (A : Option Addr) (n c : Nat) (xs : List Int) (w : World) (h : Ints w w.heap.size A n c xs) (hb : Hid (rowB 1 xs = true)) (m : Nat) (hmn : Hid (xs.length / 2 = m)) :
    Calls Try.prog 56 #[.slice A n c] w fun e w' => ∃ A' c', e = .returned (.slice A' m c') ∧ As w' w'.heap.size A' m c' 2 (spL xs) ∧ Below w.heap.size w w' := by
  have hl := hide h.len
  have hmo := h.most; have hcap := h.cap
  have hn : n ≤ 16 := by rw [← h.len]; exact row_len hb.out
  have hmm : ((n : Int)).tdiv 2 = (m : Int) := by rw [Int.tdiv_eq_ediv_of_nonneg (by omega)]; have := hmn.out; have := hl.out; omega
  have H := hide h
  have hm8 : m ≤ 8 := by have := hmn.out; have := hl.out; omega
  clear h
  go_enter Try.func56, Try.ntmps56
  go_wp2_with fail
  go_loopw [3, 4, 5, 9] (fun v _ _ i wr => ∃ k : Nat, k ≤ m ∧ i = .int .i64 (k : Nat) ∧ Hid (OwnA wr w.heap.size 56 2 v (spT xs k)) ∧ Hid (Below w.heap.size w wr)) (fun _ _ _ i _ => m - (intOf i).toNat)
  case atStart => exact ⟨0, Nat.zero_le _, rfl, hide (OwnA.new _ _ _ _), hide (Below.refl _ _)⟩
  case round =>
    obtain ⟨k, hk, rfl, HO, HB⟩ := hrel
    by_cases hlt : k < m
    · have HI := hide ((unhide H).on (unhide HB))
      obtain ⟨p, j, hpl, hj, hp2, _, _, hp⟩ := row_places hb.out (q := k) (by rw [hmn.out]; exact hlt)
      have HN := hide (spT_succ xs k)
      rw [hp] at HN
      have HPL := hide hpl
      have HJ := hide hj
      have hpb : p < 1000 := by have := hl.out; omega
      have hjb : j < 1000 := by have := hl.out; omega
      have hlen : (spT xs k).length ≤ 1000000 := by rw [spT_len]; omega
      clear hp hp2 hpl hj
      go_wp2_with fail
      refine (rplaces_ints _ _ _ _ ((k : Int) + 1) _ (unhide HI) (by omega)).mono ?_
      rintro e w1 ⟨A1, n1, c1, rfl, hi1, hb1⟩
      have hl1 := hi1.len
      rw [HPL.out] at hl1 hi1
      obtain rfl : n1 = 2 := hl1.symm
      obtain ⟨b, off, rfl, hbb, hcell⟩ := hi1.cells (by omega)
      have hm1 := hi1.most; have hc1 := hi1.cap
      have y0 := hcell 0 (by simp)
      have y1 := hcell 1 (by simp)
      simp only [List.getD_cons_zero, List.getD_cons_succ, Nat.add_zero] at y0 y1
      have HB1 := hide ((unhide HB).trans (hb1.mono (unhide HB).size))
      have HO1 := hide ((unhide HO).below hb1)
      have hbase := hide (unhide HB1).size
      have y0d : w1.drew.cell? ⟨b, off, none⟩ = some (.int .i64 (p : Int)) := y0
      have y1d : w1.drew.cell? ⟨b, off + 1, none⟩ = some (.int .i64 (j : Int)) := y1
      have HO1d := hide (show OwnA w1.drew w.heap.size 56 2 u3 (spT xs k) from unhide HO1)
      have hb1d := hide (show w.heap.size ≤ w1.drew.heap.size from hbase.out)
      have HEQ := hide (show spT xs (k + 1) = spT xs k ++ [[(p : Int) + 1, (j : Int) + 1]] from by
        rw [HN.out, show (j : Int) + 1 = (p : Int) + 1 + ((k : Int) + 1) by have := HJ.out; omega])
      have hw1 : IntKind.i64.wrap ((p : Int) + 1) = (p : Int) + 1 := by simp [IntKind.wrap, IntKind.signed, IntKind.bits]; omega
      have hw2 : IntKind.i64.wrap ((j : Int) + 1) = (j : Int) + 1 := by simp [IntKind.wrap, IntKind.signed, IntKind.bits]; omega
      clear hi1 hb1 hcell hl1
      go_wp2_with fail
      go_region_law (refine step_app2 (w := w1.drew) (p := (p : Int) + 1) (q := (j : Int) + 1) (xs := spT xs k) (v := u3) (base := w.heap.size) (by rfl) (.tmp 16) (.tmp 26) (by rfl) (by rfl) (by rfl) (unhide HO1d) hlen hb1d.out ?_
                     intro v4 w4 ho4 hb4)
      all_goals
        have HO4 := hide ho4
        have HB4 := hide ((unhide HB1).drew.trans hb4)
        clear ho4 hb4
        go_wp2_with fail
        go_roundw
        case rel => exact ⟨k + 1, by omega, by go_num, hide (by rw [HEQ.out]; exact unhide HO4), HB4⟩
        case measure => simp [intOf]; omega
    · have ho := unhide HO
      rw [show spT xs k = spL xs from by unfold spL; rw [hmn.out, show k = m by omega]] at ho
      obtain ⟨A2, c2, rfl, hi2⟩ := ho.toN (n := m) (by unfold spL; rw [spT_len]; exact hmn.out)
      have HI2 := hide hi2
      clear ho hi2
      go_wp2_with fail
      go_ret
      exact ⟨A2, c2, rfl, unhide HI2, unhide HB⟩
end Go.Proofs.Ytmgoonoifgcmnaa
