/-
  sums of the law TopGale; its small example.
-/
import Derived.Test.YtjhicbiacnkpaaaDoorX4
import Derived.Test.YtjhicbiacnkpaaaDoorWe
namespace Go.Proofs.YtjhicbiacnkpaaaDoor
open Go.RowKit

/-- What is measured of a slice: how many numbers it lacks of six. -/
def lack : Value → Nat
  | .slice _ n _ => 6 - n
  | _ => 0

theorem sums_snoc {R : List (List Int)} {k : Nat} (hk : k < R.length) : (R.map List.sum).take (k + 1) = (R.map List.sum).take k ++ [(row R k).sum] := by
  rw [List.take_succ_eq_append_getElem (by simpa using hk)]
  have : row R k = R[k] := by simp [row, List.getD, hk]
  rw [this]; simp

set_option maxRecDepth 100000 in
set_option maxHeartbeats 1000000 in
theorem sums_any {x : Int} (A : Option Addr) (n c : Nat) (R : List (List Int)) (w : World) (h : Rows_ w w.heap.size A n c R) (HV : Hid (acB x R = true)) :
    Calls Tryd.prog 57 #[.slice A n c] w fun e w' => ∃ v, e = .returned v ∧ Owned w' w.heap.size v (fallS (pad6 (R.map List.sum))) ∧ Below w.heap.size w w' := by
  have hm := h.most; have hcap := h.cap
  have hl := hide h.len
  have HR := hide (show R.all (clB x) = true from by have := HV.out; unfold acB at this; rw [Bool.and_eq_true] at this; exact this.2)
  have hn : n ≤ 5 := by have := HV.out; unfold acB at this; rw [Bool.and_eq_true] at this; have := sz_iff.1 this.1; rw [hl.out] at this; omega
  have hnL := hide (show (R.map List.sum).length = n from by rw [List.length_map]; exact hl.out)
  go_enter Tryd.func57, Tryd.ntmps57
  go_wp2_with fail
  go_loopw [3, 5, 6, 8, 11] (fun v _ _ _ i wr => ∃ (k : Nat), k ≤ n ∧ i = .int .i64 k ∧ Owned wr w.heap.size v ((R.map List.sum).take k) ∧ Below w.heap.size w wr) (fun _ _ _ _ i _ => n - (intOf i).toNat)
  case atStart => exact ⟨0, Nat.zero_le _, rfl, World.ownsRow_nil _ _ _ _, Below.refl _ _⟩
  case round =>
    obtain ⟨k, hk, rfl, ho, hb⟩ := hrel
    by_cases hlt : k < n
    · obtain ⟨b, off, A', n', c', rfl, hb0, hc, hi⟩ := (h.below hb).at_ k hlt
      have hkR : k < R.length := by rw [hl.out]; exact hlt
      have hcb := hide (clB_sum (List.all_eq_true.1 HR.out _ (row_in hkR))).2.2
      have HSN := hide (sums_snoc hkR)
      have hl' := hide hi.len
      have hm' := hi.most; have hcap' := hi.cap
      have HI := hide hi; clear hi hkR
      have HO := hide ho; have HB := hide hb; clear ho hb
      have hlen := hide (show ((R.map List.sum).take k).length ≤ 100000 from by rw [List.length_take, hnL.out]; omega)
      obtain ⟨wi, rfl⟩ : ∃ wi : World, wi = wr := ⟨_, rfl⟩
      go_wp2_with fail
      go_loop [6, 8, 17] (fun s _ i => ∃ (j : Nat) (y : Int), j ≤ n' ∧ i = .int .i64 j ∧ s = .int .i64 y ∧ Hid (y = ((row R k).take j).sum)) (fun _ _ i => n' - (intOf i).toNat)
      case atStart => exact ⟨0, 0, Nat.zero_le _, rfl, rfl, hide (by simp)⟩
      case round =>
        obtain ⟨j, y, hj, rfl, rfl, HY⟩ := hrel
        by_cases hlt2 : j < n'
        · obtain ⟨b2, off2, rfl, hb2, hc2⟩ := HI.out.at_ j hlt2
          have HS2 := hide (sum_snoc (row R k) j (by rw [hl'.out]; exact hlt2))
          have hy : 0 ≤ y ∧ y ≤ 6 := by have := hcb.out j; rw [HY.out]; omega
          have hy2 : 0 ≤ y + nth (row R k) j ∧ y + nth (row R k) j ≤ 6 := by have := hcb.out (j + 1); rw [HS2.out] at this; rw [HY.out]; omega
          obtain ⟨y1, y2⟩ := hy
          obtain ⟨y3, y4⟩ := hy2
          have y5 : IntKind.i64.wrap (y + nth (row R k) j) = y + nth (row R k) j := by rw [IntKind.wrap_i64]; omega
          go_wp2_with fail
          go_round
          case rel => exact ⟨j + 1, y + nth (row R k) j, by omega, by go_num, rfl, hide (by rw [HS2.out, HY.out])⟩
          case measure => simp [intOf]; omega
        · have HE := hide (show y = (row R k).sum from by rw [HY.out, List.take_of_length_le (by rw [hl'.out]; omega)])
          have hbase := (unhide HB).size
          go_wp2_with (at_builtin; refine wpList_app1 rfl _ _ rfl rfl rfl (unhide HO) (unhide hlen) hbase ?_; intro v' w3 ho3 hb3)
          go_roundw
          case rel => exact ⟨k + 1, by omega, by go_num, by rw [HSN.out, ← HE.out]; exact ho3, (unhide HB).trans hb3⟩
          case measure => simp [intOf]; omega
    · obtain rfl : k = n := by omega
      have HW := hide (show (R.map List.sum).take k = R.map List.sum from List.take_of_length_le (by rw [hnL.out]; omega))
      rw [HW.out] at ho
      obtain ⟨wo, rfl⟩ : ∃ wo : World, wo = wr := ⟨_, rfl⟩
      have HO := hide ho; have HB := hide hb; clear ho hb
      go_wp2_with fail
      go_loopw [3] (fun v wr => ∃ (j : Nat) (A1 : Option Addr) (n1 c1 : Nat), v = .slice A1 n1 c1 ∧ n1 = k + j ∧ n1 ≤ 6 ∧ c1 ≤ 9223372036854775807 ∧ Owned wr w.heap.size (.slice A1 n1 c1) (R.map List.sum ++ List.replicate j 0) ∧ Below w.heap.size w wr) (fun v _ => lack v)
      case atStart =>
        obtain ⟨A1, n1, c1, e1, i1⟩ := (unhide HO).to
        have e2 := i1.len
        rw [hnL.out] at e2
        have HO' := unhide HO
        subst e1
        exact ⟨0, A1, n1, c1, rfl, by omega, by omega, i1.most, by simpa using HO', unhide HB⟩
      case round =>
        obtain ⟨j, A1, n1, c1, rfl, hn1, hn6, hc1, ho, hb⟩ := hrel
        have HO1 := hide ho; have HB1 := hide hb; clear ho hb
        have HN1 := hide hn1; clear hn1
        by_cases hlt6 : n1 < 6
        · have d : decide ((n1 : Int) < 6) = true := by simp; omega
          have hlen := hide (show (R.map List.sum ++ List.replicate j 0).length ≤ 100000 from by rw [List.length_append, hnL.out, List.length_replicate]; have := HN1.out; omega)
          have hbase := (unhide HB1).size
          go_wp2_with (at_builtin; refine wpList_app1 rfl _ _ rfl rfl rfl (unhide HO1) (unhide hlen) hbase ?_; intro v' w3 ho3 hb3)
          obtain ⟨A2, n2, c2, e2, i2⟩ := ho3.to
          subst e2
          have l2 := i2.len
          rw [List.length_append, List.length_append, hnL.out, List.length_replicate] at l2
          have e3 := hide (show n2 = n1 + 1 from by have := HN1.out; simp at l2; omega)
          have m2 := i2.most
          clear i2 l2
          go_roundw
          case rel => exact ⟨j + 1, A2, n2, c2, rfl, by rw [e3.out, HN1.out]; omega, by rw [e3.out]; omega, m2, by rw [List.replicate_succ', ← List.append_assoc]; exact ho3, (unhide HB1).trans hb3⟩
          case measure => simp only [lack, Array.getD_eq_getD_getElem?]; have := e3.out; simp [lack]; omega
        · have d : decide ((n1 : Int) < 6) = false := by simp; omega
          have HP := hide (show R.map List.sum ++ List.replicate j 0 = pad6 (R.map List.sum) from by
            unfold pad6; rw [hnL.out]; congr 2; have := HN1.out; omega)
          have hpl := hide (show (pad6 (R.map List.sum)).length = 6 from pad6_len (by rw [hnL.out]; omega))
          have ho := unhide HO1
          rw [HP.out] at ho
          have HO2 := hide ho; clear ho HO1
          go_wp2_with fail
          refine (sort_own (unhide HO2) (by rw [hpl.out]; omega) (by rw [hpl.out]; omega) (unhide HB1).size).mono ?_
          rintro e w2 ⟨rfl, ho2, hb2⟩
          have HB2 := hide ((unhide HB1).trans hb2)
          go_wp2_with fail
          refine (reverse_own ho2 (by rw [List.length_mergeSort, hpl.out]; omega) (by rw [List.length_mergeSort, hpl.out]; omega) (unhide HB2).size).mono ?_
          rintro e w3 ⟨rfl, ho3, hb3⟩
          go_wp2_with fail
          go_ret
          exact ⟨_, rfl, ho3, (unhide HB2).trans hb3⟩

set_option maxHeartbeats 400000 in
theorem blocksT_any (w : World) (ht : Tab w) : Calls Tryd.prog 56 #[] w fun e w' => e = .returned (.bool true) ∧ Below w.heap.size w w' := by
  have hl := hide (show (23 : Nat) < 2 ^ 5 by decide)
  have HE := hide (show decide (bl 23 = [3, 1]) = true by rw [bl_23]; rfl)
  have hB := Blocks_ok 5 (by omega) (by omega) 23 hl w ht
  go_enter Tryd.func56, Tryd.ntmps56
  go_wp2_with fail
  refine hB.mono ?_
  rintro e w1 ⟨A1, n1, c1, rfl, hi1, hb1⟩
  have hb2 := hb1.trans ((Below.refl w1.heap.size w1).alloc (Nat.le_refl _) (.cells #[.int .i64 3, .int .i64 1] 3) |>.mono hb1.size)
  have hi2 := hi1.alloc (Nat.le_refl _) (.cells #[.int .i64 3, .int .i64 1] 3)
  have hi3 := ints_two w1 3 1
  have hs := hb2.size
  go_wp2_with fail
  refine (equal_b _ _ _ _ _ _ _ _ _ _ _ hi2 hi3 true HE).mono ?_
  rintro e w2 ⟨rfl, hd⟩
  go_wp2_with fail
  go_ret
  exact ⟨rfl, hb2.trans (hd.mono hs)⟩
end Go.Proofs.YtjhicbiacnkpaaaDoor
