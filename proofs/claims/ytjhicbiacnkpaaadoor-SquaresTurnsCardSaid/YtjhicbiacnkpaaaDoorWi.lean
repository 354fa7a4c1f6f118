/-
  Filled of the reference.
-/
import Derived.Test.YtjhicbiacnkpaaaDoorWh
namespace Go.Proofs.YtjhicbiacnkpaaaDoor
open Go.RowKit

set_option maxRecDepth 100000 in
set_option maxHeartbeats 1000000 in
theorem RFilled_any (A1 A2 : Option Addr) (n1 n2 c1 c2 : Nat) (R C : List (List Int)) (w : World) (r1 : Rows_ w w.heap.size A1 n1 c1 R) (r2 : Rows_ w w.heap.size A2 n2 c2 C) (HV : Hid (puzB R C = true)) (x kk : Int)
    (hx : Hid ((x, kk) = if smR C = smR R then (smR R, 0) else ((0, 4) : Int × Int))) :
    Calls Tryd.prog 47 #[.agg #[.slice A1 n1 c1, .slice A2 n2 c2]] w fun e w' => e = .returned (.tuple #[.int .i64 x, .int .i64 kk]) ∧ Below w.heap.size w w' := by
  have m1 := r1.most; have m2 := r2.most; have k1 := r1.cap; have k2 := r2.cap
  have l1 := hide r1.len; have l2 := hide r2.len
  obtain ⟨v1, v2⟩ := puz_parts HV.out
  unfold acB at v1 v2
  rw [Bool.and_eq_true] at v1 v2
  have z1 := sz_iff.1 v1.1
  have z2 := sz_iff.1 v2.1
  rw [l1.out] at z1
  rw [l2.out] at z2
  have hn1 : n1 ≤ 5 := by omega
  have hn2 : n2 ≤ 5 := by omega
  have R1v := hide v1.2; have R2v := hide v2.2
  clear v1 v2 z1 z2
  obtain ⟨W0, hW0⟩ : ∃ W0 : World, W0 = w.alloc (.cells #[.slice A1 n1 c1, .slice A2 n2 c2] 44) := ⟨_, rfl⟩
  have HB0 := hide (show Below w.heap.size w W0 from by rw [hW0]; exact (Below.refl _ w).alloc (Nat.le_refl _) _)
  have K1 : Blk W0 w.heap.size 44 #[.slice A1 n1 c1, .slice A2 n2 c2] := by rw [hW0]; exact Blk.new w _ _
  have R1 := r1.below (unhide HB0); have R2 := r2.below (unhide HB0)
  clear r1 r2
  obtain ⟨p0, p1, _, _⟩ := cell_two K1
  clear K1
  go_enter Tryd.func47, Tryd.ntmps47
  go_upto_region 1 with fail
  rw [← hW0]; clear hW0
  go_wp2_with fail
  go_loop [4, 7, 9, 17] (fun s _ _ i => ∃ (k : Nat) (z : Int), k ≤ n1 ∧ i = .int .i64 k ∧ s = .int .i64 z ∧ Hid (z = smT R k)) (fun _ _ _ i => n1 - (intOf i).toNat)
  case atStart => exact ⟨0, 0, Nat.zero_le _, rfl, rfl, hide (by simp [smT])⟩
  case round =>
    obtain ⟨k, z, hk, rfl, rfl, HZ⟩ := hrel
    by_cases hlt : k < n1
    · obtain ⟨b, off, A', n1', c', rfl, hb, hc, hi⟩ := R1.at_ k hlt
      have hkR : k < R.length := by rw [l1.out]; exact hlt
      have hbd := smT_bd R1v.out k (by omega)
      have hcb := hide (clB_sum (List.all_eq_true.1 R1v.out _ (row_in hkR))).2.2
      have HSN := hide (smT_snoc hkR)
      have hl' := hide hi.len
      have hm' := hi.most; have hcap' := hi.cap
      have HI := hide hi; clear hi
      have hzb : 0 ≤ z ∧ z ≤ 30 := by rw [HZ.out]; omega
      obtain ⟨z1, z2⟩ := hzb
      clear hbd hkR
      go_wp2_with fail
      go_loop [4, 9, 23] (fun s _ i => ∃ (j : Nat) (y : Int), j ≤ n1' ∧ i = .int .i64 j ∧ s = .int .i64 y ∧ Hid (y = z + ((row R k).take j).sum)) (fun _ _ i => n1' - (intOf i).toNat)
      case atStart => exact ⟨0, z, Nat.zero_le _, rfl, rfl, hide (by simp)⟩
      case round =>
        obtain ⟨j, y, hj, rfl, rfl, HY⟩ := hrel
        by_cases hlt2 : j < n1'
        · obtain ⟨b2, off2, rfl, hb2, hc2⟩ := HI.out.at_ j hlt2
          have HS2 := hide (sum_snoc (row R k) j (by rw [hl'.out]; exact hlt2))
          have hy : 0 ≤ y ∧ y ≤ 36 := by have := hcb.out j; rw [HY.out]; omega
          have hy2 : 0 ≤ y + nth (row R k) j ∧ y + nth (row R k) j ≤ 36 := by have := hcb.out (j + 1); rw [HS2.out] at this; rw [HY.out]; omega
          obtain ⟨y1, y2⟩ := hy
          obtain ⟨y3, y4⟩ := hy2
          have y5 : IntKind.i64.wrap (y + nth (row R k) j) = y + nth (row R k) j := by rw [IntKind.wrap_i64]; omega
          go_wp2_with fail
          go_round
          case rel => exact ⟨j + 1, y + nth (row R k) j, by omega, by go_num, rfl, hide (by rw [HS2.out, HY.out]; omega)⟩
          case measure => simp [intOf]; omega
        · have HE := hide (show y = smT R (k + 1) from by
            rw [HSN.out, HY.out, HZ.out, List.take_of_length_le (by rw [hl'.out]; omega)])
          go_wp2_with fail
          go_round
          case rel => exact ⟨k + 1, y, by omega, by go_num, rfl, HE⟩
          case measure => simp [intOf]; omega
    · have HE1 := hide (show z = smR R from by
        rw [HZ.out]; unfold smT smR; rw [List.take_of_length_le (by rw [l1.out]; omega)])
      have hb1 := smT_bd R1v.out k (by rw [l1.out]; exact hk)
      have hzb : 0 ≤ z ∧ z ≤ 30 := by rw [HZ.out]; omega
      clear hb1 HZ
      obtain ⟨s, hs⟩ : ∃ s, s = z := ⟨_, rfl⟩
      have HE := hide (show s = smR R from by rw [hs]; exact HE1.out)
      rw [← hs]; rw [← hs] at hzb
      obtain ⟨s1, s2⟩ := hzb
      clear hs HE1 z
      go_wp2_with fail
      clear hlt hk
      go_loop [5, 11, 13, 35] (fun s _ _ i => ∃ (k : Nat) (z : Int), k ≤ n2 ∧ i = .int .i64 k ∧ s = .int .i64 z ∧ Hid (z = smT C k)) (fun _ _ _ i => n2 - (intOf i).toNat)
      case atStart => exact ⟨0, 0, Nat.zero_le _, rfl, rfl, hide (by simp [smT])⟩
      case round =>
        obtain ⟨k, z, hk, rfl, rfl, HZ⟩ := hrel
        by_cases hlt : k < n2
        · obtain ⟨b, off, A', n2', c', rfl, hb, hc, hi⟩ := R2.at_ k hlt
          have hkR : k < C.length := by rw [l2.out]; exact hlt
          have hbd := smT_bd R2v.out k (by omega)
          have hcb := hide (clB_sum (List.all_eq_true.1 R2v.out _ (row_in hkR))).2.2
          have HSN := hide (smT_snoc hkR)
          have hl' := hide hi.len
          have hm' := hi.most; have hcap' := hi.cap
          have HI := hide hi; clear hi
          have hzb : 0 ≤ z ∧ z ≤ 30 := by rw [HZ.out]; omega
          obtain ⟨z1, z2⟩ := hzb
          clear hbd hkR
          go_wp2_with fail
          go_loop [5, 13, 41] (fun s _ i => ∃ (j : Nat) (y : Int), j ≤ n2' ∧ i = .int .i64 j ∧ s = .int .i64 y ∧ Hid (y = z + ((row C k).take j).sum)) (fun _ _ i => n2' - (intOf i).toNat)
          case atStart => exact ⟨0, z, Nat.zero_le _, rfl, rfl, hide (by simp)⟩
          case round =>
            obtain ⟨j, y, hj, rfl, rfl, HY⟩ := hrel
            by_cases hlt2 : j < n2'
            · obtain ⟨b2, off2, rfl, hb2, hc2⟩ := HI.out.at_ j hlt2
              have HS2 := hide (sum_snoc (row C k) j (by rw [hl'.out]; exact hlt2))
              have hy : 0 ≤ y ∧ y ≤ 36 := by have := hcb.out j; rw [HY.out]; omega
              have hy2 : 0 ≤ y + nth (row C k) j ∧ y + nth (row C k) j ≤ 36 := by have := hcb.out (j + 1); rw [HS2.out] at this; rw [HY.out]; omega
              obtain ⟨y1, y2⟩ := hy
              obtain ⟨y3, y4⟩ := hy2
              have y5 : IntKind.i64.wrap (y + nth (row C k) j) = y + nth (row C k) j := by rw [IntKind.wrap_i64]; omega
              go_wp2_with fail
              go_round
              case rel => exact ⟨j + 1, y + nth (row C k) j, by omega, by go_num, rfl, hide (by rw [HS2.out, HY.out]; omega)⟩
              case measure => simp [intOf]; omega
            · have HE := hide (show y = smT C (k + 1) from by
                rw [HSN.out, HY.out, HZ.out, List.take_of_length_le (by rw [hl'.out]; omega)])
              go_wp2_with fail
              go_round
              case rel => exact ⟨k + 1, y, by omega, by go_num, rfl, HE⟩
              case measure => simp [intOf]; omega
        · have HC := hide (show z = smR C from by
            rw [HZ.out]; unfold smT smR; rw [List.take_of_length_le (by rw [l2.out]; omega)])
          have hb1 := smT_bd R2v.out k (by rw [l2.out]; exact hk)
          have hzb : 0 ≤ z ∧ z ≤ 30 := by rw [HZ.out]; omega
          obtain ⟨y1, y2⟩ := hzb
          clear hb1 HZ
          by_cases he : s = z
          · have d : (s != z) = false := by simp [he]
            have e0 := hx.out
            rw [← HC.out, ← HE.out, ← he] at e0
            simp at e0
            obtain ⟨rfl, rfl⟩ := e0
            have HH := hide he; clear he
            go_wp2_with fail
            go_ret2
            exact ⟨rfl, unhide HB0⟩
          · have d : (s != z) = true := by simp [he]
            have e0 := hx.out
            rw [← HC.out, ← HE.out, if_neg (fun e => he e.symm)] at e0
            simp only [Prod.mk.injEq] at e0
            obtain ⟨rfl, rfl⟩ := e0
            have HH := hide he; clear he
            go_wp2_with fail
            go_ret2
            exact ⟨rfl, unhide HB0⟩
end Go.Proofs.YtjhicbiacnkpaaaDoor
