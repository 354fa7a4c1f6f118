/-
  Valid of the reference; Filled of the program and of the reference.
-/
import Derived.Test.YtjhicbiacnkpaaaDoorWg
namespace Go.Proofs.YtjhicbiacnkpaaaDoor
open Go.RowKit

theorem puzB_eq (R C : List (List Int)) : puzB R C = (sz (R.length : Int) && (sz (C.length : Int) && (R.all (clB (C.length : Int)) && C.all (clB (R.length : Int))))) := by
  unfold puzB acB
  cases sz (R.length : Int) <;> cases sz (C.length : Int) <;> cases R.all (clB (C.length : Int)) <;> cases C.all (clB (R.length : Int)) <;> rfl

set_option maxRecDepth 100000 in
set_option maxHeartbeats 1000000 in
theorem RValid_any (A1 A2 : Option Addr) (n1 n2 c1 c2 : Nat) (R C : List (List Int)) (w : World) (r1 : Rows_ w w.heap.size A1 n1 c1 R) (r2 : Rows_ w w.heap.size A2 n2 c2 C) (b : Bool) (hb : Hid (puzB R C = b)) :
    Calls Tryd.prog 37 #[.agg #[.slice A1 n1 c1, .slice A2 n2 c2]] w fun e w' => e = .returned (.bool b) ∧ Below w.heap.size w w' := by
  have m1 := r1.most; have m2 := r2.most; have k1 := r1.cap; have k2 := r2.cap
  have l1 := hide r1.len; have l2 := hide r2.len
  obtain ⟨W0, hW0⟩ : ∃ W0 : World, W0 = w.alloc (.cells #[.slice A1 n1 c1, .slice A2 n2 c2] 44) := ⟨_, rfl⟩
  have HB0 := hide (show Below w.heap.size w W0 from by rw [hW0]; exact (Below.refl _ w).alloc (Nat.le_refl _) _)
  have K1 := hide (show Blk W0 w.heap.size 44 #[.slice A1 n1 c1, .slice A2 n2 c2] from by rw [hW0]; exact Blk.new w _ _)
  have HZ := hide (show W0.heap.size = w.heap.size + 1 from by rw [hW0]; simp)
  have R1 := hide (r1.below (unhide HB0)); have R2 := hide (r2.below (unhide HB0))
  have HP := hide ((puzB_eq R C).symm.trans hb.out)
  rw [l1.out, l2.out] at HP
  clear r1 r2 hb
  obtain ⟨p0, p1, _, _⟩ := cell_two (unhide K1)
  cases hs1 : sz (n1 : Int) with
  | false =>
    have HS1 := hide hs1; clear hs1
    go_enter Tryd.func37, Tryd.ntmps37
    go_upto_region 1 with fail
    rw [← hW0]; clear hW0
    go_wp2_with fail
    refine (RSize_is _ _ _ HS1).mono ?_
    rintro e w' ⟨rfl, rfl⟩
    go_wp2_with fail
    go_ret
    exact ⟨ret_bool (by rw [← HP.out, HS1.out]; rfl), unhide HB0⟩
  | true =>
    have HS1 := hide hs1; clear hs1
    cases hs2 : sz (n2 : Int) with
    | false =>
      have HS2 := hide hs2; clear hs2
      go_enter Tryd.func37, Tryd.ntmps37
      go_upto_region 1 with fail
      rw [← hW0]; clear hW0
      go_wp2_with fail
      refine (RSize_is _ _ _ HS1).mono ?_
      rintro e w' ⟨rfl, rfl⟩
      go_wp2_with fail
      refine (RSize_is _ _ _ HS2).mono ?_
      rintro e w' ⟨rfl, rfl⟩
      go_wp2_with fail
      go_ret
      exact ⟨ret_bool (by rw [← HP.out, HS1.out, HS2.out]; rfl), unhide HB0⟩
    | true =>
      have HS2 := hide hs2; clear hs2
      go_enter Tryd.func37, Tryd.ntmps37
      go_upto_region 1 with fail
      rw [← hW0]; clear hW0
      go_wp2_with fail
      refine (RSize_is _ _ _ HS1).mono ?_
      rintro e w' ⟨rfl, rfl⟩
      go_wp2_with fail
      refine (RSize_is _ _ _ HS2).mono ?_
      rintro e w' ⟨rfl, rfl⟩
      go_wp2_with fail
      go_loopw [4, 22] (fun _ i wr => ∃ k : Nat, k ≤ n1 ∧ i = .int .i64 k ∧ Hid (RwTo (clB n2) R k) ∧ Below W0.heap.size W0 wr) (fun _ i _ => n1 - (intOf i).toNat)
      case atStart => exact ⟨0, Nat.zero_le _, rfl, hide (fun j hj => absurd hj (by omega)), Below.refl _ _⟩
      case round =>
        obtain ⟨k, hk, rfl, HA, hbl⟩ := hrel
        have k1r := hide ((unhide K1).below hbl (by rw [HZ.out]; omega))
        obtain ⟨q0, q1, _, _⟩ := cell_two (unhide k1r)
        have hsw := hide (show w.heap.size ≤ wr.heap.size from by have := hbl.size; have := HZ.out; omega)
        by_cases hlt : k < n1
        · obtain ⟨bb, off, A', n', c', rfl, hb0, hc, hi⟩ := ((unhide R1).below (hbl.mono (by rw [HZ.out]; omega))).at_ k hlt
          have HI := hide (hi.more hsw.out); clear hi
          cases hcl : clB n2 (row R k) with
          | true =>
            have HC := hide hcl; clear hcl
            go_wp2_with fail
            refine (RClue_any _ _ _ _ _ _ (unhide HI)).mono ?_
            rintro e w1 ⟨rfl, b1⟩
            rw [HC.out]
            go_wp2_with fail
            go_roundw
            case rel => exact ⟨k + 1, by omega, by go_num, hide (HA.out.succ HC.out), hbl.trans (b1.mono hbl.size)⟩
            case measure => simp [intOf]; omega
          | false =>
            have HC := hide hcl; clear hcl
            have HF := hide (show b = false from by rw [← HP.out, not_all_row (by rw [l1.out]; exact hlt) HC.out]; simp)
            go_wp2_with fail
            refine (RClue_any _ _ _ _ _ _ (unhide HI)).mono ?_
            rintro e w1 ⟨rfl, b1⟩
            rw [HC.out]
            go_wp2_with fail
            go_ret
            exact ⟨ret_bool HF.out.symm, (unhide HB0).trans ((hbl.trans (b1.mono hbl.size)).mono (by rw [HZ.out]; omega))⟩
        · have HR := hide (show R.all (clB n2) = true from all_row (by rw [l1.out, ← show k = n1 by omega]; exact HA.out))
          clear HA
          obtain ⟨wo, rfl⟩ : ∃ wo : World, wo = wr := ⟨_, rfl⟩
          replace hbl := hide hbl
          go_wp2_with fail
          go_loopw [6, 36] (fun _ i wr => ∃ k : Nat, k ≤ n2 ∧ i = .int .i64 k ∧ Hid (RwTo (clB n1) C k) ∧ Below wo.heap.size wo wr) (fun _ i _ => n2 - (intOf i).toNat)
          case atStart => exact ⟨0, Nat.zero_le _, rfl, hide (fun j hj => absurd hj (by omega)), Below.refl _ _⟩
          case round =>
            obtain ⟨k, hk, rfl, HA, hb2⟩ := hrel
            have HBL := hide ((unhide hbl).trans (hb2.mono (unhide hbl).size))
            have k2r := hide ((unhide K1).below (unhide HBL) (by rw [HZ.out]; omega))
            obtain ⟨q0, q1, _, _⟩ := cell_two (unhide k2r)
            have hsw2 := hide (show w.heap.size ≤ wr.heap.size from by have := (unhide HBL).size; have := HZ.out; omega)
            by_cases hlt : k < n2
            · obtain ⟨bb, off, A', n', c', rfl, hb0, hc, hi⟩ := ((unhide R2).below ((unhide HBL).mono (by rw [HZ.out]; omega))).at_ k hlt
              have HI := hide (hi.more hsw2.out); clear hi
              cases hcl : clB n1 (row C k) with
              | true =>
                have HC := hide hcl; clear hcl
                go_wp2_with fail
                refine (RClue_any _ _ _ _ _ _ (unhide HI)).mono ?_
                rintro e w1 ⟨rfl, b1⟩
                rw [HC.out]
                go_wp2_with fail
                go_roundw
                case rel => exact ⟨k + 1, by omega, by go_num, hide (HA.out.succ HC.out), hb2.trans (b1.mono hb2.size)⟩
                case measure => simp [intOf]; omega
              | false =>
                have HC := hide hcl; clear hcl
                have HF := hide (show b = false from by rw [← HP.out, not_all_row (R := C) (by rw [l2.out]; exact hlt) HC.out]; simp)
                go_wp2_with fail
                refine (RClue_any _ _ _ _ _ _ (unhide HI)).mono ?_
                rintro e w1 ⟨rfl, b1⟩
                rw [HC.out]
                go_wp2_with fail
                go_ret
                exact ⟨ret_bool HF.out.symm, (unhide HB0).trans (((unhide HBL).trans (b1.mono (unhide HBL).size)).mono (by rw [HZ.out]; omega))⟩
            · have HR2 := hide (show C.all (clB n1) = true from all_row (by rw [l2.out, ← show k = n2 by omega]; exact HA.out))
              go_wp2_with fail
              go_ret
              exact ⟨ret_bool (by rw [← HP.out, HS1.out, HS2.out, HR.out, HR2.out]; rfl), (unhide HB0).trans ((unhide HBL).mono (by rw [HZ.out]; omega))⟩

theorem puz_parts {R C : List (List Int)} (h : puzB R C = true) : acB (C.length : Int) R = true ∧ acB (R.length : Int) C = true := by
  unfold puzB at h; rwa [Bool.and_eq_true] at h

set_option maxHeartbeats 400000 in
theorem Filled_any (A1 A2 : Option Addr) (n1 n2 c1 c2 : Nat) (R C : List (List Int)) (w : World) (r1 : Rows_ w w.heap.size A1 n1 c1 R) (r2 : Rows_ w w.heap.size A2 n2 c2 C) (x k : Int)
    (hx : Hid ((x, k) = if puzB R C = true then (if smR C = smR R then (smR R, 0) else (0, 4)) else ((0, 2) : Int × Int))) :
    Calls Tryd.prog 44 #[.agg #[.slice A1 n1 c1, .slice A2 n2 c2]] w fun e w' => e = .returned (.tuple #[.int .i64 x, .int .i64 k]) ∧ Below w.heap.size w w' := by
  have hb0 := (Below.refl w.heap.size w).alloc (Nat.le_refl _) (.cells #[.slice A1 n1 c1, .slice A2 n2 c2] 40)
  have R1 := hide (r1.on hb0 |> fun h => h.more (Nat.le_refl _)); have R2 := hide ((r2.below hb0).more hb0.size)
  have R1' := hide ((r1.below hb0).more hb0.size)
  have K0 := hide (Blk.new w 40 #[.slice A1 n1 c1, .slice A2 n2 c2])
  replace hb0 := hide hb0
  clear r1 r2 R1
  cases hp : puzB R C with
  | false =>
    have HP := hide hp
    rw [hp] at hx
    have e0 := hx.out
    simp at e0
    obtain ⟨rfl, rfl⟩ := e0
    clear hp hx
    go_enter Tryd.func44, Tryd.ntmps44
    go_wp2_with fail
    refine (isPuzzle_any _ _ _ _ _ _ _ _ _ (unhide R1') (unhide R2) _ HP).mono ?_
    rintro e w1 ⟨rfl, b1⟩
    go_wp2_with fail
    go_ret2
    exact ⟨rfl, (unhide hb0).trans (b1.mono (unhide hb0).size)⟩
  | true =>
    have HP := hide hp
    obtain ⟨v1, v2⟩ := puz_parts hp
    have V1 := hide v1; have V2 := hide v2
    rw [hp] at hx
    clear hp v1 v2
    go_enter Tryd.func44, Tryd.ntmps44
    go_wp2_with fail
    refine (isPuzzle_any _ _ _ _ _ _ _ _ _ (unhide R1') (unhide R2) _ HP).mono ?_
    rintro e w1 ⟨rfl, b1⟩
    have K1 := hide ((unhide K0).below b1 (by simp))
    obtain ⟨q0, q1, _, _⟩ := cell_two (unhide K1)
    have S1 := hide ((unhide R1').on b1); have S2 := hide ((unhide R2).on b1)
    have HB := hide ((unhide hb0).trans (b1.mono (unhide hb0).size))
    clear b1
    go_wp2_with fail
    refine (sumOf_any _ _ _ _ _ _ (unhide S1) V1).mono ?_
    rintro e w' ⟨rfl, rfl⟩
    go_wp2_with fail
    refine (sumOf_any _ _ _ _ _ _ (unhide S2) V2).mono ?_
    rintro e w' ⟨rfl, rfl⟩
    by_cases he : smR C = smR R
    · have d : (smR C != smR R) = false := by simp [he]
      have e0 := hx.out
      simp [he] at e0
      obtain ⟨rfl, rfl⟩ := e0
      have HE := hide he; clear he hx
      go_wp2_with fail
      go_ret2
      exact ⟨rfl, unhide HB⟩
    · have d : (smR C != smR R) = true := by simp [he]
      have e0 := hx.out
      simp [he] at e0
      obtain ⟨rfl, rfl⟩ := e0
      have HE := hide he; clear he hx
      go_wp2_with fail
      go_ret2
      exact ⟨rfl, unhide HB⟩
end Go.Proofs.YtjhicbiacnkpaaaDoor
