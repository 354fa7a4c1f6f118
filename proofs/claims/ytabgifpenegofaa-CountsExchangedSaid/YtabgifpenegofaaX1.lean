/-
  areTwo and swapped of the program; Places of the reference.
-/
import Derived.Test.YtabgifpenegofaaR3
namespace Go.Proofs.Ytabgifpenegofaa
open Go.RowKit

theorem run_max' (x y : Int) (W : World) : (Builtin.max_ #[3, 3] 3 #[.int .i64 x, .int .i64 y]).run Try.prog W = .ok (.int .i64 (max x y)) W := by
  rw [run_max_int2 (P := Try.prog)]
  congr 2
  split <;> omega
theorem put9 {W : World} {b : Nat} {L : Nat → Nat → Int} (h : Blk W b 79 (kyA L)) (K : Nat → Nat → Int) : Blk (((((((((W.setCell ⟨b, 0, none⟩ (.int .i64 (K 0 0))).setCell ⟨b, 1, none⟩ (.int .i64 (K 0 1))).setCell ⟨b, 2, none⟩ (.int .i64 (K 0 2))).setCell ⟨b, 3, none⟩ (.int .i64 (K 1 0))).setCell ⟨b, 4, none⟩ (.int .i64 (K 1 1))).setCell ⟨b, 5, none⟩ (.int .i64 (K 1 2))).setCell ⟨b, 6, none⟩ (.int .i64 (K 2 0))).setCell ⟨b, 7, none⟩ (.int .i64 (K 2 1))).setCell ⟨b, 8, none⟩ (.int .i64 (K 2 2))) b 79 (kyA K) := by
  have e : ((((((((((kyA L).setIfInBounds 0 (.int .i64 (K 0 0))).setIfInBounds 1 (.int .i64 (K 0 1))).setIfInBounds 2 (.int .i64 (K 0 2))).setIfInBounds 3 (.int .i64 (K 1 0))).setIfInBounds 4 (.int .i64 (K 1 1))).setIfInBounds 5 (.int .i64 (K 1 2))).setIfInBounds 6 (.int .i64 (K 2 0))).setIfInBounds 7 (.int .i64 (K 2 1))).setIfInBounds 8 (.int .i64 (K 2 2))) = kyA K := by simp [kyA]
  rw [← e]
  exact (((((((((h.set_ 0 _).set_ 1 _).set_ 2 _).set_ 3 _).set_ 4 _).set_ 5 _).set_ 6 _).set_ 7 _).set_ 8 _)
theorem below_put9 {W w : World} {b B : Nat} (h : Below B w W) (hb : B ≤ b) (v0 v1 v2 v3 v4 v5 v6 v7 v8 : Value) : Below B w (((((((((W.setCell ⟨b, 0, none⟩ v0).setCell ⟨b, 1, none⟩ v1).setCell ⟨b, 2, none⟩ v2).setCell ⟨b, 3, none⟩ v3).setCell ⟨b, 4, none⟩ v4).setCell ⟨b, 5, none⟩ v5).setCell ⟨b, 6, none⟩ v6).setCell ⟨b, 7, none⟩ v7).setCell ⟨b, 8, none⟩ v8) :=
  ((below_put3 h hb v0 v1 v2 |>.setCell (p := ⟨b, 3, none⟩) hb v3 |>.setCell (p := ⟨b, 4, none⟩) hb v4 |>.setCell (p := ⟨b, 5, none⟩) hb v5).setCell (p := ⟨b, 6, none⟩) hb v6 |>.setCell (p := ⟨b, 7, none⟩) hb v7).setCell (p := ⟨b, 8, none⟩) hb v8
theorem nine_at {W : World} {b : Nat} {K : Nat → Nat → Int} (h : Blk W b 79 (kyA K)) : (W.cell? ⟨b, 0, none⟩ = some (.int .i64 (K 0 0)) ∧ W.cell? ⟨b, 1, none⟩ = some (.int .i64 (K 0 1)) ∧ W.cell? ⟨b, 2, none⟩ = some (.int .i64 (K 0 2)) ∧ W.cell? ⟨b, 3, none⟩ = some (.int .i64 (K 1 0))) ∧ (W.cell? ⟨b, 4, none⟩ = some (.int .i64 (K 1 1)) ∧ W.cell? ⟨b, 5, none⟩ = some (.int .i64 (K 1 2)) ∧ W.cell? ⟨b, 6, none⟩ = some (.int .i64 (K 2 0))) ∧ W.cell? ⟨b, 7, none⟩ = some (.int .i64 (K 2 1)) ∧ W.cell? ⟨b, 8, none⟩ = some (.int .i64 (K 2 2)) := by
  refine ⟨⟨?_, ?_, ?_, ?_⟩, ⟨?_, ?_, ?_⟩, ?_, ?_⟩ <;> (rw [h.cell]; rfl)
/-- Two places below n. -/
def twoB (a b n : Int) : Bool := decide (a ≠ b) && decide (0 ≤ a) && decide (0 ≤ b) && decide (a < n) && decide (b < n)
theorem twoB_iff {a b n : Int} : twoB a b n = true ↔ a ≠ b ∧ 0 ≤ a ∧ 0 ≤ b ∧ a < n ∧ b < n := by simp only [twoB, Bool.and_eq_true, decide_eq_true_eq, and_assoc]
theorem areTwo_any (a b n : Int) (w : World) (r : Bool) (hr : Hid (twoB a b n = r)) : Calls Try.prog 87 #[.int .i64 a, .int .i64 b, .int .i64 n] w fun e w' => e = .returned (.bool r) ∧ w = w' := by
  by_cases h0 : a = b
  · have HF := hide (show false = r from by rw [← hr.out]; simp [twoB, h0])
    have h0' : (a != b) = false := by simp [h0]
    go_enter Try.func87, Try.ntmps87
    go_wp2_with fail
    go_ret
    exact ⟨ret_bool HF.out, rfl⟩
  · have h0' : (a != b) = true := by simp [h0]
    have hmin := fun W => run_min' a b W
    have hmax := fun W => run_max' a b W
    obtain ⟨m, hm⟩ : ∃ m, min a b = m := ⟨_, rfl⟩
    obtain ⟨M, hM⟩ : ∃ M, max a b = M := ⟨_, rfl⟩
    rw [hm] at hmin; rw [hM] at hmax
    by_cases h1 : 0 ≤ m
    · have HF := hide (show decide (M < n) = r from by
        rw [← hr.out, Bool.eq_iff_iff, twoB_iff, decide_eq_true_eq]; omega)
      have h1' : decide (0 ≤ m) = true := by simpa using h1
      clear hm hM h0
      go_enter Try.func87, Try.ntmps87
      go_wp2_with fail
      go_ret
      exact ⟨ret_bool HF.out, rfl⟩
    · have HF := hide (show false = r from by
        rw [← hr.out, eq_comm, Bool.eq_false_iff]; intro hc; rw [twoB_iff] at hc; omega)
      have h1' : decide (0 ≤ m) = false := by simpa using h1
      clear hm hM h0
      go_enter Try.func87, Try.ntmps87
      go_wp2_with fail
      go_ret
      exact ⟨ret_bool HF.out, rfl⟩

def upd (K : Nat → Nat → Int) (i c : Nat) (v : Int) (a b : Nat) : Int := if a = i ∧ b = c then v else K a b
theorem upd_set (K : Nat → Nat → Int) (i c : Nat) (v : Int) (hi : i < 3) (hc : c < 3) : (kyA K).setIfInBounds (i * 3 + c) (.int .i64 v) = kyA (upd K i c v) :=
  kyA_set K _ i c v hi hc (by simp [upd]) fun a b h => by simp [upd, h]
def swF (K : Nat → Nat → Int) (i j c d : Nat) : Nat → Nat → Int :=
  let K1 := upd K i c (K i c + 1)
  let K2 := upd K1 j d (K1 j d + 1)
  let K3 := upd K2 i d (K2 i d - 1)
  upd K3 j c (K3 j c - 1)
/-- All numbers are small. -/
def Bdd (K : Nat → Nat → Int) (M : Int) : Prop := ∀ i j, i < 3 → j < 3 → -M ≤ K i j ∧ K i j ≤ M
theorem Bdd.upd {K : Nat → Nat → Int} {M : Int} (h : Bdd K M) (i c : Nat) (v : Int) (hv : -(M + 1) ≤ v ∧ v ≤ M + 1) : Bdd (upd K i c v) (M + 1) := fun a b ha hb => by
  unfold Go.Proofs.Ytabgifpenegofaa.upd
  split
  · exact hv
  · have := h a b ha hb; omega

set_option maxRecDepth 100000 in
set_option maxHeartbeats 8000000 in
theorem swapped_any (K : Nat → Nat → Int) (i j c d : Nat) (w : World) (hi : i < 3) (hj : j < 3) (hc : c < 3) (hd : d < 3) (hK : Hid (Bdd K 1000)) (r : Bool) (hr : Hid ((decide (0 ≤ swF K i j c d i d) && decide (0 ≤ swF K i j c d j c)) = r)) :
    Calls Try.prog 88 #[.agg (kyA K), .int .i64 (i : Int), .int .i64 (j : Int), .int .i64 (c : Int), .int .i64 (d : Int)] w fun e w' => e = .returned (.tuple #[.agg (kyA (swF K i j c d)), .bool r]) ∧ Below w.heap.size w w' := by
  have hz := hide kyA_zero
  obtain ⟨g, hg⟩ : ∃ g, g = w.heap.size := ⟨_, rfl⟩
  obtain ⟨W0, hW0⟩ : ∃ W0, W0 = (w.alloc (.cells (kyA K) 79)).alloc (.cells (kyA fun _ _ => 0) 79) := ⟨_, rfl⟩
  have HB0 := hide (show Below w.heap.size w W0 from by rw [hW0]; exact ((Below.refl _ w).alloc (Nat.le_refl _) _).alloc (by simp) _)
  have HK0 := hide (show Blk W0 w.heap.size 79 (kyA K) from by rw [hW0]; exact (Blk.new _ _ _).alloc _)
  have HR0 := hide (show Blk W0 (w.heap.size + 1) 79 (kyA fun _ _ => 0) from by
    rw [hW0]
    have := Blk.new (w.alloc (.cells (kyA K) 79)) 79 (kyA fun _ _ => 0)
    simpa using this)
  have hi' : (i : Int) < 3 := by omega
  have hj' : (j : Int) < 3 := by omega
  have hc' : (c : Int) < 3 := by omega
  have hd' : (d : Int) < 3 := by omega
  go_enter Try.func88, Try.ntmps88
  go_upto_region 1 with fail
  rw [hz.out, ← hW0]
  clear hW0
  obtain ⟨K0, hK0⟩ : ∃ L, L = K := ⟨_, rfl⟩
  have BD0 := hide (show Bdd K0 1000 from by rw [hK0]; exact hK.out)
  rw [← hK0] at HK0
  have HQ0 := hide hK0
  clear hK0
  have c0 := (unhide HK0).cell (i * 3 + c)
  rw [kyA_at _ _ _ hi hc] at c0
  have f0 := (unhide HK0).frozen (i * 3 + c)
  obtain ⟨b1, b2⟩ := (unhide BD0) i c hi hc
  obtain ⟨K1, hK1⟩ : ∃ L, L = upd K0 i c (K0 i c + 1) := ⟨_, rfl⟩
  have BD1 := hide (show Bdd K1 1001 from by rw [hK1]; exact (unhide BD0).upd _ _ _ (by omega))
  have HE := hide (upd_set K0 i c (K0 i c + 1) hi hc)
  rw [← hK1] at HE
  have HQ1 := hide hK1
  clear hK1
  obtain ⟨v0, hv0⟩ : ∃ v, K0 i c = v := ⟨_, rfl⟩
  rw [hv0] at c0 b1 b2 HE
  clear hv0
  skip
  go_region
  have HK1 := hide (show Blk ((W0.setCell ⟨w.heap.size, i * 3 + c, none⟩ (.int .i64 (v0 + 1))).drewN 1) w.heap.size 79 (kyA K1) from by rw [← HE.out]; exact ((unhide HK0).set_ _ _).drewN 1)
  have HR1 := hide (show Blk ((W0.setCell ⟨w.heap.size, i * 3 + c, none⟩ (.int .i64 (v0 + 1))).drewN 1) (w.heap.size + 1) 79 (kyA fun _ _ => 0) from ((unhide HR0).far (by simp) _).drewN 1)
  have HB1 := hide (show Below w.heap.size w ((W0.setCell ⟨w.heap.size, i * 3 + c, none⟩ (.int .i64 (v0 + 1))).drewN 1) from Below.drewN' ((unhide HB0).setCell (by simp) _) 1)
  have hdr : (W0.setCell ⟨w.heap.size, i * 3 + c, none⟩ (.int .i64 (v0 + 1))).drew = (W0.setCell ⟨w.heap.size, i * 3 + c, none⟩ (.int .i64 (v0 + 1))).drewN 1 := rfl
  rw [hdr]
  clear hdr
  generalize (W0.setCell ⟨w.heap.size, i * 3 + c, none⟩ (.int .i64 (v0 + 1))).drewN 1 = W1 at HK1 HR1 HB1 ⊢
  clear HE c0 f0 b1 b2 HK0 HR0 HB0
  have c0 := (unhide HK1).cell (j * 3 + d)
  rw [kyA_at _ _ _ hj hd] at c0
  have f0 := (unhide HK1).frozen (j * 3 + d)
  obtain ⟨b1, b2⟩ := (unhide BD1) j d hj hd
  obtain ⟨K2, hK2⟩ : ∃ L, L = upd K1 j d (K1 j d + 1) := ⟨_, rfl⟩
  have BD2 := hide (show Bdd K2 1002 from by rw [hK2]; exact (unhide BD1).upd _ _ _ (by omega))
  have HE := hide (upd_set K1 j d (K1 j d + 1) hj hd)
  rw [← hK2] at HE
  have HQ2 := hide hK2
  clear hK2
  obtain ⟨v0, hv0⟩ : ∃ v, K1 j d = v := ⟨_, rfl⟩
  rw [hv0] at c0 b1 b2 HE
  clear hv0
  go_upto_region 2 with fail
  go_region
  have HK2 := hide (show Blk ((W1.setCell ⟨w.heap.size, j * 3 + d, none⟩ (.int .i64 (v0 + 1))).drewN 1) w.heap.size 79 (kyA K2) from by rw [← HE.out]; exact ((unhide HK1).set_ _ _).drewN 1)
  have HR2 := hide (show Blk ((W1.setCell ⟨w.heap.size, j * 3 + d, none⟩ (.int .i64 (v0 + 1))).drewN 1) (w.heap.size + 1) 79 (kyA fun _ _ => 0) from ((unhide HR1).far (by simp) _).drewN 1)
  have HB2 := hide (show Below w.heap.size w ((W1.setCell ⟨w.heap.size, j * 3 + d, none⟩ (.int .i64 (v0 + 1))).drewN 1) from Below.drewN' ((unhide HB1).setCell (by simp) _) 1)
  have hdr : (W1.setCell ⟨w.heap.size, j * 3 + d, none⟩ (.int .i64 (v0 + 1))).drew = (W1.setCell ⟨w.heap.size, j * 3 + d, none⟩ (.int .i64 (v0 + 1))).drewN 1 := rfl
  rw [hdr]
  clear hdr
  generalize (W1.setCell ⟨w.heap.size, j * 3 + d, none⟩ (.int .i64 (v0 + 1))).drewN 1 = W2 at HK2 HR2 HB2 ⊢
  clear HE c0 f0 b1 b2 HK1 HR1 HB1
  have c0 := (unhide HK2).cell (i * 3 + d)
  rw [kyA_at _ _ _ hi hd] at c0
  have f0 := (unhide HK2).frozen (i * 3 + d)
  obtain ⟨b1, b2⟩ := (unhide BD2) i d hi hd
  obtain ⟨K3, hK3⟩ : ∃ L, L = upd K2 i d (K2 i d - 1) := ⟨_, rfl⟩
  have BD3 := hide (show Bdd K3 1003 from by rw [hK3]; exact (unhide BD2).upd _ _ _ (by omega))
  have HE := hide (upd_set K2 i d (K2 i d - 1) hi hd)
  rw [← hK3] at HE
  have HQ3 := hide hK3
  clear hK3
  obtain ⟨v0, hv0⟩ : ∃ v, K2 i d = v := ⟨_, rfl⟩
  rw [hv0] at c0 b1 b2 HE
  clear hv0
  go_upto_region 3 with fail
  go_region
  have HK3 := hide (show Blk ((W2.setCell ⟨w.heap.size, i * 3 + d, none⟩ (.int .i64 (v0 - 1))).drewN 1) w.heap.size 79 (kyA K3) from by rw [← HE.out]; exact ((unhide HK2).set_ _ _).drewN 1)
  have HR3 := hide (show Blk ((W2.setCell ⟨w.heap.size, i * 3 + d, none⟩ (.int .i64 (v0 - 1))).drewN 1) (w.heap.size + 1) 79 (kyA fun _ _ => 0) from ((unhide HR2).far (by simp) _).drewN 1)
  have HB3 := hide (show Below w.heap.size w ((W2.setCell ⟨w.heap.size, i * 3 + d, none⟩ (.int .i64 (v0 - 1))).drewN 1) from Below.drewN' ((unhide HB2).setCell (by simp) _) 1)
  have hdr : (W2.setCell ⟨w.heap.size, i * 3 + d, none⟩ (.int .i64 (v0 - 1))).drew = (W2.setCell ⟨w.heap.size, i * 3 + d, none⟩ (.int .i64 (v0 - 1))).drewN 1 := rfl
  rw [hdr]
  clear hdr
  generalize (W2.setCell ⟨w.heap.size, i * 3 + d, none⟩ (.int .i64 (v0 - 1))).drewN 1 = W3 at HK3 HR3 HB3 ⊢
  clear HE c0 f0 b1 b2 HK2 HR2 HB2
  have c0 := (unhide HK3).cell (j * 3 + c)
  rw [kyA_at _ _ _ hj hc] at c0
  have f0 := (unhide HK3).frozen (j * 3 + c)
  obtain ⟨b1, b2⟩ := (unhide BD3) j c hj hc
  obtain ⟨K4, hK4⟩ : ∃ L, L = upd K3 j c (K3 j c - 1) := ⟨_, rfl⟩
  have BD4 := hide (show Bdd K4 1004 from by rw [hK4]; exact (unhide BD3).upd _ _ _ (by omega))
  have HE := hide (upd_set K3 j c (K3 j c - 1) hj hc)
  rw [← hK4] at HE
  have HQ4 := hide hK4
  clear hK4
  obtain ⟨v0, hv0⟩ : ∃ v, K3 j c = v := ⟨_, rfl⟩
  rw [hv0] at c0 b1 b2 HE
  clear hv0
  go_upto_region 4 with fail
  go_region
  have HK4 := hide (show Blk ((W3.setCell ⟨w.heap.size, j * 3 + c, none⟩ (.int .i64 (v0 - 1))).drewN 1) w.heap.size 79 (kyA K4) from by rw [← HE.out]; exact ((unhide HK3).set_ _ _).drewN 1)
  have HR4 := hide (show Blk ((W3.setCell ⟨w.heap.size, j * 3 + c, none⟩ (.int .i64 (v0 - 1))).drewN 1) (w.heap.size + 1) 79 (kyA fun _ _ => 0) from ((unhide HR3).far (by simp) _).drewN 1)
  have HB4 := hide (show Below w.heap.size w ((W3.setCell ⟨w.heap.size, j * 3 + c, none⟩ (.int .i64 (v0 - 1))).drewN 1) from Below.drewN' ((unhide HB3).setCell (by simp) _) 1)
  have hdr : (W3.setCell ⟨w.heap.size, j * 3 + c, none⟩ (.int .i64 (v0 - 1))).drew = (W3.setCell ⟨w.heap.size, j * 3 + c, none⟩ (.int .i64 (v0 - 1))).drewN 1 := rfl
  rw [hdr]
  clear hdr
  generalize (W3.setCell ⟨w.heap.size, j * 3 + c, none⟩ (.int .i64 (v0 - 1))).drewN 1 = W4 at HK4 HR4 HB4 ⊢
  clear HE c0 f0 b1 b2 HK3 HR3 HB3
  have HSW := hide (show K4 = swF K i j c d from by rw [HQ4.out, HQ3.out, HQ2.out, HQ1.out, HQ0.out]; rfl)
  rw [← HSW.out] at hr
  go_upto_region 5 with fail
  have HWd := hide (show Below W4.heap.size W4 W4.drew from (Below.refl _ _).drew)
  have HSA := hide (show ∀ W, Below W4.heap.size W4 W → (W.cell? ⟨w.heap.size, 0, none⟩ = some (.int .i64 (K4 0 0)) ∧ W.cell? ⟨w.heap.size, 1, none⟩ = some (.int .i64 (K4 0 1)) ∧ W.cell? ⟨w.heap.size, 2, none⟩ = some (.int .i64 (K4 0 2)) ∧ W.cell? ⟨w.heap.size, 3, none⟩ = some (.int .i64 (K4 1 0)) ∧ W.cell? ⟨w.heap.size, 4, none⟩ = some (.int .i64 (K4 1 1)) ∧ W.cell? ⟨w.heap.size, 5, none⟩ = some (.int .i64 (K4 1 2)) ∧ W.cell? ⟨w.heap.size, 6, none⟩ = some (.int .i64 (K4 2 0)) ∧ W.cell? ⟨w.heap.size, 7, none⟩ = some (.int .i64 (K4 2 1)) ∧ W.cell? ⟨w.heap.size, 8, none⟩ = some (.int .i64 (K4 2 2))) ∧ W.cell? ⟨w.heap.size, i * 3 + d, none⟩ = some (.int .i64 (K4 i d)) ∧ W.cell? ⟨w.heap.size, j * 3 + c, none⟩ = some (.int .i64 (K4 j c)) from fun W hW => by
    have hb := (unhide HK4).below hW (unhide HK4).lt
    refine ⟨⟨?_, ?_, ?_, ?_, ?_, ?_, ?_, ?_, ?_⟩, ?_, ?_⟩
    all_goals rw [hb.cell]
    all_goals first | rfl | exact kyA_at _ _ _ hi hd | exact kyA_at _ _ _ hj hc)
  have HP9 := hide (put9 (unhide HR4) K4)
  have HB9 := hide (below_put9 (unhide HB4) (b := w.heap.size + 1) (by omega) (.int .i64 (K4 0 0)) (.int .i64 (K4 0 1)) (.int .i64 (K4 0 2)) (.int .i64 (K4 1 0)) (.int .i64 (K4 1 1)) (.int .i64 (K4 1 2)) (.int .i64 (K4 2 0)) (.int .i64 (K4 2 1)) (.int .i64 (K4 2 2)))
  obtain ⟨⟨k0, k1, k2, k3, k4, k5, k6, k7, k8⟩, k9, ka⟩ := (unhide HSA) _ (unhide HWd)
  obtain ⟨⟨m0, m1, m2, m3, m4, m5, m6, m7, m8⟩, m9, ma⟩ := (unhide HSA) _ (Below.refl _ W4)
  have z0 := (unhide HR4).cell 0; have z1 := (unhide HR4).cell 1; have z2 := (unhide HR4).cell 2; have z3 := (unhide HR4).cell 3; have z4 := (unhide HR4).cell 4; have z5 := (unhide HR4).cell 5; have z6 := (unhide HR4).cell 6; have z7 := (unhide HR4).cell 7; have z8 := (unhide HR4).cell 8
  have fz := (unhide HR4).frozen
  simp only [show (kyA fun _ _ => 0)[0]? = some (.int .i64 0) from rfl, show (kyA fun _ _ => 0)[1]? = some (.int .i64 0) from rfl, show (kyA fun _ _ => 0)[2]? = some (.int .i64 0) from rfl, show (kyA fun _ _ => 0)[3]? = some (.int .i64 0) from rfl, show (kyA fun _ _ => 0)[4]? = some (.int .i64 0) from rfl, show (kyA fun _ _ => 0)[5]? = some (.int .i64 0) from rfl, show (kyA fun _ _ => 0)[6]? = some (.int .i64 0) from rfl, show (kyA fun _ _ => 0)[7]? = some (.int .i64 0) from rfl, show (kyA fun _ _ => 0)[8]? = some (.int .i64 0) from rfl] at z0 z1 z2 z3 z4 z5 z6 z7 z8
  have A79 := hide (kyA_all K4)
  cases h1 : decide (0 ≤ K4 i d) with
  | false =>
    rw [h1] at hr
    obtain rfl : false = r := hr.out
    go_region
    go_wp2_with fail
    obtain ⟨⟨s0, s1, s2, s3⟩, ⟨s4, s5, s6⟩, s7, s8⟩ := nine_at (unhide HP9)
    exact bodyPost_ret (v := .tuple #[.agg (kyA (swF K i j c d)), .bool false]) (by rw [← HSW.out]; simp [results, Try.results88, go_sem, s0, s1, s2, s3, s4, s5, s6, s7, s8, kyA]) rfl ⟨rfl, Below.drewN' (unhide HB9) 1⟩
  | true =>
    rw [h1, Bool.true_and] at hr
    cases h2 : decide (0 ≤ K4 j c) with
    | false =>
      rw [h2] at hr
      obtain rfl : false = r := hr.out
      go_region
      go_wp2_with fail
      obtain ⟨⟨s0, s1, s2, s3⟩, ⟨s4, s5, s6⟩, s7, s8⟩ := nine_at (unhide HP9)
      exact bodyPost_ret (v := .tuple #[.agg (kyA (swF K i j c d)), .bool false]) (by rw [← HSW.out]; simp [results, Try.results88, go_sem, s0, s1, s2, s3, s4, s5, s6, s7, s8, kyA]) rfl ⟨rfl, Below.drewN' (unhide HB9) 1⟩
    | true =>
      rw [h2] at hr
      obtain rfl : true = r := hr.out
      go_region
      go_wp2_with fail
      obtain ⟨⟨s0, s1, s2, s3⟩, ⟨s4, s5, s6⟩, s7, s8⟩ := nine_at (unhide HP9)
      exact bodyPost_ret (v := .tuple #[.agg (kyA (swF K i j c d)), .bool true]) (by rw [← HSW.out]; simp [results, Try.results88, go_sem, s0, s1, s2, s3, s4, s5, s6, s7, s8, kyA]) rfl ⟨rfl, Below.drewN' (unhide HB9) 1⟩
end Go.Proofs.Ytabgifpenegofaa
