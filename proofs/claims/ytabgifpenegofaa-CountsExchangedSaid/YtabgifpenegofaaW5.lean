/-
  sums of the program: what the rows and the columns of a key sum to.
-/
import Derived.Test.YtabgifpenegofaaW4
namespace Go.Proofs.Ytabgifpenegofaa
open Go.RowKit

theorem run_index_ky (K : Nat → Nat → Int) (i : Nat) (hi : i < 3) (w : World) : (Instr.index 79 (.agg (kyA K)) (.int .i64 (i : Int))).run Try.prog w = .ok (.agg (lnA (K i))) w := by
  have h1 : (i : Int) < 3 := by omega
  have hp : (part 75 (kyA K) (i * 3)).run Try.prog w = .ok (.agg (lnA (K i))) w := by
    unfold part
    simp [Sem.run_bind, Try.isAgg75, Try.sizeOf75, kyA_row K i hi]
  simp [Instr.index, run_underlying Try.underlying79, asIntOf, h1, Try.sizeOf75, hp]
  omega
/-- What a row, and a column, of a key sums to. -/
def rS (K : Nat → Nat → Int) (i : Nat) : Int := K i 0 + K i 1 + K i 2
def cS (K : Nat → Nat → Int) (j : Nat) : Int := K 0 j + K 1 j + K 2 j
def upR (f : Nat → Int) (k i : Nat) : Int := if i < k then f i else 0
theorem upR_3 (f : Nat → Int) : lnA (upR f 3) = lnA f := lnA_ext fun i hi => by simp [upR, hi]
theorem upR_set (f : Nat → Int) (k : Nat) (hk : k < 3) : (lnA (upR f k)).setIfInBounds k (.int .i64 (f k)) = lnA (upR f (k + 1)) :=
  lnA_set _ _ k _ hk (by simp [upR]) fun i hi => by
    unfold upR
    by_cases e : i < k
    · rw [if_pos e, if_pos (by omega)]
    · rw [if_neg e, if_neg (by omega)]
/-- What the columns sum to after i rows and j numbers of the next one. -/
def cTo (K : Nat → Nat → Int) : Nat → Nat → Int
  | 0, _ => 0
  | i + 1, j => cTo K i j + K i j
def cMid (K : Nat → Nat → Int) (i k j : Nat) : Int := if j < k then cTo K (i + 1) j else cTo K i j
theorem cMid_0 (K : Nat → Nat → Int) (i : Nat) : lnA (cMid K i 0) = lnA (cTo K i) := lnA_ext fun j _ => by simp [cMid]
theorem cMid_3 (K : Nat → Nat → Int) (i : Nat) : lnA (cMid K i 3) = lnA (cTo K (i + 1)) := lnA_ext fun j hj => by simp [cMid, hj]
theorem cMid_set (K : Nat → Nat → Int) (i k : Nat) (hk : k < 3) : (lnA (cMid K i k)).setIfInBounds k (.int .i64 (cTo K i k + K i k)) = lnA (cMid K i (k + 1)) :=
  lnA_set _ _ k _ hk (by simp [cMid, cTo]) fun j hj => by
    unfold cMid
    by_cases e : j < k
    · rw [if_pos e, if_pos (by omega)]
    · rw [if_neg e, if_neg (by omega)]
theorem cTo_3 (K : Nat → Nat → Int) (j : Nat) : cTo K 3 j = cS K j := by simp [cTo, cS]
def Sml (K : Nat → Nat → Int) : Prop := ∀ i j, i < 3 → j < 3 → 0 ≤ K i j ∧ K i j ≤ 1000
theorem cTo_bd {K : Nat → Nat → Int} (h : Sml K) (j : Nat) (hj : j < 3) : ∀ i, i ≤ 3 → 0 ≤ cTo K i j ∧ cTo K i j ≤ 1000 * i := by
  intro i
  induction i with
  | zero => intro _; simp [cTo]
  | succ i ih => intro hi; have := ih (by omega); have := h i j (by omega) hj; simp only [cTo]; omega

set_option maxRecDepth 100000 in
set_option maxHeartbeats 2000000 in
theorem sums_any (K : Nat → Nat → Int) (w : World) (hK : Hid (Sml K)) :
    Calls Try.prog 71 #[.agg (kyA K)] w fun e w' => e = .returned (.tuple #[.agg (lnA (rS K)), .agg (lnA (cS K))]) ∧ Below w.heap.size w w' := by
  have hz := hide lnA_zero
  have I79 := hide (info79 K)
  obtain ⟨W0, hW0⟩ : ∃ W0, W0 = ((w.alloc (.cells (kyA K) 79)).alloc (.cells (lnA fun _ => 0) 75)).alloc (.cells (lnA fun _ => 0) 75) := ⟨_, rfl⟩
  have HB0 := hide (show Below w.heap.size w W0 from by rw [hW0]; exact (((Below.refl _ w).alloc (Nat.le_refl _) _).alloc (by simp) _).alloc (by simp; omega) _)
  have HK0 := hide (show Blk W0 w.heap.size 79 (kyA K) from by rw [hW0]; exact ((Blk.new _ _ _).alloc _).alloc _)
  have HR0 := hide (show Blk W0 (w.heap.size + 1) 75 (lnA (upR (rS K) 0)) from by
    rw [hW0]
    have := (Blk.new (w.alloc (.cells (kyA K) 79)) 75 (lnA fun _ => 0)).alloc (.cells (lnA fun _ => 0) 75)
    rw [show lnA (upR (rS K) 0) = lnA fun _ => 0 from lnA_ext fun i _ => by simp [upR]]
    simpa using this)
  have HC0 := hide (show Blk W0 (w.heap.size + 1 + 1) 75 (lnA (cTo K 0)) from by
    rw [hW0]
    have := Blk.new ((w.alloc (.cells (kyA K) 79)).alloc (.cells (lnA fun _ => 0) 75)) 75 (lnA fun _ => 0)
    rw [show lnA (cTo K 0) = lnA fun _ => 0 from lnA_ext fun i _ => by simp [cTo]]
    simpa using this)
  go_enter Try.func71, Try.ntmps71
  go_upto_region 1 with fail
  rw [hz.out, ← hW0]
  clear hW0
  go_wp2_with (refine wpList_load_row rfl 79 _ rfl w.heap.size rfl 79 (kyA K) (0, 0) _ (unhide HK0) Try.underlying79 rfl I79.out ?_)
  go_loopw [4, 5, 6, 7, 9] (fun _ _ _ _ i wr => ∃ k : Nat, k ≤ 3 ∧ i = .int .i64 k ∧ Hid (Blk wr (w.heap.size + 1) 75 (lnA (upR (rS K) k))) ∧ Hid (Blk wr (w.heap.size + 1 + 1) 75 (lnA (cTo K k))) ∧ Hid (Below w.heap.size w wr)) (fun _ _ _ _ i _ => 3 - (intOf i).toNat)
  case atStart => exact ⟨0, Nat.zero_le _, rfl, HR0, HC0, HB0⟩
  case round =>
    obtain ⟨wo, rfl⟩ : ∃ wo : World, wo = wr := ⟨_, rfl⟩
    obtain ⟨k, hk, rfl, HR, HC, HB⟩ := hrel
    by_cases hlt : k < 3
    · have hix := fun W => run_index_ky K k hlt W
      have hlt' : decide ((k : Int) < 3) = true := by simp; omega
      have I75 := hide (info75 (K k))
      have A75 := hide (lnA_all (K k))
      obtain ⟨W1, hW1⟩ : ∃ W1, W1 = wo.alloc (.cells #[.int .i64 0, .int .i64 0, .int .i64 0] 75) := ⟨_, rfl⟩
      have HN1 := hide (show Blk W1 wo.heap.size 75 (lnA fun _ => 0) from by rw [hW1, hz.out]; exact Blk.new _ _ _)
      have HB1 := hide (show Below w.heap.size w W1 from by rw [hW1]; exact (unhide HB).alloc (unhide HB).size _)
      have HR1 := hide (show Blk W1 (w.heap.size + 1) 75 (lnA (upR (rS K) k)) from by rw [hW1]; exact (unhide HR).alloc _)
      have HC1 := hide (show Blk W1 (w.heap.size + 1 + 1) 75 (lnA (cTo K k)) from by rw [hW1]; exact (unhide HC).alloc _)
      have hgR := (unhide HR).lt; have hgC := (unhide HC).lt
      obtain ⟨W2, hW2⟩ : ∃ W2, W2 = W1.setRow wo.heap.size (lnA (K k)) := ⟨_, rfl⟩
      have HN2 := hide (show Blk W2 wo.heap.size 75 (lnA (K k)) from by rw [hW2]; exact setRow_heap W1 wo.heap.size (lnA fun _ => 0) (lnA (K k)) 75 (0, 0) (unhide HN1))
      have HB2 := hide (show Below w.heap.size w W2 from by rw [hW2]; exact below_setRow (unhide HB1) (unhide HB).size _)
      have HR2 := hide (show Blk W2 (w.heap.size + 1) 75 (lnA (upR (rS K) k)) from by rw [hW2]; exact (setRow_other _ _ _ _ (by omega)).trans (unhide HR1))
      have HC2 := hide (show Blk W2 (w.heap.size + 1 + 1) 75 (lnA (cTo K k)) from by rw [hW2]; exact (setRow_other _ _ _ _ (by omega)).trans (unhide HC1))
      have e1 := hW1.symm
      have e2 := hW2.symm
      clear hW1 hW2
      go_upto_region 4 with (first
        | (refine wpList_store_row rfl 75 _ _ rfl wo.heap.size (lnA (K k)) rfl rfl 75 _ (unhide HN1) I75.out rfl A75.out ?_))
      rw [e2]
      clear e1 e2
      have HKk := hide (show ∀ i, i < 3 → -1000000 ≤ K k i ∧ K k i ≤ 1000000 from fun i hi => by have := hK.out k i hlt hi; omega)
      go_wp2_with (refine wpList_load_row rfl 75 _ rfl wo.heap.size rfl 75 (lnA (K k)) (0, 0) _ (unhide HN2) Try.underlying75 rfl I75.out ?_)
      refine (sum_any _ _ HKk.out).mono ?_
      rintro e w3 ⟨rfl, b3⟩
      have HB3 := hide ((unhide HB2).trans (b3.mono (unhide HB2).size))
      have HN3 := hide ((unhide HN2).below b3 (unhide HN2).lt)
      have HR3 := hide ((unhide HR2).below b3 (unhide HR2).lt)
      have HC3 := hide ((unhide HC2).below b3 (unhide HC2).lt)
      clear b3
      obtain ⟨s, hs⟩ : ∃ s, K k 0 + K k 1 + K k 2 = s := ⟨_, rfl⟩
      rw [hs]
      have HS := hide hs
      clear hs
      have c0 := (unhide HR3).cell k
      rw [lnA_at _ _ hlt] at c0
      have f0 := (unhide HR3).frozen k
      obtain ⟨W4, hW4⟩ : ∃ W4, w3.setCell ⟨w.heap.size + 1, k, none⟩ (.int .i64 s) = W4 := ⟨_, rfl⟩
      have HR4 := hide (show Blk W4 (w.heap.size + 1) 75 (lnA (upR (rS K) (k + 1))) from by
        rw [← upR_set (rS K) k hlt, ← hW4, ← HS.out]
        exact (unhide HR3).set_ k _)
      have HC4 := hide (show Blk W4 (w.heap.size + 1 + 1) 75 (lnA (cTo K k)) from by rw [← hW4]; exact (unhide HC3).far (by simp) _)
      have HN4 := hide (show Blk W4 wo.heap.size 75 (lnA (K k)) from by rw [← hW4]; exact (unhide HN3).far (by show wo.heap.size ≠ w.heap.size + 1; omega) _)
      have HB4 := hide (show Below w.heap.size w W4 from by rw [← hW4]; exact (unhide HB3).setCell (by simp) _)
      have hk0 : (0 : Int) ≤ (k : Int) := by omega
      go_upto_region 5 with fail
      clear hW4 c0 f0
      go_wp2_with (refine wpList_load_row rfl 75 _ rfl wo.heap.size rfl 75 (lnA (K k)) (0, 0) _ (unhide HN4) Try.underlying75 rfl I75.out ?_)
      have HRE := hide (unhide HR4)
      clear HR HR1 HR2 HR3 HC HC1 HC2 HC3 HN1 HN2 HN3 HB HB1 HB2 HB3 HS
      go_loopw [6, 7, 18] (fun _ _ i wq => ∃ j : Nat, j ≤ 3 ∧ i = .int .i64 j ∧ Hid (Blk wq (w.heap.size + 1) 75 (lnA (upR (rS K) (k + 1)))) ∧ Hid (Blk wq (w.heap.size + 1 + 1) 75 (lnA (cMid K k j))) ∧ Hid (Below w.heap.size w wq)) (fun _ _ i _ => 3 - (intOf i).toNat)
      case atStart => exact ⟨0, Nat.zero_le _, rfl, HR4, hide (by rw [cMid_0]; exact unhide HC4), HB4⟩
      case round =>
        obtain ⟨j, hj, rfl, HRj, HCj, HBj⟩ := hrel
        by_cases hjt : j < 3
        · have hix2 := fun W => run_index_ln (K k) j hjt W
          have hjt' : decide ((j : Int) < 3) = true := by simp; omega
          have d0 := (unhide HCj).cell j
          rw [lnA_at _ _ hjt, show cMid K k j j = cTo K k j from by simp [cMid]] at d0
          have g0 := (unhide HCj).frozen j
          obtain ⟨x1, x2⟩ := cTo_bd hK.out j hjt k (by omega)
          obtain ⟨y1, y2⟩ := hK.out k j hlt hjt
          have HCn := hide (show Blk (wr.setCell ⟨w.heap.size + 1 + 1, j, none⟩ (.int .i64 (cTo K k j + K k j))) (w.heap.size + 1 + 1) 75 (lnA (cMid K k (j + 1))) from by
            rw [← cMid_set K k j hjt]
            exact (unhide HCj).set_ j _)
          go_wp2_with fail
          go_roundw
          case rel => exact ⟨j + 1, by omega, by go_num, hide ((unhide HRj).far (by simp) _), HCn, hide ((unhide HBj).setCell (by simp; omega) _)⟩
          case measure => simp [intOf]; omega
        · obtain rfl : j = 3 := by omega
          have HCe := hide (show Blk wr (w.heap.size + 1 + 1) 75 (lnA (cTo K (k + 1))) from by rw [← cMid_3]; exact unhide HCj)
          go_wp2_with fail
          go_roundw
          case rel => exact ⟨k + 1, by omega, by go_num, HRj, HCe, HBj⟩
          case measure => simp [intOf]; omega
    · obtain rfl : k = 3 := by omega
      have HR3 := hide (show Blk wo (w.heap.size + 1) 75 (lnA (rS K)) from by rw [← upR_3]; exact unhide HR)
      have HC3 := hide (show Blk wo (w.heap.size + 1 + 1) 75 (lnA (cS K)) from by rw [← lnA_ext (fun j _ => cTo_3 K j)]; exact unhide HC)
      obtain ⟨r0, r1, r2⟩ := three_at (unhide HR3)
      obtain ⟨q0, q1, q2⟩ := three_at (unhide HC3)
      have fr0 := (unhide HR3).frozen 0; have fr1 := (unhide HR3).frozen 1; have fr2 := (unhide HR3).frozen 2
      have fc0 := (unhide HC3).frozen 0; have fc1 := (unhide HC3).frozen 1; have fc2 := (unhide HC3).frozen 2
      have HP1 := hide (((show Blk _ (w.heap.size + 1) 75 _ from put3 (unhide HR3) (.int .i64 (rS K 0)) (.int .i64 (rS K 1)) (.int .i64 (rS K 2))).far (p := ⟨w.heap.size + 1 + 1, 0, none⟩) (by simp) (.int .i64 (cS K 0))).far (p := ⟨w.heap.size + 1 + 1, 1, none⟩) (by simp) (.int .i64 (cS K 1)) |>.far (p := ⟨w.heap.size + 1 + 1, 2, none⟩) (by simp) (.int .i64 (cS K 2)))
      have HP2 := hide (put3 ((((unhide HC3).far (p := ⟨w.heap.size + 1, 0, none⟩) (by simp) (.int .i64 (rS K 0))).far (p := ⟨w.heap.size + 1, 1, none⟩) (by simp) (.int .i64 (rS K 1))).far (p := ⟨w.heap.size + 1, 2, none⟩) (by simp) (.int .i64 (rS K 2))) (.int .i64 (cS K 0)) (.int .i64 (cS K 1)) (.int .i64 (cS K 2)))
      have HBq := hide (below_put3 (below_put3 (unhide HB) (b := w.heap.size + 1) (by omega) (.int .i64 (rS K 0)) (.int .i64 (rS K 1)) (.int .i64 (rS K 2))) (b := w.heap.size + 1 + 1) (by omega) (.int .i64 (cS K 0)) (.int .i64 (cS K 1)) (.int .i64 (cS K 2)))
      go_wp2_with fail
      go_region
      all_goals (go_wp2_with fail)
      obtain ⟨s0, s1, s2⟩ := three_at (unhide HP1)
      obtain ⟨t0, t1, t2⟩ := three_at (unhide HP2)
      exact bodyPost_ret (v := .tuple #[.agg (lnA (rS K)), .agg (lnA (cS K))]) (by simp [results, Try.results71, go_sem, s0, s1, s2, t0, t1, t2, lnA]) rfl ⟨rfl, (unhide HBq).drew⟩
end Go.Proofs.Ytabgifpenegofaa
