/-
  parts of the program: all lines with a sum, none of their numbers above a bound.
-/
import Derived.Test.YtabgifpenegofaaZ2
import Derived.Test.YtabgifpenegofaaO2
namespace Go.Proofs.Ytabgifpenegofaa
open Go.RowKit

def ptsB (s h2 : Int) (a m : Nat) : List (List Int) := (List.range m).flatMap fun (b : Nat) => if s - (a : Int) - (b : Int) ≤ h2 then [[(a : Int), (b : Int), s - (a : Int) - (b : Int)]] else []
def ptsT (s : Int) (h : Nat → Int) (k : Nat) : List (List Int) := (List.range k).flatMap fun (a : Nat) => ptsB s (h 2) a ((min (s - (a : Int)) (h 1)).toNat + 1)
/-- All lines with the sum s, none of their numbers above that of h. -/
def ptsL (s : Int) (h : Nat → Int) : List (List Int) := ptsT s h ((min s (h 0)).toNat + 1)
theorem ptsB_succ (s h2 : Int) (a m : Nat) : ptsB s h2 a (m + 1) = ptsB s h2 a m ++ (if s - (a : Int) - (m : Int) ≤ h2 then [[(a : Int), (m : Int), s - (a : Int) - (m : Int)]] else []) := by
  unfold ptsB; rw [List.range_succ, List.flatMap_append]; simp
theorem ptsT_succ (s : Int) (h : Nat → Int) (k : Nat) : ptsT s h (k + 1) = ptsT s h k ++ ptsB s (h 2) k ((min (s - (k : Int)) (h 1)).toNat + 1) := by
  unfold ptsT; rw [List.range_succ, List.flatMap_append]; simp
theorem ptsB_len (s h2 : Int) (a : Nat) : ∀ m, (ptsB s h2 a m).length ≤ m
  | 0 => by simp [ptsB]
  | m + 1 => by
    have := ptsB_len s h2 a m
    rw [ptsB_succ, List.length_append]
    split <;> simp <;> omega
theorem ptsT_len {s : Int} {h : Nat → Int} (hs : s ≤ 16) : ∀ k, (ptsT s h k).length ≤ 17 * k
  | 0 => by simp [ptsT]
  | k + 1 => by
    have := ptsT_len (h := h) hs k
    have h2 := ptsB_len s (h 2) k ((min (s - (k : Int)) (h 1)).toNat + 1)
    rw [ptsT_succ, List.length_append]
    omega
theorem ptsL_len {s : Int} {h : Nat → Int} (hs : s ≤ 16) : (ptsL s h).length ≤ 289 := by
  have := ptsT_len (h := h) hs ((min s (h 0)).toNat + 1)
  unfold ptsL
  omega
/-- What a line of them is. -/
structure Pts (s : Int) (h : Nat → Int) (x : List Int) : Prop where
  len : x.length = 3
  sum : nth x 0 + nth x 1 + nth x 2 = s
  lo : ∀ i, i < 3 → 0 ≤ nth x i
  hi : ∀ i, i < 3 → nth x i ≤ h i
theorem ptsL_mem {s : Int} {h : Nat → Int} (hs : 0 ≤ s) (hh : ∀ i, i < 3 → 0 ≤ h i) {x : List Int} (hx : x ∈ ptsL s h) : Pts s h x := by
  unfold ptsL ptsT at hx
  obtain ⟨a, ha, hx⟩ := List.mem_flatMap.1 hx
  obtain ⟨b, hb, hx⟩ := List.mem_flatMap.1 hx
  rw [List.mem_range] at ha hb
  have h0 := hh 0 (by omega); have h1 := hh 1 (by omega); have h2 := hh 2 (by omega)
  split at hx
  · rename_i hc
    rw [List.mem_singleton] at hx
    subst hx
    refine ⟨rfl, ?_, ?_, ?_⟩
    · simp [nth, List.getD]; omega
    · intro i hi
      rcases (show i = 0 ∨ i = 1 ∨ i = 2 by omega) with rfl | rfl | rfl <;> simp [nth, List.getD] <;> omega
    · intro i hi
      rcases (show i = 0 ∨ i = 1 ∨ i = 2 by omega) with rfl | rfl | rfl <;> simp [nth, List.getD] <;> omega
  · simp at hx
set_option maxRecDepth 100000 in
set_option maxHeartbeats 4000000 in
theorem parts_any (s : Int) (h : Nat → Int) (w : World) (hs : 0 ≤ s ∧ s ≤ 16) (hh : Hid (∀ i, i < 3 → 0 ≤ h i ∧ h i ≤ 16)) :
    Calls Try.prog 102 #[.int .i64 s, .agg (lnA h)] w fun e w' => ∃ v, e = .returned v ∧ OwnA w' w.heap.size 75 3 v (ptsL s h) ∧ Below w.heap.size w w' := by
  obtain ⟨s1, s2⟩ := hs
  obtain ⟨a1, a2⟩ := hh.out 0 (by omega)
  obtain ⟨b1, b2⟩ := hh.out 1 (by omega)
  obtain ⟨c1, c2⟩ := hh.out 2 (by omega)
  obtain ⟨W0, hW0⟩ : ∃ W0, W0 = w.alloc (.cells (lnA h) 75) := ⟨_, rfl⟩
  have HB0 := hide (show Below w.heap.size w W0 from by rw [hW0]; exact (Below.refl _ w).alloc (Nat.le_refl _) _)
  have HH0 := hide (show Blk W0 w.heap.size 75 (lnA h) from by rw [hW0]; exact Blk.new _ _ _)
  obtain ⟨mn, hmn⟩ : ∃ mn : Nat, min s (h 0) = (mn : Int) := ⟨(min s (h 0)).toNat, by omega⟩
  have hmin := fun W => run_min' s (h 0) W
  rw [hmn] at hmin
  have HPL := hide (show ptsT s h (mn + 1) = ptsL s h from by unfold ptsL; rw [hmn]; rfl)
  have hms : (mn : Int) ≤ s := by omega
  have HT := hide (fun k => ptsT_len (s := s) (h := h) s2 k)
  have c00 := (unhide HH0).cell 0
  rw [lnA_at _ _ (by omega)] at c00
  go_enter Try.func102, Try.ntmps102
  go_upto_region 1 with fail
  rw [← hW0]
  clear hW0
  have O0 := hide (OwnA.new W0 (w.heap.size + 1) 75 3)
  go_wp2_with fail
  clear c00 hmin hmn
  go_loopw [5, 6, 7, 8, 14] (fun y _ _ _ q wr => ∃ k : Nat, k ≤ mn + 1 ∧ q = .int .i64 k ∧ Hid (OwnA wr (w.heap.size + 1) 75 3 y (ptsT s h k)) ∧ Hid (Blk wr w.heap.size 75 (lnA h)) ∧ Hid (Below w.heap.size w wr)) (fun _ _ _ _ q _ => mn + 1 - (intOf q).toNat)
  case atStart => exact ⟨0, Nat.zero_le _, rfl, O0, HH0, HB0⟩
  case round =>
    obtain ⟨k, hk, rfl, HO, HH, HB⟩ := hrel
    by_cases hlt : k < mn + 1
    · have hlt1 : (k : Int) < (mn : Int) + 1 := by omega
      have hlt2 : decide ((k : Int) < (mn : Int) + 1) = true := by simp; omega
      have c10 := (unhide HH).cell 1
      rw [lnA_at _ _ (by omega)] at c10
      obtain ⟨mb, hmb⟩ : ∃ mb : Nat, min (s - (k : Int)) (h 1) = (mb : Int) := ⟨(min (s - (k : Int)) (h 1)).toNat, by omega⟩
      have hmin := fun W => run_min' (s - (k : Int)) (h 1) W
      rw [hmb] at hmin
      have HPT := hide (show ptsT s h k ++ ptsB s (h 2) k (mb + 1) = ptsT s h (k + 1) from by rw [ptsT_succ, hmb]; rfl)
      have hmb1 : (mb : Int) ≤ s - (k : Int) := by omega
      have hks : (k : Int) ≤ s := by omega
      have HLa := hide (HT.out k)
      have HB5 := hide (fun b => ptsB_len s (h 2) k b)
      go_wp2_with fail
      clear c10 hmin hmb
      go_loopw [5, 7, 8, 24] (fun y _ _ q wr => ∃ b : Nat, b ≤ mb + 1 ∧ q = .int .i64 b ∧ Hid (OwnA wr (w.heap.size + 1) 75 3 y (ptsT s h k ++ ptsB s (h 2) k b)) ∧ Hid (Blk wr w.heap.size 75 (lnA h)) ∧ Hid (Below w.heap.size w wr)) (fun _ _ _ q _ => mb + 1 - (intOf q).toNat)
      case atStart => exact ⟨0, Nat.zero_le _, rfl, hide (by rw [show ptsB s (h 2) k 0 = [] from rfl, List.append_nil]; exact unhide HO), HH, HB⟩
      case round =>
        obtain ⟨b, hb, rfl, HOb, HHb, HBb⟩ := hrel
        by_cases hbt : b < mb + 1
        · have hbt1 : (b : Int) < (mb : Int) + 1 := by omega
          have hbt2 : decide ((b : Int) < (mb : Int) + 1) = true := by simp; omega
          have c20 := (unhide HHb).cell 2
          rw [lnA_at _ _ (by omega)] at c20
          have HSB := hide (ptsB_succ s (h 2) k b)
          have hll : (ptsT s h k ++ ptsB s (h 2) k b).length ≤ 1000000 := by rw [List.length_append]; have := HLa.out; have := HB5.out b; omega
          have hbs : w.heap.size + 1 ≤ wr.heap.size := (unhide HHb).lt
          obtain ⟨cc, hcc⟩ : ∃ cc, s - (k : Int) - (b : Int) = cc := ⟨_, rfl⟩
          rw [hcc] at HSB
          have hc0 : 0 ≤ cc := by omega
          by_cases hle : cc ≤ h 2
          · have HX := hide (show (ptsT s h k ++ ptsB s (h 2) k b) ++ [[(k : Int), (b : Int), cc]] = ptsT s h k ++ ptsB s (h 2) k (b + 1) from by rw [HSB.out, if_pos hle, List.append_assoc])
            go_wp2_with (at_builtin; refine wpList_app3 (v := u5) rfl _ _ rfl rfl rfl (unhide HOb) hll hbs ?_; intro v2 w2 ho2 hb2)
            go_roundw
            case rel => exact ⟨b + 1, by omega, by go_num, hide (by rw [← HX.out]; exact ho2), hide ((unhide HHb).below hb2 (by omega)), hide ((unhide HBb).trans (hb2.mono (by omega)))⟩
            case measure => simp [intOf]; omega
          · have HX := hide (show ptsT s h k ++ ptsB s (h 2) k b = ptsT s h k ++ ptsB s (h 2) k (b + 1) from by rw [HSB.out, if_neg hle, List.append_nil])
            have hle2 : decide (cc ≤ h 2) = false := by simp; omega
            go_wp2_with fail
            go_roundw
            case rel => exact ⟨b + 1, by omega, by go_num, hide (by rw [← HX.out]; exact unhide HOb), HHb, HBb⟩
            case measure => simp [intOf]; omega
        · obtain rfl : b = mb + 1 := by omega
          have hbt2 : decide (((mb + 1 : Nat) : Int) < (mb : Int) + 1) = false := by simp
          go_wp2_with fail
          go_roundw
          case rel => exact ⟨k + 1, by omega, by go_num, hide (by rw [← HPT.out]; exact unhide HOb), HHb, HBb⟩
          case measure => simp [intOf]; omega
    · obtain rfl : k = mn + 1 := by omega
      have hlt2 : decide (((mn + 1 : Nat) : Int) < (mn : Int) + 1) = false := by simp
      go_wp2_with fail
      go_ret
      exact ⟨_, rfl, by rw [← HPL.out]; exact (unhide HO).lower (by omega), unhide HB⟩
end Go.Proofs.Ytabgifpenegofaa
