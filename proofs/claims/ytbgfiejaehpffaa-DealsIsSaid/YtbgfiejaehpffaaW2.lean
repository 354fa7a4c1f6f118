/-
  Pairs: comparing them; isPair, arePairs of the program.
-/
import Derived.Test.YtbgfiejaehpffaaW1
namespace Go.Proofs.Ytbgfiejaehpffaa
open Go.RowKit

theorem under30 : Try.prog.underlying 30 = some (.array 2 3) := by kernel_rfl
theorem cells3 : Try.prog.cellsOf 3 = 1 := by kernel_rfl
theorem eql30 (a b a' b' : Int) (w : World) : (binOp .eql 30 (.agg #[.int .i64 a, .int .i64 b]) (.agg #[.int .i64 a', .int .i64 b'])).run Try.prog w = .ok (.bool (decide (((a, b) : F) = (a', b')))) w := by
  obtain ⟨i0, h0, hz0, hz1, hz2⟩ := info_parts info3
  have u3 := Try.underlying3
  have a3 := Try.isAgg3
  have z3 := Try.sizeOf3
  rw [run_eql_struct, show (10000 : Nat) = 9998 + 1 + 1 from rfl, run_equalIn_array w _ _ _ under30 h0]
  rw [cells3]
  simp only [show List.range 2 = [0, 1] from rfl, Op.eqItems]
  go_simp
  by_cases h1 : a = a' <;> by_cases h2 : b = b' <;> simp [h1, h2]
theorem neq30 (a b a' b' : Int) (w : World) : (binOp .neq 30 (.agg #[.int .i64 a, .int .i64 b]) (.agg #[.int .i64 a', .int .i64 b'])).run Try.prog w = .ok (.bool (!(decide (((a, b) : F) = (a', b'))))) w := by
  obtain ⟨i0, h0, hz0, hz1, hz2⟩ := info_parts info3
  have u3 := Try.underlying3
  have a3 := Try.isAgg3
  have z3 := Try.sizeOf3
  rw [run_neq_struct, show (10000 : Nat) = 9998 + 1 + 1 from rfl, run_equalIn_array w _ _ _ under30 h0]
  rw [cells3]
  simp only [show List.range 2 = [0, 1] from rfl, Op.eqItems]
  go_simp
  by_cases h1 : a = a' <;> by_cases h2 : b = b' <;> simp [h1, h2]

theorem ints_two (w : World) (x y : Int) : Ints (w.alloc (.cells #[.int .i64 x, .int .i64 y] 3)) (w.heap.size + 1) (some ⟨w.heap.size, 0, none⟩) 2 2 [x, y] := by
  obtain ⟨c0, c1⟩ := two_at (heap_new_ w (.cells #[.int .i64 x, .int .i64 y] 3))
  refine ⟨rfl, Nat.le_refl _, by omega, (fun e => by cases e), fun k hk => ⟨w.heap.size, 0, rfl, by omega, ?_⟩⟩
  rcases k with _ | _ | k
  · exact c0
  · exact c1
  · omega

/-- A pair of numbers from 0 to 30. -/
def prB (q : F) : Bool := allIn 0 30 [q.1, q.2]
theorem prB_iff (q : F) : prB q = true ↔ (0 ≤ q.1 ∧ q.1 ≤ 30) ∧ (0 ≤ q.2 ∧ q.2 ≤ 30) := by
  unfold prB allIn outB; simp

set_option maxHeartbeats 1000000 in
theorem isPair_any (x y : Int) (w : World) (b : Bool) (hb : Hid (prB (x, y) = b)) :
    Calls Try.prog 81 #[.agg #[.int .i64 x, .int .i64 y]] w fun e w' => e = .returned (.bool b) ∧ Below w.heap.size w w' := by
  obtain ⟨W0, hW0⟩ : ∃ W0, W0 = w.alloc (.cells #[.int .i64 x, .int .i64 y] 30) := ⟨_, rfl⟩
  have HB0 := hide (show Below w.heap.size w W0 from by rw [hW0]; exact (Below.refl _ w).alloc (Nat.le_refl _) _)
  have hr : W0.heap[w.heap.size]? = some (.cells #[.int .i64 x, .int .i64 y] 30 (0, 0)) := by rw [hW0]; exact heap_new_ w _
  obtain ⟨q0, q1⟩ := two_at hr
  have HI := hide (ints_two W0 x y)
  have HB1 := hide ((unhide HB0).alloc (unhide HB0).size (.cells #[.int .i64 x, .int .i64 y] 3))
  have HC := hide (within_any _ _ _ _ 0 30 (W0.alloc (.cells #[.int .i64 x, .int .i64 y] 3)) _ (unhide HI) (by simp) b hb)
  clear hr HI
  have hW : w.alloc (.cells #[.int .i64 x, .int .i64 y] 30) = W0 := hW0.symm
  clear hW0
  go_enter Try.func81, Try.ntmps81
  go_wp2_with fail
  refine (unhide HC).mono ?_
  rintro e w1 ⟨rfl, b1⟩
  have HB2 := hide ((unhide HB1).trans (b1.mono (unhide HB1).size))
  clear hW b1
  go_wp2_with fail
  go_ret
  exact ⟨rfl, unhide HB2⟩

set_option maxHeartbeats 1000000 in
theorem pair_c (x y : Int) (w : World) (b : Bool) (hb : Hid (prB (x, y) = b)) :
    Calls Try.prog 80 #[.agg #[.int .i64 x, .int .i64 y]] w fun e w' => e = .returned (.bool (!b)) ∧ Below w.heap.size w w' := by
  obtain ⟨W0, hW0⟩ : ∃ W0, W0 = w.alloc (.cells #[.int .i64 x, .int .i64 y] 30) := ⟨_, rfl⟩
  have HB0 := hide (show Below w.heap.size w W0 from by rw [hW0]; exact (Below.refl _ w).alloc (Nat.le_refl _) _)
  have hr : W0.heap[w.heap.size]? = some (.cells #[.int .i64 x, .int .i64 y] 30 (0, 0)) := by rw [hW0]; exact heap_new_ w _
  obtain ⟨q0, q1⟩ := two_at hr
  have HC := hide (isPair_any x y W0 b hb)
  clear hr
  have hW : w.alloc (.cells #[.int .i64 x, .int .i64 y] 30) = W0 := hW0.symm
  clear hW0
  go_enter Try.func80, Try.ntmps80
  go_wp2_with fail
  refine (unhide HC).mono ?_
  rintro e w1 ⟨rfl, b1⟩
  have HB2 := hide ((unhide HB0).trans (b1.mono (unhide HB0).size))
  clear hW b1
  go_wp2_with fail
  go_ret
  exact ⟨rfl, unhide HB2⟩

def noPr (q : F) : Bool := !(prB q)
set_option maxHeartbeats 1000000 in
theorem indexP_any (A : Option Addr) (n c : Nat) (fs : List F) (w : World) (h : Fs w w.heap.size A n c fs) :
    Calls Try.prog 91 #[.slice A n c, .func (.func 80) #[] #[]] w fun e w' => e = .returned (.int .i64 (ixP noPr fs 0)) ∧ Below w.heap.size w w' := by
  have hm := h.most; have hcap := h.cap
  have HI := hide h
  have HL := hide h.len
  clear h
  obtain ⟨r, hr⟩ : ∃ r, ixP noPr fs 0 = r := ⟨_, rfl⟩
  rw [hr]
  have HR := hide hr
  clear hr
  go_enter Try.func91, Try.ntmps91
  go_wp2_with fail
  go_loopw [8] (fun i wr => ∃ k : Nat, k ≤ n ∧ i = .int .i64 k ∧ Hid (ixP noPr (fs.drop k) k = r) ∧ Hid (Below w.heap.size w wr)) (fun i _ => n - (intOf i).toNat)
  case atStart => exact ⟨0, Nat.zero_le _, rfl, hide (by rw [List.drop_zero]; exact HR.out), hide (Below.refl _ _)⟩
  case round =>
    obtain ⟨k, hk, rfl, HK, HB⟩ := hrel
    by_cases hlt : k < n
    · obtain ⟨b, off, rfl, hb, hc1, hc2⟩ := ((unhide HI).below (unhide HB)).at_ k hlt
      have hs := ixP_step noPr fs (0, 0) k (by rw [HL.out]; exact hlt)
      rw [HK.out] at hs
      rw [show fs.getD k (0, 0) = fth fs k from rfl] at hs
      obtain ⟨⟨x, y⟩, e⟩ : ∃ p, fth fs k = p := ⟨_, rfl⟩
      rw [e] at hs hc1 hc2
      clear e
      simp only at hs hc1 hc2
      cases hp : prB (x, y) with
      | false =>
        rw [show noPr (x, y) = true from by unfold noPr; rw [hp]; rfl, if_pos rfl] at hs
        have HS := hide hs
        have HC := hide (pair_c x y wr false (hide hp))
        clear hs hp
        go_wp2_with fail
        refine (unhide HC).mono ?_
        rintro e w' ⟨rfl, b1⟩
        have HB1 := hide ((unhide HB).trans (b1.mono (unhide HB).size))
        clear b1
        go_wp2_with fail
        go_ret
        exact ⟨ret_int HS.out.symm, unhide HB1⟩
      | true =>
        rw [show noPr (x, y) = false from by unfold noPr; rw [hp]; rfl, if_neg (by simp)] at hs
        have HS := hide hs
        have HC := hide (pair_c x y wr true (hide hp))
        clear hs hp
        go_wp2_with fail
        refine (unhide HC).mono ?_
        rintro e w' ⟨rfl, b1⟩
        have HB1 := hide ((unhide HB).trans (b1.mono (unhide HB).size))
        clear b1
        go_wp2_with fail
        go_roundw
        case rel => exact ⟨k + 1, by omega, by go_num, hide HS.out.symm, HB1⟩
        case measure => simp [intOf]; omega
    · have HE := hide (show -1 = r from by rw [← HK.out, List.drop_eq_nil_of_le (by rw [HL.out]; omega)]; rfl)
      go_wp2_with fail
      go_ret
      exact ⟨ret_int HE.out, unhide HB⟩

theorem containsP_any (A : Option Addr) (n c : Nat) (fs : List F) (w : World) (h : Fs w w.heap.size A n c fs) (b : Bool) (hb : Hid (fs.any noPr = b)) :
    Calls Try.prog 79 #[.slice A n c, .func (.func 80) #[] #[]] w fun e w' => e = .returned (.bool b) ∧ Below w.heap.size w w' := by
  have HC := hide (indexP_any A n c fs w h)
  have hg := ixP_geq noPr fs
  rw [hb.out] at hg
  revert HC hg
  obtain ⟨r, hr⟩ : ∃ r, ixP noPr fs 0 = r := ⟨_, rfl⟩
  rw [hr]; clear hr
  intro HC hg
  have HG := hide hg; clear hg
  clear h
  go_enter Try.func79, Try.ntmps79
  go_wp2_with fail
  refine (unhide HC).mono ?_
  rintro e w' ⟨rfl, b1⟩
  have HB1 := hide b1; clear b1
  go_wp2_with fail
  go_ret
  exact ⟨ret_bool HG.out, unhide HB1⟩
def prsB (fs : List F) : Bool := fs.all prB
theorem arePairs_any (A : Option Addr) (n c : Nat) (fs : List F) (w : World) (h : Fs w w.heap.size A n c fs) (b : Bool) (hb : Hid (prsB fs = b)) :
    Calls Try.prog 66 #[.slice A n c] w fun e w' => e = .returned (.bool b) ∧ Below w.heap.size w w' := by
  have HC := hide (containsP_any A n c fs w h (!b) (hide (by rw [← hb.out]; unfold prsB noPr; simp [List.not_all_eq_any_not])))
  clear h
  go_enter Try.func66, Try.ntmps66
  go_wp2_with fail
  refine (unhide HC).mono ?_
  rintro e w' ⟨rfl, b1⟩
  have HB1 := hide b1; clear b1
  go_wp2_with fail
  go_ret
  exact ⟨ret_bool (by simp), unhide HB1⟩
end Go.Proofs.Ytbgfiejaehpffaa
