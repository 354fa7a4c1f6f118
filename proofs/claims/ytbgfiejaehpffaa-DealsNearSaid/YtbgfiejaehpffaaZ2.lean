/-
  Steps, of the program and of the reference.
-/
import Derived.Test.YtbgfiejaehpffaaZ1
namespace Go.Proofs.Ytbgfiejaehpffaa
open Go.RowKit

theorem step_neg (r s : Rat) : 1 + -r * s = 1 - r * s := by grind
theorem bd_nrq {p q : Int} (h : (1 ≤ q ∧ q ≤ 12) ∧ 0 ≤ p ∧ p < q) : Bd 12 12 (-(rq p q)) := by
  have := bd_divInt (a := -p) (b := q) (by omega)
  rw [neg_rq] at this
  exact this.mono (by omega) (by omega)
set_option maxRecDepth 100000 in
set_option maxHeartbeats 2000000 in
theorem Steps_no1 (n p q : Int) (w : World) (hn : Hid ((decide (0 ≤ n) && decide (n ≤ 8)) = false)) :
    Calls Try.prog 25 #[.int .i64 n, .int .i64 p, .int .i64 q] w fun e w' => e = .returned (.tuple #[.agg #[.int .i64 0, .int .i64 0], .int .i64 2]) ∧ Below w.heap.size w w' := by
  obtain ⟨W0, hW0⟩ : ∃ W0, W0 = w.alloc (.cells #[.int .i64 0, .int .i64 0] 32) := ⟨_, rfl⟩
  have HB0 := hide (show Below w.heap.size w W0 from by rw [hW0]; exact (Below.refl _ w).alloc (Nat.le_refl _) _)
  have HR0 := hide (show W0.heap[w.heap.size]? = some (.cells #[.int .i64 0, .int .i64 0] 32 (0, 0)) from by rw [hW0]; exact heap_new_ w _)
  have hW : w.alloc (.cells #[.int .i64 0, .int .i64 0] 32) = W0 := hW0.symm
  clear hW0
  have HI1 := hide (ints_one W0 n)
  have HBa := hide ((unhide HB0).alloc (unhide HB0).size (.cells #[.int .i64 n] 3))
  have HRa := hide (((Below.refl W0.heap.size W0).alloc (Nat.le_refl _) (.cells #[.int .i64 n] 3)).block _ (Array.getElem?_eq_some_iff.1 (unhide HR0)).1 |>.trans (unhide HR0))
  have HC := hide (within_any _ _ _ _ 0 8 (W0.alloc (.cells #[.int .i64 n] 3)) _ (unhide HI1) (by simp) false (hide (by rw [allIn_1]; exact hn.out)))
  go_enter Try.func25, Try.ntmps25
  go_wp2_with fail
  refine (unhide HC).mono ?_
  rintro e w1 ⟨rfl, b1⟩
  clear hW
  have hr := (b1.block _ (Array.getElem?_eq_some_iff.1 (unhide HRa)).1).trans (unhide HRa)
  have HB1 := hide ((unhide HBa).trans (b1.mono (unhide HBa).size))
  clear b1
  have f0 := free_at hr 0; have f1 := free_at hr 1
  obtain ⟨q0, q1⟩ := two_at hr
  have HP := hide (put2 hr (.int .i64 0) (.int .i64 0))
  have HBz := hide (below_put2 (unhide HB1) (Nat.le_refl w.heap.size) (.int .i64 0) (.int .i64 0))
  clear hr
  go_wp2_with fail
  obtain ⟨s0, s1⟩ := two_at (unhide HP)
  exact bodyPost_ret (v := .tuple #[.agg #[.int .i64 0, .int .i64 0], .int .i64 2]) (by simp [results, Try.results25, go_sem, s0, s1]) rfl ⟨rfl, unhide HBz⟩

set_option maxRecDepth 100000 in
set_option maxHeartbeats 2000000 in
theorem Steps_no2 (n p q : Int) (w : World) (hn : Hid ((decide (0 ≤ n) && decide (n ≤ 8)) = true)) (hb : Hid (partB p q = false)) :
    Calls Try.prog 25 #[.int .i64 n, .int .i64 p, .int .i64 q] w fun e w' => e = .returned (.tuple #[.agg #[.int .i64 0, .int .i64 0], .int .i64 2]) ∧ Below w.heap.size w w' := by
  obtain ⟨W0, hW0⟩ : ∃ W0, W0 = w.alloc (.cells #[.int .i64 0, .int .i64 0] 32) := ⟨_, rfl⟩
  have HB0 := hide (show Below w.heap.size w W0 from by rw [hW0]; exact (Below.refl _ w).alloc (Nat.le_refl _) _)
  have HR0 := hide (show W0.heap[w.heap.size]? = some (.cells #[.int .i64 0, .int .i64 0] 32 (0, 0)) from by rw [hW0]; exact heap_new_ w _)
  have hW : w.alloc (.cells #[.int .i64 0, .int .i64 0] 32) = W0 := hW0.symm
  clear hW0
  have HI1 := hide (ints_one W0 n)
  have HBa := hide ((unhide HB0).alloc (unhide HB0).size (.cells #[.int .i64 n] 3))
  have HRa := hide (((Below.refl W0.heap.size W0).alloc (Nat.le_refl _) (.cells #[.int .i64 n] 3)).block _ (Array.getElem?_eq_some_iff.1 (unhide HR0)).1 |>.trans (unhide HR0))
  have HC := hide (within_any _ _ _ _ 0 8 (W0.alloc (.cells #[.int .i64 n] 3)) _ (unhide HI1) (by simp) true (hide (by rw [allIn_1]; exact hn.out)))
  have HL := hide (fun W => isLeft_any p q W false hb)
  go_enter Try.func25, Try.ntmps25
  go_wp2_with fail
  refine (unhide HC).mono ?_
  rintro e w1 ⟨rfl, b1⟩
  clear hW
  have HR1 := hide ((b1.block _ (Array.getElem?_eq_some_iff.1 (unhide HRa)).1).trans (unhide HRa))
  have HB1 := hide ((unhide HBa).trans (b1.mono (unhide HBa).size))
  clear b1
  go_wp2_with fail
  refine ((unhide HL) w1).mono ?_
  rintro e w2 ⟨rfl, b2⟩
  have hr := (b2.block _ (Array.getElem?_eq_some_iff.1 (unhide HR1)).1).trans (unhide HR1)
  have HB2 := hide ((unhide HB1).trans (b2.mono (unhide HB1).size))
  clear b2
  have f0 := free_at hr 0; have f1 := free_at hr 1
  obtain ⟨q0, q1⟩ := two_at hr
  have HP := hide (put2 hr (.int .i64 0) (.int .i64 0))
  have HBz := hide (below_put2 (unhide HB2) (Nat.le_refl w.heap.size) (.int .i64 0) (.int .i64 0))
  clear hr
  go_wp2_with fail
  obtain ⟨s0, s1⟩ := two_at (unhide HP)
  exact bodyPost_ret (v := .tuple #[.agg #[.int .i64 0, .int .i64 0], .int .i64 2]) (by simp [results, Try.results25, go_sem, s0, s1]) rfl ⟨rfl, unhide HBz⟩

set_option maxRecDepth 100000 in
set_option maxHeartbeats 8000000 in
theorem Steps_ok (m : Nat) (p q : Int) (w : World) (hm : m ≤ 8) (hb : Hid (partB p q = true)) (n' d' : Int) (hf : Hid (Fr (stp (rq p q) m) n' d')) :
    Calls Try.prog 25 #[.int .i64 (m : Int), .int .i64 p, .int .i64 q] w fun e w' => e = .returned (.tuple #[.agg #[.int .i64 n', .int .i64 d'], .int .i64 0]) ∧ Below w.heap.size w w' := by
  have HPB := hide ((partB_iff p q).1 hb.out)
  obtain ⟨n, hnm⟩ : ∃ n : Int, (m : Int) = n := ⟨_, rfl⟩
  have hn := hide (show (decide (0 ≤ n) && decide (n ≤ 8)) = true from by rw [← hnm]; simp; omega)
  rw [hnm]
  obtain ⟨W0, hW0⟩ : ∃ W0, W0 = w.alloc (.cells #[.int .i64 0, .int .i64 0] 32) := ⟨_, rfl⟩
  have HB0 := hide (show Below w.heap.size w W0 from by rw [hW0]; exact (Below.refl _ w).alloc (Nat.le_refl _) _)
  have HR0 := hide (show W0.heap[w.heap.size]? = some (.cells #[.int .i64 0, .int .i64 0] 32 (0, 0)) from by rw [hW0]; exact heap_new_ w _)
  have hW : w.alloc (.cells #[.int .i64 0, .int .i64 0] 32) = W0 := hW0.symm
  clear hW0
  have HI1 := hide (ints_one W0 n)
  have HBa := hide ((unhide HB0).alloc (unhide HB0).size (.cells #[.int .i64 n] 3))
  have HRa := hide (((Below.refl W0.heap.size W0).alloc (Nat.le_refl _) (.cells #[.int .i64 n] 3)).block _ (Array.getElem?_eq_some_iff.1 (unhide HR0)).1 |>.trans (unhide HR0))
  have HC := hide (within_any _ _ _ _ 0 8 (W0.alloc (.cells #[.int .i64 n] 3)) _ (unhide HI1) (by simp) true (hide (by rw [allIn_1]; exact hn.out)))
  have HL := hide (fun W => isLeft_any p q W true hb)
  have HW1 := hide (fun W => whole_any 1 W (by omega))
  go_enter Try.func25, Try.ntmps25
  go_wp2_with fail
  refine (unhide HC).mono ?_
  rintro e w1 ⟨rfl, b1⟩
  clear hW
  have HR1 := hide ((b1.block _ (Array.getElem?_eq_some_iff.1 (unhide HRa)).1).trans (unhide HRa))
  have HB1 := hide ((unhide HBa).trans (b1.mono (unhide HBa).size))
  clear b1
  go_wp2_with fail
  refine ((unhide HL) w1).mono ?_
  rintro e w2 ⟨rfl, b2⟩
  have HR2 := hide ((b2.block _ (Array.getElem?_eq_some_iff.1 (unhide HR1)).1).trans (unhide HR1))
  have HB2 := hide ((unhide HB1).trans (b2.mono (unhide HB1).size))
  clear b2
  go_wp2_with fail
  refine ((unhide HW1) w2).mono ?_
  rintro e w3 ⟨rfl, b3⟩
  have HR2b := hide ((b3.block _ (Array.getElem?_eq_some_iff.1 (unhide HR2)).1).trans (unhide HR2))
  have HB2b := hide ((unhide HB2).trans (b3.mono (unhide HB2).size))
  clear b3
  obtain ⟨W3, hW3⟩ : ∃ W3, W3 = w3.alloc (.cells #[.int .i64 1, .int .i64 1] 32) := ⟨_, rfl⟩
  have hB3 : Below w3.heap.size w3 W3 := by rw [hW3]; exact (Below.refl _ _).alloc (Nat.le_refl _) _
  obtain ⟨G0, hG0⟩ : ∃ G0, w3.heap.size = G0 := ⟨_, rfl⟩
  have HG3 := hide (show W3.heap[G0]? = some (.cells #[.int .i64 1, .int .i64 1] 32 (0, 0)) from by rw [hW3, ← hG0]; exact heap_new_ _ _)
  have HB3 := hide ((unhide HB2b).trans (hB3.mono (unhide HB2b).size))
  have HR3 := hide ((hB3.block _ (Array.getElem?_eq_some_iff.1 (unhide HR2b)).1).trans (unhide HR2b))
  have HGW := hide (show w.heap.size < G0 from by rw [← hG0]; exact (Array.getElem?_eq_some_iff.1 (unhide HR2b)).1)
  have hW : w3.alloc (.cells #[.int .i64 1, .int .i64 1] 32) = W3 := hW3.symm
  clear hW3 hB3
  subst hnm
  go_wp2_with fail
  clear hW
  (try rw [hG0])
  clear hG0
  go_loopw [22] (fun i wr => ∃ k : Nat, k ≤ m ∧ i = .int .i64 k ∧ Hid (∃ a b, Fr (stp (rq p q) k) a b ∧ wr.heap[G0]? = some (.cells #[.int .i64 a, .int .i64 b] 32 (0, 0))) ∧ Hid (Below G0 W3 wr)) (fun i _ => m - (intOf i).toNat)
  case atStart => exact ⟨0, Nat.zero_le _, rfl, hide ⟨1, 1, ⟨rfl, rfl⟩, unhide HG3⟩, hide (Below.refl _ _)⟩
  case round =>
    obtain ⟨k, hk, rfl, HJ, HB⟩ := hrel
    obtain ⟨a, b, hfa, hga⟩ := HJ.out
    have HFA := hide hfa
    have HGA := hide hga
    clear hfa hga HJ
    by_cases hlt : k < m
    · have hk8 : (k : Int) < (m : Int) := by omega
      have hbs := (bd_stp HPB.out k).mono (Nat.pow_le_pow_right (by decide) (show k ≤ 7 by omega)) (Nat.pow_le_pow_right (by decide) (show k ≤ 7 by omega))
      obtain ⟨c, d, hc⟩ := exists_fr ((-(rq p q)) * stp (rq p q) k)
      obtain ⟨e', f', he⟩ := exists_fr (stp (rq p q) (k + 1))
      have hb12 := bd_rq HPB.out
      have h1 : Bd 1 1 (1 : Rat) := ⟨by decide, by decide⟩
      have ho : Fr (1 : Rat) 1 1 := ⟨rfl, rfl⟩
      obtain ⟨u, v, huv⟩ := exists_fr (-(rq p q))
      have hbn := bd_nrq HPB.out
      have HQ := hide (fun W => quotient_any (-p) q W (by have := HPB.out; omega) (by have := HPB.out; omega) u v (hide (by rw [neg_rq]; exact huv)))
      have HT := hide (fun W => times_q W (hide huv) HFA (hide hbn) (hide hbs) (hide ⟨by decide, by decide⟩) (hide rfl) (hide hc))
      have HPl := hide (fun W => plus_q W (hide ho) (hide hc) (hide h1) (hide (hbn.mul hbs)) (hide ⟨by decide, by decide, by decide⟩) (hide rfl) (hide (show Fr (1 + -(rq p q) * stp (rq p q) k) e' f' from by rw [step_neg]; exact he)))
      have hwn : IntKind.i64.wrap (-p) = -p := IntWalk.i64_in _ (by have := HPB.out; omega)
      clear huv hbn
      have HE := hide he
      clear hbs hc he hb12 h1 ho
      have HS := hide (show ∀ W', Below wr.heap.size wr W' → (W'.cell? ⟨G0, 0, none⟩ = some (.int .i64 a) ∧ W'.cell? ⟨G0, 1, none⟩ = some (.int .i64 b)) from fun W' hb' => two_at ((hb'.block _ (Array.getElem?_eq_some_iff.1 (unhide HGA)).1).trans (unhide HGA)))
      have HWd := hide (show Below wr.heap.size wr wr.drew from (Below.refl _ _).drew)
      have HLT := hide (show G0 < wr.heap.size from (Array.getElem?_eq_some_iff.1 (unhide HGA)).1)
      go_upto_region 6 with fail
      refine wp_region_quietT 8 (fun W' => Below wr.heap.size wr W') (by kernel_rfl) (by kernel_rfl) (unhide HWd) ?_
      simp only [List.take_succ_cons, List.take_zero, List.drop_succ_cons, List.drop_zero]
      repeat (first
        | go_big_quiet_skip
        | (go_big_quiet_want
           apply Exists.intro
           refine ⟨fun W hW => ?_, ?_⟩
           · obtain ⟨m1, m2⟩ := (unhide HS) W hW
             go_simp
             first | rfl | ((with_reducible refine ((unhide HW1) W).mono ?_); exact fun _ _ h => ⟨h.1, hW.trans (h.2.mono hW.size)⟩) | ((with_reducible refine ((unhide HQ) W).mono ?_); exact fun _ _ h => ⟨h.1, hW.trans (h.2.mono hW.size)⟩) | ((with_reducible refine ((unhide HT) W).mono ?_); exact fun _ _ h => ⟨h.1, hW.trans (h.2.mono hW.size)⟩) | ((with_reducible refine ((unhide HPl) W).mono ?_); exact fun _ _ h => ⟨h.1, hW.trans (h.2.mono hW.size)⟩)
           go_big_quiet_on
           simp only [Act.put, List.setIfInBounds_toArray, List.set_cons_zero, List.set_cons_succ]))
      refine wpQuiet_nil ?_
      intro wc hWc
      have hgc := (hWc.block _ HLT.out).trans (unhide HGA)
      have HBc := hide ((unhide HB).trans (hWc.mono (Nat.le_of_lt HLT.out)))
      clear hWc
      have f0 := free_at hgc 0; have f1 := free_at hgc 1
      obtain ⟨q0, q1⟩ := two_at hgc
      have HG2 := hide (put2 hgc (.int .i64 e') (.int .i64 f'))
      have HB2 := hide (below_put2 (unhide HBc) (Nat.le_refl G0) (.int .i64 e') (.int .i64 f'))
      clear hgc
      go_wp2_with fail
      go_roundw
      case rel => exact ⟨k + 1, by omega, by go_num, hide ⟨e', f', HE.out, unhide HG2⟩, HB2⟩
      case measure => simp [intOf]; omega
    · obtain rfl : k = m := by omega
      have hv : a = n' ∧ b = d' := ⟨HFA.out.1.symm.trans hf.out.1, HFA.out.2.symm.trans hf.out.2⟩
      obtain ⟨rfl, rfl⟩ := hv
      obtain ⟨m1, m2⟩ := two_at (unhide HGA)
      have hr := ((unhide HB).block _ HGW.out).trans (unhide HR3)
      have HBx := hide ((unhide HB3).trans ((unhide HB).mono (Nat.le_of_lt HGW.out)))
      have f0 := free_at hr 0; have f1 := free_at hr 1
      obtain ⟨q0, q1⟩ := two_at hr
      have HP := hide (put2 hr (.int .i64 a) (.int .i64 b))
      have HBz := hide (below_put2 (unhide HBx) (Nat.le_refl w.heap.size) (.int .i64 a) (.int .i64 b))
      clear hr
      go_wp2_with fail
      obtain ⟨s0, s1⟩ := two_at (unhide HP)
      exact bodyPost_ret (v := .tuple #[.agg #[.int .i64 a, .int .i64 b], .int .i64 0]) (by simp [results, Try.results25, go_sem, s0, s1]) rfl ⟨rfl, unhide HBz⟩

set_option maxRecDepth 100000 in
set_option maxHeartbeats 8000000 in
theorem RSteps_ok (m : Nat) (p q : Int) (w : World) (hm : m ≤ 8) (hb : Hid (partB p q = true)) (n' d' : Int) (hf : Hid (Fr (stp (rq p q) m) n' d')) :
    Calls Try.prog 30 #[.int .i64 (m : Int), .int .i64 p, .int .i64 q] w fun e w' => e = .returned (.agg #[.int .i64 n', .int .i64 d']) ∧ Below w.heap.size w w' := by
  have HPB := hide ((partB_iff p q).1 hb.out)
  obtain ⟨W0, hW0⟩ : ∃ W0, W0 = w.alloc (.cells #[.int .i64 0, .int .i64 0] 32) := ⟨_, rfl⟩
  have HB0 := hide (show Below w.heap.size w W0 from by rw [hW0]; exact (Below.refl _ w).alloc (Nat.le_refl _) _)
  have HR0 := hide (show W0.heap[w.heap.size]? = some (.cells #[.int .i64 0, .int .i64 0] 32 (0, 0)) from by rw [hW0]; exact heap_new_ w _)
  have hW : w.alloc (.cells #[.int .i64 0, .int .i64 0] 32) = W0 := hW0.symm
  clear hW0
  have HW1 := hide (fun W => RWhole_any 1 W)
  go_enter Try.func30, Try.ntmps30
  go_wp2_with fail
  refine ((unhide HW1) W0).mono ?_
  rintro e w3 ⟨rfl, b3⟩
  clear hW
  have HR2b := hide ((b3.block _ (Array.getElem?_eq_some_iff.1 (unhide HR0)).1).trans (unhide HR0))
  have HB2b := hide ((unhide HB0).trans (b3.mono (unhide HB0).size))
  clear b3
  obtain ⟨W3, hW3⟩ : ∃ W3, W3 = w3.alloc (.cells #[.int .i64 1, .int .i64 1] 32) := ⟨_, rfl⟩
  have hB3 : Below w3.heap.size w3 W3 := by rw [hW3]; exact (Below.refl _ _).alloc (Nat.le_refl _) _
  obtain ⟨G0, hG0⟩ : ∃ G0, w3.heap.size = G0 := ⟨_, rfl⟩
  have HG3 := hide (show W3.heap[G0]? = some (.cells #[.int .i64 1, .int .i64 1] 32 (0, 0)) from by rw [hW3, ← hG0]; exact heap_new_ _ _)
  have HB3 := hide ((unhide HB2b).trans (hB3.mono (unhide HB2b).size))
  have HR3 := hide ((hB3.block _ (Array.getElem?_eq_some_iff.1 (unhide HR2b)).1).trans (unhide HR2b))
  have HGW := hide (show w.heap.size < G0 from by rw [← hG0]; exact (Array.getElem?_eq_some_iff.1 (unhide HR2b)).1)
  have hW : w3.alloc (.cells #[.int .i64 1, .int .i64 1] 32) = W3 := hW3.symm
  clear hW3 hB3
  go_wp2_with fail
  clear hW
  (try rw [hG0])
  clear hG0
  go_loopw [10] (fun i wr => ∃ k : Nat, k ≤ m ∧ i = .int .i64 k ∧ Hid (∃ a b, Fr (stp (rq p q) k) a b ∧ wr.heap[G0]? = some (.cells #[.int .i64 a, .int .i64 b] 32 (0, 0))) ∧ Hid (Below G0 W3 wr)) (fun i _ => m - (intOf i).toNat)
  case atStart => exact ⟨0, Nat.zero_le _, rfl, hide ⟨1, 1, ⟨rfl, rfl⟩, unhide HG3⟩, hide (Below.refl _ _)⟩
  case round =>
    obtain ⟨k, hk, rfl, HJ, HB⟩ := hrel
    obtain ⟨a, b, hfa, hga⟩ := HJ.out
    have HFA := hide hfa
    have HGA := hide hga
    clear hfa hga HJ
    by_cases hlt : k < m
    · have hk8 : (k : Int) < (m : Int) := by omega
      have hbs := (bd_stp HPB.out k).mono (Nat.pow_le_pow_right (by decide) (show k ≤ 7 by omega)) (Nat.pow_le_pow_right (by decide) (show k ≤ 7 by omega))
      obtain ⟨c, d, hc⟩ := exists_fr (rq p q * stp (rq p q) k)
      obtain ⟨e', f', he⟩ := exists_fr (stp (rq p q) (k + 1))
      have hb12 := bd_rq HPB.out
      have h1 : Bd 1 1 (1 : Rat) := ⟨by decide, by decide⟩
      have ho : Fr (1 : Rat) 1 1 := ⟨rfl, rfl⟩
      obtain ⟨u, v, huv⟩ := exists_fr (rq p q)
      have HQ := hide (fun W => RFrac_any p q W (by have := HPB.out; omega) (by have := HPB.out; omega) u v (hide huv))
      have HT := hide (fun W => RTimes_q W (hide huv) HFA (hide hb12) (hide hbs) (hide ⟨by decide, by decide⟩) (hide rfl) (hide hc))
      have HPl := hide (fun W => RMinus_q W (hide ho) (hide hc) (hide h1) (hide (hb12.mul hbs)) (hide ⟨by decide, by decide, by decide⟩) (hide rfl) (hide (show Fr (1 - rq p q * stp (rq p q) k) e' f' from he)))
      clear huv
      have HE := hide he
      clear hbs hc he hb12 h1 ho
      have HS := hide (show ∀ W', Below wr.heap.size wr W' → (W'.cell? ⟨G0, 0, none⟩ = some (.int .i64 a) ∧ W'.cell? ⟨G0, 1, none⟩ = some (.int .i64 b)) from fun W' hb' => two_at ((hb'.block _ (Array.getElem?_eq_some_iff.1 (unhide HGA)).1).trans (unhide HGA)))
      have HWd := hide (show Below wr.heap.size wr wr.drew from (Below.refl _ _).drew)
      have HLT := hide (show G0 < wr.heap.size from (Array.getElem?_eq_some_iff.1 (unhide HGA)).1)
      go_upto_region 4 with fail
      refine wp_region_quietT 7 (fun W' => Below wr.heap.size wr W') (by kernel_rfl) (by kernel_rfl) (unhide HWd) ?_
      simp only [List.take_succ_cons, List.take_zero, List.drop_succ_cons, List.drop_zero]
      repeat (first
        | go_big_quiet_skip
        | (go_big_quiet_want
           apply Exists.intro
           refine ⟨fun W hW => ?_, ?_⟩
           · obtain ⟨m1, m2⟩ := (unhide HS) W hW
             go_simp
             first | rfl | ((with_reducible refine ((unhide HW1) W).mono ?_); exact fun _ _ h => ⟨h.1, hW.trans (h.2.mono hW.size)⟩) | ((with_reducible refine ((unhide HQ) W).mono ?_); exact fun _ _ h => ⟨h.1, hW.trans (h.2.mono hW.size)⟩) | ((with_reducible refine ((unhide HT) W).mono ?_); exact fun _ _ h => ⟨h.1, hW.trans (h.2.mono hW.size)⟩) | ((with_reducible refine ((unhide HPl) W).mono ?_); exact fun _ _ h => ⟨h.1, hW.trans (h.2.mono hW.size)⟩)
           go_big_quiet_on
           simp only [Act.put, List.setIfInBounds_toArray, List.set_cons_zero, List.set_cons_succ]))
      refine wpQuiet_nil ?_
      intro wc hWc
      have hgc := (hWc.block _ HLT.out).trans (unhide HGA)
      have HBc := hide ((unhide HB).trans (hWc.mono (Nat.le_of_lt HLT.out)))
      clear hWc
      have f0 := free_at hgc 0; have f1 := free_at hgc 1
      obtain ⟨q0, q1⟩ := two_at hgc
      have HG2 := hide (put2 hgc (.int .i64 e') (.int .i64 f'))
      have HB2 := hide (below_put2 (unhide HBc) (Nat.le_refl G0) (.int .i64 e') (.int .i64 f'))
      clear hgc
      go_wp2_with fail
      go_roundw
      case rel => exact ⟨k + 1, by omega, by go_num, hide ⟨e', f', HE.out, unhide HG2⟩, HB2⟩
      case measure => simp [intOf]; omega
    · obtain rfl : k = m := by omega
      have hv : a = n' ∧ b = d' := ⟨HFA.out.1.symm.trans hf.out.1, HFA.out.2.symm.trans hf.out.2⟩
      obtain ⟨rfl, rfl⟩ := hv
      obtain ⟨m1, m2⟩ := two_at (unhide HGA)
      have hr := ((unhide HB).block _ HGW.out).trans (unhide HR3)
      have HBx := hide ((unhide HB3).trans ((unhide HB).mono (Nat.le_of_lt HGW.out)))
      have f0 := free_at hr 0; have f1 := free_at hr 1
      obtain ⟨q0, q1⟩ := two_at hr
      have HP := hide (put2 hr (.int .i64 a) (.int .i64 b))
      have HBz := hide (below_put2 (unhide HBx) (Nat.le_refl w.heap.size) (.int .i64 a) (.int .i64 b))
      clear hr
      go_wp2_with fail
      obtain ⟨s0, s1⟩ := two_at (unhide HP)
      exact bodyPost_ret (v := .agg #[.int .i64 a, .int .i64 b]) (by simp [results, Try.results30, go_sem, s0, s1]) rfl ⟨rfl, unhide HBz⟩
end Go.Proofs.Ytbgfiejaehpffaa
