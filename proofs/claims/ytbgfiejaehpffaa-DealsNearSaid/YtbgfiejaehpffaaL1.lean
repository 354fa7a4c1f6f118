/-
  The law DealsSteps, walked.
-/
import Derived.Test.YtbgfiejaehpffaaZ2
import Derived.Test.YtbgfiejaehpffaaY5
namespace Go.Proofs.Ytbgfiejaehpffaa
open Go.RowKit

theorem Steps_out (n p q : Int) (w : World) (h : (decide (0 ≤ n) && decide (n ≤ 8)) = false ∨ partB p q = false) :
    Calls Try.prog 25 #[.int .i64 n, .int .i64 p, .int .i64 q] w fun e w' => e = .returned (.tuple #[.agg #[.int .i64 0, .int .i64 0], .int .i64 2]) ∧ Below w.heap.size w w' := by
  cases hn : (decide (0 ≤ n) && decide (n ≤ 8)) with
  | false => exact Steps_no1 n p q w (hide hn)
  | true => exact Steps_no2 n p q w (hide hn) (hide (h.resolve_left (by rw [hn]; simp)))

set_option maxRecDepth 100000 in
set_option maxHeartbeats 8000000 in
theorem LSteps_no (n p q : Int) (w : World) (hb : Hid (partB p q = false)) :
    Calls Try.prog 5 #[.int .i64 n, .int .i64 p, .int .i64 q] w fun e w' => e = .returned (.bool true) ∧ Below w.heap.size w w' := by
  have HSt := hide (Steps_out n p q w (.inr hb.out))
  have HFo := hide (fun W => Forever_no p q W hb)
  have HPt := hide (fun W => Part_any p q W false hb)
  have HNo := hide (fun W => none_any 0 0 W true (hide (by decide)))
  go_enter Try.func5, Try.ntmps5
  go_wp2_with fail
  refine (unhide HSt).mono ?_
  rintro e w1 ⟨rfl, b1⟩
  go_upto_region 2 with fail
  obtain ⟨X1, hX1⟩ : ∃ X1, X1 = w1.alloc (.cells #[.int .i64 0, .int .i64 0] 32) := ⟨_, rfl⟩
  have HB1 := hide (show Below w.heap.size w X1 from by rw [hX1]; exact b1.alloc b1.size _)
  have HX1 := hide (show X1.heap[w1.heap.size]? = some (.cells #[.int .i64 0, .int .i64 0] 32 (0, 0)) from by rw [hX1]; exact heap_new_ _ _)
  have hW1 : w1.alloc (.cells #[.int .i64 0, .int .i64 0] 32) = X1 := hX1.symm
  clear hX1 b1
  go_wp2_with fail
  refine ((unhide HFo) X1).mono ?_
  rintro e w2 ⟨rfl, b2⟩
  clear hW1
  go_upto_region 3 with fail
  obtain ⟨X2, hX2⟩ : ∃ X2, X2 = w2.alloc (.cells #[.int .i64 0, .int .i64 0] 32) := ⟨_, rfl⟩
  have hb12 : Below X1.heap.size X1 X2 := by rw [hX2]; exact b2.alloc b2.size _
  have HB2 := hide ((unhide HB1).trans (hb12.mono (unhide HB1).size))
  have hx2 := (hb12.block _ (Array.getElem?_eq_some_iff.1 (unhide HX1)).1).trans (unhide HX1)
  have hy2 : X2.heap[w2.heap.size]? = some (.cells #[.int .i64 0, .int .i64 0] 32 (0, 0)) := by rw [hX2]; exact heap_new_ _ _
  have HS := hide (show ∀ W', Below X2.heap.size X2 W' → ((W'.cell? ⟨w1.heap.size, 0, none⟩ = some (.int .i64 0) ∧ W'.cell? ⟨w1.heap.size, 1, none⟩ = some (.int .i64 0)) ∧ (W'.cell? ⟨w2.heap.size, 0, none⟩ = some (.int .i64 0) ∧ W'.cell? ⟨w2.heap.size, 1, none⟩ = some (.int .i64 0))) from fun W' hb' =>
    ⟨two_at ((hb'.block _ (Array.getElem?_eq_some_iff.1 hx2).1).trans hx2), two_at ((hb'.block _ (Array.getElem?_eq_some_iff.1 hy2).1).trans hy2)⟩)
  have hW2 : w2.alloc (.cells #[.int .i64 0, .int .i64 0] 32) = X2 := hX2.symm
  clear hX2 b2 hb12 hx2 hy2
  obtain ⟨⟨x0, x1⟩, ⟨y0, y1⟩⟩ := (unhide HS) _ (Below.refl _ _)
  go_wp2_with fail
  refine ((unhide HPt) X2).mono ?_
  rintro e w3 ⟨rfl, rfl⟩
  clear hW2
  go_wp2_with fail
  refine ((unhide HNo) X2).mono ?_
  rintro e w4 ⟨rfl, b4⟩
  have HB4 := hide ((unhide HB2).trans (b4.mono (unhide HB2).size))
  obtain ⟨⟨x0, x1⟩, ⟨y0, y1⟩⟩ := (unhide HS) _ b4
  clear b4
  go_wp2_with fail
  refine ((unhide HNo) w4).mono ?_
  rintro e w5 ⟨rfl, b5⟩
  have HB5 := hide ((unhide HB4).trans (b5.mono (unhide HB4).size))
  clear b5 x0 x1 y0 y1
  go_wp2_with fail
  refine (awake_any _).mono ?_
  rintro e w6 ⟨rfl, b6⟩
  have HB6 := hide ((unhide HB5).trans (b6.mono (unhide HB5).size))
  clear b6
  go_wp2_with fail
  go_ret
  exact ⟨rfl, unhide HB6⟩

set_option maxRecDepth 100000 in
set_option maxHeartbeats 8000000 in
theorem LSteps_out (n p q : Int) (w : World) (hb : Hid (partB p q = true)) (hn : n < 0 ∨ 8 < n) :
    Calls Try.prog 5 #[.int .i64 n, .int .i64 p, .int .i64 q] w fun e w' => e = .returned (.bool true) ∧ Below w.heap.size w w' := by
  obtain ⟨yn, yd, hy⟩ := exists_fr (fq p q)
  have HSt := hide (Steps_out n p q w (.inl (by simp; omega)))
  have HFo := hide (fun W => Forever_ok p q W hb yn yd (hide hy))
  have HPt := hide (fun W => Part_any p q W true hb)
  have HRF := hide (fun W => RForever_any p q W hb yn yd (hide hy))
  have HNo := hide (fun W => none_any 0 0 W true (hide (by decide)))
  have HAw := hide (fun W => awake_any W)
  have hne := neq32 yn yd yn yd
  rw [show (!(decide (((yn, yd) : F) = (yn, yd)))) = false by simp] at hne
  clear hy
  go_enter Try.func5, Try.ntmps5
  go_wp2_with fail
  refine (unhide HSt).mono ?_
  rintro e w1 ⟨rfl, b1⟩
  go_upto_region 2 with fail
  obtain ⟨X1, hX1⟩ : ∃ X1, X1 = w1.alloc (.cells #[.int .i64 0, .int .i64 0] 32) := ⟨_, rfl⟩
  have HB1 := hide (show Below w.heap.size w X1 from by rw [hX1]; exact b1.alloc b1.size _)
  have HX1 := hide (show X1.heap[w1.heap.size]? = some (.cells #[.int .i64 0, .int .i64 0] 32 (0, 0)) from by rw [hX1]; exact heap_new_ _ _)
  have hW1 : w1.alloc (.cells #[.int .i64 0, .int .i64 0] 32) = X1 := hX1.symm
  clear hX1 b1
  go_wp2_with fail
  refine ((unhide HFo) X1).mono ?_
  rintro e w2 ⟨rfl, b2⟩
  clear hW1
  go_upto_region 3 with fail
  obtain ⟨X2, hX2⟩ : ∃ X2, X2 = w2.alloc (.cells #[.int .i64 yn, .int .i64 yd] 32) := ⟨_, rfl⟩
  have hb12 : Below X1.heap.size X1 X2 := by rw [hX2]; exact b2.alloc b2.size _
  have HB2 := hide ((unhide HB1).trans (hb12.mono (unhide HB1).size))
  have hx2 := (hb12.block _ (Array.getElem?_eq_some_iff.1 (unhide HX1)).1).trans (unhide HX1)
  have hy2 : X2.heap[w2.heap.size]? = some (.cells #[.int .i64 yn, .int .i64 yd] 32 (0, 0)) := by rw [hX2]; exact heap_new_ _ _
  have HS := hide (show ∀ W', Below X2.heap.size X2 W' → ((W'.cell? ⟨w1.heap.size, 0, none⟩ = some (.int .i64 0) ∧ W'.cell? ⟨w1.heap.size, 1, none⟩ = some (.int .i64 0)) ∧ (W'.cell? ⟨w2.heap.size, 0, none⟩ = some (.int .i64 yn) ∧ W'.cell? ⟨w2.heap.size, 1, none⟩ = some (.int .i64 yd))) from fun W' hb' =>
    ⟨two_at ((hb'.block _ (Array.getElem?_eq_some_iff.1 hx2).1).trans hx2), two_at ((hb'.block _ (Array.getElem?_eq_some_iff.1 hy2).1).trans hy2)⟩)
  have hW2 : w2.alloc (.cells #[.int .i64 yn, .int .i64 yd] 32) = X2 := hX2.symm
  clear hX2 b2 hb12 hx2 hy2
  obtain ⟨⟨x0, x1⟩, ⟨y0, y1⟩⟩ := (unhide HS) _ (Below.refl _ _)
  go_wp2_with fail
  refine ((unhide HPt) X2).mono ?_
  rintro e w3 ⟨rfl, rfl⟩
  clear hW2
  have HWd := hide (show Below X2.heap.size X2 X2.drew from (Below.refl _ _).drew)
  go_upto_region 5 with fail
  refine wp_region_quietC (fun W' => Below X2.heap.size X2 W') (by kernel_rfl) (by kernel_rfl) (unhide HWd) ?_
  repeat (first
    | go_big_quiet_skip
    | (go_big_quiet_want
       apply Exists.intro
       refine ⟨fun W hW => ?_, ?_⟩
       · obtain ⟨⟨x0, x1⟩, ⟨y0, y1⟩⟩ := (unhide HS) W hW
         go_simp
         first | rfl | ((with_reducible refine ((unhide HRF) W).mono ?_); exact fun _ _ h => ⟨h.1, hW.trans (h.2.mono hW.size)⟩) | ((with_reducible refine ((unhide HAw) W).mono ?_); exact fun _ _ h => ⟨h.1, hW.trans (h.2.mono hW.size)⟩)
       go_big_quiet_on
       simp only [Act.put, List.setIfInBounds_toArray, List.set_cons_zero, List.set_cons_succ]))
  refine wpQuiet_nil ?_
  intro wc hWc
  obtain ⟨⟨x0, x1⟩, ⟨y0, y1⟩⟩ := (unhide HS) _ hWc
  have HBc := hide ((unhide HB2).trans (hWc.mono (unhide HB2).size))
  clear hWc hne
  by_cases hlo : n < 0
  · clear hn
    go_wp2_with fail
    refine ((unhide HNo) wc).mono ?_
    rintro e w4 ⟨rfl, b4⟩
    have HB4 := hide ((unhide HBc).trans (b4.mono (unhide HBc).size))
    clear b4
    go_wp2_with fail
    go_ret
    exact ⟨rfl, unhide HB4⟩
  · have hhi : 8 < n := by omega
    clear hn
    go_wp2_with fail
    refine ((unhide HNo) wc).mono ?_
    rintro e w4 ⟨rfl, b4⟩
    have HB4 := hide ((unhide HBc).trans (b4.mono (unhide HBc).size))
    clear b4
    go_wp2_with fail
    go_ret
    exact ⟨rfl, unhide HB4⟩

set_option maxRecDepth 100000 in
set_option maxHeartbeats 8000000 in
theorem LSteps_in (m : Nat) (p q : Int) (w : World) (hb : Hid (partB p q = true)) (hm : m ≤ 8) :
    Calls Try.prog 5 #[.int .i64 (m : Int), .int .i64 p, .int .i64 q] w fun e w' => e = .returned (.bool true) ∧ Below w.heap.size w w' := by
  obtain ⟨yn, yd, hy⟩ := exists_fr (fq p q)
  obtain ⟨xn, xd, hx⟩ := exists_fr (stp (rq p q) m)
  have HSt := hide (Steps_ok m p q w hm hb xn xd (hide hx))
  have HFo := hide (fun W => Forever_ok p q W hb yn yd (hide hy))
  have HPt := hide (fun W => Part_any p q W true hb)
  have HRF := hide (fun W => RForever_any p q W hb yn yd (hide hy))
  have HRS := hide (fun W => RSteps_ok m p q W hm hb xn xd (hide hx))
  have HAw := hide (fun W => awake_any W)
  have hne := neq32 yn yd yn yd
  rw [show (!(decide (((yn, yd) : F) = (yn, yd)))) = false by simp] at hne
  have heq := eql32 xn xd xn xd
  rw [show (decide (((xn, xd) : F) = (xn, xd))) = true by simp] at heq
  have hm8 : (m : Int) ≤ 8 := by omega
  clear hy hx
  go_enter Try.func5, Try.ntmps5
  go_wp2_with fail
  refine (unhide HSt).mono ?_
  rintro e w1 ⟨rfl, b1⟩
  go_upto_region 2 with fail
  obtain ⟨X1, hX1⟩ : ∃ X1, X1 = w1.alloc (.cells #[.int .i64 xn, .int .i64 xd] 32) := ⟨_, rfl⟩
  have HB1 := hide (show Below w.heap.size w X1 from by rw [hX1]; exact b1.alloc b1.size _)
  have HX1 := hide (show X1.heap[w1.heap.size]? = some (.cells #[.int .i64 xn, .int .i64 xd] 32 (0, 0)) from by rw [hX1]; exact heap_new_ _ _)
  have hW1 : w1.alloc (.cells #[.int .i64 xn, .int .i64 xd] 32) = X1 := hX1.symm
  clear hX1 b1
  go_wp2_with fail
  refine ((unhide HFo) X1).mono ?_
  rintro e w2 ⟨rfl, b2⟩
  clear hW1
  go_upto_region 3 with fail
  obtain ⟨X2, hX2⟩ : ∃ X2, X2 = w2.alloc (.cells #[.int .i64 yn, .int .i64 yd] 32) := ⟨_, rfl⟩
  have hb12 : Below X1.heap.size X1 X2 := by rw [hX2]; exact b2.alloc b2.size _
  have HB2 := hide ((unhide HB1).trans (hb12.mono (unhide HB1).size))
  have hx2 := (hb12.block _ (Array.getElem?_eq_some_iff.1 (unhide HX1)).1).trans (unhide HX1)
  have hy2 : X2.heap[w2.heap.size]? = some (.cells #[.int .i64 yn, .int .i64 yd] 32 (0, 0)) := by rw [hX2]; exact heap_new_ _ _
  have HS := hide (show ∀ W', Below X2.heap.size X2 W' → ((W'.cell? ⟨w1.heap.size, 0, none⟩ = some (.int .i64 xn) ∧ W'.cell? ⟨w1.heap.size, 1, none⟩ = some (.int .i64 xd)) ∧ (W'.cell? ⟨w2.heap.size, 0, none⟩ = some (.int .i64 yn) ∧ W'.cell? ⟨w2.heap.size, 1, none⟩ = some (.int .i64 yd))) from fun W' hb' =>
    ⟨two_at ((hb'.block _ (Array.getElem?_eq_some_iff.1 hx2).1).trans hx2), two_at ((hb'.block _ (Array.getElem?_eq_some_iff.1 hy2).1).trans hy2)⟩)
  have hW2 : w2.alloc (.cells #[.int .i64 yn, .int .i64 yd] 32) = X2 := hX2.symm
  clear hX2 b2 hb12 hx2 hy2
  obtain ⟨⟨x0, x1⟩, ⟨y0, y1⟩⟩ := (unhide HS) _ (Below.refl _ _)
  go_wp2_with fail
  refine ((unhide HPt) X2).mono ?_
  rintro e w3 ⟨rfl, rfl⟩
  clear hW2
  have HWd := hide (show Below X2.heap.size X2 X2.drew from (Below.refl _ _).drew)
  go_upto_region 5 with fail
  refine wp_region_quietC (fun W' => Below X2.heap.size X2 W') (by kernel_rfl) (by kernel_rfl) (unhide HWd) ?_
  repeat (first
    | go_big_quiet_skip
    | (go_big_quiet_want
       apply Exists.intro
       refine ⟨fun W hW => ?_, ?_⟩
       · obtain ⟨⟨x0, x1⟩, ⟨y0, y1⟩⟩ := (unhide HS) W hW
         go_simp
         first | rfl | ((with_reducible refine ((unhide HRF) W).mono ?_); exact fun _ _ h => ⟨h.1, hW.trans (h.2.mono hW.size)⟩) | ((with_reducible refine ((unhide HAw) W).mono ?_); exact fun _ _ h => ⟨h.1, hW.trans (h.2.mono hW.size)⟩)
       go_big_quiet_on
       simp only [Act.put, List.setIfInBounds_toArray, List.set_cons_zero, List.set_cons_succ]))
  refine wpQuiet_nil ?_
  intro wc hWc
  have HBc := hide ((unhide HB2).trans (hWc.mono (unhide HB2).size))
  have HS2 := hide (show ∀ W', Below wc.heap.size wc W' → ((W'.cell? ⟨w1.heap.size, 0, none⟩ = some (.int .i64 xn) ∧ W'.cell? ⟨w1.heap.size, 1, none⟩ = some (.int .i64 xd)) ∧ (W'.cell? ⟨w2.heap.size, 0, none⟩ = some (.int .i64 yn) ∧ W'.cell? ⟨w2.heap.size, 1, none⟩ = some (.int .i64 yd))) from fun W' hb' => (unhide HS) W' (hWc.trans (hb'.mono hWc.size)))
  have HWe := hide (show Below wc.heap.size wc wc.drew from (Below.refl _ _).drew)
  clear hWc hne x0 x1 y0 y1
  go_upto_region 9 with fail
  refine wp_region_quietC (fun W' => Below wc.heap.size wc W') (by kernel_rfl) (by kernel_rfl) (unhide HWe) ?_
  repeat (first
    | go_big_quiet_skip
    | (go_big_quiet_want
       apply Exists.intro
       refine ⟨fun W hW => ?_, ?_⟩
       · obtain ⟨⟨x0, x1⟩, ⟨y0, y1⟩⟩ := (unhide HS2) W hW
         go_simp
         first | rfl | ((with_reducible refine ((unhide HRS) W).mono ?_); exact fun _ _ h => ⟨h.1, hW.trans (h.2.mono hW.size)⟩)
       go_big_quiet_on
       simp only [Act.put, List.setIfInBounds_toArray, List.set_cons_zero, List.set_cons_succ]))
  refine wpQuiet_nil ?_
  intro wd hWd
  have HBe := hide ((unhide HBc).trans (hWd.mono (unhide HBc).size))
  clear hWd
  go_wp2_with fail
  go_ret
  exact ⟨rfl, unhide HBe⟩

theorem LSteps_any (n p q : Int) (w : World) : Calls Try.prog 5 #[.int .i64 n, .int .i64 p, .int .i64 q] w fun e w' => e = .returned (.bool true) ∧ Below w.heap.size w w' := by
  cases hb : partB p q with
  | false => exact LSteps_no n p q w (hide hb)
  | true =>
    by_cases hn : 0 ≤ n ∧ n ≤ 8
    · obtain ⟨m, rfl⟩ : ∃ m : Nat, n = m := ⟨n.toNat, by omega⟩
      exact LSteps_in m p q w (hide hb) (by omega)
    · exact LSteps_out n p q w (hide hb) (by omega)
end Go.Proofs.Ytbgfiejaehpffaa
