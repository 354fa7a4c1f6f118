/-
  The law DealsNear, walked: even numbers of steps.
-/
import Derived.Test.YtbgfiejaehpffaaL2
namespace Go.Proofs.Ytbgfiejaehpffaa
open Go.RowKit

set_option maxRecDepth 100000 in
set_option maxHeartbeats 8000000 in
theorem LNear_even7 (m : Nat) (p q : Int) (w : World) (hb : Hid (partB p q = true)) (hm : m ≤ 8) (h6 : 6 < m) (hp : m % 2 = 0) :
    Calls Try.prog 13 #[.int .i64 (m : Int), .int .i64 p, .int .i64 q] w fun e w' => e = .returned (.bool true) ∧ Below w.heap.size w w' := by
  have HPB := hide ((partB_iff p q).1 hb.out)
  obtain ⟨yn, yd, hy⟩ := exists_fr (fq p q)
  obtain ⟨xn, xd, hx⟩ := exists_fr (stp (rq p q) m)
  have HSt := hide (Steps_ok m p q w hm hb xn xd (hide hx))
  have HFo := hide (fun W => Forever_ok p q W hb yn yd (hide hy))
  have HPt := hide (fun W => Part_any p q W true hb)
  have hbx := (bd_stp HPB.out m).mono (Nat.pow_le_pow_right (by decide) hm) (Nat.pow_le_pow_right (by decide) hm)
  have hby := bd_fq HPB.out
  have hal := stp_alt (fq_eq HPB.out) (rq_bd HPB.out).1 (fq_bd HPB.out).2 m
  have fx := fr_in hx (stp_bd (rq_bd HPB.out).1 (rq_bd HPB.out).2 m) hbx.2
  have fy := fr_in hy (fq_bd HPB.out) hby.2
  obtain ⟨fx1, fx2, fx3, fx4⟩ := fx
  obtain ⟨fy1, fy2, fy3, fy4⟩ := fy
  have hx8 : xd ≤ 1000000000 := by have : (12 : Nat) ^ 8 = 429981696 := by decide
                                   omega
  have hy8 : yd ≤ 100 := by omega
  have HLe := hide (fun W => RLess_q W (hide hx) (hide hy) (hide hbx) (hide hby) (hide ⟨by decide, by decide⟩) false (hide (decide_eq_false (Rat.not_lt.2 (hal.1 (by omega))))))
  have hm0 : (0 : Int) ≤ (m : Int) := by omega
  have hm8 : (m : Int) ≤ 8 := by omega
  have hr0 : (((m : Int) % 2) == 0) = true := by simp; omega
  have hr1 : (((m : Int) % 2) == 1) = false := by simp; omega
  have hg6 : (6 : Int) < (m : Int) := by omega
  clear hx hy hbx hby hal hp
  go_enter Try.func13, Try.ntmps13
  go_wp2_with fail
  refine (unhide HSt).mono ?_
  rintro e w1 ⟨rfl, b1⟩
  go_upto_region 2 with fail
  obtain ⟨X1, hX1⟩ : ∃ X1, X1 = w1.alloc (.cells #[.int .i64 xn, .int .i64 xd] 32) := ⟨_, rfl⟩
  have HB1 := hide (show Below w.heap.size w X1 from by rw [hX1]; exact b1.alloc b1.size _)
  have HX1 := hide (show X1.heap[w1.heap.size]? = some (.cells #[.int .i64 xn, .int .i64 xd] 32 (0, 0)) from by rw [hX1]; exact heap_new_ _ _)
  have hW1 : w1.alloc (.cells #[.int .i64 xn, .int .i64 xd] 32) = X1 := hX1.symm
  clear hX1 b1
  go_wp2_with fail
  refine ((unhide HFo) X1).mono ?_
  rintro e w2 ⟨rfl, b2⟩
  clear hW1
  go_upto_region 3 with fail
  obtain ⟨X2, hX2⟩ : ∃ X2, X2 = w2.alloc (.cells #[.int .i64 yn, .int .i64 yd] 32) := ⟨_, rfl⟩
  have hb12 : Below X1.heap.size X1 X2 := by rw [hX2]; exact b2.alloc b2.size _
  have HB2 := hide ((unhide HB1).trans (hb12.mono (unhide HB1).size))
  have hx2 := (hb12.block _ (Array.getElem?_eq_some_iff.1 (unhide HX1)).1).trans (unhide HX1)
  have hy2 : X2.heap[w2.heap.size]? = some (.cells #[.int .i64 yn, .int .i64 yd] 32 (0, 0)) := by rw [hX2]; exact heap_new_ _ _
  have HS := hide (show ∀ W', Below X2.heap.size X2 W' → ((W'.cell? ⟨w1.heap.size, 0, none⟩ = some (.int .i64 xn) ∧ W'.cell? ⟨w1.heap.size, 1, none⟩ = some (.int .i64 xd)) ∧ (W'.cell? ⟨w2.heap.size, 0, none⟩ = some (.int .i64 yn) ∧ W'.cell? ⟨w2.heap.size, 1, none⟩ = some (.int .i64 yd))) from fun W' hb' =>
    ⟨two_at ((hb'.block _ (Array.getElem?_eq_some_iff.1 hx2).1).trans hx2), two_at ((hb'.block _ (Array.getElem?_eq_some_iff.1 hy2).1).trans hy2)⟩)
  have hW2 : w2.alloc (.cells #[.int .i64 yn, .int .i64 yd] 32) = X2 := hX2.symm
  clear hX2 b2 hb12 hx2 hy2
  obtain ⟨⟨x0, x1⟩, ⟨y0, y1⟩⟩ := (unhide HS) _ (Below.refl _ _)
  go_wp2_with fail
  refine ((unhide HPt) X2).mono ?_
  rintro e w3 ⟨rfl, rfl⟩
  clear hW2
  go_wp2_with fail
  refine ((unhide HLe) X2).mono ?_
  rintro e w4 ⟨rfl, b4⟩
  have HB4 := hide ((unhide HB2).trans (b4.mono (unhide HB2).size))
  clear b4 x0 x1 y0 y1
  go_wp2_with fail
  refine (awake_any _).mono ?_
  rintro e w6 ⟨rfl, b6⟩
  have HB6 := hide ((unhide HB4).trans (b6.mono (unhide HB4).size))
  clear b6
  go_wp2_with fail
  go_ret
  exact ⟨rfl, unhide HB6⟩

set_option maxRecDepth 100000 in
set_option maxHeartbeats 16000000 in
theorem LNear_even6 (m : Nat) (p q : Int) (w : World) (hb : Hid (partB p q = true)) (hm : m ≤ 8) (h6 : m ≤ 6) (hp : m % 2 = 0) :
    Calls Try.prog 13 #[.int .i64 (m : Int), .int .i64 p, .int .i64 q] w fun e w' => e = .returned (.bool true) ∧ Below w.heap.size w w' := by
  have HPB := hide ((partB_iff p q).1 hb.out)
  obtain ⟨yn, yd, hy⟩ := exists_fr (fq p q)
  obtain ⟨xn, xd, hx⟩ := exists_fr (stp (rq p q) m)
  have HSt := hide (Steps_ok m p q w hm hb xn xd (hide hx))
  have HFo := hide (fun W => Forever_ok p q W hb yn yd (hide hy))
  have HPt := hide (fun W => Part_any p q W true hb)
  have hbx := (bd_stp HPB.out m).mono (Nat.pow_le_pow_right (by decide) hm) (Nat.pow_le_pow_right (by decide) hm)
  have hby := bd_fq HPB.out
  have hal := stp_alt (fq_eq HPB.out) (rq_bd HPB.out).1 (fq_bd HPB.out).2 m
  have fx := fr_in hx (stp_bd (rq_bd HPB.out).1 (rq_bd HPB.out).2 m) hbx.2
  have fy := fr_in hy (fq_bd HPB.out) hby.2
  obtain ⟨fx1, fx2, fx3, fx4⟩ := fx
  obtain ⟨fy1, fy2, fy3, fy4⟩ := fy
  have hx8 : xd ≤ 1000000000 := by have : (12 : Nat) ^ 8 = 429981696 := by decide
                                   omega
  have hy8 : yd ≤ 100 := by omega
  have HLe := hide (fun W => RLess_q W (hide hx) (hide hy) (hide hbx) (hide hby) (hide ⟨by decide, by decide⟩) false (hide (decide_eq_false (Rat.not_lt.2 (hal.1 (by omega))))))
  have hm0 : (0 : Int) ≤ (m : Int) := by omega
  have hm8 : (m : Int) ≤ 8 := by omega
  have hr0 : (((m : Int) % 2) == 0) = true := by simp; omega
  have hr1 : (((m : Int) % 2) == 1) = false := by simp; omega
  have hg6 : ¬ (6 : Int) < (m : Int) := by omega
  obtain ⟨zn, zd, hz⟩ := exists_fr (stp (rq p q) (m + 2))
  have hbz := (bd_stp HPB.out (m + 2)).mono (Nat.pow_le_pow_right (by decide) (show m + 2 ≤ 8 by omega)) (Nat.pow_le_pow_right (by decide) (show m + 2 ≤ 8 by omega))
  have fz := fr_in hz (stp_bd (rq_bd HPB.out).1 (rq_bd HPB.out).2 (m + 2)) hbz.2
  obtain ⟨fz1, fz2, fz3, fz4⟩ := fz
  have hz8 : zd ≤ 1000000000 := by have : (12 : Nat) ^ 8 = 429981696 := by decide
                                   omega
  have htw := stp_two (fq_eq HPB.out) (rq_bd HPB.out).1 (rq_bd HPB.out).2 m
  have hal2 := stp_alt (fq_eq HPB.out) (rq_bd HPB.out).1 (fq_bd HPB.out).2 (m + 2)
  have HSz := hide (fun W => (by
    have := Steps_ok (m + 2) p q W (by omega) hb zn zd (hide hz)
    rwa [show (((m + 2 : Nat) : Int)) = (m : Int) + 2 by omega] at this : Calls Try.prog 25 #[.int .i64 ((m : Int) + 2), .int .i64 p, .int .i64 q] W fun e w' => e = .returned (.tuple #[.agg #[.int .i64 zn, .int .i64 zd], .int .i64 0]) ∧ Below W.heap.size W w'))
  have HL1 := hide (fun W => RLess_q W (hide hx) (hide hz) (hide hbx) (hide hbz) (hide ⟨by decide, by decide⟩) false (hide (decide_eq_false (Rat.not_lt.2 (htw.1 (hal.1 (by omega)))))))
  have HL2 := hide (fun W => RLess_q W (hide hz) (hide hy) (hide hbz) (hide hby) (hide ⟨by decide, by decide⟩) false (hide (decide_eq_false (Rat.not_lt.2 (hal2.1 (by omega))))))
  clear hx hy hbx hby hal hp hz hbz htw hal2
  go_enter Try.func13, Try.ntmps13
  go_wp2_with fail
  refine (unhide HSt).mono ?_
  rintro e w1 ⟨rfl, b1⟩
  go_upto_region 2 with fail
  obtain ⟨X1, hX1⟩ : ∃ X1, X1 = w1.alloc (.cells #[.int .i64 xn, .int .i64 xd] 32) := ⟨_, rfl⟩
  have HB1 := hide (show Below w.heap.size w X1 from by rw [hX1]; exact b1.alloc b1.size _)
  have HX1 := hide (show X1.heap[w1.heap.size]? = some (.cells #[.int .i64 xn, .int .i64 xd] 32 (0, 0)) from by rw [hX1]; exact heap_new_ _ _)
  have hW1 : w1.alloc (.cells #[.int .i64 xn, .int .i64 xd] 32) = X1 := hX1.symm
  clear hX1 b1
  go_wp2_with fail
  refine ((unhide HFo) X1).mono ?_
  rintro e w2 ⟨rfl, b2⟩
  clear hW1
  go_upto_region 3 with fail
  obtain ⟨X2, hX2⟩ : ∃ X2, X2 = w2.alloc (.cells #[.int .i64 yn, .int .i64 yd] 32) := ⟨_, rfl⟩
  have hb12 : Below X1.heap.size X1 X2 := by rw [hX2]; exact b2.alloc b2.size _
  have HB2 := hide ((unhide HB1).trans (hb12.mono (unhide HB1).size))
  have hx2 := (hb12.block _ (Array.getElem?_eq_some_iff.1 (unhide HX1)).1).trans (unhide HX1)
  have hy2 : X2.heap[w2.heap.size]? = some (.cells #[.int .i64 yn, .int .i64 yd] 32 (0, 0)) := by rw [hX2]; exact heap_new_ _ _
  have HS := hide (show ∀ W', Below X2.heap.size X2 W' → ((W'.cell? ⟨w1.heap.size, 0, none⟩ = some (.int .i64 xn) ∧ W'.cell? ⟨w1.heap.size, 1, none⟩ = some (.int .i64 xd)) ∧ (W'.cell? ⟨w2.heap.size, 0, none⟩ = some (.int .i64 yn) ∧ W'.cell? ⟨w2.heap.size, 1, none⟩ = some (.int .i64 yd))) from fun W' hb' =>
    ⟨two_at ((hb'.block _ (Array.getElem?_eq_some_iff.1 hx2).1).trans hx2), two_at ((hb'.block _ (Array.getElem?_eq_some_iff.1 hy2).1).trans hy2)⟩)
  have hW2 : w2.alloc (.cells #[.int .i64 yn, .int .i64 yd] 32) = X2 := hX2.symm
  clear hX2 b2 hb12 hx2 hy2
  obtain ⟨⟨x0, x1⟩, ⟨y0, y1⟩⟩ := (unhide HS) _ (Below.refl _ _)
  go_wp2_with fail
  refine ((unhide HPt) X2).mono ?_
  rintro e w3 ⟨rfl, rfl⟩
  clear hW2
  go_wp2_with fail
  refine ((unhide HLe) X2).mono ?_
  rintro e w4 ⟨rfl, b4⟩
  have HB4 := hide ((unhide HB2).trans (b4.mono (unhide HB2).size))
  have HS4 := hide (show ∀ W', Below w4.heap.size w4 W' → ((W'.cell? ⟨w1.heap.size, 0, none⟩ = some (.int .i64 xn) ∧ W'.cell? ⟨w1.heap.size, 1, none⟩ = some (.int .i64 xd)) ∧ (W'.cell? ⟨w2.heap.size, 0, none⟩ = some (.int .i64 yn) ∧ W'.cell? ⟨w2.heap.size, 1, none⟩ = some (.int .i64 yd))) from fun W' hb' => (unhide HS) W' (b4.trans (hb'.mono b4.size)))
  clear b4 x0 x1 y0 y1
  go_wp2_with fail
  refine ((unhide HSz) w4).mono ?_
  rintro e w5 ⟨rfl, b5⟩
  go_upto_region 10 with fail
  obtain ⟨X5, hX5⟩ : ∃ X5, X5 = w5.alloc (.cells #[.int .i64 zn, .int .i64 zd] 32) := ⟨_, rfl⟩
  have hb45 : Below w4.heap.size w4 X5 := by rw [hX5]; exact b5.alloc b5.size _
  have HB5 := hide ((unhide HB4).trans (hb45.mono (unhide HB4).size))
  have hz5 : X5.heap[w5.heap.size]? = some (.cells #[.int .i64 zn, .int .i64 zd] 32 (0, 0)) := by rw [hX5]; exact heap_new_ _ _
  have HS5 := hide (show ∀ W', Below X5.heap.size X5 W' → ((W'.cell? ⟨w1.heap.size, 0, none⟩ = some (.int .i64 xn) ∧ W'.cell? ⟨w1.heap.size, 1, none⟩ = some (.int .i64 xd)) ∧ (W'.cell? ⟨w2.heap.size, 0, none⟩ = some (.int .i64 yn) ∧ W'.cell? ⟨w2.heap.size, 1, none⟩ = some (.int .i64 yd)) ∧ (W'.cell? ⟨w5.heap.size, 0, none⟩ = some (.int .i64 zn) ∧ W'.cell? ⟨w5.heap.size, 1, none⟩ = some (.int .i64 zd))) from fun W' hb' =>
    ⟨((unhide HS4) W' (hb45.trans (hb'.mono hb45.size))).1, ((unhide HS4) W' (hb45.trans (hb'.mono hb45.size))).2, two_at ((hb'.block _ (Array.getElem?_eq_some_iff.1 hz5).1).trans hz5)⟩)
  have hW5 : w5.alloc (.cells #[.int .i64 zn, .int .i64 zd] 32) = X5 := hX5.symm
  clear hX5 b5 hb45 hz5
  obtain ⟨⟨x0, x1⟩, ⟨y0, y1⟩, ⟨z0, z1⟩⟩ := (unhide HS5) _ (Below.refl _ _)
  go_wp2_with fail
  refine ((unhide HL1) X5).mono ?_
  rintro e w6 ⟨rfl, b6⟩
  clear hW5
  have HB6 := hide ((unhide HB5).trans (b6.mono (unhide HB5).size))
  clear x0 x1 y0 y1 z0 z1
  obtain ⟨⟨x0, x1⟩, ⟨y0, y1⟩, ⟨z0, z1⟩⟩ := (unhide HS5) _ b6
  clear b6
  go_wp2_with fail
  refine ((unhide HL2) w6).mono ?_
  rintro e w7 ⟨rfl, b7⟩
  have HB7 := hide ((unhide HB6).trans (b7.mono (unhide HB6).size))
  clear x0 x1 y0 y1 z0 z1 b7
  go_wp2_with fail
  refine (awake_any _).mono ?_
  rintro e w8 ⟨rfl, b8⟩
  have HB8 := hide ((unhide HB7).trans (b8.mono (unhide HB7).size))
  clear b8
  go_wp2_with fail
  go_ret
  exact ⟨rfl, unhide HB8⟩
end Go.Proofs.Ytbgfiejaehpffaa
