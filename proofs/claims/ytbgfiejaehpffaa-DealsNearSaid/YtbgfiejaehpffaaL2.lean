/-
  The law DealsNear, walked.
-/
import Derived.Test.YtbgfiejaehpffaaL1
namespace Go.Proofs.Ytbgfiejaehpffaa
open Go.RowKit

theorem bd_fq {p q : Int} (h : (1 ≤ q ∧ q ≤ 12) ∧ 0 ≤ p ∧ p < q) : Bd 12 24 (fq p q) := (bd_divInt (a := q) (b := q + p) (by omega)).mono (by omega) (by omega)
theorem fr_in {x : Rat} {a b : Int} {D : Nat} (h : Fr x a b) (hx : 0 ≤ x ∧ x ≤ 1) (hd : x.den ≤ D) : 0 ≤ a ∧ a ≤ b ∧ 1 ≤ b ∧ b ≤ D := by
  have h1 := num_le_den hx.1 hx.2
  have h2 := Rat.num_nonneg.2 hx.1
  have h3 := h.pos
  obtain ⟨rfl, rfl⟩ := h
  omega

set_option maxRecDepth 100000 in
set_option maxHeartbeats 8000000 in
theorem LNear_no (n p q : Int) (w : World) (hb : Hid (partB p q = false)) :
    Calls Try.prog 13 #[.int .i64 n, .int .i64 p, .int .i64 q] w fun e w' => e = .returned (.bool true) ∧ Below w.heap.size w w' := by
  have HSt := hide (Steps_out n p q w (.inr hb.out))
  have HFo := hide (fun W => Forever_no p q W hb)
  go_enter Try.func13, Try.ntmps13
  go_wp2_with fail
  refine (unhide HSt).mono ?_
  rintro e w1 ⟨rfl, b1⟩
  go_upto_region 2 with fail
  obtain ⟨X1, hX1⟩ : ∃ X1, X1 = w1.alloc (.cells #[.int .i64 0, .int .i64 0] 32) := ⟨_, rfl⟩
  have HB1 := hide (show Below w.heap.size w X1 from by rw [hX1]; exact b1.alloc b1.size _)
  have HX1 := hide (show X1.heap[w1.heap.size]? = some (.cells #[.int .i64 0, .int .i64 0] 32 (0, 0)) from by rw [hX1]; exact heap_new_ _ _)
  have hW1 : w1.alloc (.cells #[.int .i64 0, .int .i64 0] 32) = X1 := hX1.symm
  clear hX1 b1
  go_wp2_with fail
  refine ((unhide HFo) X1).mono ?_
  rintro e w2 ⟨rfl, b2⟩
  clear hW1
  go_upto_region 3 with fail
  obtain ⟨X2, hX2⟩ : ∃ X2, X2 = w2.alloc (.cells #[.int .i64 0, .int .i64 0] 32) := ⟨_, rfl⟩
  have hb12 : Below X1.heap.size X1 X2 := by rw [hX2]; exact b2.alloc b2.size _
  have HB2 := hide ((unhide HB1).trans (hb12.mono (unhide HB1).size))
  have hx2 := (hb12.block _ (Array.getElem?_eq_some_iff.1 (unhide HX1)).1).trans (unhide HX1)
  have hy2 : X2.heap[w2.heap.size]? = some (.cells #[.int .i64 0, .int .i64 0] 32 (0, 0)) := by rw [hX2]; exact heap_new_ _ _
  have HS := hide (show ∀ W', Below X2.heap.size X2 W' → ((W'.cell? ⟨w1.heap.size, 0, none⟩ = some (.int .i64 0) ∧ W'.cell? ⟨w1.heap.size, 1, none⟩ = some (.int .i64 0)) ∧ (W'.cell? ⟨w2.heap.size, 0, none⟩ = some (.int .i64 0) ∧ W'.cell? ⟨w2.heap.size, 1, none⟩ = some (.int .i64 0))) from fun W' hb' =>
    ⟨two_at ((hb'.block _ (Array.getElem?_eq_some_iff.1 hx2).1).trans hx2), two_at ((hb'.block _ (Array.getElem?_eq_some_iff.1 hy2).1).trans hy2)⟩)
  have hW2 : w2.alloc (.cells #[.int .i64 0, .int .i64 0] 32) = X2 := hX2.symm
  clear hX2 b2 hb12 hx2 hy2
  obtain ⟨⟨x0, x1⟩, ⟨y0, y1⟩⟩ := (unhide HS) _ (Below.refl _ _)
  go_wp2_with fail
  refine (awake_any _).mono ?_
  rintro e w6 ⟨rfl, b6⟩
  have HB6 := hide ((unhide HB2).trans (b6.mono (unhide HB2).size))
  clear b6 hW2
  go_wp2_with fail
  go_ret
  exact ⟨rfl, unhide HB6⟩

set_option maxRecDepth 100000 in
set_option maxHeartbeats 8000000 in
theorem LNear_out (n p q : Int) (w : World) (hb : Hid (partB p q = true)) (hn : Hid (n < 0 ∨ 8 < n)) :
    Calls Try.prog 13 #[.int .i64 n, .int .i64 p, .int .i64 q] w fun e w' => e = .returned (.bool true) ∧ Below w.heap.size w w' := by
  obtain ⟨yn, yd, hy⟩ := exists_fr (fq p q)
  have HSt := hide (Steps_out n p q w (.inl (by have := hn.out; simp; omega)))
  have HFo := hide (fun W => Forever_ok p q W hb yn yd (hide hy))
  go_enter Try.func13, Try.ntmps13
  go_wp2_with fail
  refine (unhide HSt).mono ?_
  rintro e w1 ⟨rfl, b1⟩
  go_upto_region 2 with fail
  obtain ⟨X1, hX1⟩ : ∃ X1, X1 = w1.alloc (.cells #[.int .i64 0, .int .i64 0] 32) := ⟨_, rfl⟩
  have HB1 := hide (show Below w.heap.size w X1 from by rw [hX1]; exact b1.alloc b1.size _)
  have HX1 := hide (show X1.heap[w1.heap.size]? = some (.cells #[.int .i64 0, .int .i64 0] 32 (0, 0)) from by rw [hX1]; exact heap_new_ _ _)
  have hW1 : w1.alloc (.cells #[.int .i64 0, .int .i64 0] 32) = X1 := hX1.symm
  clear hX1 b1
  go_wp2_with fail
  refine ((unhide HFo) X1).mono ?_
  rintro e w2 ⟨rfl, b2⟩
  clear hW1
  go_upto_region 3 with fail
  obtain ⟨X2, hX2⟩ : ∃ X2, X2 = w2.alloc (.cells #[.int .i64 yn, .int .i64 yd] 32) := ⟨_, rfl⟩
  have hb12 : Below X1.heap.size X1 X2 := by rw [hX2]; exact b2.alloc b2.size _
  have HB2 := hide ((unhide HB1).trans (hb12.mono (unhide HB1).size))
  have hx2 := (hb12.block _ (Array.getElem?_eq_some_iff.1 (unhide HX1)).1).trans (unhide HX1)
  have hy2 : X2.heap[w2.heap.size]? = some (.cells #[.int .i64 yn, .int .i64 yd] 32 (0, 0)) := by rw [hX2]; exact heap_new_ _ _
  have HS := hide (show ∀ W', Below X2.heap.size X2 W' → ((W'.cell? ⟨w1.heap.size, 0, none⟩ = some (.int .i64 0) ∧ W'.cell? ⟨w1.heap.size, 1, none⟩ = some (.int .i64 0)) ∧ (W'.cell? ⟨w2.heap.size, 0, none⟩ = some (.int .i64 yn) ∧ W'.cell? ⟨w2.heap.size, 1, none⟩ = some (.int .i64 yd))) from fun W' hb' =>
    ⟨two_at ((hb'.block _ (Array.getElem?_eq_some_iff.1 hx2).1).trans hx2), two_at ((hb'.block _ (Array.getElem?_eq_some_iff.1 hy2).1).trans hy2)⟩)
  have hW2 : w2.alloc (.cells #[.int .i64 yn, .int .i64 yd] 32) = X2 := hX2.symm
  clear hX2 b2 hb12 hx2 hy2
  obtain ⟨⟨x0, x1⟩, ⟨y0, y1⟩⟩ := (unhide HS) _ (Below.refl _ _)
  go_wp2_with fail
  refine (awake_any _).mono ?_
  rintro e w6 ⟨rfl, b6⟩
  have HB6 := hide ((unhide HB2).trans (b6.mono (unhide HB2).size))
  clear b6 hW2
  go_wp2_with fail
  go_ret
  exact ⟨rfl, unhide HB6⟩
end Go.Proofs.Ytbgfiejaehpffaa
