/-
  isHidden of the program.
-/
import Derived.Test.YtbgfiejaehpffaaW4
namespace Go.Proofs.Ytbgfiejaehpffaa
open Go.RowKit

theorem wrap_in' {x : Int} (h : -9223372036854775808 ≤ x ∧ x ≤ 9223372036854775807) : IntKind.i64.wrap x = x := IntWalk.i64_in x (by omega)

set_option maxRecDepth 100000 in
set_option maxHeartbeats 8000000 in
theorem isHidden_any (A : Option Addr) (n c : Nat) (fs : List F) (x y : Int) (w : World) (h : Fs w w.heap.size A n c fs) (hs : ∀ k, k < n → smallP 1000 (fth fs k)) (hp : smallP 1000 (x, y)) (b : Bool) (hb : Hid (hidAt (fth fs) (x, y) n = b)) :
    Calls Try.prog 72 #[.slice A n c, .agg #[.int .i64 x, .int .i64 y]] w fun e w' => e = .returned (.bool b) ∧ Below w.heap.size w w' := by
  have hm := h.most; have hcap := h.cap
  obtain ⟨W0, hW0⟩ : ∃ W0, W0 = w.alloc (.cells #[.int .i64 x, .int .i64 y] 30) := ⟨_, rfl⟩
  have HB0 := hide (show Below w.heap.size w W0 from by rw [hW0]; exact (Below.refl _ w).alloc (Nat.le_refl _) _)
  have HP0 := hide (show W0.heap[w.heap.size]? = some (.cells #[.int .i64 x, .int .i64 y] 30 (0, 0)) from by rw [hW0]; exact heap_new_ w _)
  have hz0 : W0.heap.size = w.heap.size + 1 := by rw [hW0]; simp
  have HI0 := hide ((h.below (unhide HB0)).more (unhide HB0).size)
  have HL := hide h.len
  have hW : w.alloc (.cells #[.int .i64 x, .int .i64 y] 30) = W0 := hW0.symm
  clear hW0 h
  by_cases h0 : n = 0
  · subst h0
    have HF := hide (show false = b from by rw [← hb.out]; rfl)
    go_enter Try.func72, Try.ntmps72
    go_wp2_with fail
    go_ret
    exact ⟨ret_bool HF.out, unhide HB0⟩
  obtain ⟨m, rfl⟩ : ∃ m, n = m + 1 := ⟨n - 1, by omega⟩
  have hnz : (((m + 1 : Nat) : Int) == 0) = false := by simp; omega
  have hidx : ((m + 1 : Nat) : Int) - 1 = (m : Int) := by omega
  obtain ⟨b1, off, rfl, hb1, hc1, hc2⟩ := (unhide HI0).at_ m (by omega)
  have hsm := hs m (by omega)
  have HH := hide (show hidAt (fth fs) (x, y) (m + 1) = (decide ((fth fs m).2 ≤ y) || (decide (2 ≤ m + 1) && under (fth fs (m - 1)) (x, y) (fth fs m))) from by
    unfold hidAt; simp [show m + 1 - 2 = m - 1 by omega])
  revert HH hsm hc1 hc2
  obtain ⟨⟨u, v⟩, e⟩ : ∃ p, fth fs m = p := ⟨_, rfl⟩
  rw [e]; clear e
  intro hc1 hc2 hsm HH
  simp only at hc1 hc2
  obtain ⟨W1, hW1⟩ : ∃ W1, W1 = W0.alloc (.cells #[.int .i64 u, .int .i64 v] 30) := ⟨_, rfl⟩
  have hB1 : Below W0.heap.size W0 W1 := by rw [hW1]; exact (Below.refl _ W0).alloc (Nat.le_refl _) _
  have HB1 := hide ((unhide HB0).trans (hB1.mono (unhide HB0).size))
  have hq1 : W1.heap[W0.heap.size]? = some (.cells #[.int .i64 u, .int .i64 v] 30 (0, 0)) := by rw [hW1]; exact heap_new_ _ _
  have hp1 := (hB1.block _ (Array.getElem?_eq_some_iff.1 (unhide HP0)).1).trans (unhide HP0)
  have HI1 := hide (((unhide HI0).below hB1).more hB1.size)
  have HS := hide (show ∀ W', Below W1.heap.size W1 W' → ((W'.cell? ⟨w.heap.size, 0, none⟩ = some (.int .i64 x) ∧ W'.cell? ⟨w.heap.size, 1, none⟩ = some (.int .i64 y)) ∧ (W'.cell? ⟨W0.heap.size, 0, none⟩ = some (.int .i64 u) ∧ W'.cell? ⟨W0.heap.size, 1, none⟩ = some (.int .i64 v))) from fun W' hb =>
    ⟨two_at ((hb.block _ (Array.getElem?_eq_some_iff.1 hp1).1).trans hp1), two_at ((hb.block _ (Array.getElem?_eq_some_iff.1 hq1).1).trans hq1)⟩)
  have hWb : W0.alloc (.cells #[.int .i64 u, .int .i64 v] 30) = W1 := hW1.symm
  clear hW1 hB1 hq1 hp1 hz0
  by_cases hvy : v ≤ y
  · have HF := hide (show true = b from by rw [← hb.out, HH.out]; simp [hvy])
    obtain ⟨⟨x0, x1⟩, ⟨u0, u1⟩⟩ := (unhide HS) _ (Below.refl _ _)
    go_enter Try.func72, Try.ntmps72
    go_upto_region 5 with fail
    clear hW hWb
    go_wp2_with fail
    go_ret
    exact ⟨ret_bool HF.out, unhide HB1⟩
  by_cases h1 : m = 0
  · have HF := hide (show false = b from by rw [← hb.out, HH.out]; simp [hvy, h1])
    have h11 : (((m + 1 : Nat) : Int) == 1) = true := by simp; omega
    clear h1
    obtain ⟨⟨x0, x1⟩, ⟨u0, u1⟩⟩ := (unhide HS) _ (Below.refl _ _)
    go_enter Try.func72, Try.ntmps72
    go_upto_region 5 with fail
    clear hW hWb
    go_wp2_with fail
    go_ret
    exact ⟨ret_bool HF.out, unhide HB1⟩
  obtain ⟨k, rfl⟩ : ∃ k, m = k + 1 := ⟨m - 1, by omega⟩
  have hn1 : (((k + 1 + 1 : Nat) : Int) == 1) = false := by simp; omega
  have hidx2 : ((k + 1 + 1 : Nat) : Int) - 2 = (k : Int) := by omega
  have hsk := hs k (by omega)
  have HH2 := hide (show hidAt (fth fs) (x, y) (k + 1 + 1) = under (fth fs k) (x, y) (u, v) from by
    rw [HH.out]; simp [hvy])
  have HIk := hide (show ∀ W', Below W1.heap.size W1 W' → W'.cell? ⟨b1, off + k * 2, none⟩ = some (.int .i64 (fth fs k).1) ∧ W'.cell? ⟨b1, off + k * 2 + 1, none⟩ = some (.int .i64 (fth fs k).2) from fun W' hb' => by
    obtain ⟨b2, off2, e2, _, h2, h3⟩ := ((unhide HI1).below hb').at_ k (by omega)
    simp only [Option.some.injEq, Addr.mk.injEq, and_true] at e2
    obtain ⟨rfl, rfl⟩ := e2
    exact ⟨h2, h3⟩)
  revert HH2 hsk HIk
  obtain ⟨⟨s, t⟩, e⟩ : ∃ p, fth fs k = p := ⟨_, rfl⟩
  rw [e]; clear e
  intro hsk HH2 HIk
  obtain ⟨a, ha⟩ : ∃ a, thA (s, t) (x, y) = a := ⟨_, rfl⟩
  obtain ⟨d, hd⟩ : ∃ d, thB (s, t) (x, y) = d := ⟨_, rfl⟩
  obtain ⟨g, hg⟩ : ∃ g, thC (s, t) (x, y) = g := ⟨_, rfl⟩
  have HF := hide (show decide (a * u + d * v ≤ g) = b from by
    rw [← hb.out, HH2.out, ← ha, ← hd, ← hg]; rfl)
  have HT := hide (fun W => through_any s t x y W hsk hp a d g (hide ha) (hide hd) (hide hg))
  have ba : -2000 ≤ a ∧ a ≤ 2000 := by rw [← ha]; unfold thA; have := hsk.2; have := hp.2; simp only at *; omega
  have bd : -2000 ≤ d ∧ d ≤ 2000 := by rw [← hd]; unfold thB; have := hsk.1; have := hp.1; simp only at *; omega
  have e1 := mul_bd (M := 2000) (N := 1000) ba hsm.1
  have e2 := mul_bd (M := 2000) (N := 1000) bd hsm.2
  simp only at e1 e2
  clear ha hd hg HH HH2 hsk hsm ba bd hs hp
  have HWd := hide (show Below W1.heap.size W1 W1.drew from (Below.refl _ _).drew)
  go_enter Try.func72, Try.ntmps72
  go_upto_region 5 with fail
  clear hW hWb
  obtain ⟨⟨x0, x1⟩, ⟨u0, u1⟩⟩ := (unhide HS) _ (Below.refl _ _)
  go_upto_region 9 with fail
  clear x0 x1 u0 u1 hc1 hc2
  go_cut [7] (fun s7 wz => ∃ R : Nat, s7 = .pointer (some ⟨R, 0, none⟩) ∧ Hid (wz.heap[R]? = some (.cells #[.int .i64 a, .int .i64 d, .int .i64 g] 73 (0, 0))) ∧ Hid (Below W1.heap.size W1 wz))
  case first =>
    have HSS := hide (show ∀ W', Below W1.heap.size W1 W' → ((W'.cell? ⟨w.heap.size, 0, none⟩ = some (.int .i64 x) ∧ W'.cell? ⟨w.heap.size, 1, none⟩ = some (.int .i64 y)) ∧ (W'.cell? ⟨b1, off + k * 2, none⟩ = some (.int .i64 s) ∧ W'.cell? ⟨b1, off + k * 2 + 1, none⟩ = some (.int .i64 t))) from fun W' hb' => ⟨((unhide HS) W' hb').1, (unhide HIk) W' hb'⟩)
    clear HS HIk HI1 HI0 HP0
    obtain ⟨⟨x0, x1⟩, ⟨y0, y1⟩⟩ := (unhide HSS) _ (unhide HWd)
    have hk0 : (0 : Int) ≤ (k : Int) := by omega
    have hk1 : (k : Int) < (k : Int) + 1 + 1 := by omega
    have hk2 : k < k + 1 + 1 := by omega
    have hwr : IntKind.i64.wrap ((k : Int) + 1 + 1 - 2) = (k : Int) := by rw [show (k : Int) + 1 + 1 - 2 = k by omega]; exact wrap_in' (by omega)
    go_region_held3 (fun W' => ((W'.cell? ⟨w.heap.size, 0, none⟩ = some (.int .i64 x) ∧ W'.cell? ⟨w.heap.size, 1, none⟩ = some (.int .i64 y)) ∧ (W'.cell? ⟨b1, off + k * 2, none⟩ = some (.int .i64 s) ∧ W'.cell? ⟨b1, off + k * 2 + 1, none⟩ = some (.int .i64 t)))) (first | exact ⟨⟨x0, x1⟩, ⟨y0, y1⟩⟩ | exact (unhide HSS) _ ((unhide HWd).alloc (unhide HWd).size (.cells #[.int .i64 0, .int .i64 0, .int .i64 0] 73)) | exact (unhide HSS) _ (unhide HWn) | exact (unhide HSS) _ ((unhide HWn).alloc (unhide HWn).size _) | exact (unhide HSS) _ (below_put3 (unhide HWn) (Nat.le_refl _) _ _ _)) (
      (go_at_call 75; refine ((unhide HT) _).mono ?_; rintro e wn ⟨rfl, bn⟩; first
        | (have HWn := hide ((unhide HWd).trans (bn.mono (unhide HWd).size)); clear bn)
        | (have HWn := hide (((unhide HWd).alloc (unhide HWd).size (.cells #[.int .i64 0, .int .i64 0, .int .i64 0] 73)).trans (bn.mono ((unhide HWd).alloc (unhide HWd).size (.cells #[.int .i64 0, .int .i64 0, .int .i64 0] 73)).size)); have HRb := hide (show wn.heap[W1.heap.size]? = some (.cells #[.int .i64 0, .int .i64 0, .int .i64 0] 73 (0, 0)) from (bn.block _ (Array.getElem?_eq_some_iff.1 (heap_new_ W1.drew (.cells #[.int .i64 0, .int .i64 0, .int .i64 0] 73))).1).trans (heap_new_ W1.drew (.cells #[.int .i64 0, .int .i64 0, .int .i64 0] 73))); have f0 := free_at (unhide HRb) 0; have f1 := free_at (unhide HRb) 1; have f2 := free_at (unhide HRb) 2; obtain ⟨g0, g1, g2⟩ := three_at (unhide HRb); clear bn)))
    all_goals (go_wp2_with fail; go_meet; first
      | exact ⟨_, rfl, hide (heap_new_ _ _), hide ((unhide HWn).alloc (unhide HWn).size _)⟩
      | exact ⟨_, rfl, hide (put3 (unhide HRb) _ _ _), hide (below_put3 (unhide HWn) (Nat.le_refl _) _ _ _)⟩)
  case rest =>
    obtain ⟨R, rfl, HR, HBz⟩ := hcut
    obtain ⟨⟨x0, x1⟩, ⟨u0, u1⟩⟩ := (unhide HS) _ (unhide HBz)
    obtain ⟨r0, r1, r2⟩ := three_at (unhide HR)
    have HBe := hide ((unhide HB1).trans ((unhide HBz).mono (unhide HB1).size))
    go_wp2_with fail
    go_ret
    exact ⟨ret_bool HF.out, unhide HBe⟩
end Go.Proofs.Ytbgfiejaehpffaa
