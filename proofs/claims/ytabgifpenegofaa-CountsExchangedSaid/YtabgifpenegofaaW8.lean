/-
  Tables of two rows and two columns: isFourfold, Two, Odds of the program and of the reference.
-/
import Derived.Test.YtabgifpenegofaaW7
import Derived.Test.YtabgifpenegofaaQ5
namespace Go.Proofs.Ytabgifpenegofaa
open Go.RowKit

/-- A table of two rows and two columns. -/
def isTwo (t : List (List Int)) : Bool := isT t && decide (t.length = 2) && decide ((row t 0).length = 2)
theorem two_tb {t : List (List Int)} (h : isTwo t = true) : Tb t 2 2 := by
  simp only [isTwo, Bool.and_eq_true, decide_eq_true_eq] at h
  have := tb_of h.1.1
  rw [h.1.2, h.2] at this
  exact this
theorem isTwo_cut (t : List (List Int)) : isTwo (cutT t) = isTwo t := by
  cases h : isT t with
  | true => rw [cutT_of h]
  | false => unfold isTwo; rw [isT_cut, h]; rfl

set_option maxHeartbeats 1000000 in
theorem isFourfold_any (A : Option Addr) (n c : Nat) (t : List (List Int)) (w : World) (h : Rows_ w w.heap.size A n c t) (r : Bool) (hr : Hid (isTwo t = r)) :
    Calls Try.prog 98 #[.slice A n c] w fun e w' => e = .returned (.bool r) ∧ Below w.heap.size w w' := by
  have hm := h.most; have hcap := h.cap
  have hl := hide h.len
  cases ht : isT t with
  | false =>
    have HT := hide ht
    have HF := hide (show false = r from by rw [← hr.out]; unfold isTwo; rw [ht]; rfl)
    clear ht
    go_enter Try.func98, Try.ntmps98
    go_wp2_with fail
    refine (isTable_is _ _ _ _ _ h _ HT).mono ?_
    rintro e w1 ⟨rfl, b1⟩
    go_wp2_with fail
    go_ret
    exact ⟨ret_bool HF.out, b1⟩
  | true =>
    have htb := tb_of ht
    have HT := hide ht
    have n1 := htb.n1
    obtain ⟨b, off, rfl⟩ := h.addr (show 0 < n by have := hl.out; omega)
    by_cases e2 : n = 2
    · subst e2
      have HR := hide (show decide ((row t 0).length = 2) = r from by rw [← hr.out]; unfold isTwo; rw [ht, hl.out]; simp)
      clear ht n1
      go_enter Try.func98, Try.ntmps98
      go_wp2_with fail
      refine (isTable_is _ _ _ _ _ h _ HT).mono ?_
      rintro e w1 ⟨rfl, b1⟩
      obtain ⟨A0, n0, c0, hc0, hi0⟩ := (h.below b1).get (show 0 < 2 by omega)
      simp only [Nat.add_zero] at hc0
      have L0 := hide hi0.len
      clear hi0
      have HQ := hide (show ((n0 : Int) == 2) = r from by
        rw [← HR.out, L0.out, Bool.eq_iff_iff]; simp; omega)
      go_wp2_with fail
      go_ret
      exact ⟨ret_bool HQ.out, b1⟩
    · have HF := hide (show false = r from by rw [← hr.out]; unfold isTwo; rw [ht, hl.out]; simp [e2])
      have e2' : ((n : Int) == 2) = false := by simp; omega
      clear ht e2 n1
      go_enter Try.func98, Try.ntmps98
      go_wp2_with fail
      refine (isTable_is _ _ _ _ _ h _ HT).mono ?_
      rintro e w1 ⟨rfl, b1⟩
      go_wp2_with fail
      go_ret
      exact ⟨ret_bool HF.out, b1⟩

set_option maxHeartbeats 1000000 in
theorem RTwo_any (A : Option Addr) (n c : Nat) (t : List (List Int)) (w : World) (h : Rows_ w w.heap.size A n c t) (r : Bool) (hr : Hid (isTwo t = r)) :
    Calls Try.prog 52 #[.slice A n c] w fun e w' => e = .returned (.bool r) ∧ Below w.heap.size w w' := by
  have hm := h.most; have hcap := h.cap
  have hl := hide h.len
  cases ht : isT t with
  | false =>
    have HT := hide ht
    have HF := hide (show false = r from by rw [← hr.out]; unfold isTwo; rw [ht]; rfl)
    clear ht
    go_enter Try.func52, Try.ntmps52
    go_wp2_with fail
    refine (RTable_is _ _ _ _ _ _ h _ HT).mono ?_
    rintro e w1 ⟨rfl, rfl⟩
    go_wp2_with fail
    go_ret
    exact ⟨ret_bool HF.out, Below.refl _ _⟩
  | true =>
    have htb := tb_of ht
    have HT := hide ht
    have n1 := htb.n1
    obtain ⟨b, off, rfl⟩ := h.addr (show 0 < n by have := hl.out; omega)
    by_cases e2 : n = 2
    · subst e2
      have HR := hide (show decide ((row t 0).length = 2) = r from by rw [← hr.out]; unfold isTwo; rw [ht, hl.out]; simp)
      clear ht n1
      go_enter Try.func52, Try.ntmps52
      go_wp2_with fail
      refine (RTable_is _ _ _ _ _ _ h _ HT).mono ?_
      rintro e w1 ⟨rfl, rfl⟩
      obtain ⟨A0, n0, c0, hc0, hi0⟩ := h.get (show 0 < 2 by omega)
      simp only [Nat.add_zero] at hc0
      have L0 := hide hi0.len
      clear hi0
      have HQ := hide (show ((n0 : Int) == 2) = r from by
        rw [← HR.out, L0.out, Bool.eq_iff_iff]; simp; omega)
      go_wp2_with fail
      go_ret
      exact ⟨ret_bool HQ.out, Below.refl _ _⟩
    · have HF := hide (show false = r from by rw [← hr.out]; unfold isTwo; rw [ht, hl.out]; simp [e2])
      have e2' : ((n : Int) == 2) = false := by simp; omega
      clear ht e2 n1
      go_enter Try.func52, Try.ntmps52
      go_wp2_with fail
      refine (RTable_is _ _ _ _ _ _ h _ HT).mono ?_
      rintro e w1 ⟨rfl, rfl⟩
      go_wp2_with fail
      go_ret
      exact ⟨ret_bool HF.out, Below.refl _ _⟩

/-- Where the numbers of such a table lie. -/
structure At22 (W : World) (b off b0 o0 c0 b1 o1 c1 : Nat) (x y z u : Int) : Prop where
  r0 : W.cell? ⟨b, off, none⟩ = some (.slice (some ⟨b0, o0, none⟩) 2 c0)
  r1 : W.cell? ⟨b, off + 1, none⟩ = some (.slice (some ⟨b1, o1, none⟩) 2 c1)
  x00 : W.cell? ⟨b0, o0, none⟩ = some (.int .i64 x)
  x01 : W.cell? ⟨b0, o0 + 1, none⟩ = some (.int .i64 y)
  x10 : W.cell? ⟨b1, o1, none⟩ = some (.int .i64 z)
  x11 : W.cell? ⟨b1, o1 + 1, none⟩ = some (.int .i64 u)
theorem exists_at22 {w : World} {B b off c : Nat} {t : List (List Int)} (h : Rows_ w B (some ⟨b, off, none⟩) 2 c t) (ht : Tb t 2 2) : ∃ b0 o0 c0 b1 o1 c1, ∀ W, Below B w W → At22 W b off b0 o0 c0 b1 o1 c1 (at2 t 0 0) (at2 t 0 1) (at2 t 1 0) (at2 t 1 1) := by
  have key : ∀ k, k < 2 → ∃ b0 o0 c0, ∀ W, Below B w W → W.cell? ⟨b, off + k, none⟩ = some (.slice (some ⟨b0, o0, none⟩) 2 c0) ∧ ∀ j, j < 2 → W.cell? ⟨b0, o0 + j, none⟩ = some (.int .i64 (at2 t k j)) := by
    intro k hk
    obtain ⟨A', c', hc, hi⟩ := ht.get h hk
    obtain ⟨b0, o0, rfl, _, _⟩ := hi.cells (show 0 < 2 by omega)
    refine ⟨b0, o0, c', fun W hb => ?_⟩
    obtain ⟨A'', c'', hc', hi'⟩ := ht.get (h.below hb) hk
    obtain ⟨b', o', _, _, _, e', hlt, _⟩ := h.at_ k hk
    cases e'
    have e := hb.cell (p := ⟨b, off + k, none⟩) hlt
    rw [hc, hc'] at e
    simp only [Option.some.injEq, Value.slice.injEq, true_and] at e
    obtain ⟨rfl, rfl⟩ := e
    refine ⟨hc', fun j hj => ?_⟩
    obtain ⟨b2, o2, e2, _, hx⟩ := hi'.at_ j hj
    cases e2
    exact hx
  obtain ⟨b0, o0, c0, k0⟩ := key 0 (by omega)
  obtain ⟨b1, o1, c1, k1⟩ := key 1 (by omega)
  refine ⟨b0, o0, c0, b1, o1, c1, fun W hb => ?_⟩
  obtain ⟨p0, q0⟩ := k0 W hb
  obtain ⟨p1, q1⟩ := k1 W hb
  exact ⟨p0, p1, q0 0 (by omega), q0 1 (by omega), q1 0 (by omega), q1 1 (by omega)⟩

def okO (t : List (List Int)) : Bool := decide (at2 t 0 1 ≠ 0) && decide (at2 t 1 0 ≠ 0)
/-- The odds. -/
def odQ (t : List (List Int)) : Rat := Rat.divInt (at2 t 0 0 * at2 t 1 1) (at2 t 0 1 * at2 t 1 0)
def odN (t : List (List Int)) : Int := if isTwo t && okO t then (odQ t).num else 0
def odD (t : List (List Int)) : Int := if isTwo t && okO t then (odQ t).den else 0
def odE (t : List (List Int)) : Int := if isTwo t then (if okO t then 0 else 5) else 2

theorem od_parts {t : List (List Int)} (h : isTwo t = true) : if at2 t 0 1 ≠ 0 ∧ at2 t 1 0 ≠ 0 then Fr (Rat.divInt (at2 t 0 0 * at2 t 1 1) (at2 t 0 1 * at2 t 1 0)) (odN t) (odD t) ∧ odE t = 0 else odN t = 0 ∧ odD t = 0 ∧ odE t = 5 := by
  unfold odN odD odE
  rw [h]
  by_cases h0 : at2 t 0 1 = 0
  · have : okO t = false := by unfold okO; simp [h0]
    rw [this, if_neg (by simp [h0])]; simp
  · by_cases h1 : at2 t 1 0 = 0
    · have : okO t = false := by unfold okO; simp [h1]
      rw [this, if_neg (by simp [h1])]; simp
    · have : okO t = true := by unfold okO; simp [h0, h1]
      rw [this, if_pos ⟨h0, h1⟩]
      exact ⟨⟨rfl, rfl⟩, rfl⟩

set_option maxRecDepth 100000 in
set_option maxHeartbeats 4000000 in
theorem Odds_core (b off c : Nat) (t : List (List Int)) (w : World) (h : Rows_ w w.heap.size (some ⟨b, off, none⟩) 2 c t) (hr : Hid (isTwo t = true)) (b0 o0 c0 b1 o1 c1 : Nat) (x y z u : Int)
    (hat : Hid (∀ W, Below w.heap.size w W → At22 W b off b0 o0 c0 b1 o1 c1 x y z u)) (hx : 0 ≤ x ∧ x ≤ 16) (hy : 0 ≤ y ∧ y ≤ 16) (hz : 0 ≤ z ∧ z ≤ 16) (hu : 0 ≤ u ∧ u ≤ 16) (n d e : Int)
    (hn : Hid (if y ≠ 0 ∧ z ≠ 0 then Fr (Rat.divInt (x * u) (y * z)) n d ∧ e = 0 else n = 0 ∧ d = 0 ∧ e = 5)) :
    Calls Try.prog 51 #[.slice (some ⟨b, off, none⟩) 2 c] w fun r w' => r = .returned (.tuple #[.agg #[.int .i64 n, .int .i64 d], .int .i64 e]) ∧ Below w.heap.size w w' := by
  have hm := h.most; have hcap := h.cap
  obtain ⟨x1, x2⟩ := hx; obtain ⟨y1, y2⟩ := hy; obtain ⟨z1, z2⟩ := hz; obtain ⟨u1, u2⟩ := hu
  obtain ⟨W0, hW0⟩ : ∃ W0, W0 = w.alloc (.cells #[.int .i64 0, .int .i64 0] 47) := ⟨_, rfl⟩
  have HB0 := hide (show Below w.heap.size w W0 from by rw [hW0]; exact (Below.refl _ w).alloc (Nat.le_refl _) _)
  have HR0 := hide (show W0.heap[w.heap.size]? = some (.cells #[.int .i64 0, .int .i64 0] 47 (0, 0)) from by rw [hW0]; exact heap_new_ w _)
  have HH := hide h
  clear h
  go_enter Try.func51, Try.ntmps51
  go_upto_region 1 with fail
  rw [← hW0]
  clear hW0
  go_wp2_with fail
  refine (isFourfold_any _ _ _ t _ ((unhide HH).below (unhide HB0) |>.more (unhide HB0).size) _ hr).mono ?_
  rintro e W1 ⟨rfl, b1⟩
  have HB1 := hide ((unhide HB0).trans (b1.mono (unhide HB0).size))
  have HR1 := hide ((b1.block _ (Array.getElem?_eq_some_iff.1 (unhide HR0)).1).trans (unhide HR0))
  clear b1
  have HA1 := hide (hat.out W1 (unhide HB1))
  obtain ⟨a1, a2, a3, a4, a5, a6⟩ := unhide HA1
  by_cases hy0 : y = 0
  · subst hy0
    obtain ⟨rfl, rfl, rfl⟩ : n = 0 ∧ d = 0 ∧ e = 5 := by have := hn.out; simpa using this
    have f0 := free_at (unhide HR1) 0; have f1 := free_at (unhide HR1) 1
    obtain ⟨q0, q1⟩ := two_at (unhide HR1)
    have HPq := hide (put2 (unhide HR1) (.int .i64 0) (.int .i64 0))
    have HBq := hide (below_put2 (unhide HB1) (b := w.heap.size) (Nat.le_refl _) (.int .i64 0) (.int .i64 0))
    go_wp2_with fail
    obtain ⟨s0, s1⟩ := two_at (unhide HPq)
    exact bodyPost_ret (v := .tuple #[.agg #[.int .i64 0, .int .i64 0], .int .i64 5]) (by simp [results, Try.results51, go_sem, s0, s1]) rfl ⟨rfl, unhide HBq⟩
  · have y0' : (y == 0) = false := by simpa using hy0
    by_cases hz0 : z = 0
    · subst hz0
      obtain ⟨rfl, rfl, rfl⟩ : n = 0 ∧ d = 0 ∧ e = 5 := by have := hn.out; simpa using this
      have f0 := free_at (unhide HR1) 0; have f1 := free_at (unhide HR1) 1
      obtain ⟨q0, q1⟩ := two_at (unhide HR1)
      have HPq := hide (put2 (unhide HR1) (.int .i64 0) (.int .i64 0))
      have HBq := hide (below_put2 (unhide HB1) (b := w.heap.size) (Nat.le_refl _) (.int .i64 0) (.int .i64 0))
      go_wp2_with fail
      obtain ⟨s0, s1⟩ := two_at (unhide HPq)
      exact bodyPost_ret (v := .tuple #[.agg #[.int .i64 0, .int .i64 0], .int .i64 5]) (by simp [results, Try.results51, go_sem, s0, s1]) rfl ⟨rfl, unhide HBq⟩
    · have z0' : (z == 0) = false := by simpa using hz0
      have hf := hn.out
      rw [if_pos ⟨hy0, hz0⟩] at hf
      obtain ⟨hf, rfl⟩ := hf
      have ey := mul_bd (M := 16) (N := 16) (a := x) (b := u) ⟨by omega, x2⟩ ⟨by omega, u2⟩
      have ez := mul_bd (M := 16) (N := 16) (a := y) (b := z) ⟨by omega, y2⟩ ⟨by omega, z2⟩
      have e1 : 0 ≤ x * u := Int.mul_nonneg x1 u1
      have e2 : 0 < y * z := Int.mul_pos (by omega) (by omega)
      obtain ⟨p, hp⟩ : ∃ p, x * u = p := ⟨_, rfl⟩
      obtain ⟨q, hq⟩ : ∃ q, y * z = q := ⟨_, rfl⟩
      rw [hp] at ey e1 hf
      rw [hq] at ez e2 hf
      have HC := hide (fun W => quotient_any p q W ⟨by omega, by omega⟩ ⟨by omega, by omega⟩ n d (hide hf))
      clear hf
      have wp : IntKind.i64.wrap p = p := by rw [IntKind.wrap_i64]; omega
      have wq : IntKind.i64.wrap q = q := by rw [IntKind.wrap_i64]; omega
      go_upto_region 5 with fail
      have HWd := hide (show Below W1.heap.size W1 W1.drew from (Below.refl _ _).drew)
      have HSA := hide (show ∀ W, Below W1.heap.size W1 W → At22 W b off b0 o0 c0 b1 o1 c1 x y z u from fun W hW => hat.out W ((unhide HB1).trans (hW.mono (unhide HB1).size)))
      clear a1 a2 a3 a4 a5 a6
      refine wp_region_quietT 23 (fun W' => Below W1.heap.size W1 W') (by kernel_rfl) (by kernel_rfl) (unhide HWd) ?_
      simp only [List.take_succ_cons, List.take_zero, List.drop_succ_cons, List.drop_zero]
      repeat (first
        | go_big_quiet_skip
        | (go_big_quiet_want
           apply Exists.intro
           refine ⟨fun W hW => ?_, ?_⟩
           · obtain ⟨a1, a2, a3, a4, a5, a6⟩ := (unhide HSA) W hW
             go_simp
             first | rfl | ((with_reducible refine ((unhide HC) W).mono ?_); exact fun _ _ h => ⟨h.1, hW.trans (h.2.mono hW.size)⟩)
           go_big_quiet_on
           simp only [Act.put, List.setIfInBounds_toArray, List.set_cons_zero, List.set_cons_succ]))
      refine wpQuiet_nil ?_
      intro wc hWc
      have HRc := hide ((hWc.block _ (Array.getElem?_eq_some_iff.1 (unhide HR1)).1).trans (unhide HR1))
      have HBc := hide ((unhide HB1).trans (hWc.mono (unhide HB1).size))
      clear hWc
      have f0 := free_at (unhide HRc) 0; have f1 := free_at (unhide HRc) 1
      obtain ⟨q0, q1⟩ := two_at (unhide HRc)
      have HPq := hide (put2 (unhide HRc) (.int .i64 n) (.int .i64 d))
      have HBq := hide (below_put2 (unhide HBc) (b := w.heap.size) (Nat.le_refl _) (.int .i64 n) (.int .i64 d))
      go_wp2_with fail
      obtain ⟨s0, s1⟩ := two_at (unhide HPq)
      exact bodyPost_ret (v := .tuple #[.agg #[.int .i64 n, .int .i64 d], .int .i64 0]) (by simp [results, Try.results51, go_sem, s0, s1]) rfl ⟨rfl, unhide HBq⟩

set_option maxRecDepth 100000 in
set_option maxHeartbeats 4000000 in
theorem ROdds_core (b off c : Nat) (t : List (List Int)) (w : World) (h : Rows_ w w.heap.size (some ⟨b, off, none⟩) 2 c t) (hr : Hid (isTwo t = true)) (b0 o0 c0 b1 o1 c1 : Nat) (x y z u : Int)
    (hat : Hid (∀ W, Below w.heap.size w W → At22 W b off b0 o0 c0 b1 o1 c1 x y z u)) (hx : 0 ≤ x ∧ x ≤ 16) (hy : 0 ≤ y ∧ y ≤ 16) (hz : 0 ≤ z ∧ z ≤ 16) (hu : 0 ≤ u ∧ u ≤ 16) (n d e : Int)
    (hn : Hid (if y ≠ 0 ∧ z ≠ 0 then Fr (Rat.divInt (x * u) (y * z)) n d ∧ e = 0 else n = 0 ∧ d = 0 ∧ e = 5)) :
    Calls Try.prog 53 #[.slice (some ⟨b, off, none⟩) 2 c] w fun r w' => r = .returned (.tuple #[.agg #[.int .i64 n, .int .i64 d], .int .i64 e]) ∧ Below w.heap.size w w' := by
  have hm := h.most; have hcap := h.cap
  obtain ⟨x1, x2⟩ := hx; obtain ⟨y1, y2⟩ := hy; obtain ⟨z1, z2⟩ := hz; obtain ⟨u1, u2⟩ := hu
  obtain ⟨W0, hW0⟩ : ∃ W0, W0 = w.alloc (.cells #[.int .i64 0, .int .i64 0] 47) := ⟨_, rfl⟩
  have HB0 := hide (show Below w.heap.size w W0 from by rw [hW0]; exact (Below.refl _ w).alloc (Nat.le_refl _) _)
  have HR0 := hide (show W0.heap[w.heap.size]? = some (.cells #[.int .i64 0, .int .i64 0] 47 (0, 0)) from by rw [hW0]; exact heap_new_ w _)
  have HH := hide h
  clear h
  go_enter Try.func53, Try.ntmps53
  go_upto_region 1 with fail
  rw [← hW0]
  clear hW0
  obtain ⟨W1, hW1⟩ : ∃ W1, W1 = W0 := ⟨_, rfl⟩
  have HB1 := hide (show Below w.heap.size w W1 from by rw [hW1]; exact unhide HB0)
  have HR1 := hide (show W1.heap[w.heap.size]? = some (.cells #[.int .i64 0, .int .i64 0] 47 (0, 0)) from by rw [hW1]; exact unhide HR0)
  rw [← hW1]
  clear hW1
  have HA1 := hide (hat.out W1 (unhide HB1))
  obtain ⟨a1, a2, a3, a4, a5, a6⟩ := unhide HA1
  by_cases hy0 : y = 0
  · subst hy0
    obtain ⟨rfl, rfl, rfl⟩ : n = 0 ∧ d = 0 ∧ e = 5 := by have := hn.out; simpa using this
    have f0 := free_at (unhide HR1) 0; have f1 := free_at (unhide HR1) 1
    obtain ⟨q0, q1⟩ := two_at (unhide HR1)
    have HPq := hide (put2 (unhide HR1) (.int .i64 0) (.int .i64 0))
    have HBq := hide (below_put2 (unhide HB1) (b := w.heap.size) (Nat.le_refl _) (.int .i64 0) (.int .i64 0))
    go_wp2_with fail
    obtain ⟨s0, s1⟩ := two_at (unhide HPq)
    exact bodyPost_ret (v := .tuple #[.agg #[.int .i64 0, .int .i64 0], .int .i64 5]) (by simp [results, Try.results53, go_sem, s0, s1]) rfl ⟨rfl, unhide HBq⟩
  · have y0' : (y == 0) = false := by simpa using hy0
    by_cases hz0 : z = 0
    · subst hz0
      obtain ⟨rfl, rfl, rfl⟩ : n = 0 ∧ d = 0 ∧ e = 5 := by have := hn.out; simpa using this
      have f0 := free_at (unhide HR1) 0; have f1 := free_at (unhide HR1) 1
      obtain ⟨q0, q1⟩ := two_at (unhide HR1)
      have HPq := hide (put2 (unhide HR1) (.int .i64 0) (.int .i64 0))
      have HBq := hide (below_put2 (unhide HB1) (b := w.heap.size) (Nat.le_refl _) (.int .i64 0) (.int .i64 0))
      go_wp2_with fail
      obtain ⟨s0, s1⟩ := two_at (unhide HPq)
      exact bodyPost_ret (v := .tuple #[.agg #[.int .i64 0, .int .i64 0], .int .i64 5]) (by simp [results, Try.results53, go_sem, s0, s1]) rfl ⟨rfl, unhide HBq⟩
    · have z0' : (z == 0) = false := by simpa using hz0
      have hf := hn.out
      rw [if_pos ⟨hy0, hz0⟩] at hf
      obtain ⟨hf, rfl⟩ := hf
      have ey := mul_bd (M := 16) (N := 16) (a := x) (b := u) ⟨by omega, x2⟩ ⟨by omega, u2⟩
      have ez := mul_bd (M := 16) (N := 16) (a := y) (b := z) ⟨by omega, y2⟩ ⟨by omega, z2⟩
      have e1 : 0 ≤ x * u := Int.mul_nonneg x1 u1
      have e2 : 0 < y * z := Int.mul_pos (by omega) (by omega)
      obtain ⟨p, hp⟩ : ∃ p, x * u = p := ⟨_, rfl⟩
      obtain ⟨q, hq⟩ : ∃ q, y * z = q := ⟨_, rfl⟩
      rw [hp] at ey e1 hf
      rw [hq] at ez e2 hf
      have HC := hide (fun W => RFrac_any p q W ⟨by omega, by omega⟩ ⟨by omega, by omega⟩ n d (hide hf))
      clear hf
      have wp : IntKind.i64.wrap p = p := by rw [IntKind.wrap_i64]; omega
      have wq : IntKind.i64.wrap q = q := by rw [IntKind.wrap_i64]; omega
      go_upto_region 3 with fail
      have HWd := hide (show Below W1.heap.size W1 W1.drew from (Below.refl _ _).drew)
      have HSA := hide (show ∀ W, Below W1.heap.size W1 W → At22 W b off b0 o0 c0 b1 o1 c1 x y z u from fun W hW => hat.out W ((unhide HB1).trans (hW.mono (unhide HB1).size)))
      clear a1 a2 a3 a4 a5 a6
      refine wp_region_quietT 23 (fun W' => Below W1.heap.size W1 W') (by kernel_rfl) (by kernel_rfl) (unhide HWd) ?_
      simp only [List.take_succ_cons, List.take_zero, List.drop_succ_cons, List.drop_zero]
      repeat (first
        | go_big_quiet_skip
        | (go_big_quiet_want
           apply Exists.intro
           refine ⟨fun W hW => ?_, ?_⟩
           · obtain ⟨a1, a2, a3, a4, a5, a6⟩ := (unhide HSA) W hW
             go_simp
             first | rfl | ((with_reducible refine ((unhide HC) W).mono ?_); exact fun _ _ h => ⟨h.1, hW.trans (h.2.mono hW.size)⟩)
           go_big_quiet_on
           simp only [Act.put, List.setIfInBounds_toArray, List.set_cons_zero, List.set_cons_succ]))
      refine wpQuiet_nil ?_
      intro wc hWc
      have HRc := hide ((hWc.block _ (Array.getElem?_eq_some_iff.1 (unhide HR1)).1).trans (unhide HR1))
      have HBc := hide ((unhide HB1).trans (hWc.mono (unhide HB1).size))
      clear hWc
      have f0 := free_at (unhide HRc) 0; have f1 := free_at (unhide HRc) 1
      obtain ⟨q0, q1⟩ := two_at (unhide HRc)
      have HPq := hide (put2 (unhide HRc) (.int .i64 n) (.int .i64 d))
      have HBq := hide (below_put2 (unhide HBc) (b := w.heap.size) (Nat.le_refl _) (.int .i64 n) (.int .i64 d))
      go_wp2_with fail
      obtain ⟨s0, s1⟩ := two_at (unhide HPq)
      exact bodyPost_ret (v := .tuple #[.agg #[.int .i64 n, .int .i64 d], .int .i64 0]) (by simp [results, Try.results53, go_sem, s0, s1]) rfl ⟨rfl, unhide HBq⟩

theorem Odds_ok (A : Option Addr) (n c : Nat) (t : List (List Int)) (w : World) (h : Rows_ w w.heap.size A n c t) (hr : Hid (isTwo t = true)) :
    Calls Try.prog 51 #[.slice A n c] w fun r w' => r = .returned (.tuple #[.agg #[.int .i64 (odN t), .int .i64 (odD t)], .int .i64 (odE t)]) ∧ Below w.heap.size w w' := by
  have ht := two_tb hr.out
  obtain rfl : n = 2 := by rw [← h.len, ht.len]
  obtain ⟨b, off, rfl⟩ := h.addr (show 0 < 2 by omega)
  obtain ⟨b0, o0, c0, b1, o1, c1, hat⟩ := exists_at22 h ht
  exact Odds_core b off c t w h hr b0 o0 c0 b1 o1 c1 _ _ _ _ (hide hat) ⟨ht.nn 0 0, ht.le 0 0⟩ ⟨ht.nn 0 1, ht.le 0 1⟩ ⟨ht.nn 1 0, ht.le 1 0⟩ ⟨ht.nn 1 1, ht.le 1 1⟩ _ _ _ (hide (od_parts hr.out))

theorem ROdds_ok (A : Option Addr) (n c : Nat) (t : List (List Int)) (w : World) (h : Rows_ w w.heap.size A n c t) (hr : Hid (isTwo t = true)) :
    Calls Try.prog 53 #[.slice A n c] w fun r w' => r = .returned (.tuple #[.agg #[.int .i64 (odN t), .int .i64 (odD t)], .int .i64 (odE t)]) ∧ Below w.heap.size w w' := by
  have ht := two_tb hr.out
  obtain rfl : n = 2 := by rw [← h.len, ht.len]
  obtain ⟨b, off, rfl⟩ := h.addr (show 0 < 2 by omega)
  obtain ⟨b0, o0, c0, b1, o1, c1, hat⟩ := exists_at22 h ht
  exact ROdds_core b off c t w h hr b0 o0 c0 b1 o1 c1 _ _ _ _ (hide hat) ⟨ht.nn 0 0, ht.le 0 0⟩ ⟨ht.nn 0 1, ht.le 0 1⟩ ⟨ht.nn 1 0, ht.le 1 0⟩ ⟨ht.nn 1 1, ht.le 1 1⟩ _ _ _ (hide (od_parts hr.out))

theorem Odds_no (A : Option Addr) (n c : Nat) (t : List (List Int)) (w : World) (h : Rows_ w w.heap.size A n c t) (hr : Hid (isTwo t = false)) :
    Calls Try.prog 51 #[.slice A n c] w fun r w' => r = .returned (.tuple #[.agg #[.int .i64 (odN t), .int .i64 (odD t)], .int .i64 (odE t)]) ∧ Below w.heap.size w w' := by
  have e : odN t = 0 ∧ odD t = 0 ∧ odE t = 2 := by unfold odN odD odE; rw [hr.out]; simp
  obtain ⟨e1, e2, e3⟩ := e
  rw [e1, e2, e3]
  clear e1 e2 e3
  obtain ⟨W0, hW0⟩ : ∃ W0, W0 = w.alloc (.cells #[.int .i64 0, .int .i64 0] 47) := ⟨_, rfl⟩
  have HB0 := hide (show Below w.heap.size w W0 from by rw [hW0]; exact (Below.refl _ w).alloc (Nat.le_refl _) _)
  have HR0 := hide (show W0.heap[w.heap.size]? = some (.cells #[.int .i64 0, .int .i64 0] 47 (0, 0)) from by rw [hW0]; exact heap_new_ w _)
  have HH := hide h
  clear h
  go_enter Try.func51, Try.ntmps51
  go_upto_region 1 with fail
  rw [← hW0]
  clear hW0
  go_wp2_with fail
  refine (isFourfold_any _ _ _ t _ ((unhide HH).below (unhide HB0) |>.more (unhide HB0).size) _ hr).mono ?_
  rintro e W1 ⟨rfl, b1⟩
  have HB1 := hide ((unhide HB0).trans (b1.mono (unhide HB0).size))
  have HR1 := hide ((b1.block _ (Array.getElem?_eq_some_iff.1 (unhide HR0)).1).trans (unhide HR0))
  clear b1
  have f0 := free_at (unhide HR1) 0; have f1 := free_at (unhide HR1) 1
  obtain ⟨q0, q1⟩ := two_at (unhide HR1)
  have HPq := hide (put2 (unhide HR1) (.int .i64 0) (.int .i64 0))
  have HBq := hide (below_put2 (unhide HB1) (b := w.heap.size) (Nat.le_refl _) (.int .i64 0) (.int .i64 0))
  go_wp2_with fail
  obtain ⟨s0, s1⟩ := two_at (unhide HPq)
  exact bodyPost_ret (v := .tuple #[.agg #[.int .i64 0, .int .i64 0], .int .i64 2]) (by simp [results, Try.results51, go_sem, s0, s1]) rfl ⟨rfl, unhide HBq⟩
theorem Odds_all (A : Option Addr) (n c : Nat) (t : List (List Int)) (w : World) (h : Rows_ w w.heap.size A n c t) :
    Calls Try.prog 51 #[.slice A n c] w fun r w' => r = .returned (.tuple #[.agg #[.int .i64 (odN t), .int .i64 (odD t)], .int .i64 (odE t)]) ∧ Below w.heap.size w w' := by
  cases hr : isTwo t with
  | true => exact Odds_ok A n c t w h (hide hr)
  | false => exact Odds_no A n c t w h (hide hr)
end Go.Proofs.Ytabgifpenegofaa
