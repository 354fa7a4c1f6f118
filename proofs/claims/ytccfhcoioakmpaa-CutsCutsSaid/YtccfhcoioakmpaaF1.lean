/-
  gcd, isFrac, plus, divide of the program.
-/
import Derived.Test.YtccfhcoioakmpaaM5
namespace Go.Proofs.Ytccfhcoioakmpaa
open Go.RowKit

set_option maxHeartbeats 1000000 in
theorem gcd_any (a b : Int) (w : World) (ha : -9000000000000000000 ≤ a ∧ a ≤ 9000000000000000000) (hb : -9000000000000000000 ≤ b ∧ b ≤ 9000000000000000000) :
    Calls Try.prog 98 #[.int .i64 a, .int .i64 b] w fun e w' => e = .returned (.int .i64 (Nat.gcd a.natAbs b.natAbs : Nat)) ∧ ∃ q, w' = w.drewN q := by
  go_enter Try.func98, Try.ntmps98
  go_wp2_with fail
  go_loopw [0, 1] (fun u v wr => ∃ x y : Int, u = .int .i64 x ∧ v = .int .i64 y ∧ Hid (Nat.gcd x.natAbs y.natAbs = Nat.gcd a.natAbs b.natAbs) ∧ (-9000000000000000000 ≤ x ∧ x ≤ 9000000000000000000) ∧ (-9000000000000000000 ≤ y ∧ y ≤ 9000000000000000000) ∧ ∃ q, wr = w.drewN q) (fun _ v _ => (intOf v).natAbs)
  case atStart => exact ⟨a, b, rfl, rfl, hide rfl, ha, hb, 0, rfl⟩
  case round =>
    obtain ⟨x, y, rfl, rfl, hg, ⟨hx1, hx2⟩, ⟨hy1, hy2⟩, q, rfl⟩ := hrel
    by_cases h0 : y = 0
    · subst h0
      have hz := hide (show x.natAbs = Nat.gcd a.natAbs b.natAbs from by rw [← hg.out]; simp)
      have hd : ((0 : Int) != 0) = false := by decide
      by_cases hx0 : x < -x
      · go_wp2_with fail
        go_ret
        exact ⟨ret_int (show -x = _ from by rw [← hz.out]; omega), _, rfl⟩
      · go_wp2_with fail
        go_ret
        exact ⟨ret_int (show x = _ from by rw [← hz.out]; omega), _, rfl⟩
    · have hd : ((y : Int) != 0) = true := by simp; omega
      obtain ⟨r, hr⟩ : ∃ r : Int, x.tmod y = r := ⟨_, rfl⟩
      have hna : r.natAbs = x.natAbs % y.natAbs := by rw [← hr, Int.natAbs_tmod]
      have hlt : r.natAbs < y.natAbs := by rw [hna]; exact Nat.mod_lt _ (by omega)
      have hg2 := hide (show Nat.gcd y.natAbs r.natAbs = Nat.gcd a.natAbs b.natAbs from by rw [← hg.out, hna, Nat.gcd_comm x.natAbs, Nat.gcd_rec y.natAbs x.natAbs, Nat.gcd_comm])
      clear hna
      have hr1 : -9000000000000000000 ≤ r := by omega
      have hr2 : r ≤ 9000000000000000000 := by omega
      go_wp2_with fail
      go_big_quiet (fail)
      go_wp2_with fail
      go_roundw
      case rel => exact ⟨y, r, by go_num, by go_num, hg2, by omega, by omega, (by first | exact ⟨_, rfl⟩ | exact quiet_q _ _ _)⟩
      case measure => simp [intOf]; omega

/-- A fraction from lo to hi in lowest terms, its Den up to md. -/
def isFr (lo hi md : Int) (f : F) : Bool := decide (1 ≤ f.2) && decide (f.2 ≤ md) && allIn (lo * f.2) (hi * f.2) [f.1] && decide (Nat.gcd f.1.natAbs f.2.natAbs = 1)
theorem isFr_iff (lo hi md : Int) (f : F) : isFr lo hi md f = true ↔ (1 ≤ f.2 ∧ f.2 ≤ md) ∧ (lo * f.2 ≤ f.1 ∧ f.1 ≤ hi * f.2) ∧ Nat.gcd f.1.natAbs f.2.natAbs = 1 := by
  simp [isFr, allIn, and_assoc]

set_option maxHeartbeats 1600000 in
theorem isFrac_is (u v lo hi md : Int) (w : World) (hlo : -1000 ≤ lo ∧ lo ≤ 1000) (hhi : -1000 ≤ hi ∧ hi ≤ 1000) (hmd : 0 ≤ md ∧ md ≤ 1000) (b : Bool) (hb : Hid (isFr lo hi md (u, v) = b)) :
    Calls Try.prog 99 #[.agg #[.int .i64 u, .int .i64 v], .int .i64 lo, .int .i64 hi, .int .i64 md] w fun e w' => e = .returned (.bool b) ∧ Below w.heap.size w w' := by
  obtain ⟨hm1, hm2⟩ := hmd
  have HB0 := hide ((Below.refl w.heap.size w).alloc (Nat.le_refl _) (.cells #[.int .i64 u, .int .i64 v] 37))
  by_cases h1 : v < 1
  · have HF := hide (show b = false from by rw [← hb.out, Bool.eq_false_iff]; intro hc; have := ((isFr_iff _ _ _ _).1 hc).1; simp only at this; omega)
    go_enter Try.func99, Try.ntmps99
    go_wp2_with fail
    go_ret
    exact ⟨ret_bool HF.out.symm, unhide HB0⟩
  by_cases h2 : md < v
  · have HF := hide (show b = false from by rw [← hb.out, Bool.eq_false_iff]; intro hc; have := ((isFr_iff _ _ _ _).1 hc).1; simp only at this; omega)
    go_enter Try.func99, Try.ntmps99
    go_wp2_with fail
    go_ret
    exact ⟨ret_bool HF.out.symm, unhide HB0⟩
  have p1 := mul_bd (M := 1000) (N := 1000) hlo (show -1000 ≤ v ∧ v ≤ 1000 by omega)
  have p2 := mul_bd (M := 1000) (N := 1000) hhi (show -1000 ≤ v ∧ v ≤ 1000 by omega)
  obtain ⟨p11, p12⟩ := p1; obtain ⟨p21, p22⟩ := p2
  have HI := hide (ints_new1 (w.alloc (.cells #[.int .i64 u, .int .i64 v] 37)) (w.heap.size + 1) (by simp) u)
  have HB1 := hide ((unhide HB0).alloc (by simp) (.cells #[.int .i64 u] 3))
  rcases hq : allIn (lo * v) (hi * v) [u]
  · have HQ := hide hq; clear hq
    have HF := hide (show b = false from by rw [← hb.out]; simp [isFr, HQ.out])
    go_enter Try.func99, Try.ntmps99
    go_wp2_with fail
    refine (allWithin_is _ _ _ _ _ _ _ _ (unhide HI) _ HQ).mono ?_
    rintro e w1 ⟨rfl, rfl⟩
    go_wp2_with fail
    go_ret
    exact ⟨ret_bool HF.out.symm, unhide HB1⟩
  have hu : lo * v ≤ u ∧ u ≤ hi * v := by simpa [allIn] using hq
  obtain ⟨hu1, hu2⟩ := hu
  have hub : -9000000000000000000 ≤ u ∧ u ≤ 9000000000000000000 := by omega
  have HQ := hide hq; clear hq
  have HBd := hide (show ∀ q, Below w.heap.size w (((w.alloc (.cells #[.int .i64 u, .int .i64 v] 37)).alloc (.cells #[.int .i64 u] 3)).drewN q) from fun q => ⟨(unhide HB1).os, (unhide HB1).tape, (unhide HB1).output, (unhide HB1).size, (unhide HB1).block⟩)
  obtain ⟨x, hx⟩ : ∃ x : Nat, Nat.gcd u.natAbs v.natAbs = x := ⟨_, rfl⟩
  have HX := hide hx
  have HC := hide (gcd_any u v ((w.alloc (.cells #[.int .i64 u, .int .i64 v] 37)).alloc (.cells #[.int .i64 u] 3)) hub (by omega))
  rw [hx] at HC
  clear hx hub
  by_cases h3 : x = 1
  · subst h3
    have HF := hide (show b = true from by rw [← hb.out, isFr_iff]; exact ⟨by simp only; omega, ⟨hu1, hu2⟩, HX.out⟩)
    have he : ((1 : Int) == 1) = true := by decide
    go_enter Try.func99, Try.ntmps99
    go_wp2_with fail
    refine (allWithin_is _ _ _ _ _ _ _ _ (unhide HI) _ HQ).mono ?_
    rintro e w1 ⟨rfl, rfl⟩
    go_wp2_with fail
    refine (unhide HC).mono ?_
    rintro e w2 ⟨rfl, q, rfl⟩
    go_wp2_with fail
    go_ret
    exact ⟨ret_bool HF.out.symm, (unhide HBd) _⟩
  · have HF := hide (show b = false from by rw [← hb.out, Bool.eq_false_iff]; intro hc; have := ((isFr_iff _ _ _ _).1 hc).2.2; rw [HX.out] at this; exact h3 this)
    have he : ((x : Int) == 1) = false := by simp; omega
    have he2 : (x == 1) = false := by simp [h3]
    have he3 : decide (x = 1) = false := by simp [h3]
    go_enter Try.func99, Try.ntmps99
    go_wp2_with fail
    refine (allWithin_is _ _ _ _ _ _ _ _ (unhide HI) _ HQ).mono ?_
    rintro e w1 ⟨rfl, rfl⟩
    go_wp2_with fail
    refine (unhide HC).mono ?_
    rintro e w2 ⟨rfl, q, rfl⟩
    go_wp2_with fail
    go_ret
    exact ⟨ret_bool HF.out.symm, (unhide HBd) _⟩

/-- s and k times t. -/
def plusG (s t : G) (k : Int) : G := (s.1 + k * t.1, s.2.1 + k * t.2.1, s.2.2 + k * t.2.2)
def gV (g : G) : Value := .agg #[.int .i64 g.1, .int .i64 g.2.1, .int .i64 g.2.2]
/-- Numbers that are not too large. -/
def Bd (M : Int) (g : G) : Prop := (-M ≤ g.1 ∧ g.1 ≤ M) ∧ (-M ≤ g.2.1 ∧ g.2.1 ≤ M) ∧ -M ≤ g.2.2 ∧ g.2.2 ≤ M
set_option maxRecDepth 4000 in
set_option maxHeartbeats 1600000 in
theorem plus_any (a b c f d m k : Int) (w : World) (hs : Bd 1000000000000000000 (a, b, c)) (ht : Bd 40 (f, d, m)) (hk : -100000000000000 ≤ k ∧ k ≤ 100000000000000) :
    Calls Try.prog 100 #[.agg #[.int .i64 a, .int .i64 b, .int .i64 c], .agg #[.int .i64 f, .int .i64 d, .int .i64 m], .int .i64 k] w fun e w' => e = .returned (.agg #[.int .i64 (a + k * f), .int .i64 (b + k * d), .int .i64 (c + k * m)]) ∧ Below w.heap.size w w' := by
  obtain ⟨⟨a1, a2⟩, ⟨b1, b2⟩, c1, c2⟩ := hs
  obtain ⟨f1, d1, m1⟩ := ht
  simp only at a1 a2 b1 b2 c1 c2 f1 d1 m1
  have p1 := mul_bd (M := 100000000000000) (N := 40) hk f1
  have p2 := mul_bd (M := 100000000000000) (N := 40) hk d1
  have p3 := mul_bd (M := 100000000000000) (N := 40) hk m1
  obtain ⟨p11, p12⟩ := p1; obtain ⟨p21, p22⟩ := p2; obtain ⟨p31, p32⟩ := p3
  clear f1 d1 m1 hk
  have HB := hide ((((Below.refl w.heap.size w).alloc (Nat.le_refl _) (.cells #[.int .i64 a, .int .i64 b, .int .i64 c] 57)).alloc (by simp) (.cells #[.int .i64 f, .int .i64 d, .int .i64 m] 57)).alloc (by simp; omega) (.cells #[.int .i64 (a + k * f), .int .i64 (b + k * d), .int .i64 (c + k * m)] 57))
  go_enter Try.func100, Try.ntmps100
  go_wp2_with fail
  have s0 := gth_alloc3 ((w.alloc (.cells #[.int .i64 a, .int .i64 b, .int .i64 c] 57)).alloc (.cells #[.int .i64 f, .int .i64 d, .int .i64 m] 57)) (a + k * f) (b + k * d) (c + k * m) 57
  simp only [World.size_alloc] at s0
  obtain ⟨s0, s1, s2⟩ := s0
  exact bodyPost_ret (v := .agg #[.int .i64 (a + k * f), .int .i64 (b + k * d), .int .i64 (c + k * m)]) (by simp [results, Try.results100, go_sem, s0, s1, s2]) rfl ⟨rfl, unhide HB⟩
end Go.Proofs.Ytccfhcoioakmpaa
