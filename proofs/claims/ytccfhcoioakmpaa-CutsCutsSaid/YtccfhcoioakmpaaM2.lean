/-
  slices.Equal of sides; keeps, Apart of the reference.
-/
import Derived.Test.YtccfhcoioakmpaaM1
import Derived.Test.YtccfhcoioakmpaaEq
import Derived.Test.YtccfhcoioakmpaaRp
namespace Go.Proofs.Ytccfhcoioakmpaa
open Go.RowKit

theorem gth_ext {xs ys : List G} (hl : xs.length = ys.length) (h : ∀ k, k < xs.length → gth xs k = gth ys k) : xs = ys := by
  apply List.ext_getElem hl
  intro i h1 h2
  have := h i h1
  simpa [gth, List.getD, h1, h2] using this

set_option maxHeartbeats 1600000 in
theorem equalG_any (A A' : Option Addr) (n c n' c' : Nat) (xs ys : List G) (w : World) (B B' : Nat) (h : Gs w B A n c xs) (h' : Gs w B' A' n' c' ys) :
    Calls Try.prog 46 #[.slice A n c, .slice A' n' c'] w fun e w' => e = .returned (.bool (decide (xs = ys))) ∧ ∃ q, w' = w.drewN q := by
  have hm := h.most; have hcap := h.cap; have hm' := h'.most; have hcap' := h'.cap
  have hl := hide h.len; have hl' := hide h'.len
  by_cases hn : n = n'
  · subst hn
    have hb : ((n : Int) != (n : Int)) = false := by simp
    go_enter Try.func46, Try.ntmps46
    go_wp2_with fail
    go_loopw [13] (fun i wr => ∃ k : Nat, k ≤ n ∧ i = .int .i64 k ∧ Hid (∀ j, j < k → gth xs j = gth ys j) ∧ ∃ q, wr = w.drewN q) (fun i _ => n - (intOf i).toNat)
    case atStart => exact ⟨0, Nat.zero_le _, rfl, (fun j hj => by omega), 0, rfl⟩
    case round =>
      obtain ⟨k, hk, rfl, HE, q, rfl⟩ := hrel
      by_cases hlt : k < n
      · obtain ⟨b, off, rfl, _, e1, e2, e3⟩ := h.at_ k hlt
        obtain ⟨b2, off2, rfl, _, f1, f2, f3⟩ := h'.at_ k hlt
        have hks : k < xs.length := by rw [hl.out]; exact hlt
        have hno := hide (fun (hne : gth xs k ≠ gth ys k) => show decide (xs = ys) = false from by
          simp only [decide_eq_false_iff_not]; intro e; exact hne (by rw [e]))
        revert HE hno
        obtain ⟨⟨x, y, z⟩, hgx⟩ : ∃ p, gth xs k = p := ⟨_, rfl⟩
        obtain ⟨⟨x', y', z'⟩, hgy⟩ : ∃ p, gth ys k = p := ⟨_, rfl⟩
        have HGX := hide hgx; have HGY := hide hgy
        rw [hgx] at e1 e2 e3 ⊢; rw [hgy] at f1 f2 f3 ⊢
        clear hgx hgy
        simp only at e1 e2 e3 f1 f2 f3 ⊢
        intro HE hno
        by_cases he : ((x, y, z) : G) = (x', y', z')
        · have HE2 := hide (show ∀ j, j < k + 1 → gth xs j = gth ys j from fun j hj => by
            rcases Nat.lt_or_ge j k with h1 | h1
            · exact HE.out j h1
            · obtain rfl : j = k := by omega
              rw [HGX.out, HGY.out]; exact he)
          have e : ∀ w, (binOp .neq 56 (.agg #[.int .i64 x, .int .i64 y, .int .i64 z]) (.agg #[.int .i64 x', .int .i64 y', .int .i64 z'])).run Try.prog w = .ok (.bool false) w := fun w => by rw [neq56, decide_eq_true he]; rfl
          clear he
          go_wp2_with fail
          go_quiet (fail)
          go_wp2_with fail
          go_roundw
          case rel => exact ⟨k + 1, by omega, by go_num, HE2, (by first | exact ⟨_, rfl⟩ | exact quiet_q _ _ _)⟩
          case measure => simp [intOf]; omega
        · have HF := hide (hno.out he)
          have e : ∀ w, (binOp .neq 56 (.agg #[.int .i64 x, .int .i64 y, .int .i64 z]) (.agg #[.int .i64 x', .int .i64 y', .int .i64 z'])).run Try.prog w = .ok (.bool true) w := fun w => by rw [neq56, decide_eq_false he]; rfl
          clear he
          go_wp2_with fail
          go_quiet (fail)
          go_wp2_with fail
          go_ret
          exact ⟨ret_bool HF.out.symm, (by first | exact ⟨_, rfl⟩ | exact quiet_q _ _ _)⟩
      · obtain rfl : k = n := by omega
        have HF := hide (show decide (xs = ys) = true from by
          simp only [decide_eq_true_eq]
          exact gth_ext (by rw [hl.out, hl'.out]) (fun j hj => HE.out j (by rw [← hl.out]; exact hj)))
        go_wp2_with fail
        go_ret
        exact ⟨ret_bool HF.out.symm, ⟨_, rfl⟩⟩
  · have HF := hide (show decide (xs = ys) = false from by
      simp only [decide_eq_false_iff_not]; intro e; exact hn (by rw [← hl.out, ← hl'.out, e]))
    have hb : ((n : Int) != (n' : Int)) = true := by simp; omega
    have hb2 : ((n : Int) == (n' : Int)) = false := by simp; omega
    go_enter Try.func46, Try.ntmps46
    go_wp2_with fail
    go_ret
    exact ⟨ret_bool HF.out.symm, ⟨0, rfl⟩⟩

/-- A point x / e, y / e keeps a side. -/
def inS (g : G) (x y e : Int) : Bool := decide (g.1 * x + g.2.1 * y ≤ g.2.2 * e)
set_option maxHeartbeats 400000 in
theorem keeps_any (f d m x y e : Int) (w : World) (hg : (-4 ≤ f ∧ f ≤ 4) ∧ (-4 ≤ d ∧ d ≤ 4) ∧ -40 ≤ m ∧ m ≤ 40) (hx : -1000000 ≤ x ∧ x ≤ 1000000) (hy : -1000000 ≤ y ∧ y ≤ 1000000) (he : -1000000 ≤ e ∧ e ≤ 1000000) (b : Bool) (hb : Hid (inS (f, d, m) x y e = b)) :
    Calls Try.prog 70 #[.agg #[.int .i64 f, .int .i64 d, .int .i64 m], .int .i64 x, .int .i64 y, .int .i64 e] w fun r w' => r = .returned (.bool b) ∧ Below w.heap.size w w' := by
  have p1 := mul_bd (M := 4) (N := 1000000) hg.1 hx
  have p2 := mul_bd (M := 4) (N := 1000000) hg.2.1 hy
  have p3 := mul_bd (M := 40) (N := 1000000) hg.2.2 he
  obtain ⟨p11, p12⟩ := p1; obtain ⟨p21, p22⟩ := p2; obtain ⟨p31, p32⟩ := p3
  have HB := hide ((Below.refl _ w).alloc (Nat.le_refl _) (.cells #[.int .i64 f, .int .i64 d, .int .i64 m] 56))
  clear hg
  by_cases h : f * x + d * y ≤ m * e
  · have HQ := hide (show b = true from by rw [← hb.out]; simp [inS, h])
    go_enter Try.func70, Try.ntmps70
    go_wp2_with fail
    go_ret
    exact ⟨ret_bool HQ.out.symm, unhide HB⟩
  · have HQ := hide (show b = false from by rw [← hb.out]; simp [inS]; omega)
    go_enter Try.func70, Try.ntmps70
    go_wp2_with fail
    go_ret
    exact ⟨ret_bool HQ.out.symm, unhide HB⟩
end Go.Proofs.Ytccfhcoioakmpaa
