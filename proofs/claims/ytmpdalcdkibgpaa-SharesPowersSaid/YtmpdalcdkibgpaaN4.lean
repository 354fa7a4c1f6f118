import Derived.Test.YtmpdalcdkibgpaaN3
namespace Go.Proofs.Ytmpdalcdkibgpaa
open Go.RowKit Go.Sort

/-- b to the power of k. -/
def pwr (b : Int) : Nat → Int
  | 0 => 1
  | k + 1 => pwr b k * b
theorem pwr_pos {b : Int} (h : 1 ≤ b) : ∀ k, 1 ≤ pwr b k := by
  intro k
  induction k with
  | zero => exact Int.le_refl _
  | succ k ih =>
    have := Int.mul_le_mul ih h (by omega) (by omega)
    simpa [pwr] using this
theorem pwr_mono {b c : Int} (h : 1 ≤ b) (hc : b ≤ c) : ∀ k, pwr b k ≤ pwr c k := by
  intro k
  induction k with
  | zero => exact Int.le_refl _
  | succ k ih => exact Int.mul_le_mul ih hc (by omega) (by have := pwr_pos (b := c) (by omega) k; omega)
theorem pwr_le {b : Int} (h : 1 ≤ b) (h5 : b ≤ 5) {k : Nat} (hk : k ≤ 6) : pwr b k ≤ 15625 := by
  refine Int.le_trans (pwr_mono h h5 k) ?_
  have : k = 0 ∨ k = 1 ∨ k = 2 ∨ k = 3 ∨ k = 4 ∨ k = 5 ∨ k = 6 := by omega
  rcases this with rfl | rfl | rfl | rfl | rfl | rfl | rfl <;> decide

set_option maxHeartbeats 1000000 in
theorem raise_any (b : Int) (e : Nat) (w : World) (h1 : 1 ≤ b) (h5 : b ≤ 5) (he : e ≤ 6) :
    Calls Try.prog 86 #[.int .i64 b, .int .i64 (e : Int)] w fun r w' => r = .returned (.int .i64 (pwr b e)) ∧ w' = w := by
  have hpos := hide (pwr_pos h1)
  have hle := hide (fun k hk => pwr_le h1 h5 (k := k) hk)
  go_enter Try.func86, Try.ntmps86
  go_wp2_with fail
  go_loopw [7, 5] (fun i v wr => ∃ (k : Nat) (z : Int), k ≤ e ∧ i = .int .i64 k ∧ v = .int .i64 z ∧ Hid (z = pwr b k) ∧ wr = w) (fun i _ _ => e - (intOf i).toNat)
  case atStart => exact ⟨0, 1, Nat.zero_le _, rfl, rfl, hide rfl, rfl⟩
  case round =>
    obtain ⟨k, z, hk, rfl, rfl, hz, rfl⟩ := hrel
    by_cases hlt : k < e
    · obtain ⟨p, hp⟩ : ∃ p, z * b = p := ⟨_, rfl⟩
      have hp2 := hide (show p = pwr b (k + 1) from by rw [← hp, hz.out]; rfl)
      have b1 : 1 ≤ p := by rw [hp2.out]; exact hpos.out _
      have b2 : p ≤ 15625 := by rw [hp2.out]; exact hle.out _ (by omega)
      go_wp2_with fail
      go_roundw
      case rel => exact ⟨k + 1, p, by omega, by go_num, rfl, hp2, (by first | trivial | rfl)⟩
      case measure => simp [intOf]; omega
    · obtain rfl : k = e := by omega
      go_wp2_with fail
      go_ret
      exact ⟨by rw [hz.out]; rfl, rfl⟩
/-- The product of the first k powers, in the order p. -/
def prodTo (a x p : List Int) : Nat → Int
  | 0 => 1
  | k + 1 => prodTo a x p k * pwr (nth a k) (nth x (nth p k).toNat).toNat
/-- What Power takes. -/
structure FewL (x a : List Int) : Prop where
  pos : 1 ≤ x.length
  most : x.length ≤ 4
  same : a.length = x.length
  ex : ∀ k, 0 ≤ nth x k ∧ nth x k ≤ 6
  ba : ∀ k, k < a.length → 1 ≤ nth a k ∧ nth a k ≤ 5
/-- Indices of x, as many as there are. -/
structure IxL (n : Nat) (p : List Int) : Prop where
  len : p.length = n
  ix : ∀ k, k < n → 0 ≤ nth p k ∧ nth p k < n
theorem FewL.factor {x a p : List Int} (h : FewL x a) {k : Nat} (hk : k < x.length) : 1 ≤ pwr (nth a k) (nth x (nth p k).toNat).toNat ∧ pwr (nth a k) (nth x (nth p k).toNat).toNat ≤ 15625 := by
  obtain ⟨h1, h2⟩ := h.ba k (by rw [h.same]; exact hk)
  obtain ⟨h3, h4⟩ := h.ex (nth p k).toNat
  exact ⟨pwr_pos h1 _, pwr_le h1 h2 (by omega)⟩
theorem FewL.prod {x a p : List Int} (h : FewL x a) : ∀ k, k ≤ x.length → 1 ≤ prodTo a x p k ∧ prodTo a x p k ≤ pwr 15625 k := by
  intro k
  induction k with
  | zero => intro _; simp [prodTo, pwr]
  | succ k ih =>
    intro hk
    obtain ⟨i1, i2⟩ := ih (by omega)
    obtain ⟨f1, f2⟩ := h.factor (p := p) (k := k) (by omega)
    have m1 := Int.mul_le_mul i1 f1 (by omega) (by omega)
    have m2 := Int.mul_le_mul i2 f2 (by omega) (by have := pwr_pos (b := 15625) (by omega) k; omega)
    exact ⟨by simpa [prodTo] using m1, by simpa [prodTo, pwr] using m2⟩
theorem FewL.prod_le {x a p : List Int} (h : FewL x a) {k : Nat} (hk : k ≤ x.length) : 1 ≤ prodTo a x p k ∧ prodTo a x p k ≤ 59604644775390625 := by
  obtain ⟨h1, h2⟩ := h.prod (p := p) k hk
  refine ⟨h1, Int.le_trans h2 ?_⟩
  have hm := h.most
  have : k = 0 ∨ k = 1 ∨ k = 2 ∨ k = 3 ∨ k = 4 := by omega
  rcases this with rfl | rfl | rfl | rfl | rfl <;> decide

set_option maxRecDepth 4000 in
set_option maxHeartbeats 2000000 in
/-- The term of one order. -/
theorem term_any (A Aa Ax : Option Addr) (n c ca cx Ba Bx : Nat) (p a x : List Int) (w : World) (B : Nat) (h : Ints w B A n c p) (ha : Ints w B Aa n ca a) (hx : Ints w B Ax n cx x) (ca_ : w.cell? ⟨Ba, 0, none⟩ = some (.slice Aa n ca)) (cx_ : w.cell? ⟨Bx, 0, none⟩ = some (.slice Ax n cx)) (hf : Hid (FewL x a)) (hp : Hid (IxL n p)) :
    Calls Try.prog 85 #[.slice A n c, .pointer (some ⟨Ba, 0, none⟩), .pointer (some ⟨Bx, 0, none⟩)] w fun r w' => r = .returned (.int .i64 (prodTo a x p n)) ∧ ∃ q, w' = w.drewN q := by
  have hlx := hide hx.len
  have hm := ha.most; have hcap := ha.cap; have hm1 := h.most; have hcap1 := h.cap; have hm2 := hx.most; have hcap2 := hx.cap
  go_enter Try.func85, Try.ntmps85
  go_wp2_with fail
  go_loopw [10, 5] (fun i v wr => ∃ (k : Nat) (z : Int), k ≤ n ∧ i = .int .i64 k ∧ v = .int .i64 z ∧ Hid (z = prodTo a x p k) ∧ ∃ q, wr = w.drewN q) (fun i _ _ => n - (intOf i).toNat)
  case atStart => exact ⟨0, 1, Nat.zero_le _, rfl, rfl, hide rfl, 0, rfl⟩
  case round =>
    obtain ⟨k, z, hk, rfl, rfl, hz, q, rfl⟩ := hrel
    by_cases hlt : k < n
    · obtain ⟨b1, o1, rfl, _, c1⟩ := ha.at_ k hlt
      obtain ⟨b2, o2, rfl, _, c2⟩ := h.at_ k hlt
      obtain ⟨hi1, hi2⟩ := hp.out.ix k hlt
      obtain ⟨j, hj⟩ : ∃ j : Nat, nth p k = j := ⟨(nth p k).toNat, by omega⟩
      rw [hj] at c2 hi1 hi2
      have hjn : j < n := by omega
      obtain ⟨b3, o3, rfl, _, c3⟩ := hx.at_ j hjn
      obtain ⟨e, he⟩ : ∃ e : Nat, nth x j = e := ⟨(nth x j).toNat, by have := (hf.out.ex j).1; omega⟩
      rw [he] at c3
      have he6 : e ≤ 6 := by have := (hf.out.ex j).2; omega
      obtain ⟨ha1, ha5⟩ := hf.out.ba k (by rw [hf.out.same, hlx.out]; exact hlt)
      obtain ⟨bb, hbb⟩ : ∃ bb, nth a k = bb := ⟨_, rfl⟩
      rw [hbb] at c1 ha1 ha5
      obtain ⟨v, hv⟩ : ∃ v, pwr bb e = v := ⟨_, rfl⟩
      obtain ⟨pp, hpp⟩ : ∃ pp, z * v = pp := ⟨_, rfl⟩
      have hp2 := hide (show pp = prodTo a x p (k + 1) from by rw [← hpp, ← hv, hz.out, prodTo, hj, hbb, Int.toNat_natCast, he, Int.toNat_natCast])
      obtain ⟨l1, l2⟩ := hf.out.prod_le (p := p) (k := k + 1) (by rw [hlx.out]; exact hlt)
      rw [← hp2.out] at l1 l2
      have hra := fun W => raise_any bb e W ha1 ha5 he6
      rw [hv] at hra
      clear hv hj he hbb
      go_wp2_with fail
      go_big_quiet (exact (hra _).mono fun _ _ ⟨e1, e2⟩ => ⟨e1, _, e2⟩)
      trace_state
      go_wp2_with fail
      go_roundw
      case rel => exact ⟨k + 1, pp, by omega, by go_num, rfl, hp2, (by first | exact ⟨_, rfl⟩ | exact quiet_q _ _ _)⟩
      case measure => simp [intOf]; omega
    · obtain rfl : k = n := by omega
      go_wp2_with fail
      go_ret
      exact ⟨by rw [hz.out]; rfl, q, rfl⟩
end Go.Proofs.Ytmpdalcdkibgpaa
