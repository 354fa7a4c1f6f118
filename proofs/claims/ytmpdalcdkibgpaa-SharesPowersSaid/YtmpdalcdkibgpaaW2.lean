import Derived.Test.YtmpdalcdkibgpaaW1
namespace Go.Proofs.Ytmpdalcdkibgpaa
open Go.RowKit

theorem Ints.drewN {w : World} {B n c : Nat} {A : Option Addr} {xs : List Int} (h : Ints w B A n c xs) (k : Nat) : Ints (w.drewN k) B A n c xs := ⟨h.len, h.cap, h.most, h.bare, h.at_⟩

theorem quiet_q (w : World) (a b : Nat) : ∃ r, (w.drewN a).drewN b = w.drewN r := ⟨a + b, World.drewN_drewN _ _ _⟩

def isFal (xs : List Int) : Bool := decide (∀ j, j < xs.length → 1 ≤ j → nth xs j ≤ nth xs (j - 1))
def FalTo (xs : List Int) (k : Nat) : Prop := ∀ j, j < k → 1 ≤ j → nth xs j ≤ nth xs (j - 1)
theorem isFal_no {xs : List Int} {k : Nat} (h1 : 1 ≤ k) (hk : k < xs.length) (h : nth xs (k - 1) < nth xs k) : isFal xs = false := by
  rw [isFal, decide_eq_false_iff_not]; intro hc; have := hc k hk h1; omega
theorem isFal_yes {xs : List Int} {k : Nat} (hk : xs.length ≤ k) (h : FalTo xs k) : isFal xs = true := by
  rw [isFal, decide_eq_true_eq]; intro j hj h1; exact h j (by omega) h1
theorem FalTo.step {xs : List Int} {k : Nat} (h : FalTo xs k) (h2 : nth xs k ≤ nth xs (k - 1)) : FalTo xs (k + 1) := by
  intro j hj h1
  rcases Nat.lt_or_ge j k with hlt | hge
  · exact h j hlt h1
  · have e : j = k := by omega
    subst e; exact h2

def pre (xs : List Int) : Nat → Int
  | 0 => 0
  | k + 1 => pre xs k + nth xs k
def Small (m : Int) (xs : List Int) : Prop := ∀ j, 0 ≤ nth xs j ∧ nth xs j ≤ m
theorem allIn_small {xs : List Int} (h : allIn 0 20 xs = true) : Small 20 xs := by
  intro j
  simp only [allIn, List.all_eq_true, Bool.and_eq_true, decide_eq_true_eq] at h
  rcases Nat.lt_or_ge j xs.length with hlt | hge
  · have := h (nth xs j) (by simp [nth, List.getD, hlt])
    exact this
  · simp [nth, List.getD, List.getElem?_eq_none hge]
theorem pre_bd {m : Int} {xs : List Int} (h : Small m xs) : ∀ k, 0 ≤ pre xs k ∧ pre xs k ≤ m * k := by
  intro k
  induction k with
  | zero => simp [pre]
  | succ k ih =>
    have := h k
    simp only [pre]
    rw [show m * ((k + 1 : Nat) : Int) = m * k + m from by rw [Int.natCast_add, Int.mul_add]; simp]
    omega
def domB (xs ys : List Int) : Bool := decide (∀ k, k < xs.length → pre ys (k + 1) ≤ pre xs (k + 1)) && decide (pre xs xs.length = pre ys xs.length)
def DomTo (xs ys : List Int) (n : Nat) : Prop := ∀ k, k < n → pre ys (k + 1) ≤ pre xs (k + 1)
theorem domB_no {xs ys : List Int} {k : Nat} (hk : k < xs.length) (h : pre xs (k + 1) < pre ys (k + 1)) : domB xs ys = false := by
  rw [domB, Bool.and_eq_false_iff, decide_eq_false_iff_not]; left; intro hc; have := hc k hk; omega
theorem domB_yes {xs ys : List Int} (h : DomTo xs ys xs.length) : domB xs ys = decide (pre xs xs.length - pre ys xs.length = 0) := by
  have : decide (∀ k, k < xs.length → pre ys (k + 1) ≤ pre xs (k + 1)) = true := by rw [decide_eq_true_eq]; exact h
  rw [domB, this, Bool.true_and, decide_eq_decide]; omega
theorem DomTo.step {xs ys : List Int} {k : Nat} (h : DomTo xs ys k) (h2 : pre ys (k + 1) ≤ pre xs (k + 1)) : DomTo xs ys (k + 1) := by
  intro j hj
  rcases Nat.lt_or_ge j k with hlt | hge
  · exact h j hlt
  · have e : j = k := by omega
    subst e; exact h2

set_option maxHeartbeats 400000 in
theorem isFalling_any (A : Option Addr) (n c : Nat) (xs : List Int) (w : World) (B : Nat) (h : Ints w B A n c xs) :
    Calls Try.prog 65 #[.slice A n c] w fun e w' => e = .returned (.bool (isFal xs)) ∧ ∃ q, w' = w.drewN q := by
  have hm := h.most; have hcap := h.cap
  have hl := hide h.len
  go_enter Try.func65, Try.ntmps65
  go_wp2
  go_loopw [3] (fun i wr => ∃ k : Nat, 1 ≤ k ∧ i = .int .i64 k ∧ FalTo xs k ∧ (k ≤ n ∨ n = 0) ∧ ∃ q, wr = w.drewN q) (fun i _ => n - (intOf i).toNat)
  case atStart => exact ⟨1, Nat.le_refl _, rfl, (by intro j h1 h2; omega), by omega, 0, rfl⟩
  case round =>
    obtain ⟨k, hk, rfl, hall, hkn, q, rfl⟩ := hrel
    have HA : Hid _ := hall
    clear hall
    by_cases hlt : k < n
    · obtain ⟨b, off, rfl, hb, hc⟩ := h.at_ k hlt
      obtain ⟨b1, off1, e1, hb1, hc1⟩ := h.at_ (k - 1) (by omega)
      simp only [Option.some.injEq, Addr.mk.injEq, true_and, and_true] at e1
      obtain ⟨rfl, rfl⟩ := e1
      go_wp2
      go_quiet (fail)
      go_wp2
      · go_ret
        have hlt2 : nth xs (k - 1) < nth xs k := by assumption
        exact ⟨ret_bool (isFal_no hk (by rw [hl.out]; exact hlt) hlt2).symm, (by first | exact ⟨_, rfl⟩ | exact quiet_q _ _ _)⟩
      · have hle : nth xs k ≤ nth xs (k - 1) := by assumption
        have HB := hide (FalTo.step (unhide HA) hle)
        go_roundw
        case rel => exact ⟨k + 1, by omega, by go_num, unhide HB, by omega, (by first | exact ⟨_, rfl⟩ | exact quiet_q _ _ _)⟩
        case measure => simp [intOf]; omega
    · go_wp2
      go_ret
      exact ⟨ret_bool (isFal_yes (by rw [hl.out]; omega) (unhide HA)).symm, (by first | exact ⟨_, rfl⟩ | exact quiet_q _ _ _)⟩

set_option maxHeartbeats 400000 in
theorem Falling_any (A : Option Addr) (n c : Nat) (xs : List Int) (w : World) (B : Nat) (h : Ints w B A n c xs) :
    Calls Try.prog 28 #[.slice A n c] w fun e w' => e = .returned (.bool (isFal xs)) ∧ ∃ q, w' = w.drewN q := by
  have hm := h.most; have hcap := h.cap
  have hl := hide h.len
  go_enter Try.func28, Try.ntmps28
  go_wp2
  go_loopw [3] (fun i wr => ∃ k : Nat, 1 ≤ k ∧ i = .int .i64 k ∧ FalTo xs k ∧ (k ≤ n ∨ n = 0) ∧ ∃ q, wr = w.drewN q) (fun i _ => n - (intOf i).toNat)
  case atStart => exact ⟨1, Nat.le_refl _, rfl, (by intro j h1 h2; omega), by omega, 0, rfl⟩
  case round =>
    obtain ⟨k, hk, rfl, hall, hkn, q, rfl⟩ := hrel
    have HA : Hid _ := hall
    clear hall
    by_cases hlt : k < n
    · obtain ⟨b, off, rfl, hb, hc⟩ := h.at_ k hlt
      obtain ⟨b1, off1, e1, hb1, hc1⟩ := h.at_ (k - 1) (by omega)
      simp only [Option.some.injEq, Addr.mk.injEq, true_and, and_true] at e1
      obtain ⟨rfl, rfl⟩ := e1
      go_wp2
      go_quiet (fail)
      go_wp2
      · go_ret
        have hlt2 : nth xs (k - 1) < nth xs k := by assumption
        exact ⟨ret_bool (isFal_no hk (by rw [hl.out]; exact hlt) hlt2).symm, (by first | exact ⟨_, rfl⟩ | exact quiet_q _ _ _)⟩
      · have hle : nth xs k ≤ nth xs (k - 1) := by assumption
        have HB := hide (FalTo.step (unhide HA) hle)
        go_roundw
        case rel => exact ⟨k + 1, by omega, by go_num, unhide HB, by omega, (by first | exact ⟨_, rfl⟩ | exact quiet_q _ _ _)⟩
        case measure => simp [intOf]; omega
    · go_wp2
      go_ret
      exact ⟨ret_bool (isFal_yes (by rw [hl.out]; omega) (unhide HA)).symm, (by first | exact ⟨_, rfl⟩ | exact quiet_q _ _ _)⟩

set_option maxHeartbeats 400000 in
theorem dominates_any (A A' : Option Addr) (n c c' : Nat) (xs ys : List Int) (w : World) (B B' : Nat) (h : Ints w B A n c xs) (h' : Ints w B' A' n c' ys) (hx : Hid (Small 20 xs)) (hy : Hid (Small 20 ys)) (hn : n ≤ 100) :
    Calls Try.prog 60 #[.slice A n c, .slice A' n c'] w fun e w' => e = .returned (.bool (domB xs ys)) ∧ ∃ q, w' = w.drewN q := by
  have hm := h.most; have hcap := h.cap
  have hl := hide h.len; have hl' := hide h'.len
  go_enter Try.func60, Try.ntmps60
  go_wp2
  go_loopw [9, 5] (fun i a wr => ∃ k : Nat, k ≤ n ∧ i = .int .i64 k ∧ a = .int .i64 (pre xs k - pre ys k) ∧ DomTo xs ys k ∧ ∃ q, wr = w.drewN q) (fun i _ _ => n - (intOf i).toNat)
  case atStart => exact ⟨0, Nat.zero_le _, rfl, rfl, (by intro j h1; omega), 0, rfl⟩
  case round =>
    obtain ⟨k, hk, rfl, rfl, hall, q, rfl⟩ := hrel
    have HA : Hid _ := hall
    clear hall
    have p1 := pre_bd (unhide hx) k; have p2 := pre_bd (unhide hy) k
    have p3 := pre_bd (unhide hx) (k + 1); have p4 := pre_bd (unhide hy) (k + 1)
    have p5 := (unhide hx) k; have p6 := (unhide hy) k
    obtain ⟨p1a, p1b⟩ := p1; obtain ⟨p2a, p2b⟩ := p2; obtain ⟨p3a, p3b⟩ := p3; obtain ⟨p4a, p4b⟩ := p4; obtain ⟨p5a, p5b⟩ := p5; obtain ⟨p6a, p6b⟩ := p6
    by_cases hlt : k < n
    · obtain ⟨b, off, rfl, hb, hc⟩ := h.at_ k hlt
      obtain ⟨b1, off1, rfl, hb1, hc1⟩ := h'.at_ k hlt
      have hs1 := hide (show pre xs (k + 1) = pre xs k + nth xs k from rfl)
      have hs2 := hide (show pre ys (k + 1) = pre ys k + nth ys k from rfl)
      go_wp2
      go_quiet (fail)
      go_wp2
      · go_ret
        have hlt2 : pre xs k - pre ys k + (nth xs k - nth ys k) < 0 := by assumption
        exact ⟨ret_bool (domB_no (by rw [hl.out]; exact hlt) (by rw [hs1.out, hs2.out]; omega)).symm, (by first | exact ⟨_, rfl⟩ | exact quiet_q _ _ _)⟩
      · have hle : 0 ≤ pre xs k - pre ys k + (nth xs k - nth ys k) := by assumption
        have HB := hide (DomTo.step (unhide HA) (by rw [hs1.out, hs2.out]; omega))
        go_roundw
        case rel => exact ⟨k + 1, by omega, by go_num, by rw [hs1.out, hs2.out]; go_num, unhide HB, (by first | exact ⟨_, rfl⟩ | exact quiet_q _ _ _)⟩
        case measure => simp [intOf]; omega
    · go_wp2
      go_ret
      obtain rfl : k = n := by omega
      have HB := unhide HA
      exact ⟨ret_bool (by rw [domB_yes (by rw [hl.out]; exact HB), hl.out]; rfl), (by first | exact ⟨_, rfl⟩ | exact quiet_q _ _ _)⟩

end Go.Proofs.Ytmpdalcdkibgpaa
