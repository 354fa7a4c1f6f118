/-
  Of package shares: what is falling, compared, turned over.
-/
import Derived.Test.YtjhicbiacnkpaaaDoorO2
import Derived.Test.YtjhicbiacnkpaaaDoorM1
import Derived.Test.YtjhicbiacnkpaaaDoorW2
namespace Go.Proofs.YtjhicbiacnkpaaaDoor
open Go.RowKit

def allIn (lo hi : Int) (xs : List Int) : Bool := xs.all fun v => decide (lo ≤ v) && decide (v ≤ hi)
theorem take_snoc (xs : List Int) (k : Nat) (h : k < xs.length) : xs.take (k + 1) = xs.take k ++ [nth xs k] := by
  rw [List.take_succ_eq_append_getElem h]; simp [nth, List.getD, h]
theorem allIn_snoc (lo hi : Int) (xs : List Int) (k : Nat) (h : k < xs.length) : allIn lo hi (xs.take (k + 1)) = (allIn lo hi (xs.take k) && (decide (lo ≤ nth xs k) && decide (nth xs k ≤ hi))) := by
  rw [take_snoc xs k h]; simp [allIn]
theorem allIn_no (lo hi : Int) (xs : List Int) (k : Nat) (h : k < xs.length) (hn : nth xs k < lo ∨ hi < nth xs k) : allIn lo hi xs = false := by
  rw [Bool.eq_false_iff]; intro hc
  simp only [allIn, List.all_eq_true, Bool.and_eq_true, decide_eq_true_eq] at hc
  have := hc (nth xs k) (by simp [nth, List.getD, h])
  omega
set_option maxHeartbeats 400000 in
theorem allWithin_any (A : Option Addr) (n c : Nat) (xs : List Int) (lo hi : Int) (w : World) (B : Nat) (h : Ints w B A n c xs) :
    Calls Tryd.prog 128 #[.slice A n c, .int .i64 lo, .int .i64 hi] w fun e w' => e = .returned (.bool (allIn lo hi xs)) ∧ w = w' := by
  have hm := h.most; have hcap := h.cap
  
  go_enter Tryd.func128, Tryd.ntmps128
  go_wp2
  go_loop [11] (fun i => ∃ k : Nat, k ≤ n ∧ i = .int .i64 k ∧ allIn lo hi (xs.take k) = true) (fun i => n - (intOf i).toNat)
  case atStart => exact ⟨0, Nat.zero_le _, rfl, by simp [allIn]⟩
  case round =>
    obtain ⟨k, hk, rfl, hall⟩ := hrel
    have HA : Hid _ := hall
    clear hall
    by_cases hlt : k < n
    · obtain ⟨b, off, rfl, hb, hc⟩ := h.at_ k hlt
      have hkl : k < xs.length := by have := h.len; omega
      have HS := hide (allIn_snoc lo hi xs k hkl)
      go_wp2
      all_goals first
        | (go_ret
           exact ⟨ret_bool (allIn_no lo hi xs k hkl (by omega)).symm, rfl⟩)
        | (go_round
           case rel => exact ⟨k + 1, by omega, by go_num, by rw [HS.out, HA.out]; simp; omega⟩
           case measure => simp [intOf]; omega)
    · go_wp2
      go_ret
      have hkn : k = xs.length := by have := h.len; omega
      have HB := HA.out
      rw [hkn, List.take_length] at HB
      exact ⟨ret_bool HB.symm, rfl⟩

def isSh (xs : List Int) : Bool := decide (1 ≤ xs.length) && decide (xs.length ≤ 6) && allIn 0 20 xs
def areSh (xs ys : List Int) : Bool := isSh xs && isSh ys && decide (xs.length = ys.length)

set_option maxHeartbeats 400000 in
theorem isShares_any (A : Option Addr) (n c : Nat) (xs : List Int) (w : World) (B : Nat) (h : Ints w B A n c xs) :
    Calls Tryd.prog 111 #[.slice A n c] w fun e w' => e = .returned (.bool (isSh xs)) ∧ w = w' := by
  have hm := h.most; have hcap := h.cap
  have hl := hide h.len
  by_cases h1 : 1 ≤ n
  · by_cases h2 : n ≤ 6
    · go_enter Tryd.func111, Tryd.ntmps111
      go_wp2_with (go_at_call 128; refine (allWithin_any _ _ _ _ _ _ _ _ h).mono ?_; rintro e w' ⟨rfl, rfl⟩)
      go_ret
      exact ⟨ret_bool (by simp [isSh, hl.out, h1, h2]), rfl⟩
    · go_enter Tryd.func111, Tryd.ntmps111
      go_wp2_with fail
      go_ret
      exact ⟨ret_bool (by simp [isSh, hl.out, h1, h2]), rfl⟩
  · go_enter Tryd.func111, Tryd.ntmps111
    go_wp2_with fail
    go_ret
    exact ⟨ret_bool (by simp [isSh, hl.out, h1]), rfl⟩

theorem isShares_is (A : Option Addr) (n c : Nat) (xs : List Int) (w : World) (B : Nat) (h : Ints w B A n c xs) (b : Bool) (hb : Hid (isSh xs = b)) :
    Calls Tryd.prog 111 #[.slice A n c] w fun e w' => e = .returned (.bool b) ∧ w = w' :=
  (isShares_any A n c xs w B h).mono fun _ _ ⟨he, hw⟩ => ⟨by rw [he, hb.out], hw⟩

set_option maxHeartbeats 400000 in
theorem areComparable_any (A A' : Option Addr) (n c n' c' : Nat) (xs ys : List Int) (w : World) (B B' : Nat) (h : Ints w B A n c xs) (h' : Ints w B' A' n' c' ys) :
    Calls Tryd.prog 94 #[.slice A n c, .slice A' n' c'] w fun e w' => e = .returned (.bool (areSh xs ys)) ∧ w = w' := by
  have hm := h.most; have hcap := h.cap; have hm' := h'.most; have hcap' := h'.cap
  have hl := hide h.len; have hl' := hide h'.len
  rcases hx : isSh xs
  · have HX := hide hx; clear hx
    go_enter Tryd.func94, Tryd.ntmps94
    go_wp2_with (go_at_call 111; refine (isShares_is _ _ _ _ _ _ h _ HX).mono ?_; rintro e w' ⟨rfl, rfl⟩)
    go_ret
    exact ⟨ret_bool (by simp [areSh, HX.out]), rfl⟩
  have HX := hide hx; clear hx
  rcases hy : isSh ys
  · have HY := hide hy; clear hy
    go_enter Tryd.func94, Tryd.ntmps94
    go_wp2_with fail
    refine (isShares_is _ _ _ _ _ _ h _ HX).mono ?_; rintro e w' ⟨rfl, rfl⟩
    go_wp2_with fail
    refine (isShares_is _ _ _ _ _ _ h' _ HY).mono ?_; rintro e w' ⟨rfl, rfl⟩
    go_wp2_with fail
    go_ret
    exact ⟨ret_bool (by simp [areSh, HY.out]), rfl⟩
  have HY := hide hy; clear hy
  by_cases hn : n = n'
  · subst hn
    go_enter Tryd.func94, Tryd.ntmps94
    go_wp2_with fail
    refine (isShares_is _ _ _ _ _ _ h _ HX).mono ?_; rintro e w' ⟨rfl, rfl⟩
    go_wp2_with fail
    refine (isShares_is _ _ _ _ _ _ h' _ HY).mono ?_; rintro e w' ⟨rfl, rfl⟩
    go_wp2_with fail
    go_ret
    exact ⟨ret_bool (by simp [areSh, HX.out, HY.out, hl.out, hl'.out]), rfl⟩
  · have e1 : ((n : Int) == (n' : Int)) = false := by simp; omega
    go_enter Tryd.func94, Tryd.ntmps94
    go_wp2_with fail
    refine (isShares_is _ _ _ _ _ _ h _ HX).mono ?_; rintro e w' ⟨rfl, rfl⟩
    go_wp2_with fail
    refine (isShares_is _ _ _ _ _ _ h' _ HY).mono ?_; rintro e w' ⟨rfl, rfl⟩
    go_wp2_with fail
    go_ret
    exact ⟨ret_bool (by simp [areSh, HX.out, HY.out, hl.out, hl'.out, hn]), rfl⟩

def isFal (xs : List Int) : Bool := decide (∀ j, j < xs.length → 1 ≤ j → nth xs j ≤ nth xs (j - 1))
def FalTo (xs : List Int) (k : Nat) : Prop := ∀ j, j < k → 1 ≤ j → nth xs j ≤ nth xs (j - 1)
theorem isFal_no {xs : List Int} {k : Nat} (h1 : 1 ≤ k) (hk : k < xs.length) (h : nth xs (k - 1) < nth xs k) : isFal xs = false := by
  rw [isFal, decide_eq_false_iff_not]; intro hc; have := hc k hk h1; omega
theorem isFal_yes {xs : List Int} {k : Nat} (hk : xs.length ≤ k) (h : FalTo xs k) : isFal xs = true := by
  rw [isFal, decide_eq_true_eq]; intro j hj h1; exact h j (by omega) h1
theorem FalTo.step {xs : List Int} {k : Nat} (h : FalTo xs k) (h2 : nth xs k ≤ nth xs (k - 1)) : FalTo xs (k + 1) := by
  intro j hj h1
  rcases Nat.lt_or_ge j k with hlt | hge
  · exact h j hlt h1
  · have e : j = k := by omega
    subst e; exact h2

def pre (xs : List Int) : Nat → Int
  | 0 => 0
  | k + 1 => pre xs k + nth xs k
def Small (m : Int) (xs : List Int) : Prop := ∀ j, 0 ≤ nth xs j ∧ nth xs j ≤ m
theorem allIn_small {xs : List Int} (h : allIn 0 20 xs = true) : Small 20 xs := by
  intro j
  simp only [allIn, List.all_eq_true, Bool.and_eq_true, decide_eq_true_eq] at h
  rcases Nat.lt_or_ge j xs.length with hlt | hge
  · have := h (nth xs j) (by simp [nth, List.getD, hlt])
    exact this
  · simp [nth, List.getD, List.getElem?_eq_none hge]
theorem pre_bd {m : Int} {xs : List Int} (h : Small m xs) : ∀ k, 0 ≤ pre xs k ∧ pre xs k ≤ m * k := by
  intro k
  induction k with
  | zero => simp [pre]
  | succ k ih =>
    have := h k
    simp only [pre]
    rw [show m * ((k + 1 : Nat) : Int) = m * k + m from by rw [Int.natCast_add, Int.mul_add]; simp]
    omega
def domB (xs ys : List Int) : Bool := decide (∀ k, k < xs.length → pre ys (k + 1) ≤ pre xs (k + 1)) && decide (pre xs xs.length = pre ys xs.length)
def DomTo (xs ys : List Int) (n : Nat) : Prop := ∀ k, k < n → pre ys (k + 1) ≤ pre xs (k + 1)
theorem domB_no {xs ys : List Int} {k : Nat} (hk : k < xs.length) (h : pre xs (k + 1) < pre ys (k + 1)) : domB xs ys = false := by
  rw [domB, Bool.and_eq_false_iff, decide_eq_false_iff_not]; left; intro hc; have := hc k hk; omega
theorem domB_yes {xs ys : List Int} (h : DomTo xs ys xs.length) : domB xs ys = decide (pre xs xs.length - pre ys xs.length = 0) := by
  have : decide (∀ k, k < xs.length → pre ys (k + 1) ≤ pre xs (k + 1)) = true := by rw [decide_eq_true_eq]; exact h
  rw [domB, this, Bool.true_and, decide_eq_decide]; omega
theorem DomTo.step {xs ys : List Int} {k : Nat} (h : DomTo xs ys k) (h2 : pre ys (k + 1) ≤ pre xs (k + 1)) : DomTo xs ys (k + 1) := by
  intro j hj
  rcases Nat.lt_or_ge j k with hlt | hge
  · exact h j hlt
  · have e : j = k := by omega
    subst e; exact h2

set_option maxHeartbeats 400000 in
theorem isFalling_any (A : Option Addr) (n c : Nat) (xs : List Int) (w : World) (B : Nat) (h : Ints w B A n c xs) :
    Calls Tryd.prog 110 #[.slice A n c] w fun e w' => e = .returned (.bool (isFal xs)) ∧ ∃ q, w' = w.drewN q := by
  have hm := h.most; have hcap := h.cap
  have hl := hide h.len
  go_enter Tryd.func110, Tryd.ntmps110
  go_wp2
  go_loopw [3] (fun i wr => ∃ k : Nat, 1 ≤ k ∧ i = .int .i64 k ∧ FalTo xs k ∧ (k ≤ n ∨ n = 0) ∧ ∃ q, wr = w.drewN q) (fun i _ => n - (intOf i).toNat)
  case atStart => exact ⟨1, Nat.le_refl _, rfl, (by intro j h1 h2; omega), by omega, 0, rfl⟩
  case round =>
    obtain ⟨k, hk, rfl, hall, hkn, q, rfl⟩ := hrel
    have HA : Hid _ := hall
    clear hall
    by_cases hlt : k < n
    · obtain ⟨b, off, rfl, hb, hc⟩ := h.at_ k hlt
      obtain ⟨b1, off1, e1, hb1, hc1⟩ := h.at_ (k - 1) (by omega)
      simp only [Option.some.injEq, Addr.mk.injEq, true_and, and_true] at e1
      obtain ⟨rfl, rfl⟩ := e1
      go_wp2
      go_quiet (fail)
      go_wp2
      · go_ret
        have hlt2 : nth xs (k - 1) < nth xs k := by assumption
        exact ⟨ret_bool (isFal_no hk (by rw [hl.out]; exact hlt) hlt2).symm, (by first | exact ⟨_, rfl⟩ | exact quiet_q _ _ _)⟩
      · have hle : nth xs k ≤ nth xs (k - 1) := by assumption
        have HB := hide (FalTo.step (unhide HA) hle)
        go_roundw
        case rel => exact ⟨k + 1, by omega, by go_num, unhide HB, by omega, (by first | exact ⟨_, rfl⟩ | exact quiet_q _ _ _)⟩
        case measure => simp [intOf]; omega
    · go_wp2
      go_ret
      exact ⟨ret_bool (isFal_yes (by rw [hl.out]; omega) (unhide HA)).symm, (by first | exact ⟨_, rfl⟩ | exact quiet_q _ _ _)⟩

set_option maxHeartbeats 400000 in
theorem dominates_any (A A' : Option Addr) (n c c' : Nat) (xs ys : List Int) (w : World) (B B' : Nat) (h : Ints w B A n c xs) (h' : Ints w B' A' n c' ys) (hx : Hid (Small 20 xs)) (hy : Hid (Small 20 ys)) (hn : n ≤ 100) :
    Calls Tryd.prog 95 #[.slice A n c, .slice A' n c'] w fun e w' => e = .returned (.bool (domB xs ys)) ∧ ∃ q, w' = w.drewN q := by
  have hm := h.most; have hcap := h.cap
  have hl := hide h.len; have hl' := hide h'.len
  go_enter Tryd.func95, Tryd.ntmps95
  go_wp2
  go_loopw [9, 5] (fun i a wr => ∃ k : Nat, k ≤ n ∧ i = .int .i64 k ∧ a = .int .i64 (pre xs k - pre ys k) ∧ DomTo xs ys k ∧ ∃ q, wr = w.drewN q) (fun i _ _ => n - (intOf i).toNat)
  case atStart => exact ⟨0, Nat.zero_le _, rfl, rfl, (by intro j h1; omega), 0, rfl⟩
  case round =>
    obtain ⟨k, hk, rfl, rfl, hall, q, rfl⟩ := hrel
    have HA : Hid _ := hall
    clear hall
    have p1 := pre_bd (unhide hx) k; have p2 := pre_bd (unhide hy) k
    have p3 := pre_bd (unhide hx) (k + 1); have p4 := pre_bd (unhide hy) (k + 1)
    have p5 := (unhide hx) k; have p6 := (unhide hy) k
    obtain ⟨p1a, p1b⟩ := p1; obtain ⟨p2a, p2b⟩ := p2; obtain ⟨p3a, p3b⟩ := p3; obtain ⟨p4a, p4b⟩ := p4; obtain ⟨p5a, p5b⟩ := p5; obtain ⟨p6a, p6b⟩ := p6
    by_cases hlt : k < n
    · obtain ⟨b, off, rfl, hb, hc⟩ := h.at_ k hlt
      obtain ⟨b1, off1, rfl, hb1, hc1⟩ := h'.at_ k hlt
      have hs1 := hide (show pre xs (k + 1) = pre xs k + nth xs k from rfl)
      have hs2 := hide (show pre ys (k + 1) = pre ys k + nth ys k from rfl)
      go_wp2
      go_quiet (fail)
      go_wp2
      · go_ret
        have hlt2 : pre xs k - pre ys k + (nth xs k - nth ys k) < 0 := by assumption
        exact ⟨ret_bool (domB_no (by rw [hl.out]; exact hlt) (by rw [hs1.out, hs2.out]; omega)).symm, (by first | exact ⟨_, rfl⟩ | exact quiet_q _ _ _)⟩
      · have hle : 0 ≤ pre xs k - pre ys k + (nth xs k - nth ys k) := by assumption
        have HB := hide (DomTo.step (unhide HA) (by rw [hs1.out, hs2.out]; omega))
        go_roundw
        case rel => exact ⟨k + 1, by omega, by go_num, by rw [hs1.out, hs2.out]; go_num, unhide HB, (by first | exact ⟨_, rfl⟩ | exact quiet_q _ _ _)⟩
        case measure => simp [intOf]; omega
    · go_wp2
      go_ret
      obtain rfl : k = n := by omega
      have HB := unhide HA
      exact ⟨ret_bool (by rw [domB_yes (by rw [hl.out]; exact HB), hl.out]; rfl), (by first | exact ⟨_, rfl⟩ | exact quiet_q _ _ _)⟩


def partsOk (xs : List Int) : Bool := isFal xs && allIn 1 12 xs && decide (pre xs xs.length ≤ 12)
/-- The sum of parts, 0: the list is none. -/
def parts (xs : List Int) : Int := if partsOk xs = true then pre xs xs.length else 0

def PosTo (xs : List Int) (k : Nat) : Prop := ∀ t, t < k → 1 ≤ nth xs t
theorem PosTo.step {xs : List Int} {k : Nat} (h : PosTo xs k) (h2 : 1 ≤ nth xs k) : PosTo xs (k + 1) := by
  intro j hj
  rcases Nat.lt_or_ge j k with hlt | hge
  · exact h j hlt
  · have e : j = k := by omega
    subst e; exact h2
theorem allIn_nth {lo hi : Int} {xs : List Int} (h : allIn lo hi xs = true) {k : Nat} (hk : k < xs.length) : lo ≤ nth xs k ∧ nth xs k ≤ hi := by
  simp only [allIn, List.all_eq_true, Bool.and_eq_true, decide_eq_true_eq] at h
  exact h _ (nth_mem hk)
theorem allIn_of {lo hi : Int} {xs : List Int} (h : ∀ k, k < xs.length → lo ≤ nth xs k ∧ nth xs k ≤ hi) : allIn lo hi xs = true := by
  simp only [allIn, List.all_eq_true, Bool.and_eq_true, decide_eq_true_eq]
  intro x hx
  obtain ⟨k, hk, rfl⟩ := List.getElem_of_mem hx
  have := h k hk
  simpa [nth, List.getD, hk] using this
theorem pre_pos {xs : List Int} {k : Nat} (h : PosTo xs k) : (k : Int) ≤ pre xs k := by
  induction k with
  | zero => simp [pre]
  | succ k ih =>
    have h1 := ih fun t ht => h t (by omega)
    have h2 := h k (by omega)
    simp only [pre]; omega
theorem pre_mono {xs : List Int} {n : Nat} (h : PosTo xs n) : ∀ {k : Nat}, k ≤ n → pre xs k ≤ pre xs n := by
  induction n with
  | zero => intro k hk; obtain rfl : k = 0 := by omega
            omega
  | succ n ih =>
    intro k hk
    rcases Nat.lt_or_ge k (n + 1) with hlt | hge
    · have h1 := ih (fun t ht => h t (by omega)) (k := k) (by omega)
      have h2 := h n (by omega)
      simp only [pre]; omega
    · obtain rfl : k = n + 1 := by omega
      omega
theorem partsOk_pos {xs : List Int} (h : partsOk xs = true) : PosTo xs xs.length := by
  simp only [partsOk, Bool.and_eq_true, decide_eq_true_eq] at h
  exact fun t ht => (allIn_nth h.1.2 ht).1
theorem partsOk_sum {xs : List Int} (h : partsOk xs = true) : pre xs xs.length ≤ 12 := by
  simp only [partsOk, Bool.and_eq_true, decide_eq_true_eq] at h
  exact h.2
theorem partsOk_fal {xs : List Int} (h : partsOk xs = true) : isFal xs = true := by
  simp only [partsOk, Bool.and_eq_true, decide_eq_true_eq] at h
  exact h.1.1
theorem partsOk_len {xs : List Int} (h : partsOk xs = true) : xs.length ≤ 12 := by
  have h1 := pre_pos (partsOk_pos h); have h2 := partsOk_sum h
  omega
theorem partsOk_bd {xs : List Int} (h : partsOk xs = true) {k : Nat} (hk : k < xs.length) : 1 ≤ nth xs k ∧ nth xs k ≤ 12 := by
  simp only [partsOk, Bool.and_eq_true, decide_eq_true_eq] at h
  exact allIn_nth h.1.2 hk
theorem parts_fal {xs : List Int} (h : isFal xs = false) : parts xs = 0 := by simp [parts, partsOk, h]
theorem parts_low {xs : List Int} {k : Nat} (hk : k < xs.length) (h : nth xs k < 1) : parts xs = 0 := by
  rw [parts, if_neg]
  intro hc; have := partsOk_bd hc hk; omega
theorem parts_hi {xs : List Int} {k : Nat} (hk : k < xs.length) (h : 12 < nth xs k) : parts xs = 0 := by
  rw [parts, if_neg]
  intro hc; have := partsOk_bd hc hk; omega
theorem parts_over {xs : List Int} {k : Nat} (hk : k < xs.length) (h : 12 - pre xs k < nth xs k) : parts xs = 0 := by
  rw [parts, if_neg]
  intro hc
  have h1 := pre_mono (partsOk_pos hc) (k := k + 1) (by omega)
  have h2 := partsOk_sum hc
  simp only [pre] at h1
  omega
theorem parts_sum {xs : List Int} (h : 12 < pre xs xs.length) : parts xs = 0 := by
  rw [parts, if_neg]
  intro hc; have := partsOk_sum hc; omega
theorem parts_yes {xs : List Int} (h1 : isFal xs = true) (h2 : PosTo xs xs.length) (h3 : pre xs xs.length ≤ 12) : parts xs = pre xs xs.length := by
  rw [parts, if_pos]
  rw [partsOk, h1, Bool.true_and, Bool.and_eq_true, decide_eq_true_eq]
  refine ⟨allIn_of fun k hk => ⟨h2 k hk, ?_⟩, h3⟩
  have h4 := pre_mono h2 (k := k + 1) (by omega)
  have h5 := pre_pos (xs := xs) (k := k) fun t ht => h2 t (by omega)
  simp only [pre] at h4
  omega

theorem isFalling_is (A : Option Addr) (n c : Nat) (xs : List Int) (w : World) (B : Nat) (h : Ints w B A n c xs) (b : Bool) (hb : Hid (isFal xs = b)) :
    Calls Tryd.prog 110 #[.slice A n c] w fun e w' => e = .returned (.bool b) ∧ ∃ q, w' = w.drewN q :=
  (isFalling_any A n c xs w B h).mono fun _ _ ⟨he, hw⟩ => ⟨by rw [he, hb.out], hw⟩
set_option maxHeartbeats 800000 in
theorem sumOfParts_any (A : Option Addr) (n c : Nat) (xs : List Int) (w : World) (B : Nat) (h : Ints w B A n c xs) :
    Calls Tryd.prog 92 #[.slice A n c] w fun e w' => e = .returned (.int .i64 (parts xs)) ∧ ∃ q, w' = w.drewN q := by
  have hm := h.most; have hcap := h.cap
  have hl := hide h.len
  rcases hf : isFal xs
  · have HF := hide hf; clear hf
    go_enter Tryd.func92, Tryd.ntmps92
    go_wp2_with fail
    refine (isFalling_is _ _ _ _ _ _ h _ HF).mono ?_
    rintro e w1 ⟨rfl, q, rfl⟩
    go_wp2_with fail
    go_ret
    exact ⟨ret_int (parts_fal HF.out).symm, q, rfl⟩
  · have HF := hide hf; clear hf
    go_enter Tryd.func92, Tryd.ntmps92
    go_wp2_with fail
    refine (isFalling_is _ _ _ _ _ _ h _ HF).mono ?_
    rintro e w1 ⟨rfl, q, rfl⟩
    go_wp2_with fail
    go_loop [11, 3] (fun i s => ∃ k : Nat, k ≤ n ∧ i = .int .i64 k ∧ s = .int .i64 (pre xs k) ∧ PosTo xs k ∧ 0 ≤ pre xs k ∧ pre xs k ≤ 12) (fun i _ => n - (intOf i).toNat)
    case atStart => exact ⟨0, Nat.zero_le _, rfl, rfl, (by intro t ht; omega), by simp [pre], by simp [pre]⟩
    case round =>
      obtain ⟨k, hk, rfl, rfl, hp, h0, h12⟩ := hrel
      have HP := hide hp; clear hp
      by_cases hlt : k < n
      · obtain ⟨b, off, rfl, hb, hc⟩ := h.at_ k hlt
        have hkl := hide (show k < xs.length from by rw [hl.out]; exact hlt)
        have HS := hide (show pre xs (k + 1) = pre xs k + nth xs k from rfl)
        by_cases h1 : nth xs k < 1
        · go_wp2_with fail
          go_ret
          exact ⟨ret_int (parts_low hkl.out h1).symm, q, rfl⟩
        by_cases h2 : 12 - pre xs k < nth xs k
        · go_wp2_with fail
          go_ret
          exact ⟨ret_int (parts_over hkl.out h2).symm, q, rfl⟩
        have HP2 := hide ((unhide HP).step (by omega))
        go_wp2_with fail
        go_round
        case rel => exact ⟨k + 1, by omega, by go_num, by rw [HS.out], unhide HP2, by rw [HS.out]; omega, by rw [HS.out]; omega⟩
        case measure => simp [intOf]; omega
      · obtain rfl : k = n := by omega
        have HH := hide h12
        clear h12
        go_wp2_with fail
        go_ret
        exact ⟨ret_int (by rw [parts_yes HF.out (by rw [hl.out]; exact unhide HP) (by rw [hl.out]; exact HH.out), hl.out]), q, rfl⟩

theorem sumOfParts_is (A : Option Addr) (n c : Nat) (xs : List Int) (w : World) (B : Nat) (h : Ints w B A n c xs) (p : Int) (hp : Hid (parts xs = p)) :
    Calls Tryd.prog 92 #[.slice A n c] w fun e w' => e = .returned (.int .i64 p) ∧ ∃ q, w' = w.drewN q :=
  (sumOfParts_any A n c xs w B h).mono fun _ _ ⟨he, hw⟩ => ⟨by rw [he, hp.out], hw⟩
def cnt (xs : List Int) (i : Nat) : Nat → Int
  | 0 => 0
  | k + 1 => cnt xs i k + if (i : Int) < nth xs k then 1 else 0
theorem cnt_bd (xs : List Int) (i : Nat) : ∀ k : Nat, 0 ≤ cnt xs i k ∧ cnt xs i k ≤ k := by
  intro k
  induction k with
  | zero => simp [cnt]
  | succ k ih => simp only [cnt]; split <;> omega
def turnTo (xs : List Int) (k : Nat) : List Int := (List.range (nth xs 0).toNat).map fun i => cnt xs i k
/-- The parts turned over. -/
def turnF (xs : List Int) : List Int := turnTo xs xs.length
def turnIn (xs : List Int) (k j : Nat) : List Int := (List.range (nth xs 0).toNat).map fun i => cnt xs i k + if i < j then 1 else 0
theorem turnIn_zero (xs : List Int) (k : Nat) : turnIn xs k 0 = turnTo xs k := by simp [turnIn, turnTo]
theorem turnIn_all (xs : List Int) (k : Nat) : turnIn xs k (nth xs k).toNat = turnTo xs (k + 1) := by
  simp only [turnIn, turnTo, cnt]
  refine List.map_congr_left fun i _ => ?_
  by_cases h : (i : Int) < nth xs k
  · rw [if_pos h, if_pos (by omega)]
  · rw [if_neg h, if_neg (by omega)]
theorem turnIn_succ (xs : List Int) (k j : Nat) (hj : j < (nth xs 0).toNat) : turnIn xs k (j + 1) = (turnIn xs k j).set j (cnt xs j k + 1) := by
  apply List.ext_getElem
  · simp [turnIn]
  · intro i h1 h2
    simp only [turnIn, List.getElem_map, List.getElem_range, List.getElem_set]
    by_cases h : j = i
    · subst h; simp
    · rw [if_neg h]
      by_cases h3 : i < j
      · rw [if_pos (by omega), if_pos h3]
      · rw [if_neg (by omega), if_neg h3]
theorem turnIn_nth (xs : List Int) (k j : Nat) (hj : j < (nth xs 0).toNat) : nth (turnIn xs k j) j = cnt xs j k := by
  show (turnIn xs k j).getD j 0 = _
  rw [List.getD, turnIn, List.getElem?_map, List.getElem?_range hj]
  simp
theorem turnIn_length (xs : List Int) (k j : Nat) : (turnIn xs k j).length = (nth xs 0).toNat := by simp [turnIn]
theorem turnTo_length (xs : List Int) (k : Nat) : (turnTo xs k).length = (nth xs 0).toNat := by simp [turnTo]
theorem isFal_first {xs : List Int} (h : isFal xs = true) : ∀ {k : Nat}, k < xs.length → nth xs k ≤ nth xs 0 := by
  intro k
  induction k with
  | zero => intro _; omega
  | succ k ih =>
    intro hk
    rw [isFal, decide_eq_true_eq] at h
    have h1 := h (k + 1) hk (by omega)
    have h2 := ih (by omega)
    simp only [Nat.add_sub_cancel] at h1
    omega

theorem Owned.store {w : World} {base g n c : Nat} {xs : List Int} (h : Owned w base (.slice (some ⟨g, 0, none⟩) n c) xs) (hn : xs.length = n) (j : Nat) (z : Int) : Owned (w.setCell ⟨g, j, none⟩ (.int .i64 z)) base (.slice (some ⟨g, 0, none⟩) n c) (xs.set j z) := by
  unfold Owned at h ⊢
  rw [hn] at h
  have := (World.ownsRow.stored h j (.int .i64 z)).1
  rw [List.length_set, hn, List.map_set]
  exact this
theorem Owned.cell_ {w : World} {base g n c : Nat} {xs : List Int} (h : Owned w base (.slice (some ⟨g, 0, none⟩) n c) xs) (hn : xs.length = n) {j : Nat} (hj : j < n) : w.cell? ⟨g, j, none⟩ = some (.int .i64 (nth xs j)) := by
  unfold Owned at h
  rw [hn] at h
  rw [World.ownsRow.cellAt h j (by omega)]
  simp [nth, List.getD, show j < xs.length by omega]
theorem Owned.free_ {w : World} {base g n c : Nat} {xs : List Int} (h : Owned w base (.slice (some ⟨g, 0, none⟩) n c) xs) (hn : xs.length = n) (j : Nat) : w.frozen? ⟨g, j, none⟩ = false := by
  unfold Owned at h
  rw [hn] at h
  exact World.ownsRow.frozenAt h j
theorem made_zeros (n : Nat) : (madeCells (Value.int .i64 0).cells (n * 1)).toList = (List.replicate n (0 : Int)).map (Value.int .i64) := by
  apply List.ext_getElem
  · simp [madeCells]
  · intro i h1 h2
    simp [madeCells, Value.cells]
    rw [Nat.mod_one]
    rfl
theorem turnTo_start (xs : List Int) : turnTo xs 0 = List.replicate (nth xs 0).toNat 0 := by
  apply List.ext_getElem
  · simp [turnTo]
  · intro i h1 h2
    simp [turnTo, cnt]

set_option maxHeartbeats 800000 in
theorem turn_any (A : Option Addr) (n c : Nat) (xs : List Int) (w : World) (h : Ints w w.heap.size A n c xs) (hx : Hid (partsOk xs = true)) (hn1 : 1 ≤ n) :
    Calls Tryd.prog 93 #[.slice A n c] w fun e w' => ∃ v, e = .returned v ∧ Owned w' w.heap.size v (turnF xs) ∧ Below w.heap.size w w' := by
  have hl := hide h.len
  have hm := h.most; have hcap := h.cap
  obtain ⟨i0, hi0, hz0, hz1, hz2⟩ := info_parts info3
  obtain ⟨b, off, rfl, hb, hc0⟩ := h.at_ 0 (by omega)
  have hbd0 := partsOk_bd hx.out (k := 0) (by rw [hl.out]; omega)
  obtain ⟨m, hm0⟩ : ∃ m : Nat, nth xs 0 = m := ⟨(nth xs 0).toNat, by omega⟩
  rw [hm0] at hc0 hbd0
  rw [Nat.add_zero] at hc0
  have HM := hide hm0; clear hm0
  have hT := hide (show (nth xs 0).toNat = m from by rw [HM.out]; simp)
  have hb1 := hbd0.1; have hb2 := hbd0.2; clear hbd0
  have hlen12 : n ≤ 12 := by have := partsOk_len hx.out; have := hl.out; omega
  have hby := hide (show i0.bytes * m ≤ 281474976710656 from by rw [hz2]; omega)
  have hml := hide (show m ≤ maxLen from by unfold maxLen; omega)
  have HI := hide hi0; have H0 := hide hz0; have H1 := hide hz1
  clear hi0 hz0 hz1 hz2
  go_enter Tryd.func93, Tryd.ntmps93
  go_wp2_with (at_make
               refine wpList_make_full _ rfl _ _ 22 (by rfl) w.heap.size 3 i0 (.int .i64 0) 1 Tryd.underlying22 (unhide HI) (unhide H0) (unhide H1) .i64 .i64 _ _ m (by rfl) (by rfl) rfl rfl (unhide hby) (unhide hml) (Nat.le_refl _) ?_
               intro w1 hown1 hg1)
  have hO1 : Owned w1 w.heap.size (.slice (some ⟨w.heap.size, 0, none⟩) m m) (turnTo xs 0) := by
    rw [turnTo_start, hT.out]
    unfold Owned
    rw [List.length_replicate, ← made_zeros]
    exact hown1
  have hB1 : Below w.heap.size w w1 := (Below.refl _ _).grown hg1 (Nat.le_refl _) (fun k hk => by cases hk)
  have HO1 := hide hO1; clear hO1 hown1 hg1
  go_loopw [13] (fun i wr => ∃ k : Nat, k ≤ n ∧ i = .int .i64 k ∧ Owned wr w.heap.size (.slice (some ⟨w.heap.size, 0, none⟩) m m) (turnTo xs k) ∧ Below w.heap.size w wr) (fun i _ => n - (intOf i).toNat)
  case atStart => exact ⟨0, Nat.zero_le _, rfl, unhide HO1, hB1⟩
  case round =>
    obtain ⟨k, hk, rfl, ho, hbl⟩ := hrel
    have hO := hide ho; clear ho
    by_cases hlt : k < n
    · obtain ⟨b2, off2, e2, _, hc2⟩ := (h.below hbl).at_ k hlt
      simp only [Option.some.injEq, Addr.mk.injEq, and_true] at e2
      obtain ⟨rfl, rfl⟩ := e2
      have hbk := partsOk_bd hx.out (k := k) (by rw [hl.out]; exact hlt)
      have hfk := isFal_first (partsOk_fal hx.out) (k := k) (by rw [hl.out]; exact hlt)
      obtain ⟨v, hv0⟩ : ∃ v : Nat, nth xs k = v := ⟨(nth xs k).toNat, by omega⟩
      rw [hv0] at hc2 hbk hfk
      rw [HM.out] at hfk
      have HV := hide hv0; clear hv0
      have hvm : v ≤ m := by omega
      clear hbk hfk
      obtain ⟨wo, rfl⟩ : ∃ wo : World, wo = wr := ⟨_, rfl⟩
      go_wp2_with fail
      go_loopw [18] (fun i wr => ∃ j : Nat, j ≤ v ∧ i = .int .i64 j ∧ Owned wr w.heap.size (.slice (some ⟨w.heap.size, 0, none⟩) m m) (turnIn xs k j) ∧ Below w.heap.size w wr) (fun i _ => v - (intOf i).toNat)
      case atStart => exact ⟨0, Nat.zero_le _, rfl, by rw [turnIn_zero]; exact unhide hO, hbl⟩
      case round =>
        obtain ⟨j, hj, rfl, ho, hbl2⟩ := hrel
        by_cases hjv : j < v
        · have hjm : j < m := by omega
          have hlen := hide (show (turnIn xs k j).length = m from by rw [turnIn_length, hT.out])
          have hcell := ho.cell_ hlen.out hjm
          rw [turnIn_nth xs k j (by rw [hT.out]; exact hjm)] at hcell
          have hfree := ho.free_ hlen.out j
          obtain ⟨cb1, cb2⟩ := cnt_bd xs j k
          have ho2 := hide (ho.store hlen.out j (cnt xs j k + 1))
          rw [← turnIn_succ xs k j (by rw [hT.out]; exact hjm)] at ho2
          have hbl3 := hide (hbl2.setCell (p := ⟨w.heap.size, j, none⟩) (Nat.le_refl _) (.int .i64 (cnt xs j k + 1)))
          clear ho
          go_wp2_with fail
          go_roundw
          case rel => exact ⟨j + 1, by omega, by go_num, unhide ho2, unhide hbl3⟩
          case measure => simp [intOf]; omega
        · obtain rfl : j = v := by omega
          have ho2 := hide ho; clear ho
          go_wp2_with fail
          go_roundw
          case rel => exact ⟨k + 1, by omega, by go_num, by have := unhide ho2; rwa [show j = (nth xs k).toNat from by rw [HV.out]; simp, turnIn_all] at this, hbl2⟩
          case measure => simp [intOf]; omega
    · obtain rfl : k = n := by omega
      go_wp2_with fail
      go_ret
      refine ⟨_, rfl, ?_, hbl⟩
      have := unhide hO
      rw [turnF, hl.out]
      exact this
end Go.Proofs.YtjhicbiacnkpaaaDoor
