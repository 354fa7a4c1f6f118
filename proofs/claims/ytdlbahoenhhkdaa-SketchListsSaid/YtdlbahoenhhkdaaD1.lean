import Derived.Test.YtdlbahoenhhkdaaC6
/-
  The place of a key on a rising list of counts: cmp.Compare, slices.BinarySearchFunc, find.
-/
namespace Go.Proofs.Ytdlbahoenhhkdaa
open Go.RowKit

def cmpI (x y : Int) : Int := if x < y then -1 else if y < x then 1 else 0

theorem isNaN_any (x : Int) (w : World) : Calls Try.prog 107 #[.int .i64 x] w fun e w' => e = .returned (.bool false) ∧ w = w' := by
  go_enter Try.func107, Try.ntmps107
  go_wp2
  go_ret
  exact ⟨rfl, rfl⟩
theorem cmp_any (x y : Int) (w : World) : Calls Try.prog 99 #[.int .i64 x, .int .i64 y] w fun e w' => e = .returned (.int .i64 (cmpI x y)) ∧ w = w' := by
  by_cases h1 : x < y
  · go_enter Try.func99, Try.ntmps99
    go_wp2_with fail
    refine (isNaN_any _ _).mono ?_
    rintro e w' ⟨rfl, rfl⟩
    go_wp2_with fail
    refine (isNaN_any _ _).mono ?_
    rintro e w' ⟨rfl, rfl⟩
    go_wp2_with fail
    go_ret
    exact ⟨ret_int (by simp [cmpI, h1]), rfl⟩
  · have h1' : decide (x < y) = false := by simpa using h1
    by_cases h2 : y < x
    · go_enter Try.func99, Try.ntmps99
      go_wp2_with fail
      refine (isNaN_any _ _).mono ?_
      rintro e w' ⟨rfl, rfl⟩
      go_wp2_with fail
      refine (isNaN_any _ _).mono ?_
      rintro e w' ⟨rfl, rfl⟩
      go_wp2_with fail
      go_ret
      exact ⟨ret_int (by simp [cmpI, h1, h2]), rfl⟩
    · have h2' : decide (y < x) = false := by simpa using h2
      go_enter Try.func99, Try.ntmps99
      go_wp2_with fail
      refine (isNaN_any _ _).mono ?_
      rintro e w' ⟨rfl, rfl⟩
      go_wp2_with fail
      refine (isNaN_any _ _).mono ?_
      rintro e w' ⟨rfl, rfl⟩
      go_wp2_with fail
      go_ret
      exact ⟨ret_int (by rw [show x = y by omega]; simp [cmpI]), rfl⟩
theorem find1_any (f d m key : Int) (w : World) : Calls Try.prog 98 #[.agg #[.int .i64 f, .int .i64 d, .int .i64 m], .int .i64 key] w fun e w' => e = .returned (.int .i64 (cmpI f key)) ∧ Below w.heap.size w w' := by
  go_enter Try.func98, Try.ntmps98
  go_wp2_with fail
  refine (cmp_any _ _ _).mono ?_
  rintro e w' ⟨rfl, rfl⟩
  go_wp2_with fail
  go_ret
  exact ⟨rfl, (Below.refl _ _).alloc (Nat.le_refl _) _⟩
theorem find1_is (f d m key r : Int) (w : World) (hr : Hid (cmpI f key = r)) : Calls Try.prog 98 #[.agg #[.int .i64 f, .int .i64 d, .int .i64 m], .int .i64 key] w fun e w' => e = .returned (.int .i64 r) ∧ Below w.heap.size w w' :=
  (find1_any f d m key w).mono fun _ _ ⟨he, hb⟩ => ⟨by rw [he, hr.out], hb⟩

/-- Rising by the first number. -/
def Rise (gs : List G) : Prop := ∀ i j, i < j → j < gs.length → (gth gs i).1 < (gth gs j).1
/-- Where a key is, or would be. -/
structure At (gs : List G) (key : Int) (p : Nat) : Prop where
  le : p ≤ gs.length
  lo : ∀ i, i < p → (gth gs i).1 < key
  hi : ∀ i, p ≤ i → i < gs.length → key ≤ (gth gs i).1
def onB (gs : List G) (key : Int) (p : Nat) : Bool := decide (p < gs.length) && decide ((gth gs p).1 = key)

theorem shr_half (s : Nat) (hs : s ≤ 1000) : ∃ m : Nat, m = s / 2 ∧ True := ⟨s / 2, rfl, trivial⟩

set_option maxRecDepth 100000 in
set_option maxHeartbeats 1000000 in
theorem search_any (A : Option Addr) (n c : Nat) (gs : List G) (key : Int) (w : World) (h : Gs w w.heap.size A n c gs) (hn : n ≤ 100) (hr : Hid (Rise gs)) :
    Calls Try.prog 97 #[.slice A n c, .int .i64 key, .func (Fn.func 98) #[] #[]] w fun e w' => ∃ p : Nat, e = .returned (.tuple #[.int .i64 (p : Int), .bool (onB gs key p)]) ∧ Hid (At gs key p) ∧ Below w.heap.size w w' := by
  have hm := h.most; have hcap := h.cap
  have hl := hide h.len
  have H := hide h; clear h
  go_enter Try.func97, Try.ntmps97
  go_wp2_with fail
  go_loopw [9, 10, 11] (fun a b _ wr => ∃ i j : Nat, i ≤ j ∧ j ≤ n ∧ a = .int .i64 i ∧ b = .int .i64 j ∧ Hid (∀ x, x < i → (gth gs x).1 < key) ∧ Hid (∀ x, j ≤ x → x < n → key ≤ (gth gs x).1) ∧ Below w.heap.size w wr) (fun a b _ _ => (intOf b).toNat - (intOf a).toNat)
  case atStart => exact ⟨0, n, Nat.zero_le _, Nat.le_refl _, rfl, rfl, hide (fun x hx => by omega), hide (fun x h1 h2 => by omega), Below.refl _ _⟩
  case round =>
    obtain ⟨i, j, hij, hjn, rfl, rfl, hlo, hhi, hb⟩ := hrel
    have HB := hide hb; clear hb
    by_cases hlt : i < j
    · obtain ⟨m, hmd⟩ : ∃ m : Nat, m = (i + j) / 2 := ⟨_, rfl⟩
      have hmi : ((i : Int) + (j : Int)) / 2 = (m : Int) := by omega
      have hm1 : i ≤ m := by omega
      have hm2 : m < j := by omega
      have hm3 : m < n := by omega
      clear hmd
      obtain ⟨b, off, rfl, hbb, e1, e2, e3⟩ := ((unhide H).below (unhide HB)).at_ m hm3
      obtain ⟨f, hf⟩ : ∃ f, (gth gs m).1 = f := ⟨_, rfl⟩
      obtain ⟨d, hd⟩ : ∃ f, (gth gs m).2.1 = f := ⟨_, rfl⟩
      obtain ⟨o, ho⟩ : ∃ f, (gth gs m).2.2 = f := ⟨_, rfl⟩
      rw [hf] at e1; rw [hd] at e2; rw [ho] at e3
      have hF := hide hf; clear hf hd ho
      by_cases hfk : f < key
      · go_wp2_with fail
        refine (find1_is f d o key (-1) _ (hide (by simp [cmpI, hfk]))).mono ?_
        rintro e w2 ⟨rfl, hb2⟩
        have HB2 := hide ((unhide HB).trans (hb2.mono (unhide HB).size))
        clear hb2
        go_wp2_with fail
        go_roundw
        case rel => exact ⟨m + 1, j, by omega, hjn, by go_num, rfl, hide (fun x hx => by
          rcases Nat.lt_or_ge x m with h1 | h1
          · rcases Nat.lt_or_ge x i with h2 | h2
            · exact hlo.out x h2
            · have := hr.out x m h1 (by rw [hl.out]; exact hm3); rw [hF.out] at this; omega
          · rw [show x = m by omega, hF.out]; exact hfk), hhi, unhide HB2⟩
        case measure => simp [intOf]; omega
      · obtain ⟨r, hr0, hrk⟩ : ∃ r : Int, decide (r < 0) = false ∧ cmpI f key = r := ⟨_, by simp only [cmpI, if_neg hfk]; split <;> rfl, rfl⟩
        have hrk := hide hrk
        go_wp2_with fail
        refine (find1_is f d o key r _ hrk).mono ?_
        rintro e w2 ⟨rfl, hb2⟩
        have HB2 := hide ((unhide HB).trans (hb2.mono (unhide HB).size))
        clear hb2
        go_wp2_with fail
        go_roundw
        case rel => exact ⟨i, m, hm1, by omega, rfl, by go_num, hlo, hide (fun x h1 h2 => by
          rcases Nat.lt_or_ge m x with h3 | h3
          · have := hr.out m x h3 (by rw [hl.out]; exact h2); rw [hF.out] at this; omega
          · rw [show x = m by omega, hF.out]; omega), unhide HB2⟩
        case measure => simp [intOf]; omega
    · obtain rfl : i = j := by omega
      have hat : Hid (At gs key i) := hide ⟨by rw [hl.out]; exact hjn, hlo.out, fun x h1 h2 => hhi.out x h1 (by rw [← hl.out]; exact h2)⟩
      by_cases hin : i < n
      · obtain ⟨b, off, rfl, hbb, e1, e2, e3⟩ := ((unhide H).below (unhide HB)).at_ i hin
        obtain ⟨f, hf⟩ : ∃ f, (gth gs i).1 = f := ⟨_, rfl⟩
        obtain ⟨d, hd⟩ : ∃ f, (gth gs i).2.1 = f := ⟨_, rfl⟩
        obtain ⟨o, ho⟩ : ∃ f, (gth gs i).2.2 = f := ⟨_, rfl⟩
        rw [hf] at e1; rw [hd] at e2; rw [ho] at e3
        have hF := hide hf; clear hf hd ho
        have hon : onB gs key i = decide (cmpI f key = 0) := by
          have := hhi.out i (Nat.le_refl _) hin
          rw [hF.out] at this
          simp only [onB, hl.out, hin, decide_true, Bool.true_and, hF.out]
          rcases Int.lt_or_eq_of_le this with h1 | h1
          · have h2 : ¬ f < key := by omega
            have h3 : ¬ f = key := by omega
            simp [cmpI, h1, h2, h3]
          · simp [cmpI, h1]
        obtain ⟨r, hrk⟩ : ∃ r : Int, cmpI f key = r := ⟨_, rfl⟩
        rw [hrk] at hon
        have hrk := hide hrk
        have hon := hide hon
        go_wp2_with (refine (find1_is f d o key r _ hrk).mono ?_
                     rintro e w2 ⟨rfl, hb2⟩
                     have HB2 := hide ((unhide HB).trans (hb2.mono (unhide HB).size))
                     clear hb2)
        go_ret2
        exact ⟨i, by rw [hon.out]; rfl, hat, unhide HB2⟩
      · have hon := hide (show onB gs key i = false by simp [onB, hl.out, hin])
        go_wp2_with fail
        go_ret2
        exact ⟨i, by rw [hon.out]; rfl, hat, unhide HB⟩
end Go.Proofs.Ytdlbahoenhhkdaa
