/-
  Changes of the program and of the reference.
-/
import Derived.Test.YtdbflcfjjoocgaaJ3
namespace Go.Proofs.Ytdbflcfjjoocgaa
open Go.RowKit

/-- How often the sign changes along a list of whole numbers, behind a number. -/
def chI (a : Int) : List Int → Nat
  | [] => 0
  | x :: l => (if x * a < 0 then 1 else 0) + chI (if x = 0 then a else x) l
theorem chI_le : ∀ (l : List Int) (a : Int), chI a l ≤ l.length := by
  intro l
  induction l with
  | nil => intro a; exact Nat.le_refl _
  | cons x l ih => intro a; have := ih (if x = 0 then a else x); simp only [chI, List.length_cons]; split <;> omega
theorem drop_cons (xs : List Int) (k : Nat) (h : k < xs.length) : xs.drop k = nth xs k :: xs.drop (k + 1) := by
  rw [List.drop_eq_getElem_cons h]; simp [nth, List.getD, h]
/-- What Changes takes. -/
def okL (xs : List Int) : Bool := decide (xs.length ≤ 20) && allIn (-50) 50 xs

set_option maxRecDepth 8000 in
set_option maxHeartbeats 1600000 in
theorem Changes_any (A : Option Addr) (n c : Nat) (xs : List Int) (w : World) (B : Nat) (h : Ints w B A n c xs) (N E : Int) (hN : Hid ((if okL xs then (chI 0 xs : Int) else 0) = N)) (hE : Hid ((if okL xs then (0 : Int) else 2) = E)) :
    Calls Try.prog 31 #[.slice A n c] w fun e w' => e = .returned (.tuple #[.int .i64 N, .int .i64 E]) ∧ w = w' := by
  have hm := h.most; have hcap := h.cap
  have hl := hide h.len
  by_cases h1 : n ≤ 20
  · rcases h2 : allIn (-50) 50 xs
    · have hno : okL xs = false := by simp [okL, h2]
      have e1 : N = 0 := by rw [← hN.out, hno]; rfl
      have e2 : E = 2 := by rw [← hE.out, hno]; rfl
      subst e1 e2
      have H2 := hide h2; clear h2 hno hN hE
      go_enter Try.func31, Try.ntmps31
      go_wp2_with fail
      refine (arePoles_any _ _ _ xs _ _ h).mono ?_
      rintro e w' ⟨rfl, rfl⟩
      rw [H2.out]
      go_wp2_with fail
      go_ret2
      exact ⟨rfl, rfl⟩
    · have hyes : okL xs = true := by simp [okL, h2, hl.out, h1]
      rw [hyes] at hN hE
      have e2 : E = 0 := hE.out.symm
      subst e2
      have H2 := hide h2; clear hyes hE
      have HBD := hide ((allIn_iff _ _ _).1 h2)
      clear h2
      go_enter Try.func31, Try.ntmps31
      go_wp2_with fail
      refine (arePoles_any _ _ _ xs _ _ h).mono ?_
      rintro e w' ⟨rfl, rfl⟩
      rw [H2.out]
      go_wp2_with fail
      go_loopw [4, 5, 7, 18] (fun s4 s5 _ i wr => ∃ (k m : Nat) (a : Int), k ≤ n ∧ i = .int .i64 k ∧ s4 = .int .i64 (m : Int) ∧ s5 = .int .i64 a ∧ m ≤ k ∧ (-50 ≤ a ∧ a ≤ 50) ∧ Hid (m + chI a (xs.drop k) = chI 0 xs) ∧ w = wr) (fun _ _ _ i _ => n - (intOf i).toNat)
      case atStart => exact ⟨0, 0, 0, Nat.zero_le _, rfl, rfl, rfl, Nat.le_refl _, by omega, hide (by simp), rfl⟩
      case round =>
        obtain ⟨k, m, a, hk, rfl, rfl, rfl, hmk, ⟨ha1, ha2⟩, HC, rfl⟩ := hrel
        by_cases hlt : k < n
        · obtain ⟨b, off, rfl, hb, hc⟩ := h.at_ k hlt
          have hx := HBD.out k (by rw [hl.out]; exact hlt)
          have HS := hide (show m + ((if nth xs k * a < 0 then 1 else 0) + chI (if nth xs k = 0 then a else nth xs k) (xs.drop (k + 1))) = chI 0 xs from by rw [← HC.out, drop_cons xs k (by rw [hl.out]; exact hlt)]; rfl)
          revert hc hx HS
          obtain ⟨x, ex⟩ : ∃ x, nth xs k = x := ⟨_, rfl⟩
          rw [ex]
          clear ex HC
          rintro hc ⟨hx1, hx2⟩ HS
          have pb := mul_bd (M := 50) (N := 50) ⟨hx1, hx2⟩ ⟨ha1, ha2⟩
          revert pb HS
          obtain ⟨p, ep⟩ : ∃ p, x * a = p := ⟨_, rfl⟩
          rw [ep]
          rintro HS ⟨pb1, pb2⟩
          by_cases hp : p < 0
          · have hx0 : ¬ x = 0 := by intro e; subst e; omega
            have hxn : (x != 0) = true := by simp [hx0]
            have HS2 := hide (show m + 1 + chI x (xs.drop (k + 1)) = chI 0 xs from by rw [← HS.out, if_pos hp, if_neg hx0]; omega)
            go_wp2_with fail
            go_roundw
            case rel => exact ⟨k + 1, m + 1, x, by omega, by go_num, by go_num, rfl, by omega, ⟨hx1, hx2⟩, HS2, (by first | trivial | rfl)⟩
            case measure => simp [intOf]; omega
          · by_cases hx0 : x = 0
            · have hxn : (x != 0) = false := by simp [hx0]
              have HS2 := hide (show m + chI a (xs.drop (k + 1)) = chI 0 xs from by rw [← HS.out, if_neg hp, if_pos hx0]; omega)
              have HX := hide hx0; clear hx0
              go_wp2_with fail
              go_roundw
              case rel => exact ⟨k + 1, m, a, by omega, by go_num, rfl, rfl, by omega, ⟨ha1, ha2⟩, HS2, (by first | trivial | rfl)⟩
              case measure => simp [intOf]; omega
            · have hxn : (x != 0) = true := by simp [hx0]
              have HS2 := hide (show m + chI x (xs.drop (k + 1)) = chI 0 xs from by rw [← HS.out, if_neg hp, if_neg hx0]; omega)
              go_wp2_with fail
              go_roundw
              case rel => exact ⟨k + 1, m, x, by omega, by go_num, rfl, rfl, by omega, ⟨hx1, hx2⟩, HS2, (by first | trivial | rfl)⟩
              case measure => simp [intOf]; omega
        · have hmN := hide (show (m : Int) = N from by
            have h1 := HC.out
            rw [List.drop_eq_nil_of_le (by rw [hl.out]; omega)] at h1
            rw [← hN.out, ← h1]; simp [chI])
          go_wp2_with fail
          go_ret2
          exact ⟨by rw [hmN.out]; rfl, rfl⟩
  · have hno : okL xs = false := by simp [okL, hl.out, h1]
    have e1 : N = 0 := by rw [← hN.out, hno]; rfl
    have e2 : E = 2 := by rw [← hE.out, hno]; rfl
    subst e1 e2
    clear hno hN hE
    go_enter Try.func31, Try.ntmps31
    go_wp2_with fail
    go_ret2
    exact ⟨rfl, rfl⟩

set_option maxRecDepth 8000 in
set_option maxHeartbeats 1600000 in
theorem RChanges_any (A : Option Addr) (n c : Nat) (xs : List Int) (w : World) (B : Nat) (h : Ints w B A n c xs) (N : Int) (hN : Hid ((chI 0 xs : Int) = N)) :
    Calls Try.prog 33 #[.slice A n c] w fun e w' => e = .returned (.int .i64 N) ∧ w = w' := by
  have hm := h.most; have hcap := h.cap
  have hl := hide h.len
  go_enter Try.func33, Try.ntmps33
  go_wp2_with fail
  go_loopw [3, 4, 6, 9] (fun s3 s4 _ i wr => ∃ (k m : Nat) (a : Int), k ≤ n ∧ i = .int .i64 k ∧ s3 = .int .i64 (m : Int) ∧ s4 = .int .i64 a ∧ m ≤ k ∧ Hid (m + chI a (xs.drop k) = chI 0 xs) ∧ w = wr) (fun _ _ _ i _ => n - (intOf i).toNat)
  case atStart => exact ⟨0, 0, 0, Nat.zero_le _, rfl, rfl, rfl, Nat.le_refl _, hide (by simp), rfl⟩
  case round =>
    obtain ⟨k, m, a, hk, rfl, rfl, rfl, hmk, HC, rfl⟩ := hrel
    by_cases hlt : k < n
    · obtain ⟨b, off, rfl, hb, hc⟩ := h.at_ k hlt
      have HS := hide (show m + ((if nth xs k * a < 0 then 1 else 0) + chI (if nth xs k = 0 then a else nth xs k) (xs.drop (k + 1))) = chI 0 xs from by rw [← HC.out, drop_cons xs k (by rw [hl.out]; exact hlt)]; rfl)
      revert hc HS
      obtain ⟨x, ex⟩ : ∃ x, nth xs k = x := ⟨_, rfl⟩
      rw [ex]
      clear ex HC
      intro hc HS
      by_cases hx0 : x = 0
      · have hxn : (x == 0) = true := by simp [hx0]
        have HS2 := hide (show m + chI a (xs.drop (k + 1)) = chI 0 xs from by rw [← HS.out, if_pos hx0, hx0, Int.zero_mul]; simp)
        have HX := hide hx0; clear hx0
        go_wp2_with fail
        go_roundw
        case rel => exact ⟨k + 1, m, a, by omega, by go_num, rfl, rfl, by omega, HS2, (by first | trivial | rfl)⟩
        case measure => simp [intOf]; omega
      · have hxn : (x == 0) = false := by simp [hx0]
        rcases (show (0 < x ∧ a < 0) ∨ (x < 0 ∧ 0 < a) ∨ (0 < x ∧ ¬ a < 0) ∨ (x < 0 ∧ ¬ 0 < a) from by omega) with ⟨g1, g2⟩ | ⟨g1, g2⟩ | ⟨g1, g2⟩ | ⟨g1, g2⟩
        · have HS2 := hide (show m + 1 + chI x (xs.drop (k + 1)) = chI 0 xs from by rw [← HS.out, if_pos (Int.mul_neg_of_pos_of_neg g1 g2), if_neg hx0]; omega)
          go_wp2_with fail
          go_roundw
          case rel => exact ⟨k + 1, m + 1, x, by omega, by go_num, by go_num, rfl, by omega, HS2, (by first | trivial | rfl)⟩
          case measure => simp [intOf]; omega
        · have HS2 := hide (show m + 1 + chI x (xs.drop (k + 1)) = chI 0 xs from by rw [← HS.out, if_pos (Int.mul_neg_of_neg_of_pos g1 g2), if_neg hx0]; omega)
          have g3 : ¬ 0 < x := by omega
          go_wp2_with fail
          go_roundw
          case rel => exact ⟨k + 1, m + 1, x, by omega, by go_num, by go_num, rfl, by omega, HS2, (by first | trivial | rfl)⟩
          case measure => simp [intOf]; omega
        · have HS2 := hide (show m + chI x (xs.drop (k + 1)) = chI 0 xs from by
            have : ¬ x * a < 0 := by have := Int.mul_nonneg (show 0 ≤ x by omega) (show 0 ≤ a by omega); omega
            rw [← HS.out, if_neg this, if_neg hx0]; omega)
          have g3 : ¬ x < 0 := by omega
          go_wp2_with fail
          go_roundw
          case rel => exact ⟨k + 1, m, x, by omega, by go_num, rfl, rfl, by omega, HS2, (by first | trivial | rfl)⟩
          case measure => simp [intOf]; omega
        · have HS2 := hide (show m + chI x (xs.drop (k + 1)) = chI 0 xs from by
            have : ¬ x * a < 0 := by have := Int.mul_nonneg (show 0 ≤ -x by omega) (show 0 ≤ -a by omega); rw [Int.neg_mul_neg] at this; omega
            rw [← HS.out, if_neg this, if_neg hx0]; omega)
          have g3 : ¬ 0 < x := by omega
          go_wp2_with fail
          go_roundw
          case rel => exact ⟨k + 1, m, x, by omega, by go_num, rfl, rfl, by omega, HS2, (by first | trivial | rfl)⟩
          case measure => simp [intOf]; omega
    · have hmN := hide (show (m : Int) = N from by
        have h1 := HC.out
        rw [List.drop_eq_nil_of_le (by rw [hl.out]; omega)] at h1
        rw [← hN.out, ← h1]; simp [chI])
      go_wp2_with fail
      go_ret
      exact ⟨by rw [hmN.out]; first | done | rfl, rfl⟩
end Go.Proofs.Ytdbflcfjjoocgaa
