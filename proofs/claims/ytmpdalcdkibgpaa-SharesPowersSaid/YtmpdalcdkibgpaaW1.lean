import Derived.Test.YtmpdalcdkibgpaaT1
namespace Go.Proofs.Ytmpdalcdkibgpaa
open Go.RowKit

def isSh (xs : List Int) : Bool := decide (1 ≤ xs.length) && decide (xs.length ≤ 6) && allIn 0 20 xs
def areSh (xs ys : List Int) : Bool := isSh xs && isSh ys && decide (xs.length = ys.length)

set_option maxHeartbeats 400000 in
theorem isShares_any (A : Option Addr) (n c : Nat) (xs : List Int) (w : World) (B : Nat) (h : Ints w B A n c xs) :
    Calls Try.prog 62 #[.slice A n c] w fun e w' => e = .returned (.bool (isSh xs)) ∧ w = w' := by
  have hm := h.most; have hcap := h.cap
  have hl := hide h.len
  by_cases h1 : 1 ≤ n
  · by_cases h2 : n ≤ 6
    · go_enter Try.func62, Try.ntmps62
      go_wp2_with (go_at_call 84; refine (allWithin_any _ _ _ _ _ _ _ _ h).mono ?_; rintro e w' ⟨rfl, rfl⟩)
      go_ret
      exact ⟨ret_bool (by simp [isSh, hl.out, h1, h2]), rfl⟩
    · go_enter Try.func62, Try.ntmps62
      go_wp2_with fail
      go_ret
      exact ⟨ret_bool (by simp [isSh, hl.out, h1, h2]), rfl⟩
  · go_enter Try.func62, Try.ntmps62
    go_wp2_with fail
    go_ret
    exact ⟨ret_bool (by simp [isSh, hl.out, h1]), rfl⟩

theorem isShares_is (A : Option Addr) (n c : Nat) (xs : List Int) (w : World) (B : Nat) (h : Ints w B A n c xs) (b : Bool) (hb : Hid (isSh xs = b)) :
    Calls Try.prog 62 #[.slice A n c] w fun e w' => e = .returned (.bool b) ∧ w = w' :=
  (isShares_any A n c xs w B h).mono fun _ _ ⟨he, hw⟩ => ⟨by rw [he, hb.out], hw⟩

set_option maxHeartbeats 400000 in
theorem areComparable_any (A A' : Option Addr) (n c n' c' : Nat) (xs ys : List Int) (w : World) (B B' : Nat) (h : Ints w B A n c xs) (h' : Ints w B' A' n' c' ys) :
    Calls Try.prog 59 #[.slice A n c, .slice A' n' c'] w fun e w' => e = .returned (.bool (areSh xs ys)) ∧ w = w' := by
  have hm := h.most; have hcap := h.cap; have hm' := h'.most; have hcap' := h'.cap
  have hl := hide h.len; have hl' := hide h'.len
  rcases hx : isSh xs
  · have HX := hide hx; clear hx
    go_enter Try.func59, Try.ntmps59
    go_wp2_with (go_at_call 62; refine (isShares_is _ _ _ _ _ _ h _ HX).mono ?_; rintro e w' ⟨rfl, rfl⟩)
    go_ret
    exact ⟨ret_bool (by simp [areSh, HX.out]), rfl⟩
  have HX := hide hx; clear hx
  rcases hy : isSh ys
  · have HY := hide hy; clear hy
    go_enter Try.func59, Try.ntmps59
    go_wp2_with fail
    refine (isShares_is _ _ _ _ _ _ h _ HX).mono ?_; rintro e w' ⟨rfl, rfl⟩
    go_wp2_with fail
    refine (isShares_is _ _ _ _ _ _ h' _ HY).mono ?_; rintro e w' ⟨rfl, rfl⟩
    go_wp2_with fail
    go_ret
    exact ⟨ret_bool (by simp [areSh, HY.out]), rfl⟩
  have HY := hide hy; clear hy
  by_cases hn : n = n'
  · subst hn
    go_enter Try.func59, Try.ntmps59
    go_wp2_with fail
    refine (isShares_is _ _ _ _ _ _ h _ HX).mono ?_; rintro e w' ⟨rfl, rfl⟩
    go_wp2_with fail
    refine (isShares_is _ _ _ _ _ _ h' _ HY).mono ?_; rintro e w' ⟨rfl, rfl⟩
    go_wp2_with fail
    go_ret
    exact ⟨ret_bool (by simp [areSh, HX.out, HY.out, hl.out, hl'.out]), rfl⟩
  · have e1 : ((n : Int) == (n' : Int)) = false := by simp; omega
    go_enter Try.func59, Try.ntmps59
    go_wp2_with fail
    refine (isShares_is _ _ _ _ _ _ h _ HX).mono ?_; rintro e w' ⟨rfl, rfl⟩
    go_wp2_with fail
    refine (isShares_is _ _ _ _ _ _ h' _ HY).mono ?_; rintro e w' ⟨rfl, rfl⟩
    go_wp2_with fail
    go_ret
    exact ⟨ret_bool (by simp [areSh, HX.out, HY.out, hl.out, hl'.out, hn]), rfl⟩
end Go.Proofs.Ytmpdalcdkibgpaa
