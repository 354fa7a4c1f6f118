import Derived.Test.YtmpdalcdkibgpaaA3
namespace Go.Proofs.Ytmpdalcdkibgpaa
open Go.RowKit Go.Sort

def unevR (xs ys : List Int) : Bool := decide (∀ k, k < xs.length + ys.length → sumTo (fallR ys) k ≤ sumTo (fallR xs) k) && decide (sumTo (fallR xs) xs.length = sumTo (fallR ys) ys.length)
theorem unevR_no {xs ys : List Int} {k : Nat} (hk : k < xs.length + ys.length) (h : sumTo (fallR xs) k < sumTo (fallR ys) k) : unevR xs ys = false := by
  rw [unevR, Bool.and_eq_false_iff, decide_eq_false_iff_not]; left; intro hc; have := hc k hk; omega
def LeTo (xs ys : List Int) (k : Nat) : Prop := ∀ j, j < k → sumTo (fallR ys) j ≤ sumTo (fallR xs) j
theorem LeTo.step {xs ys : List Int} {k : Nat} (h : LeTo xs ys k) (h2 : sumTo (fallR ys) k ≤ sumTo (fallR xs) k) : LeTo xs ys (k + 1) := by
  intro j hj
  rcases Nat.lt_or_ge j k with hlt | hge
  · exact h j hlt
  · have e : j = k := by omega
    subst e; exact h2
theorem unevR_yes {xs ys : List Int} (h : LeTo xs ys (xs.length + ys.length)) : unevR xs ys = decide (sumTo (fallR xs) xs.length = sumTo (fallR ys) ys.length) := by
  have : decide (∀ k, k < xs.length + ys.length → sumTo (fallR ys) k ≤ sumTo (fallR xs) k) = true := by rw [decide_eq_true_eq]; exact h
  rw [unevR, this, Bool.true_and]
theorem fallR_small {m : Int} {xs : List Int} (hm : 0 ≤ m) (h : Small m xs) : Small m (fallR xs) :=
  small_of hm fun x hx => mem_small h x ((fallR_perm xs).mem_iff.1 hx)
theorem fallR_length (xs : List Int) : (fallR xs).length = xs.length := (fallR_perm xs).length_eq

set_option maxHeartbeats 800000 in
theorem RUneven_any (A A' : Option Addr) (n c n' c' : Nat) (xs ys : List Int) (w : World) (h : Ints w w.heap.size A n c xs) (h' : Ints w w.heap.size A' n' c' ys) (hx : Hid (Small 20 xs)) (hy : Hid (Small 20 ys)) (hn : n ≤ 1000) (hn' : n' ≤ 1000) :
    Calls Try.prog 24 #[.slice A n c, .slice A' n' c'] w fun e w' => e = .returned (.bool (unevR xs ys)) ∧ Below w.heap.size w w' := by
  have hl := hide h.len; have hl' := hide h'.len
  have sx := hide (fallR_small (by omega) (unhide hx)); have sy := hide (fallR_small (by omega) (unhide hy))
  have lx := hide (fallR_length xs); have ly := hide (fallR_length ys)
  go_enter Try.func24, Try.ntmps24
  go_wp2_with fail
  refine (RFalling_any _ _ _ _ _ h hn).mono ?_
  rintro e w1 ⟨v1, rfl, ho1, hb1⟩
  have h2 := (h'.below hb1).more hb1.size
  go_wp2_with fail
  refine (RFalling_any _ _ _ _ _ h2 hn').mono ?_
  rintro e w2 ⟨v2, rfl, ho2, hb2⟩
  obtain ⟨A1, c1, e1, i1⟩ := (ho1.below hb2 (Nat.le_refl _)).ints
  obtain ⟨A2, c2, e2, i2⟩ := ho2.ints
  rw [lx.out, hl.out] at e1 i1
  rw [ly.out, hl'.out] at e2 i2
  subst e1 e2
  have hb := hide (hb1.trans (hb2.mono hb1.size))
  have I1 := hide i1; have I2 := hide i2
  have hm1 := i1.most; have hc1 := i1.cap; have hm2 := i2.most; have hc2 := i2.cap
  clear i1 i2 ho1 ho2 h h' h2 hb1 hb2
  go_wp2_with fail
  go_loop [17] (fun i => ∃ k : Nat, k ≤ n + n' ∧ i = .int .i64 k ∧ LeTo xs ys k) (fun i => n + n' - (intOf i).toNat)
  case atStart => exact ⟨0, Nat.zero_le _, rfl, by intro j hj; omega⟩
  case round =>
    obtain ⟨k, hk, rfl, hle⟩ := hrel
    have HL := hide hle; clear hle
    by_cases hlt : k < n + n'
    · go_wp2_with fail
      refine (sum_any _ _ _ _ _ _ _ (unhide I1) sx (by omega)).mono ?_
      rintro e w3 ⟨rfl, rfl⟩
      go_wp2_with fail
      refine (sum_any _ _ _ _ _ _ _ (unhide I2) sy (by omega)).mono ?_
      rintro e w3 ⟨rfl, rfl⟩
      by_cases hs : sumTo (fallR xs) k < sumTo (fallR ys) k
      · have HN := hide (unevR_no (by rw [hl.out, hl'.out]; exact hlt) hs)
        go_wp2_with fail
        go_ret
        exact ⟨ret_bool HN.out.symm, unhide hb⟩
      · have HL2 := hide ((unhide HL).step (by omega))
        go_wp2_with fail
        go_round
        case rel => exact ⟨k + 1, by omega, by go_num, unhide HL2⟩
        case measure => simp [intOf]; omega
    · obtain rfl : k = n + n' := by omega
      go_wp2_with fail
      refine (sum_any _ _ _ _ _ _ _ (unhide I1) sx (by omega)).mono ?_
      rintro e w3 ⟨rfl, rfl⟩
      go_wp2_with fail
      refine (sum_any _ _ _ _ _ _ _ (unhide I2) sy (by omega)).mono ?_
      rintro e w3 ⟨rfl, rfl⟩
      go_wp2_with fail
      go_ret
      have HN := unevR_yes (xs := xs) (ys := ys) (by rw [hl.out, hl'.out]; exact unhide HL)
      rw [hl.out, hl'.out] at HN
      exact ⟨ret_bool (by rw [HN]; rfl), unhide hb⟩

theorem unev_eq {xs ys : List Int} (h : areSh xs ys = true) : unevR xs ys = unevS xs ys := by
  simp only [areSh, Bool.and_eq_true, decide_eq_true_eq] at h
  obtain ⟨⟨hx, _⟩, hxy⟩ := h
  have h1 := (isSh_len hx).1
  have lx := fallR_length xs; have ly := fallR_length ys
  rw [unevS, fallS_eq, fallS_eq, unevR, domB, Bool.eq_iff_iff]
  simp only [Bool.and_eq_true, decide_eq_true_eq, sumTo, lx, ly, ← hxy, Nat.min_self]
  refine ⟨fun ⟨a, b⟩ => ⟨fun k hk => ?_, b⟩, fun ⟨a, b⟩ => ⟨fun k hk => ?_, b⟩⟩
  · have := a (k + 1) (by omega)
    rwa [show min (k + 1) xs.length = k + 1 from by omega] at this
  · rcases hm : min k xs.length with _ | j
    · simp [pre]
    · exact a j (by omega)
end Go.Proofs.Ytmpdalcdkibgpaa
