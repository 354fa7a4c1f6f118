/-
  All, IsPins, Quarter of the reference; Turn of the program and of the reference.
-/
import Derived.Test.YtmgoonoifgcmnaaS4
import Derived.Test.YtmgoonoifgcmnaaW5
namespace Go.Proofs.Ytmgoonoifgcmnaa
open Go.RowKit

theorem allR_false {xs : List Int} {n j : Nat} (hj : j < n) (h : (plL xs (j : Int)).length ≠ 1) : allR xs n = false := by
  rw [Bool.eq_false_iff]; intro e
  simp only [allR, Bool.and_eq_true, List.all_eq_true, List.mem_range, decide_eq_true_eq] at e
  exact h (e.1 j hj)
set_option maxHeartbeats 1000000 in
theorem RAll_any (A : Option Addr) (n c m : Nat) (xs : List Int) (w : World) (h : Ints w w.heap.size A n c xs) (hn : n ≤ 100000) (hmb : m ≤ 100000) (b : Bool) (hb : Hid (allR xs m = b)) :
    Calls Try.prog 64 #[.slice A n c, .int .i64 m] w fun e w' => e = .returned (.bool b) ∧ Below w.heap.size w w' := by
  rw [← hb.out]
  have hm := h.most; have hcap := h.cap
  have hl := hide h.len
  have H := hide h
  clear h
  go_enter Try.func64, Try.ntmps64
  go_wp2_with fail
  go_loopw [5, 7] (fun _ i wr => ∃ k : Nat, k ≤ m ∧ i = .int .i64 (k : Nat) ∧ Hid (∀ j : Nat, j < k → (plL xs (j : Int)).length = 1) ∧ Hid (Below w.heap.size w wr)) (fun _ i _ => m - (intOf i).toNat)
  case atStart => exact ⟨0, Nat.zero_le _, rfl, hide (fun j hj => absurd hj (by omega)), hide (Below.refl _ _)⟩
  case round =>
    obtain ⟨k, hk, rfl, HA, HB⟩ := hrel
    by_cases hlt : k < m
    · have HI := hide ((unhide H).on (unhide HB))
      go_wp2_with fail
      refine (rplaces_ints _ _ _ _ (k : Int) _ (unhide HI) hn).mono ?_
      rintro e w1 ⟨A1, n1, c1, rfl, hi1, hb1⟩
      have hm1 := hi1.most; have hc1 := hi1.cap
      have HL1 := hide hi1.len
      have HB1 := hide ((unhide HB).trans (hb1.mono (unhide HB).size))
      clear hi1 hb1
      by_cases h1 : n1 = 1
      · subst h1
        have HN := hide (show ∀ j : Nat, j < k + 1 → (plL xs (j : Int)).length = 1 from fun j hj => by
          rcases Nat.lt_or_ge j k with h2 | h2
          · exact HA.out j h2
          · obtain rfl : j = k := by omega
            exact HL1.out)
        go_wp2_with fail
        go_roundw
        case rel => exact ⟨k + 1, by omega, by go_num, HN, HB1⟩
        case measure => simp [intOf]; omega
      · have d1 : ((n1 : Int) != 1) = true := by simp; omega
        have HF := hide (allR_false (n := m) hlt (by rw [HL1.out]; exact h1))
        clear h1
        go_wp2_with fail
        go_ret
        exact ⟨ret_bool HF.out.symm, unhide HB1⟩
    · have HF := hide (show allR xs m = ((n : Int) == (m : Int)) from by
        have hkm : k = m := by omega
        rw [Bool.eq_iff_iff]
        simp only [allR, Bool.and_eq_true, List.all_eq_true, List.mem_range, decide_eq_true_eq, beq_iff_eq, hl.out]
        constructor
        · rintro ⟨_, e⟩; omega
        · intro e; exact ⟨fun j hj => HA.out j (by omega), by omega⟩)
      go_wp2_with fail
      go_ret
      exact ⟨ret_bool (by first | exact HF.out.symm | (rw [HF.out]; simp)), unhide HB⟩

set_option maxHeartbeats 1000000 in
theorem RQuarter_any (A : Option Addr) (n c : Nat) (xs : List Int) (w : World) (h : Ints w w.heap.size A n c xs) (hb : Hid (pinB xs = true)) :
    Calls Try.prog 58 #[.slice A n c] w fun e w' => ∃ A' n' c', e = .returned (.slice A' n' c') ∧ Ints w' w'.heap.size A' n' c' (qtL xs) ∧ Below w.heap.size w w' := by
  have hm := h.most; have hcap := h.cap
  have hl := hide h.len
  have hn : n ≤ 6 := by have := (pin_parts hb.out).1; rw [h.len] at this; exact this.2
  have H := hide h
  have HX := hide (fun k (hk : k < n) => (hl.out ▸ eo_bd (pin_parts hb.out).2.1 (k := k) (by rw [hl.out]; exact hk) : 0 ≤ nth xs k ∧ nth xs k < (n : Int)))
  have HE := hide (show qtL xs = qtT xs n from by unfold qtL; rw [hl.out])
  obtain ⟨Z, hZ1, hZ2, hmk⟩ := make_zeros n (by omega)
  have HB0 := hide ((Below.refl w.heap.size w).alloc (Nat.le_refl _) (.cells Z 3))
  have HR0 := hide (show RowAt (w.alloc (.cells Z 3)) w.heap.size (qtT xs 0) from by
    have := row_zeros (W := w) hZ2
    unfold qtT; rw [hl.out]; exact this)
  clear h hZ1
  go_enter Try.func58, Try.ntmps58
  go_wp2_with fail
  go_loopw [4, 5, 11] (fun _ _ i wr => ∃ k : Nat, k ≤ n ∧ i = .int .i64 (k : Nat) ∧ Hid (RowAt wr w.heap.size (qtT xs k)) ∧ Hid (Below w.heap.size w wr)) (fun _ _ i _ => n - (intOf i).toNat)
  case atStart => exact ⟨0, Nat.zero_le _, rfl, HR0, HB0⟩
  case round =>
    obtain ⟨k, hk, rfl, HR, HB⟩ := hrel
    by_cases hlt : k < n
    · obtain ⟨b1, off, rfl, hbb, hc1⟩ := ((unhide H).below (unhide HB)).at_ k hlt
      obtain ⟨x1, x2⟩ := HX.out k hlt
      have HN := hide (show qtT xs (k + 1) = (qtT xs k).set (nth xs k).toNat ((n : Int) - 1 - k) from by show (qtT xs k).set _ _ = _; rw [hl.out])
      obtain ⟨p, hp⟩ : ∃ p : Nat, nth xs k = (p : Int) := ⟨(nth xs k).toNat, by omega⟩
      rw [hp] at hc1 x2 HN
      simp only [Int.toNat_natCast] at HN
      have hpn : p < n := by omega
      have hlen : (qtT xs k).length = n := by rw [qtT_len]; exact hl.out
      have hcell := (unhide HR).cell (k := p) (by rw [hlen]; exact hpn)
      have hfr : wr.frozen? ⟨w.heap.size, p, none⟩ = false := Blk.frozen (unhide HR) p
      have HRN := hide (show RowAt (wr.setCell ⟨w.heap.size, p, none⟩ (.int .i64 ((n : Int) - 1 - k))) w.heap.size (qtT xs (k + 1)) from by
        rw [HN.out]; exact (unhide HR).set p _)
      have HBN := hide ((unhide HB).setCell (p := ⟨w.heap.size, p, none⟩) (Nat.le_refl _) (.int .i64 ((n : Int) - 1 - k)))
      clear hlen hp x1
      go_wp2_with fail
      go_roundw
      case rel => exact ⟨k + 1, by omega, by go_num, HRN, HBN⟩
      case measure => simp [intOf]; omega
    · have HRL := hide (show RowAt wr w.heap.size (qtL xs) from by
        rw [HE.out, show n = k by omega]; exact unhide HR)
      have HI := hide ((unhide HRL).ints (n := n) (by rw [HE.out, qtT_len, hl.out]) (by omega))
      go_wp2_with fail
      go_ret
      exact ⟨_, _, _, rfl, unhide HI, unhide HB⟩

set_option maxHeartbeats 400000 in
theorem Turn_no (s : Int) (A : Option Addr) (n c : Nat) (xs : List Int) (w : World) (B : Nat) (h : Ints w B A n c xs) (hn : n ≤ 1000) (hb : Hid (rowB s xs = false)) :
    Calls Try.prog 54 #[.int .i64 s, .slice A n c] w fun e w' => e = .returned (.tuple #[.slice none 0 0, .int .i64 2]) ∧ w = w' := by
  go_enter Try.func54, Try.ntmps54
  go_wp2_with (go_at_call 69; refine (isRow_any _ _ _ _ _ _ _ h (by omega) false hb).mono ?_; rintro e w' ⟨rfl, rfl⟩)
  go_ret2
  exact ⟨rfl, rfl⟩
theorem Owned.toM {w : World} {base : Nat} {v : Value} {xs : List Int} (h : Owned w base v xs) {n : Nat} (hn : xs.length = n) : ∃ A c, v = .slice A n c ∧ Ints w w.heap.size A n c xs := by
  subst hn; exact h.ints
set_option maxHeartbeats 400000 in
theorem Turn_ok (s : Int) (A : Option Addr) (n c : Nat) (xs : List Int) (w : World) (h : Ints w w.heap.size A n c xs) (hb : Hid (rowB s xs = true)) :
    Calls Try.prog 54 #[.int .i64 s, .slice A n c] w fun e w' => ∃ A' c', e = .returned (.tuple #[.slice A' n c', .int .i64 0]) ∧ Ints w' w'.heap.size A' n c' xs.reverse ∧ Below w.heap.size w w' := by
  have hl := hide h.len
  have hn : n ≤ 16 := by rw [← h.len]; exact row_len hb.out
  have hn1 : 0 < n := by
    obtain ⟨m, h1, h2, h3, _⟩ := row_has hb.out
    rw [h.len] at h3; omega
  have H := hide h
  clear h
  go_enter Try.func54, Try.ntmps54
  go_wp2_with (go_at_call 69; refine (isRow_any _ _ _ _ _ _ _ (unhide H) (by omega) true hb).mono ?_; rintro e w' ⟨rfl, rfl⟩)
  refine (clone_any _ _ _ _ _ _ (unhide H) (by omega) (Nat.le_refl _)).mono ?_
  rintro e w1 ⟨v, rfl, ho, hb1⟩
  have HO := hide ho; have HB := hide hb1
  clear ho hb1
  go_wp2_with fail
  refine (reverse_own (unhide HO) (by rw [hl.out]; exact hn1) (by rw [hl.out]; omega) (unhide HB).size).mono ?_
  rintro e w2 ⟨rfl, ho2, hb2⟩
  obtain ⟨A', c', rfl, hi⟩ := ho2.toM (n := n) (by simpa using hl.out)
  have HI := hide hi
  have HB2 := hide ((unhide HB).trans hb2)
  clear ho2 hi hb2
  go_wp2_with fail
  go_ret2
  exact ⟨_, _, rfl, unhide HI, unhide HB2⟩

/-- The last k numbers, backward. -/
def rvT (xs : List Int) (k : Nat) : List Int := xs.reverse.take k
theorem rvT_succ {xs : List Int} {k : Nat} (h : k < xs.length) : rvT xs (k + 1) = rvT xs k ++ [nth xs (xs.length - 1 - k)] := by
  unfold rvT
  rw [List.take_add_one, List.getElem?_reverse h]
  have : xs.length - 1 - k < xs.length := by omega
  simp [nth, List.getD, this]
set_option maxHeartbeats 1000000 in
theorem RTurn_any (A : Option Addr) (n c : Nat) (xs : List Int) (w : World) (h : Ints w w.heap.size A n c xs) (hn : n ≤ 1000) :
    Calls Try.prog 57 #[.slice A n c] w fun e w' => ∃ A' c', e = .returned (.slice A' n c') ∧ Ints w' w'.heap.size A' n c' xs.reverse ∧ Below w.heap.size w w' := by
  have hm := h.most; have hcap := h.cap
  have hl := hide h.len
  have H := hide h
  clear h
  go_enter Try.func57, Try.ntmps57
  go_wp2_with fail
  go_loopw [3, 4] (fun v i wr => ∃ k : Nat, k ≤ n ∧ i = .int .i64 ((n : Int) - 1 - k) ∧ Hid (Owned wr w.heap.size v (rvT xs k)) ∧ Hid (Below w.heap.size w wr)) (fun _ i _ => (intOf i + 1).toNat)
  case atStart => exact ⟨0, Nat.zero_le _, by simp, hide (show Owned w w.heap.size _ (rvT xs 0) from World.ownsRow_nil _ _ _ _), hide (Below.refl _ _)⟩
  case round =>
    obtain ⟨k, hk, rfl, HO, HB⟩ := hrel
    by_cases hlt : k < n
    · obtain ⟨p, hp⟩ : ∃ p : Nat, (n : Int) - 1 - k = (p : Int) := ⟨n - 1 - k, by omega⟩
      have hpn : p < n := by omega
      have HPK := hide hp
      obtain ⟨b1, off, rfl, hbb, hc1⟩ := ((unhide H).below (unhide HB)).at_ p hpn
      have HN := hide (show rvT xs (k + 1) = rvT xs k ++ [nth xs p] from by
        rw [rvT_succ (by rw [hl.out]; exact hlt), hl.out, show n - 1 - k = p by omega])
      have hpl : (rvT xs k).length ≤ 100000 := by unfold rvT; rw [List.length_take]; omega
      have hbase := (unhide HB).size
      rw [hp]
      clear hp
      go_wp2_with (at_builtin; refine wpList_app1 rfl _ _ rfl rfl rfl (unhide HO) hpl hbase ?_; intro v' w3 ho3 hb3)
      go_roundw
      case rel => exact ⟨k + 1, by omega, by have := HPK.out; (first | go_num | (congr 1; omega) | (simp; omega)), hide (by rw [HN.out]; exact ho3), hide ((unhide HB).trans hb3)⟩
      case measure =>
        have := HPK.out
        first
          | (simp [intOf]; done)
          | (simp [intOf]; omega)
    · have e : n = k := by omega
      have ho := unhide HO
      rw [show rvT xs k = xs.reverse from by unfold rvT; rw [List.take_of_length_le]; simp; have := hl.out; omega] at ho
      obtain ⟨A', c', rfl, hi⟩ := ho.toM (n := n) (by simpa using hl.out)
      have HI := hide hi
      have d : decide ((0 : Int) ≤ (n : Int) - 1 - k) = false := by simp; omega
      clear ho hi e
      go_wp2_with fail
      go_ret
      exact ⟨A', c', rfl, unhide HI, unhide HB⟩
end Go.Proofs.Ytmgoonoifgcmnaa
