/-
  What the laws hand over of a Puzzle.
-/
import Derived.Test.YtjhicbiacnkpaaaDoorWe
namespace Go.Proofs.YtjhicbiacnkpaaaDoor
open Go.RowKit

/-- At most eight rows, each cut to eight numbers. -/
def cu8 (xss : List (List Int)) : List (List Int) := (xss.take 8).map fun r => r.take 8
theorem list_own (A : Option Addr) (n c : Nat) (xs : List Int) (w : World) (B : Nat) (h : Ints w B A n c xs) (hB : B ≤ w.heap.size) :
    Calls Tryd.prog 20 #[.slice A n c] w fun e w' => ∃ A' n' c', e = .returned (.slice A' n' c') ∧ Owned w' w.heap.size (.slice A' n' c') (xs.take 8) ∧ Ints w' w'.heap.size A' n' c' (xs.take 8) ∧ Below w.heap.size w w' :=
  (list_any A n c xs w B h hB).mono fun _ _ ⟨_, he, ho, hb⟩ => by
    obtain ⟨A', c', rfl, hi⟩ := ho.ints
    exact ⟨A', _, c', he, ho, hi, hb⟩

def cu8To (xss : List (List Int)) (k : Nat) : List (List Int) := ((xss.take k).take 8).map fun r => r.take 8
theorem cu8To_len (xss : List (List Int)) (k : Nat) : (cu8To xss k).length ≤ 8 := by simp [cu8To]; omega
theorem cu8To_add {xss : List (List Int)} {k : Nat} (hk : k < xss.length) (h : k < 8) : cu8To xss (k + 1) = cu8To xss k ++ [(row xss k).take 8] := by
  unfold cu8To
  rw [List.take_of_length_le (l := xss.take (k + 1)) (by simp; omega), List.take_of_length_le (l := xss.take k) (by simp; omega), List.take_succ_eq_append_getElem hk, List.map_append]
  congr 1
  simp [row, List.getD, hk]
theorem cu8To_same {xss : List (List Int)} {k : Nat} (h : ¬ k < 8) : cu8To xss (k + 1) = cu8To xss k := by
  unfold cu8To
  rw [List.take_take, List.take_take, Nat.min_eq_left (by omega), Nat.min_eq_left (by omega)]

set_option maxHeartbeats 1000000 in
theorem table_any (A : Option Addr) (n c : Nat) (xss : List (List Int)) (w : World) (h : Rows_ w w.heap.size A n c xss) :
    Calls Tryd.prog 73 #[.slice A n c] w fun e w' => ∃ v, e = .returned v ∧ OwnF w' w.heap.size v (cu8 xss) ∧ Below w.heap.size w w' := by
  have hm := h.most; have hcap := h.cap
  have hl := hide h.len
  go_enter Tryd.func73, Tryd.ntmps73
  go_wp2
  go_loopw [3, 4, 5, 8] (fun v _ _ i wr => ∃ k : Nat, k ≤ n ∧ i = .int .i64 k ∧ OwnF wr w.heap.size v (cu8To xss k) ∧ Below w.heap.size w wr) (fun _ _ _ i _ => n - (intOf i).toNat)
  case atStart => exact ⟨0, Nat.zero_le _, rfl, by simpa [cu8To] using ownF_nil _ _, Below.refl _ _⟩
  case round =>
    obtain ⟨k, hk, rfl, ho, hb⟩ := hrel
    by_cases hlt : k < n
    · obtain ⟨b, off, A1, n1, c1, rfl, hb0, hc, hi1⟩ := (h.below hb).at_ k hlt
      by_cases h6 : k < 8
      · have HADD := hide (cu8To_add (xss := xss) (k := k) (by rw [hl.out]; exact hlt) h6)
        have hll : (cu8To xss k).length ≤ 1000000 := by have := cu8To_len xss k; omega
        have hbs := hb.size
        go_wp2_with fail
        refine (list_own _ _ _ _ _ _ hi1 hbs).mono ?_
        rintro e w1 ⟨A2, n2, c2, rfl, o1, i2, b1⟩
        have hor := ho.below b1
        have hlt' := ho.lt
        have hap := o1.elemF (base0 := w.heap.size) (g := u3.ownBlock) (fun b hb => (hlt' b hb).2) hbs
        have HAP := hide hap; clear hap hlt'
        have hbase := (hb.trans (b1.mono hbs)).size
        go_wp2_with (at_builtin; refine wpList_appF (v := u3) rfl _ _ rfl rfl rfl hor i2 HAP.out.1 HAP.out.2 hll hbase ?_; intro v' w2 ho2 hb2 _ _)
        go_roundw
        case rel => exact ⟨k + 1, by omega, by go_num, by rw [HADD.out]; exact ho2, (hb.trans (b1.mono hbs)).trans hb2⟩
        case measure => simp [intOf]; omega
      · have HS := hide (cu8To_same (xss := xss) h6)
        go_wp2
        go_roundw
        case rel => exact ⟨k + 1, by omega, by go_num, by rw [HS.out]; exact ho, hb⟩
        case measure => simp [intOf]; omega
    · obtain rfl : n = k := by omega
      go_wp2
      go_ret
      refine ⟨_, rfl, ?_, hb⟩
      have e : cu8 xss = cu8To xss n := by unfold cu8 cu8To; rw [← hl.out, List.take_length]
      rw [e]
      exact ho

theorem cu8_len (R : List (List Int)) : (cu8 R).length = min 8 R.length := by simp [cu8]
theorem acB_cu8 (x : Int) (R : List (List Int)) : acB x (cu8 R) = acB x R := by
  rcases Nat.lt_or_ge 8 R.length with h | h
  · unfold acB
    rw [sz_no (x := ((cu8 R).length : Int)) (by rw [cu8_len]; omega), sz_no (x := (R.length : Int)) (by omega)]
    rfl
  · unfold acB
    have e : (cu8 R).length = R.length := by rw [cu8_len]; omega
    rw [e]
    congr 1
    unfold cu8
    rw [List.take_of_length_le h, List.all_map]
    congr 1
    funext r
    exact clB_take x r
theorem cu8_big (R : List (List Int)) : sz ((cu8 R).length : Int) = sz (R.length : Int) ∧ (sz (R.length : Int) = true → (cu8 R).length = R.length) := by
  rcases Nat.lt_or_ge 8 R.length with h | h
  · refine ⟨by rw [sz_no (x := ((cu8 R).length : Int)) (by rw [cu8_len]; omega), sz_no (x := (R.length : Int)) (by omega)], fun hs => ?_⟩
    have := sz_iff.1 hs; omega
  · have e : (cu8 R).length = R.length := by rw [cu8_len]; omega
    exact ⟨by rw [e], fun _ => e⟩
theorem acB_sz {x : Int} {R : List (List Int)} (h : sz x = false) : acB x R = false ∨ R = [] := by
  cases R with
  | nil => exact .inr rfl
  | cons r s => left; unfold acB; simp [clB, h]
theorem puzB_cu8 (R C : List (List Int)) : puzB (cu8 R) (cu8 C) = puzB R C := by
  unfold puzB
  rw [acB_cu8, acB_cu8]
  obtain ⟨h1, h2⟩ := cu8_big R
  obtain ⟨h3, h4⟩ := cu8_big C
  cases hr : sz (R.length : Int) with
  | false =>
    have a1 : ∀ x, acB x R = false := fun x => by unfold acB; rw [hr]; rfl
    rw [a1, a1]; rfl
  | true =>
    cases hc : sz (C.length : Int) with
    | false =>
      have a1 : ∀ x, acB x C = false := fun x => by unfold acB; rw [hc]; rfl
      rw [a1, a1]; simp
    | true => rw [h2 hr, h4 hc]
theorem cu8_same {x : Int} {R : List (List Int)} (h : acB x R = true) : cu8 R = R := by
  unfold acB at h
  rw [Bool.and_eq_true] at h
  have h1 := sz_iff.1 h.1
  unfold cu8
  rw [List.take_of_length_le (by omega)]
  conv => rhs; rw [← List.map_id R]
  refine List.map_congr_left fun r hr => ?_
  exact take_cl (List.all_eq_true.1 h.2 r hr)
end Go.Proofs.YtjhicbiacnkpaaaDoor
