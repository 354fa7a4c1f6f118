/-
  table of the law: what it hands over.
-/
import Derived.Test.YtabgifpenegofaaR1
namespace Go.Proofs.Ytabgifpenegofaa
open Go.RowKit

theorem list_own (A : Option Addr) (n c : Nat) (xs : List Int) (w : World) (B : Nat) (h : Ints w B A n c xs) (hB : B ≤ w.heap.size) :
    Calls Try.prog 32 #[.slice A n c] w fun e w' => ∃ A' n' c', e = .returned (.slice A' n' c') ∧ Owned w' w.heap.size (.slice A' n' c') (xs.take 6) ∧ Ints w' w'.heap.size A' n' c' (xs.take 6) ∧ Below w.heap.size w w' :=
  (list_any A n c xs w B h hB).mono fun _ _ ⟨_, he, ho, hb⟩ => by
    obtain ⟨A', c', rfl, hi⟩ := ho.ints
    exact ⟨A', _, c', he, ho, hi, hb⟩

def cutTo (xss : List (List Int)) (k : Nat) : List (List Int) := ((xss.take k).take 6).map fun r => r.take 6
theorem cutTo_len (xss : List (List Int)) (k : Nat) : (cutTo xss k).length ≤ 6 := by simp [cutTo]; omega
theorem cutTo_add {xss : List (List Int)} {k : Nat} (hk : k < xss.length) (h : k < 6) : cutTo xss (k + 1) = cutTo xss k ++ [(row xss k).take 6] := by
  unfold cutTo
  rw [List.take_of_length_le (l := xss.take (k + 1)) (by simp; omega), List.take_of_length_le (l := xss.take k) (by simp; omega), List.take_succ_eq_append_getElem hk, List.map_append]
  congr 1
  simp [row, List.getD, hk]
theorem cutTo_same {xss : List (List Int)} {k : Nat} (h : ¬ k < 6) : cutTo xss (k + 1) = cutTo xss k := by
  unfold cutTo
  rw [List.take_take, List.take_take, Nat.min_eq_left (by omega), Nat.min_eq_left (by omega)]

set_option maxHeartbeats 1000000 in
theorem table_any (A : Option Addr) (n c : Nat) (xss : List (List Int)) (w : World) (h : Rows_ w w.heap.size A n c xss) :
    Calls Try.prog 20 #[.slice A n c] w fun e w' => ∃ v, e = .returned v ∧ OwnedR w' w.heap.size v (cutT xss) ∧ Below w.heap.size w w' := by
  have hm := h.most; have hcap := h.cap
  have hl := hide h.len
  go_enter Try.func20, Try.ntmps20
  go_wp2
  go_loopw [3, 4, 5, 8] (fun v _ _ i wr => ∃ k : Nat, k ≤ n ∧ i = .int .i64 k ∧ OwnedR wr w.heap.size v (cutTo xss k) ∧ Below w.heap.size w wr) (fun _ _ _ i _ => n - (intOf i).toNat)
  case atStart => exact ⟨0, Nat.zero_le _, rfl, by simpa [cutTo] using ownedR_nil _ _, Below.refl _ _⟩
  case round =>
    obtain ⟨k, hk, rfl, ho, hb⟩ := hrel
    by_cases hlt : k < n
    · obtain ⟨b, off, A1, n1, c1, rfl, hb0, hc, hi1⟩ := (h.below hb).at_ k hlt
      by_cases h6 : k < 6
      · have HADD := hide (cutTo_add (xss := xss) (k := k) (by rw [hl.out]; exact hlt) h6)
        have hll : (cutTo xss k).length ≤ 1000000 := by have := cutTo_len xss k; omega
        have hbs := hb.size
        go_wp2_with fail
        refine (list_own _ _ _ _ _ _ hi1 hbs).mono ?_
        rintro e w1 ⟨A2, n2, c2, rfl, o1, i2, b1⟩
        have hor := ho.below b1
        have hlt' := ho.lt
        have hap := o1.elem (g := u3.ownBlock) (fun b hb => (hlt' b hb).2)
        have HAP := hide hap; clear hap hlt'
        have hbase := (hb.trans (b1.mono hbs)).size
        go_wp2_with (at_builtin; refine wpList_appR (v := u3) rfl _ _ rfl rfl rfl hor i2 HAP.out hll hbase ?_; intro v' w2 ho2 hb2)
        go_roundw
        case rel => exact ⟨k + 1, by omega, by go_num, by rw [HADD.out]; exact ho2, (hb.trans (b1.mono hbs)).trans hb2⟩
        case measure => simp [intOf]; omega
      · have HS := hide (cutTo_same (xss := xss) h6)
        go_wp2
        go_roundw
        case rel => exact ⟨k + 1, by omega, by go_num, by rw [HS.out]; exact ho, hb⟩
        case measure => simp [intOf]; omega
    · obtain rfl : n = k := by omega
      go_wp2
      go_ret
      refine ⟨_, rfl, ?_, hb⟩
      have e : cutT xss = cutTo xss n := by unfold cutT cutTo; rw [← hl.out, List.take_length]
      rw [e]
      exact ho
end Go.Proofs.Ytabgifpenegofaa
