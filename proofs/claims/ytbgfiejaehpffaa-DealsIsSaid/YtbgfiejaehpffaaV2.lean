/-
  slices.Equal at pairs; Edge of the program.
-/
import Derived.Test.YtbgfiejaehpffaaY4
namespace Go.Proofs.Ytbgfiejaehpffaa
open Go.RowKit

theorem list_eq_fth {L M : List F} (hl : L.length = M.length) (h : ∀ k, k < L.length → fth L k = fth M k) : L = M := by
  apply List.ext_getElem hl
  intro i h1 h2
  have := h i h1
  simpa [fth, List.getD, h1, h2] using this

set_option maxRecDepth 100000 in
set_option maxHeartbeats 4000000 in
theorem equal_any (A : Option Addr) (n c : Nat) (fs : List F) (A2 : Option Addr) (n2 c2 : Nat) (gs : List F) (w : World) (h : Fs w w.heap.size A n c fs) (h2 : Fs w w.heap.size A2 n2 c2 gs) (b : Bool) (hb : Hid (decide (fs = gs) = b)) :
    Calls Try.prog 19 #[.slice A n c, .slice A2 n2 c2] w fun e w' => e = .returned (.bool b) ∧ Below w.heap.size w w' := by
  have hm := h.most; have hcap := h.cap; have hm2 := h2.most; have hcap2 := h2.cap
  have HL := hide h.len; have HL2 := hide h2.len
  have HI := hide h; have HI2 := hide h2
  clear h h2
  by_cases hnn : n = n2
  · subst hnn
    have hne : ((n : Int) != (n : Int)) = false := by simp
    go_enter Try.func19, Try.ntmps19
    go_wp2_with fail
    go_loopw [5, 13] (fun _ i wr => ∃ k : Nat, k ≤ n ∧ i = .int .i64 k ∧ Hid (∀ j, j < k → fth fs j = fth gs j) ∧ Hid (Below w.heap.size w wr)) (fun _ i _ => n - (intOf i).toNat)
    case atStart => exact ⟨0, Nat.zero_le _, rfl, hide (fun j hj => absurd hj (by omega)), hide (Below.refl _ _)⟩
    case round =>
      obtain ⟨k, hk, rfl, HK, HB⟩ := hrel
      by_cases hlt : k < n
      · obtain ⟨b1, off, rfl, hb1, hc1, hc2⟩ := ((unhide HI).below (unhide HB)).at_ k hlt
        obtain ⟨b2, off2, rfl, hb2, hd1, hd2⟩ := ((unhide HI2).below (unhide HB)).at_ k hlt
        obtain ⟨p, hp⟩ : ∃ p, fth fs k = p := ⟨_, rfl⟩
        obtain ⟨q, hq⟩ : ∃ q, fth gs k = q := ⟨_, rfl⟩
        rw [hp] at hc1 hc2; rw [hq] at hd1 hd2
        have HP := hide hp; have HQ := hide hq
        clear hp hq
        obtain ⟨x, y⟩ := p
        obtain ⟨u, v⟩ := q
        simp only at hc1 hc2 hd1 hd2
        have heq := neq30 x y u v
        cases he : decide (((x, y) : F) = (u, v)) with
        | true =>
          rw [he] at heq
          have HK1 := hide (show ∀ j, j < k + 1 → fth fs j = fth gs j from fun j hj => by
            by_cases e : j = k
            · rw [e, HP.out, HQ.out]; exact of_decide_eq_true he
            · exact HK.out j (by omega))
          clear he
          go_upto_region 6 with fail
          go_quiet (fail)
          go_wp2_with fail
          go_roundw
          case rel => exact ⟨k + 1, by omega, by go_num, HK1, hide (below_dN (unhide HB) _)⟩
          case measure => simp [intOf]; omega
        | false =>
          rw [he] at heq
          have HF := hide (show false = b from by
            rw [← hb.out]; symm; rw [decide_eq_false_iff_not]; intro e
            have : ((x, y) : F) = (u, v) := by rw [← HP.out, ← HQ.out, e]
            exact of_decide_eq_false he this)
          clear he
          go_upto_region 6 with fail
          go_quiet (fail)
          go_wp2_with fail
          go_ret
          exact ⟨ret_bool HF.out, below_dN (unhide HB) _⟩
      · have HF := hide (show true = b from by
          rw [← hb.out]; symm; rw [decide_eq_true_iff]
          exact list_eq_fth (by rw [HL.out, HL2.out]) (fun j hj => HK.out j (by rw [HL.out] at hj; omega)))
        go_wp2_with fail
        go_ret
        exact ⟨ret_bool HF.out, unhide HB⟩
  · have hne : ((n : Int) != (n2 : Int)) = true := by simp; omega
    have HF := hide (show false = b from by
      rw [← hb.out]; symm; rw [decide_eq_false_iff_not]; intro e
      exact hnn (by rw [← HL.out, ← HL2.out, e]))
    go_enter Try.func19, Try.ntmps19
    go_wp2_with fail
    go_ret
    exact ⟨ret_bool HF.out, Below.refl _ _⟩

set_option maxRecDepth 100000 in
set_option maxHeartbeats 4000000 in
theorem Edge_no (A : Option Addr) (n c : Nat) (fs : List F) (w : World) (h : Fs w w.heap.size A n c fs) (hb : Hid (offB fs = false)) :
    Calls Try.prog 15 #[.slice A n c] w fun e w' => e = .returned (.tuple #[.slice none 0 0, .int .i64 2]) ∧ Below w.heap.size w w' := by
  have hm := h.most; have hcap := h.cap
  have HC := hide (areOffers_any A n c fs w h false hb)
  clear h
  go_enter Try.func15, Try.ntmps15
  go_wp2_with fail
  refine (unhide HC).mono ?_
  rintro e w1 ⟨rfl, b1⟩
  have HB1 := hide b1
  clear b1
  go_wp2_with fail
  exact bodyPost_ret (v := .tuple #[.slice none 0 0, .int .i64 2]) (by simp [results, Try.results15, go_sem]) rfl ⟨rfl, unhide HB1⟩

set_option maxRecDepth 100000 in
set_option maxHeartbeats 4000000 in
theorem Edge_ok (A : Option Addr) (n c : Nat) (fs : List F) (w : World) (h : Fs w w.heap.size A n c fs) (hb : Hid (offB fs = true)) :
    Calls Try.prog 15 #[.slice A n c] w fun e w' => ∃ v L, e = .returned (.tuple #[v, .int .i64 0]) ∧ OwnQ w' w.heap.size 30 v L ∧ Cor fs (fth L) L.length ∧ edgeR fs = L ∧ L.length ≤ n ∧ Below w.heap.size w w' := by
  have hm := h.most; have hcap := h.cap
  have hO := (offB_iff fs).1 hb.out
  have hn : 0 < n ∧ n ≤ 8 := by have := hO.pos; have := hO.most; have := h.len; omega
  obtain ⟨hn1, hn2⟩ := hn
  have HO := hide hO
  have HI := hide h
  have HC := hide (areOffers_any A n c fs w h true hb)
  clear h hO
  go_enter Try.func15, Try.ntmps15
  go_wp2_with fail
  refine (unhide HC).mono ?_
  rintro e w1 ⟨rfl, b1⟩
  have HB1 := hide b1
  clear b1
  go_wp2_with fail
  refine (corners_any A n c fs w1 (((unhide HI).below (unhide HB1)).more (unhide HB1).size) hn1 (by omega) (hide (fun q hq => HO.out.small q hq)) (hide HO.out.nd)).mono ?_
  rintro e w2 ⟨v, L, rfl, ho, hc, hl, b2⟩
  have HB2 := hide ((unhide HB1).trans (b2.mono (unhide HB1).size))
  have HOw := hide (ho.low (unhide HB1).size)
  have HCo := hide hc
  have HE := hide (hc.list (fun q hq => by have := HO.out.pr q hq; omega))
  have HLn := hide hl
  clear b2 ho hc hl
  go_wp2_with fail
  exact bodyPost_ret (v := .tuple #[v, .int .i64 0]) (by simp [results, Try.results15, go_sem]) rfl ⟨v, L, rfl, unhide HOw, HCo.out, HE.out, HLn.out, unhide HB2⟩
end Go.Proofs.Ytbgfiejaehpffaa
