/-
  Of, own of the law: a plate's sides, from one type to the other.
-/
import Derived.Test.YtccfhcoioakmpaaT3
namespace Go.Proofs.Ytccfhcoioakmpaa
open Go.RowKit

set_option maxHeartbeats 190000 in
theorem Of_any (A : Option Addr) (n c : Nat) (gs : List G) (w : World) (h : Gs w w.heap.size A n c gs) :
    Calls Try.prog 18 #[.slice A n c] w fun e w' => ∃ A' n' c', e = .returned (.slice A' n' c') ∧ Gs w' w'.heap.size A' n' c' (gs.take 9) ∧ Below w.heap.size w w' := by
  have hm := h.most; have hcap := h.cap
  have hl := hide h.len
  have H := hide h; clear h
  go_enter Try.func18, Try.ntmps18
  go_wp2_with fail
  go_loopw [8, 3] (fun i v wr => ∃ (k : Nat) (A1 : Option Addr) (n1 c1 : Nat), k ≤ n ∧ i = .int .i64 k ∧ v = .slice A1 n1 c1 ∧ OwnedG wr w.heap.size 57 (.slice A1 n1 c1) (gs.take (min k 9)) ∧ Below w.heap.size w wr) (fun i _ _ => n - (intOf i).toNat)
  case atStart => exact ⟨0, none, 0, 0, Nat.zero_le _, rfl, rfl, World.ownsRow_nil _ _ _ _, Below.refl _ _⟩
  case round =>
    obtain ⟨k, A1, n1, c1, hk, rfl, rfl, ho, hb⟩ := hrel
    have HO := hide ho; have HB := hide hb; clear ho hb
    by_cases hlt : k < n
    · obtain ⟨b, off, rfl, hbb, e1, e2, e3⟩ := ((unhide H).below (unhide HB)).at_ k hlt
      obtain ⟨f, hf⟩ : ∃ f, (gth gs k).1 = f := ⟨_, rfl⟩
      obtain ⟨d, hd⟩ : ∃ f, (gth gs k).2.1 = f := ⟨_, rfl⟩
      obtain ⟨m, hmm⟩ : ∃ f, (gth gs k).2.2 = f := ⟨_, rfl⟩
      rw [hf] at e1; rw [hd] at e2; rw [hmm] at e3
      have hgk := hide (show gth gs k = (f, d, m) from by rw [← hf, ← hd, ← hmm])
      clear hf hd hmm
      by_cases h60 : k < 9
      · have hst := hide (show gs.take (min (k + 1) 9) = gs.take (min k 9) ++ [(f, d, m)] from by
          rw [show min (k + 1) 9 = k + 1 from by omega, show min k 9 = k from by omega, gtake gs k (by rw [hl.out]; exact hlt), hgk.out])
        have hbs := (unhide HB).size
        go_wp2_with (at_builtin
                     refine wpList_appG (w := wr.alloc (.cells #[.int .i64 f, .int .i64 d, .int .i64 m] 56)) (by rfl) (.tmp 15) (.tmp 23) 27 57 (by rfl) Try.underlying27 info57 (by rfl) (by simp [Act.eval]) ((unhide HO).alloc _) (by rw [List.length_take]; omega) (by simp; omega) ?_
                     intro v1 w1 ho1 hb1 _
                     obtain ⟨A3, c3, e3, _⟩ := ho1.gs
                     have HO1 := hide ho1; have E3 := hide e3
                     have HB1 := hide (((unhide HB).alloc hbs (.cells #[.int .i64 f, .int .i64 d, .int .i64 m] 56)).trans hb1)
                     clear ho1 hb1 e3)
        go_roundw
        case rel => exact ⟨k + 1, A3, _, c3, by omega, by go_num, E3.out, by rw [hst.out, ← E3.out]; exact unhide HO1, unhide HB1⟩
        case measure => simp [intOf]; omega
      · have hst := hide (show gs.take (min (k + 1) 9) = gs.take (min k 9) from by rw [show min (k + 1) 9 = 9 from by omega, show min k 9 = 9 from by omega])
        have hbs := (unhide HB).size
        have HB1 := hide ((unhide HB).alloc hbs (.cells #[.int .i64 f, .int .i64 d, .int .i64 m] 56))
        have HO1 := hide ((unhide HO).alloc (.cells #[.int .i64 f, .int .i64 d, .int .i64 m] 56))
        go_wp2_with fail
        go_roundw
        case rel => exact ⟨k + 1, A1, n1, c1, by omega, by go_num, rfl, by rw [hst.out]; first | exact unhide HO1 | exact (unhide HO1), by first | exact unhide HB1 | exact (unhide HB1).drew⟩
        case measure => simp [intOf]; omega
    · obtain rfl : k = n := by omega
      go_wp2_with fail
      go_ret
      obtain ⟨A4, n4, c4, e4, hg⟩ := (unhide HO).to
      cases e4
      have e9 : gs.take (min k 9) = gs.take 9 := by
        rcases Nat.lt_or_ge k 9 with h1 | h1
        · rw [show min k 9 = k from by omega, List.take_of_length_le (by rw [hl.out]; exact Nat.le_refl _), List.take_of_length_le (by rw [hl.out]; omega)]
        · rw [show min k 9 = 9 from by omega]
      rw [e9] at hg
      exact ⟨_, _, _, rfl, hg, unhide HB⟩
end Go.Proofs.Ytccfhcoioakmpaa
