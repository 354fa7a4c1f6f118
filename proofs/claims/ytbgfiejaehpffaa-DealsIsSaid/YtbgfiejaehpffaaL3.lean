/-
  DealsEdges.
-/
import Derived.Test.YtbgfiejaehpffaaV1
import Derived.Test.YtbgfiejaehpffaaV2
import Derived.Test.YtbgfiejaehpffaaV4
import Derived.Test.YtbgfiejaehpffaaY5
namespace Go.Proofs.Ytbgfiejaehpffaa
open Go.RowKit

theorem tak_off (fs : List F) : offB (tak fs) = offB fs := by
  by_cases h : fs.length ≤ 11
  · rw [show tak fs = fs from List.take_of_length_le h]
  · have e : ∀ L : List F, 8 < L.length → offB L = false := fun L hL => by
      unfold offB; rw [show decide (L.length ≤ 8) = false from by simp; omega]; simp
    rw [e fs (by omega), e (tak fs) (by unfold tak; simp; omega)]
theorem tak_self {fs : List F} (h : offB fs = true) : tak fs = fs := by
  have := ((offB_iff fs).1 h).most
  exact List.take_of_length_le (by omega)

set_option maxRecDepth 100000 in
set_option maxHeartbeats 8000000 in
theorem LEdges_any (A : Option Addr) (n c : Nat) (fs : List F) (w : World) (h : Fs w w.heap.size A n c fs) :
    Calls Try.prog 3 #[.slice A n c] w fun e w' => e = .returned (.bool true) ∧ Below w.heap.size w w' := by
  have hm := h.most; have hcap := h.cap
  have HI := hide h
  have HLi := hide (list_any A n c fs w h)
  clear h
  cases hb : offB fs with
  | false =>
    have HO := hide hb
    clear hb
    go_enter Try.func3, Try.ntmps3
    go_wp2_with fail
    refine (unhide HLi).mono ?_
    rintro e w1 ⟨v1, rfl, ho1, b1⟩
    obtain ⟨A1, n1, c1, rfl, hf1⟩ := ho1.to
    have HB1 := hide b1
    have HF1 := hide hf1
    clear hf1 b1 ho1
    go_wp2_with fail
    refine (Edge_no _ _ _ (tak fs) w1 (unhide HF1) (hide (by rw [tak_off]; exact HO.out))).mono ?_
    rintro e w2 ⟨rfl, b2⟩
    have HB2 := hide ((unhide HB1).trans (b2.mono (unhide HB1).size))
    clear b2
    go_wp2_with fail
    refine (ROffers_any A n c fs w2 (((unhide HI).below (unhide HB2)).more (unhide HB2).size) false HO).mono ?_
    rintro e w3 ⟨rfl, b3⟩
    have HB3 := hide ((unhide HB2).trans (b3.mono (unhide HB2).size))
    clear b3
    go_wp2_with fail
    refine (awake_any w3).mono ?_
    rintro e w4 ⟨rfl, b4⟩
    have HB4 := hide ((unhide HB3).trans (b4.mono (unhide HB3).size))
    clear b4
    go_wp2_with fail
    go_ret
    exact ⟨rfl, unhide HB4⟩
  | true =>
    have HO := hide hb
    have HTs := hide (tak_self hb)
    have HOff := hide ((offB_iff fs).1 hb)
    clear hb
    go_enter Try.func3, Try.ntmps3
    go_wp2_with fail
    refine (unhide HLi).mono ?_
    rintro e w1 ⟨v1, rfl, ho1, b1⟩
    obtain ⟨A1, n1, c1, rfl, hf1⟩ := ho1.to
    have HB1 := hide b1
    have HF1 := hide hf1
    clear hf1 b1 ho1
    go_wp2_with fail
    refine (Edge_ok _ _ _ (tak fs) w1 (unhide HF1) (hide (by rw [tak_off]; exact HO.out))).mono ?_
    rintro e w2 ⟨v2, L, rfl, ho, _, hE, _, b2⟩
    rw [HTs.out] at hE
    subst hE
    have HB2 := hide ((unhide HB1).trans (b2.mono (unhide HB1).size))
    obtain ⟨A2, n2, c2, rfl, hf2⟩ := ho.to
    have HF2 := hide hf2
    clear b2 ho hf2
    go_wp2_with fail
    refine (ROffers_any A n c fs w2 (((unhide HI).below (unhide HB2)).more (unhide HB2).size) true HO).mono ?_
    rintro e w3 ⟨rfl, b3⟩
    have HB3 := hide ((unhide HB2).trans (b3.mono (unhide HB2).size))
    have HF3 := hide (((unhide HF2).below b3).more b3.size)
    clear b3
    go_wp2_with fail
    refine (REdge_any A n c fs w3 (((unhide HI).below (unhide HB3)).more (unhide HB3).size) HOff).mono ?_
    rintro e w4 ⟨v4, rfl, ho, b4⟩
    have HB4 := hide ((unhide HB3).trans (b4.mono (unhide HB3).size))
    have HF4 := hide (((unhide HF3).below b4).more b4.size)
    obtain ⟨A3, n3, c3, rfl, hf3⟩ := ho.to
    have HF5 := hide hf3
    clear b4 ho hf3
    go_wp2_with fail
    refine (equal_any _ _ _ (edgeR fs) _ _ _ (edgeR fs) w4 (unhide HF4) (unhide HF5) true (hide (by simp))).mono ?_
    rintro e w5 ⟨rfl, b5⟩
    have HB5 := hide ((unhide HB4).trans (b5.mono (unhide HB4).size))
    clear b5
    go_wp2_with fail
    refine (awake_any w5).mono ?_
    rintro e w6 ⟨rfl, b6⟩
    have HB6 := hide ((unhide HB5).trans (b6.mono (unhide HB5).size))
    clear b6
    go_wp2_with fail
    go_ret
    exact ⟨rfl, unhide HB6⟩
end Go.Proofs.Ytbgfiejaehpffaa
