/-
  Scale and Less in one form each; what DealsScales asks when the list is no offers.
-/
import Derived.Test.YtbgfiejaehpffaaL3
import Derived.Test.YtbgfiejaehpffaaV7
import Derived.Test.YtbgfiejaehpffaaV8
namespace Go.Proofs.Ytbgfiejaehpffaa
open Go.RowKit

/-- What Scale answers for offers; what Less answers. -/
def SC (fs : List F) (a b : Int) (L : List F) (z : Int) : Prop :=
  (allIn 1 30 [a, b] = false → L = [] ∧ z = 2) ∧ (allIn 1 30 [a, b] = true → (prsB (fs.map (scF a b)) = true → L = fs.map (scF a b) ∧ z = 0) ∧ (prsB (fs.map (scF a b)) = false → L = [] ∧ z = 4))
def LE (fs : List F) (d : Int) (L : List F) (z : Int) : Prop :=
  (allIn 0 ((fs.length : Int) - 1) [d] = false → L = [] ∧ z = 2) ∧ (allIn 0 ((fs.length : Int) - 1) [d] = true → (fs.length = 1 → L = [] ∧ z = 4) ∧ (fs.length ≠ 1 → L = fs.take d.toNat ++ fs.drop (d.toNat + 1) ∧ z = 0))

theorem Scale_all (A : Option Addr) (n c : Nat) (fs : List F) (a b : Int) (w : World) (h : Fs w w.heap.size A n c fs) (hb : Hid (offB fs = true)) :
    Calls Try.prog 31 #[.slice A n c, .int .i64 a, .int .i64 b] w fun e w' => ∃ A' n' c' z L, e = .returned (.tuple #[.slice A' n' c', .int .i64 z]) ∧ Fs w' w'.heap.size A' n' c' L ∧ Hid (SC fs a b L z) ∧ Below w.heap.size w w' := by
  cases hi : allIn 1 30 [a, b] with
  | false =>
    refine (Scale_no2 A n c fs a b w h hb (hide hi)).mono fun e w' ⟨h1, h2⟩ => ⟨none, 0, 0, 2, [], h1, Fs.none_ _ _, hide ⟨fun _ => ⟨rfl, rfl⟩, fun h => ?_⟩, h2⟩
    rw [hi] at h; cases h
  | true =>
    cases hp : prsB (fs.map (scF a b)) with
    | false =>
      refine (Scale_none A n c fs a b w h hb (hide hi) (hide hp)).mono fun e w' ⟨h1, h2⟩ => ⟨none, 0, 0, 4, [], h1, Fs.none_ _ _, hide ⟨fun h => ?_, fun _ => ⟨fun h => ?_, fun _ => ⟨rfl, rfl⟩⟩⟩, h2⟩
      · rw [hi] at h; cases h
      · rw [hp] at h; cases h
    | true =>
      refine (Scale_ok A n c fs a b w h hb (hide hi) (hide hp)).mono fun e w' ⟨b2, h1, h3, h2⟩ => ⟨_, _, _, 0, _, h1, h3, hide ⟨fun h => ?_, fun _ => ⟨fun _ => ⟨rfl, rfl⟩, fun h => ?_⟩⟩, h2⟩
      · rw [hi] at h; cases h
      · rw [hp] at h; cases h

theorem Less_all (A : Option Addr) (n c : Nat) (fs : List F) (d : Int) (w : World) (h : Fs w w.heap.size A n c fs) (hb : Hid (offB fs = true)) :
    Calls Try.prog 33 #[.slice A n c, .int .i64 d] w fun e w' => ∃ A' n' c' z L, e = .returned (.tuple #[.slice A' n' c', .int .i64 z]) ∧ Fs w' w'.heap.size A' n' c' L ∧ Hid (LE fs d L z) ∧ Below w.heap.size w w' := by
  have hl := h.len
  cases hi : allIn 0 ((fs.length : Int) - 1) [d] with
  | false =>
    refine (Less_no2 A n c fs d w h hb (hide (by rw [← hl]; exact hi))).mono fun e w' ⟨h1, h2⟩ => ⟨none, 0, 0, 2, [], h1, Fs.none_ _ _, hide ⟨fun _ => ⟨rfl, rfl⟩, fun h => ?_⟩, h2⟩
    rw [hi] at h; cases h
  | true =>
    have hi2 := hi
    rw [allIn_1] at hi2
    simp at hi2
    by_cases h1 : n = 1
    · refine (Less_none A n c fs d w h hb (hide (by rw [← hl]; exact hi)) h1).mono fun e w' ⟨h1, h2⟩ => ⟨none, 0, 0, 4, [], h1, Fs.none_ _ _, hide ⟨fun h => ?_, fun _ => ⟨fun _ => ⟨rfl, rfl⟩, fun h => ?_⟩⟩, h2⟩
      · rw [hi] at h; cases h
      · omega
    · refine (Less_ok A n c fs d w h hb d.toNat (by omega) (by omega) h1).mono fun e w' ⟨v, h1, h3, h2⟩ => ?_
      obtain ⟨A', n', c', rfl, hf⟩ := h3.to
      refine ⟨A', n', c', 0, _, h1, hf, hide ⟨fun h => ?_, fun _ => ⟨fun h => ?_, fun _ => ⟨rfl, rfl⟩⟩⟩, h2⟩
      · rw [hi] at h; cases h
      · omega

theorem Delete_at (A : Option Addr) (n c : Nat) (d : Int) (gs : List F) (base : Nat) (w : World) (h : OwnQ w base 30 (.slice A n c) gs) (hn : n ≤ 100) (h0 : 0 ≤ d) (hi : d < n) :
    Calls Try.prog 35 #[.slice A n c, .int .i64 d, .int .i64 (d + 1)] w fun e w' => ∃ v, e = .returned v ∧ OwnQ w' base 30 v (gs.take d.toNat ++ gs.drop (d.toNat + 1)) ∧ Below base w w' := by
  obtain ⟨m, rfl⟩ : ∃ m : Nat, d = m := ⟨d.toNat, by omega⟩
  exact Delete_any A n c m gs base w h hn (by omega)

set_option maxRecDepth 100000 in
set_option maxHeartbeats 8000000 in
theorem LScales_no (A : Option Addr) (n c : Nat) (fs : List F) (a b d : Int) (w : World) (h : Fs w w.heap.size A n c fs) (HO : Hid (offB fs = false)) :
    Calls Try.prog 6 #[.slice A n c, .int .i64 a, .int .i64 b, .int .i64 d] w fun e w' => e = .returned (.bool true) ∧ Below w.heap.size w w' := by
  have hm := h.most; have hcap := h.cap
  have HI := hide h
  have HLi := hide (fun W (hb : Below w.heap.size w W) => list_any A n c fs W ((h.below hb).more hb.size))
  clear h
  have HT := hide (show offB (tak fs) = false from by rw [tak_off]; exact HO.out)
  go_enter Try.func6, Try.ntmps6
  go_wp2_with fail
  refine ((unhide HLi) w (Below.refl _ _)).mono ?_
  rintro e w1 ⟨v1, rfl, ho1, b1⟩
  obtain ⟨A1, n1, c1, rfl, hf1⟩ := ho1.to
  have HB1 := hide b1
  have HF1 := hide hf1
  clear hf1 b1 ho1
  go_wp2_with fail
  refine (Scale_no1 _ _ _ (tak fs) a b w1 (unhide HF1) HT).mono ?_
  rintro e w2 ⟨rfl, b2⟩
  have HB2 := hide ((unhide HB1).trans (b2.mono (unhide HB1).size))
  clear b2
  go_wp2_with fail
  refine ((unhide HLi) w2 (unhide HB2)).mono ?_
  rintro e w3 ⟨v3, rfl, ho3, b3⟩
  obtain ⟨A3, n3, c3, rfl, hf3⟩ := ho3.to
  have HB3 := hide ((unhide HB2).trans (b3.mono (unhide HB2).size))
  have HF3 := hide hf3
  clear hf3 b3 ho3
  go_wp2_with fail
  refine (Swap_no _ _ _ (tak fs) w3 (unhide HF3) HT).mono ?_
  rintro e w4 ⟨rfl, b4⟩
  have HB4 := hide ((unhide HB3).trans (b4.mono (unhide HB3).size))
  clear b4
  go_wp2_with fail
  refine ((unhide HLi) w4 (unhide HB4)).mono ?_
  rintro e w5 ⟨v5, rfl, ho5, b5⟩
  obtain ⟨A5, n5, c5, rfl, hf5⟩ := ho5.to
  have HB5 := hide ((unhide HB4).trans (b5.mono (unhide HB4).size))
  have HF5 := hide hf5
  clear hf5 b5 ho5
  go_wp2_with fail
  refine (Less_no1 _ _ _ (tak fs) d w5 (unhide HF5) HT).mono ?_
  rintro e w6 ⟨rfl, b6⟩
  have HB6 := hide ((unhide HB5).trans (b6.mono (unhide HB5).size))
  clear b6
  go_wp2_with fail
  refine (ROffers_any A n c fs w6 (((unhide HI).below (unhide HB6)).more (unhide HB6).size) false HO).mono ?_
  rintro e w7 ⟨rfl, b7⟩
  have HB7 := hide ((unhide HB6).trans (b7.mono (unhide HB6).size))
  clear b7
  go_wp2_with fail
  refine (awake_any w7).mono ?_
  rintro e w8 ⟨rfl, b8⟩
  have HB8 := hide ((unhide HB7).trans (b8.mono (unhide HB7).size))
  clear b8
  go_wp2_with fail
  go_ret
  exact ⟨rfl, unhide HB8⟩
end Go.Proofs.Ytbgfiejaehpffaa
