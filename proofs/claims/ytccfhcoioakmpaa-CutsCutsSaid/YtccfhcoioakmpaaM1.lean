/-
  own of the law; Turn of the reference.
-/
import Derived.Test.YtccfhcoioakmpaaS2
namespace Go.Proofs.Ytccfhcoioakmpaa
open Go.RowKit

def turnG (g : G) : G := (-g.2.1, g.1, g.2.2)

set_option maxHeartbeats 1600000 in
/-- The sides, as the reference has them. -/
theorem own_map (A : Option Addr) (n c : Nat) (gs : List G) (w : World) (h : Gs w w.heap.size A n c gs) (hn : n ≤ 1000) :
    Calls Try.prog 47 #[.slice A n c] w fun e w' => ∃ v, e = .returned v ∧ OwnedG w' w.heap.size 56 v (gs.map fun g => ((g.1, g.2.1, g.2.2) : G)) ∧ Below w.heap.size w w' := by
  have hm := h.most; have hcap := h.cap
  have hl := hide h.len
  have H := hide h; clear h
  go_enter Try.func47, Try.ntmps47
  go_wp2_with fail
  go_loopw [8, 3] (fun i v wr => ∃ (k : Nat) (A1 : Option Addr) (n1 c1 : Nat), k ≤ n ∧ i = .int .i64 k ∧ v = .slice A1 n1 c1 ∧ OwnedG wr w.heap.size 56 (.slice A1 n1 c1) ((gs.take k).map fun g => ((g.1, g.2.1, g.2.2) : G)) ∧ Below w.heap.size w wr) (fun i _ _ => n - (intOf i).toNat)
  case atStart => exact ⟨0, none, 0, 0, Nat.zero_le _, rfl, rfl, World.ownsRow_nil _ _ _ _, Below.refl _ _⟩
  case round =>
    obtain ⟨k, A1, n1, c1, hk, rfl, rfl, ho, hb⟩ := hrel
    have HO := hide ho; have HB := hide hb; clear ho hb
    by_cases hlt : k < n
    · obtain ⟨b, off, rfl, hbb, e1, e2, e3⟩ := ((unhide H).below (unhide HB)).at_ k hlt
      have hkl : k < gs.length := by rw [hl.out]; exact hlt
      have hst := hide (show (gs.take (k + 1)).map (fun g => ((g.1, g.2.1, g.2.2) : G)) = (gs.take k).map (fun g => ((g.1, g.2.1, g.2.2) : G)) ++ [(fun g : G => ((g.1, g.2.1, g.2.2) : G)) (gth gs k)] from by rw [gtake gs k hkl, List.map_append]; rfl)
      
      revert hst
      obtain ⟨⟨f, d, m⟩, hgk⟩ : ∃ q, gth gs k = q := ⟨_, rfl⟩
      rw [hgk] at e1 e2 e3 ⊢
      clear hgk
      simp only at e1 e2 e3 ⊢
      intro hst
      
      have hbs := (unhide HB).size
      go_wp2_with (at_builtin
                   refine wpList_appG (w := wr.alloc (.cells #[.int .i64 f, .int .i64 d, .int .i64 m] 57)) (by rfl) (.tmp 12) (.tmp 20) 22 56 (by rfl) Try.underlying22 info56 (by rfl) (by simp [Act.eval]) ((unhide HO).alloc _) (by rw [List.length_map, List.length_take]; omega) (by simp; omega) ?_
                   intro v1 w1 ho1 hb1 _
                   obtain ⟨A3, c3, e3, _⟩ := ho1.gs
                   have HO1 := hide ho1; have E3 := hide e3
                   have HB1 := hide (((unhide HB).alloc hbs (.cells #[.int .i64 f, .int .i64 d, .int .i64 m] 57)).trans hb1)
                   clear ho1 hb1 e3)
      go_roundw
      case rel => exact ⟨k + 1, A3, _, c3, by omega, by go_num, E3.out, by rw [hst.out, ← E3.out]; exact unhide HO1, unhide HB1⟩
      case measure => simp [intOf]; omega
    · obtain rfl : k = n := by omega
      have hT := hide (show gs.take k = gs from List.take_of_length_le (by rw [hl.out]; exact Nat.le_refl _))
      go_wp2_with fail
      go_ret
      exact ⟨_, rfl, by have := unhide HO; rwa [hT.out] at this, unhide HB⟩

set_option maxHeartbeats 1600000 in
/-- Turned. -/
theorem RTurn_any (A : Option Addr) (n c : Nat) (gs : List G) (w : World) (h : Gs w w.heap.size A n c gs) (hn : n ≤ 1000) (hB : Hid (∀ g ∈ gs, -4 ≤ g.2.1 ∧ g.2.1 ≤ 4)) :
    Calls Try.prog 48 #[.slice A n c] w fun e w' => ∃ v, e = .returned v ∧ OwnedG w' w.heap.size 56 v (gs.map fun g => turnG g) ∧ Below w.heap.size w w' := by
  have hm := h.most; have hcap := h.cap
  have hl := hide h.len
  have H := hide h; clear h
  go_enter Try.func48, Try.ntmps48
  go_wp2_with fail
  go_loopw [8, 3] (fun i v wr => ∃ (k : Nat) (A1 : Option Addr) (n1 c1 : Nat), k ≤ n ∧ i = .int .i64 k ∧ v = .slice A1 n1 c1 ∧ OwnedG wr w.heap.size 56 (.slice A1 n1 c1) ((gs.take k).map fun g => turnG g) ∧ Below w.heap.size w wr) (fun i _ _ => n - (intOf i).toNat)
  case atStart => exact ⟨0, none, 0, 0, Nat.zero_le _, rfl, rfl, World.ownsRow_nil _ _ _ _, Below.refl _ _⟩
  case round =>
    obtain ⟨k, A1, n1, c1, hk, rfl, rfl, ho, hb⟩ := hrel
    have HO := hide ho; have HB := hide hb; clear ho hb
    by_cases hlt : k < n
    · obtain ⟨b, off, rfl, hbb, e1, e2, e3⟩ := ((unhide H).below (unhide HB)).at_ k hlt
      have hkl : k < gs.length := by rw [hl.out]; exact hlt
      have hst := hide (show (gs.take (k + 1)).map (fun g => turnG g) = (gs.take k).map (fun g => turnG g) ++ [(fun g : G => turnG g) (gth gs k)] from by rw [gtake gs k hkl, List.map_append]; rfl)
      have hbd := hB.out (gth gs k) (gth_mem hkl)
      revert hst
      obtain ⟨⟨f, d, m⟩, hgk⟩ : ∃ q, gth gs k = q := ⟨_, rfl⟩
      rw [hgk] at e1 e2 e3 hbd ⊢
      clear hgk
      simp only at e1 e2 e3 hbd ⊢
      intro hst
      obtain ⟨q1, q2⟩ := hbd
      have hbs := (unhide HB).size
      go_wp2_with (at_builtin
                   refine wpList_appG (w := wr.alloc (.cells #[.int .i64 f, .int .i64 d, .int .i64 m] 56)) (by rfl) (.tmp 12) (.tmp 21) 22 56 (by rfl) Try.underlying22 info56 (by rfl) (by simp [Act.eval]) ((unhide HO).alloc _) (by rw [List.length_map, List.length_take]; omega) (by simp; omega) ?_
                   intro v1 w1 ho1 hb1 _
                   obtain ⟨A3, c3, e3, _⟩ := ho1.gs
                   have HO1 := hide ho1; have E3 := hide e3
                   have HB1 := hide (((unhide HB).alloc hbs (.cells #[.int .i64 f, .int .i64 d, .int .i64 m] 56)).trans hb1)
                   clear ho1 hb1 e3)
      go_roundw
      case rel => exact ⟨k + 1, A3, _, c3, by omega, by go_num, E3.out, by rw [hst.out, ← E3.out]; exact unhide HO1, unhide HB1⟩
      case measure => simp [intOf]; omega
    · obtain rfl : k = n := by omega
      have hT := hide (show gs.take k = gs from List.take_of_length_le (by rw [hl.out]; exact Nat.le_refl _))
      go_wp2_with fail
      go_ret
      exact ⟨_, rfl, by have := unhide HO; rwa [hT.out] at this, unhide HB⟩
theorem own_any (A : Option Addr) (n c : Nat) (gs : List G) (w : World) (h : Gs w w.heap.size A n c gs) (hn : n ≤ 1000) :
    Calls Try.prog 47 #[.slice A n c] w fun e w' => ∃ v, e = .returned v ∧ OwnedG w' w.heap.size 56 v gs ∧ Below w.heap.size w w' :=
  (own_map A n c gs w h hn).mono fun _ _ ⟨v, he, ho, hb⟩ => ⟨v, he, by simpa using ho, hb⟩
end Go.Proofs.Ytccfhcoioakmpaa
