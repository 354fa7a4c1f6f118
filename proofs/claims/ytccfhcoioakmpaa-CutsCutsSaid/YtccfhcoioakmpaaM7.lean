/-
  Move of the reference.
-/
import Derived.Test.YtccfhcoioakmpaaM6
namespace Go.Proofs.Ytccfhcoioakmpaa
open Go.RowKit

set_option maxRecDepth 4000 in
set_option maxHeartbeats 6400000 in
theorem RMove_any (A : Option Addr) (n c : Nat) (gs : List G) (x y : Int) (w : World) (h : Gs w w.heap.size A n c gs) (hn6 : n ≤ 6) (hok : Hid (OkAll gs)) (hs : Hid (step5 x y = true)) (r : Int) (L : List G) (hr1 : Hid (gs.all (movOk x y) = true → r = 0 ∧ L = gs.map (moveG x y))) (hr2 : Hid (gs.all (movOk x y) = false → r = 4 ∧ L = [])) :
    Calls Try.prog 50 #[.slice A n c, .int .i64 x, .int .i64 y] w fun e w' => ∃ v, e = .returned (.tuple #[v, .int .i64 r]) ∧ OwnedG w' w.heap.size 56 v L ∧ Below w.heap.size w w' := by
  have hm := h.most; have hcap := h.cap
  have hl := hide h.len
  have H := hide h; clear h
  obtain ⟨⟨hx1, hx2⟩, hy1, hy2⟩ := step5_iff.1 hs.out
  go_enter Try.func50, Try.ntmps50
  go_wp2_with fail
  go_loopw [13, 8] (fun i v wr => ∃ (k : Nat) (A1 : Option Addr) (n1 c1 : Nat), k ≤ n ∧ i = .int .i64 k ∧ v = .slice A1 n1 c1 ∧ Hid ((gs.take k).all (movOk x y) = true) ∧ OwnedG wr w.heap.size 56 (.slice A1 n1 c1) ((gs.take k).map (moveG x y)) ∧ Below w.heap.size w wr) (fun i _ _ => n - (intOf i).toNat)
  case atStart => exact ⟨0, none, 0, 0, Nat.zero_le _, rfl, rfl, rfl, World.ownsRow_nil _ _ _ _, Below.refl _ _⟩
  case round =>
    obtain ⟨k, A1, n1, c1, hk, rfl, rfl, HM, ho, hb⟩ := hrel
    have HO := hide ho; have HB := hide hb; clear ho hb
    by_cases hlt : k < n
    · have hkl : k < gs.length := by rw [hl.out]; exact hlt
      obtain ⟨b3, off, rfl, hbb, e1, e2, e3⟩ := ((unhide H).below (unhide HB)).at_ k hlt
      have hg := (okS_iff _).1 (hok.out _ (gth_mem hkl))
      have hst := hide (show (gs.take (k + 1)).map (moveG x y) = (gs.take k).map (moveG x y) ++ [moveG x y (gth gs k)] from by rw [gtake gs k hkl, List.map_append]; rfl)
      have hta := hide (all_take_succ (p := movOk x y) gs k hkl)
      have hno := hide (fun hh => movOk_no (x := x) (y := y) hkl hh)
      have hiff := hide (movOk_iff (x := x) (y := y) (g := gth gs k))
      revert hst hta hno hiff
      obtain ⟨⟨f, d, m⟩, hgk⟩ : ∃ f, gth gs k = f := ⟨_, rfl⟩
      rw [hgk] at e1 e2 e3 hg ⊢
      clear hgk
      simp only [moveG] at e1 e2 e3 hg ⊢
      intro hst hta hno hiff
      obtain ⟨g1, g2, _, g4, g5⟩ := hg
      have p1 := mul_bd (M := 4) (N := 5) g1 ⟨hx1, hx2⟩
      have p2 := mul_bd (M := 4) (N := 5) g2 ⟨hy1, hy2⟩
      obtain ⟨p11, p12⟩ := p1; obtain ⟨p21, p22⟩ := p2
      obtain ⟨g11, g12⟩ := g1; obtain ⟨g21, g22⟩ := g2
      have hbs := (unhide HB).size
      have HBx := hide ((unhide HB).alloc (unhide HB).size (.cells #[.int .i64 f, .int .i64 d, .int .i64 (m + (f * x + d * y))] 56))
      by_cases hq1 : m + (f * x + d * y) < -40
      · have HF := hide (hr2.out (hno.out (by rw [Bool.eq_false_iff]; intro hc; have := hiff.out.1 hc; omega)))
        go_wp2_with fail
        go_ret2
        obtain ⟨rfl, rfl⟩ := HF.out
        exact ⟨_, rfl, World.ownsRow_nil _ _ _ _, unhide HBx⟩
      by_cases hq2 : 40 < m + (f * x + d * y)
      · have HF := hide (hr2.out (hno.out (by rw [Bool.eq_false_iff]; intro hc; have := hiff.out.1 hc; omega)))
        go_wp2_with fail
        go_ret2
        obtain ⟨rfl, rfl⟩ := HF.out
        exact ⟨_, rfl, World.ownsRow_nil _ _ _ _, unhide HBx⟩
      have HM2 := hide (show (gs.take (k + 1)).all (movOk x y) = true from by rw [hta.out, HM.out, hiff.out.2 (by omega)]; rfl)
      go_wp2_with (at_builtin
                   refine wpList_appG (w := wr.alloc (.cells #[.int .i64 f, .int .i64 d, .int .i64 (m + (f * x + d * y))] 56)) (by rfl) (.tmp 38) (.tmp 40) 22 56 (by rfl) Try.underlying22 info56 (by rfl) (by simp [Act.eval]) ((unhide HO).alloc _) (by rw [List.length_map, List.length_take]; omega) (by simp; omega) ?_
                   intro v1 w1 ho1 hb1 _
                   obtain ⟨A3, c3, e3, _⟩ := ho1.gs
                   have HO1 := hide ho1; have E3 := hide e3
                   have HB1 := hide ((unhide HBx).trans hb1)
                   clear ho1 hb1 e3)
      go_roundw
      case rel => exact ⟨k + 1, A3, _, c3, by omega, by go_num, E3.out, HM2, by rw [hst.out, ← E3.out]; exact unhide HO1, unhide HB1⟩
      case measure => simp [intOf]; omega
    · obtain rfl : k = n := by omega
      have hT : gs.take k = gs := List.take_of_length_le (by rw [hl.out]; exact Nat.le_refl _)
      have HF := hide (hr1.out (by rw [← HM.out, hT]))
      rw [hT] at HO
      clear hT
      go_wp2_with fail
      go_ret2
      obtain ⟨rfl, rfl⟩ := HF.out
      exact ⟨_, rfl, unhide HO, unhide HB⟩
end Go.Proofs.Ytccfhcoioakmpaa
