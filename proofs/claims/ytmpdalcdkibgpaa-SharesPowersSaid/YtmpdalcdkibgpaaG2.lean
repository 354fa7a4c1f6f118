import Derived.Test.YtmpdalcdkibgpaaG1
import Derived.Deep.RegionHeld3
namespace Go.Proofs.Ytmpdalcdkibgpaa
open Go.RowKit Go.Sort

def ltAt (xs ys : List Int) (k : Nat) : Prop := ∀ j, j < k → nth ys j ≤ nth xs j
set_option maxHeartbeats 800000 in
/-- The first index at which xs is below ys. -/
theorem firstPoorer_any (A A' : Option Addr) (n c c' : Nat) (xs ys : List Int) (w : World) (B B' : Nat) (h : Ints w B A n c xs) (h' : Ints w B' A' n c' ys) :
    Calls Try.prog 98 #[.slice A n c, .slice A' n c'] w fun e w' => ∃ z : Int, e = .returned (.int .i64 z) ∧ (∃ q, w' = w.drewN q) ∧ Hid ((z = -1 ∧ ltAt xs ys n) ∨ ∃ k : Nat, z = k ∧ k < n ∧ ltAt xs ys k ∧ nth xs k < nth ys k) := by
  have hm := h.most; have hcap := h.cap; have hm' := h'.most; have hcap' := h'.cap
  go_enter Try.func98, Try.ntmps98
  go_wp2_with fail
  go_loopw [8] (fun i wr => ∃ k : Nat, k ≤ n ∧ i = .int .i64 k ∧ Hid (ltAt xs ys k) ∧ ∃ q, wr = w.drewN q) (fun i _ => n - (intOf i).toNat)
  case atStart => exact ⟨0, Nat.zero_le _, rfl, (fun j hj => by omega), 0, rfl⟩
  case round =>
    obtain ⟨k, hk, rfl, HL, q, rfl⟩ := hrel
    by_cases hlt : k < n
    · obtain ⟨b, off, rfl, _, hc⟩ := h.at_ k hlt
      obtain ⟨b2, off2, rfl, _, hc2⟩ := h'.at_ k hlt
      by_cases hv : nth xs k < nth ys k
      · go_wp2_with fail
        go_quiet (fail)
        go_wp2_with fail
        go_ret
        exact ⟨_, rfl, (by first | exact ⟨_, rfl⟩ | exact quiet_q _ _ _), .inr ⟨k, rfl, hlt, HL.out, hv⟩⟩
      · have HL2 := hide (show ltAt xs ys (k + 1) from fun j hj => by
          rcases Nat.lt_or_ge j k with h1 | h1
          · exact HL.out j h1
          · obtain rfl : j = k := by omega
            omega)
        go_wp2_with fail
        go_quiet (fail)
        go_wp2_with fail
        go_roundw
        case rel => exact ⟨k + 1, by omega, by go_num, HL2, (by first | exact ⟨_, rfl⟩ | exact quiet_q _ _ _)⟩
        case measure => simp [intOf]; omega
    · obtain rfl : k = n := by omega
      go_wp2_with fail
      go_ret
      exact ⟨_, rfl, ⟨_, rfl⟩, .inl ⟨rfl, HL.out⟩⟩

set_option maxHeartbeats 1600000 in
theorem do_any (g n c : Nat) (xs : List Int) (f t : Nat) (m : Int) (w : World) (base : Nat) (ho : Owned w base (.slice (some ⟨g, 0, none⟩) n c) xs) (hl : xs.length = n) (_hcap : n ≤ c) (_hm : c ≤ 9223372036854775807) (hx : Hid (Small 20 xs)) (hf : f < n) (ht : t < n) (hne : f ≠ t) (hm1 : 1 ≤ m) (hm2 : m ≤ 20) (hg : base ≤ g) (hb : base ≤ w.heap.size) :
    Calls Try.prog 68 #[.slice (some ⟨g, 0, none⟩) n c, .agg #[.int .i64 f, .int .i64 t, .int .i64 m]] w fun e w' => e = .returned (.tuple #[]) ∧ Owned w' base (.slice (some ⟨g, 0, none⟩) n c) (doG xs ((f : Int), (t : Int), m)) ∧ Below base w w' ∧ w.grownBy w' (some g) := by
  have hl := hide hl
  obtain ⟨x1, x2⟩ := (unhide hx) f; obtain ⟨y1, y2⟩ := (unhide hx) t
  have hfI : (f : Int) < n := by omega
  have htI : (t : Int) < n := by omega
  have ho1 := ho.alloc (.cells #[.int .i64 (f : Int), .int .i64 (t : Int), .int .i64 m] 73)
  have hcf := ho1.cell_ hl.out hf
  have hff := ho1.free_ hl.out f
  have hgs : g < w.heap.size := ((World.ownsRow.lt ho g rfl)).2
  have st1 := ho.store hl.out f (nth xs f - m)
  have st1a := st1.alloc (.cells #[.int .i64 (f : Int), .int .i64 (t : Int), .int .i64 m] 73)
  have hl2 : (xs.set f (nth xs f - m)).length = n := by rw [List.length_set]; exact hl.out
  have hct := st1a.cell_ hl2 ht
  rw [nth_set_ne _ hne] at hct
  have hft := st1a.free_ hl2 t
  have fin := hide (((st1.store hl2 t (nth xs t + m)).alloc (.cells #[.int .i64 (f : Int), .int .i64 (t : Int), .int .i64 m] 73)))
  have hbel := hide ((((Below.refl base w).setCell (p := ⟨g, f, none⟩) hg (.int .i64 (nth xs f - m))).setCell (p := ⟨g, t, none⟩) hg (.int .i64 (nth xs t + m))).alloc (by simpa [World.setCell] using hb) (.cells #[.int .i64 (f : Int), .int .i64 (t : Int), .int .i64 m] 73))
  have hgr := hide (show w.grownBy (((w.setCell ⟨g, f, none⟩ (.int .i64 (nth xs f - m))).setCell ⟨g, t, none⟩ (.int .i64 (nth xs t + m))).alloc (.cells #[.int .i64 (f : Int), .int .i64 (t : Int), .int .i64 m] 73)) (some g) from
    ⟨rfl, rfl, rfl, by simp [World.setCell], fun k hk hne2 => (Below.heap_alloc _ _ _ (by simpa [World.setCell] using hk)).trans ((Below.heap_setCell _ _ _ _ (fun e => hne2 (by rw [e]))).trans (Below.heap_setCell _ _ _ _ (fun e => hne2 (by rw [e]))))⟩)
  have hdo := hide (show doG xs ((f : Int), (t : Int), m) = (xs.set f (nth xs f - m)).set t (nth xs t + m) from by rw [doG]; simp)
  have HL2 := hide hl2
  clear st1 st1a hl2 ho ho1
  go_enter Try.func68, Try.ntmps68
  go_wp2_with fail
  go_region
  go_wp2_with fail
  go_region
  go_wp2_with fail
  go_end0
  exact ⟨rfl, by rw [hdo.out]; exact unhide fin, (unhide hbel).drew.drew, ⟨(unhide hgr).os, (unhide hgr).tape, (unhide hgr).output, (unhide hgr).size, (unhide hgr).block⟩⟩
end Go.Proofs.Ytmpdalcdkibgpaa
