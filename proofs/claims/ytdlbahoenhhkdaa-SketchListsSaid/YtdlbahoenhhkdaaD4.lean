import Derived.Test.YtdlbahoenhhkdaaD3
import Derived.Deep.RegionWith
/-
  The list as it stands in memory; find, put.
-/
namespace Go.Proofs.Ytdlbahoenhhkdaa
open Go.RowKit

set_option maxHeartbeats 1000000 in
theorem find_any (L : Nat) (A : Option Addr) (n c : Nat) (gs : List G) (key : Int) (K F : Value) (w : World) (hL : Blk w L 81 #[K, .slice A n c, F]) (h : Gs w w.heap.size A n c gs) (hn : n ≤ 100) (hr : Hid (Rise gs)) :
    Calls Try.prog 83 #[.pointer (some ⟨L, 0, none⟩), .int .i64 key] w fun e w' => ∃ p : Nat, e = .returned (.tuple #[.int .i64 (p : Int), .bool (onB gs key p)]) ∧ Hid (At gs key p) ∧ Below w.heap.size w w' := by
  have c1 : w.cell? ⟨L, 1, none⟩ = some (.slice A n c) := by rw [hL.cell]; rfl
  have hm := h.most; have hcap := h.cap
  go_enter Try.func83, Try.ntmps83
  go_wp2_with fail
  refine (search_any _ _ _ _ _ _ h hn hr).mono ?_
  rintro e w' ⟨p, rfl, hp, hb⟩
  go_wp2_with fail
  go_ret2
  exact ⟨p, rfl, hp, hb⟩

set_option maxRecDepth 100000 in
set_option maxHeartbeats 2000000 in
theorem put_any (L : Nat) (A : Option Addr) (n c : Nat) (gs : List G) (f d o : Int) (K F : Value) (w : World) (hL : Blk w L 81 #[K, .slice A n c, F]) (h : OwnedG w (L + 1) 68 (.slice A n c) gs) (hn : n ≤ 50) (hr : Hid (Rise gs)) :
    Calls Try.prog 78 #[.pointer (some ⟨L, 0, none⟩), .agg #[.int .i64 f, .int .i64 d, .int .i64 o]] w fun e w' => ∃ (A' : Option Addr) (n' c' p : Nat), e = .returned (.tuple #[]) ∧ Hid (At gs f p) ∧ Blk w' L 81 #[K, .slice A' n' c', F] ∧ OwnedG w' (L + 1) 68 (.slice A' n' c') (gs.take p ++ [(f, d, o)] ++ gs.drop p) ∧ Below L w w' := by
  have hLw := hL.lt
  have c1 : w.cell? ⟨L, 1, none⟩ = some (.slice A n c) := by rw [hL.cell]; rfl
  have hg := h.reads
  have hm := hg.most; have hcap := hg.cap
  have hlt := World.ownsRow.lt h
  have hb1 : Below w.heap.size w (w.alloc (.cells #[.int .i64 f, .int .i64 d, .int .i64 o] 68)) := (Below.refl _ _).alloc (Nat.le_refl _) _
  have hs1 : (w.alloc (.cells #[.int .i64 f, .int .i64 d, .int .i64 o] 68)).heap.size = w.heap.size + 1 := by simp
  have v1 := Blk.new w 68 #[.int .i64 f, .int .i64 d, .int .i64 o]
  have o1 := hide (h.alloc (.cells #[.int .i64 f, .int .i64 d, .int .i64 o] 68))
  have l1 := hL.alloc (.cells #[.int .i64 f, .int .i64 d, .int .i64 o] 68)
  have g1 := (unhide o1).reads
  have HB1 := hide hb1
  go_enter Try.func78, Try.ntmps78
  go_wp2_with fail
  refine (find_any L A n c gs f K F _ l1 g1 (by omega) hr).mono ?_
  rintro e w2 ⟨p, rfl, hp, hb⟩
  have hs2 := hb.size
  have hpn : p ≤ n := by have := hp.out.le; rw [hg.len] at this; exact this
  have l2 := l1.below hb (by omega)
  have v2 := v1.below hb (by omega)
  have o2 := hide ((unhide o1).below hb (Nat.le_refl _))
  have HB2 := hide ((unhide HB1).trans (hb.mono (by omega)))
  obtain ⟨B, hB⟩ : ∃ B, B = w.heap.size := ⟨_, rfl⟩
  have hc1 : w2.cell? ⟨L, 1, none⟩ = some (.slice A n c) := by rw [l2.cell]; rfl
  have hcA : (w2.alloc (.cells #[.int .i64 f, .int .i64 d, .int .i64 o] 68)).cell? ⟨L, 1, none⟩ = some (.slice A n c) := by rw [(l2.alloc _).cell]; rfl
  have hv0 : w2.cell? ⟨w.heap.size, 0, none⟩ = some (.int .i64 f) := by rw [v2.cell]; rfl
  have hv1 : w2.cell? ⟨w.heap.size, 1, none⟩ = some (.int .i64 d) := by rw [v2.cell]; rfl
  have hv2 : w2.cell? ⟨w.heap.size, 2, none⟩ = some (.int .i64 o) := by rw [v2.cell]; rfl
  have hsz2 : w.heap.size + 1 ≤ w2.heap.size := by omega
  have OI := hide (((unhide o2).drewN 1).alloc (.cells #[.int .i64 f, .int .i64 d, .int .i64 o] 68))
  have VI := hide (Blk.new (w2.drewN 1) 68 #[.int .i64 f, .int .i64 d, .int .i64 o])
  have LI := hide ((l2.drewN 1).alloc (.cells #[.int .i64 f, .int .i64 d, .int .i64 o] 68))
  have BI := hide ((unhide HB2).mono (show L ≤ w.heap.size by omega) |>.drew |>.alloc (show L ≤ w2.heap.size by omega) (.cells #[.int .i64 f, .int .i64 d, .int .i64 o] 68))
  have NE := hide (show ∀ k, (Value.slice A n c).ownBlock = some k → w2.heap.size ≠ k from fun k hk => by have := (hlt k hk).2; omega)
  clear hb1 hs1 v1 o1 l1 g1 HB1 hL h hg hlt v2 l2 hb hs2 c1
  go_wp2_with fail
  go_region_with (go_at_call 85
                  refine (Insert_any A n c p gs f d o w2.heap.size (L + 1) _ (unhide OI) (unhide VI) (by omega) (by simp; omega) hpn (unhide NE)).mono ?_
                  rintro e w3 ⟨v, rfl, ho3, hb3⟩
                  obtain ⟨A3, n3, c3, rfl, _⟩ := ho3.to
                  have l3 := (unhide LI).below hb3 (by omega)
                  have hc3 : w3.cell? ⟨L, 1, none⟩ = some (.slice A n c) := by rw [l3.cell]; rfl
                  have hf3 : w3.frozen? ⟨L, 1, none⟩ = false := l3.frozen 1
                  have HO3 := hide ho3; have HB3 := hide ((unhide BI).trans (hb3.mono (by omega))); have L3 := hide l3
                  clear ho3 hb3 l3)
  all_goals (
    go_end0
    refine ⟨A3, n3, c3, p, rfl, hp, (unhide L3).set_ 1 _, (unhide HO3).far (by show L < L + 1; omega) _, ?_⟩
    exact (unhide HB3).setCell (Nat.le_refl _) _)
end Go.Proofs.Ytdlbahoenhhkdaa
