import Derived.Test.YtmpdalcdkibgpaaA1
import Derived.Test.YtmpdalcdkibgpaaM1
namespace Go.Proofs.Ytmpdalcdkibgpaa
open Go.RowKit Go.Sort

theorem ints_blk {w : World} {g B n c : Nat} {cs : Array Value} {zs : List Int} (h : w.heap[g]? = some (.cells cs 3 (0, 0))) (hc : cs.toList = zs.map (Value.int .i64)) (hB : g < B) (hn : zs.length = n) (hnc : n ≤ c) (hm : c ≤ 9223372036854775807) : Ints w B (some ⟨g, 0, none⟩) n c zs :=
  ⟨hn, hnc, hm, (fun e => by cases e), fun k hk => ⟨g, 0, rfl, hB, by
    have hkl : k < zs.length := by omega
    rw [Nat.zero_add, cell_of_row w g k cs 3 (0, 0) h, ← Array.getElem?_toList, hc]
    simp [nth, List.getD, hkl]⟩⟩

set_option maxHeartbeats 400000 in
theorem awake_any (w : World) : Calls Try.prog 21 #[] w fun e w' => e = .returned (.bool true) ∧ Below w.heap.size w w' := by
  have hu := hide (show unevS [3, 0] [2, 1] = true from by rw [unevS, fallS_eq, fallS_eq]; decide)
  have hs := hide (show areSh [3, 0] [2, 1] = true from by decide)
  have i1 := hide (ints_blk (w := (w.alloc (Obj.cells #[Value.int IntKind.i64 3, Value.int IntKind.i64 0] 3)).alloc (Obj.cells #[Value.int IntKind.i64 2, Value.int IntKind.i64 1] 3)) (g := w.heap.size) (B := w.heap.size + 1 + 1) (n := 2) (c := 2) (zs := [3, 0])
    ((Below.heap_alloc _ _ _ (by simp)).trans (heap_alloc_new w _)) rfl (by omega) rfl (by omega) (by omega))
  have i2 := hide (ints_blk (w := (w.alloc (Obj.cells #[Value.int IntKind.i64 3, Value.int IntKind.i64 0] 3)).alloc (Obj.cells #[Value.int IntKind.i64 2, Value.int IntKind.i64 1] 3)) (g := w.heap.size + 1) (B := w.heap.size + 1 + 1) (n := 2) (c := 2) (zs := [2, 1])
    (by have := heap_alloc_new (w.alloc (Obj.cells #[Value.int IntKind.i64 3, Value.int IntKind.i64 0] 3)) (Obj.cells #[Value.int IntKind.i64 2, Value.int IntKind.i64 1] 3); simpa using this) rfl (by omega) rfl (by omega) (by omega))
  have hsz : ((w.alloc (Obj.cells #[Value.int IntKind.i64 3, Value.int IntKind.i64 0] 3)).alloc (Obj.cells #[Value.int IntKind.i64 2, Value.int IntKind.i64 1] 3)).heap.size = w.heap.size + 1 + 1 := by simp
  have j1 := hide (show Ints _ _ _ _ _ _ from hsz ▸ unhide i1)
  have j2 := hide (show Ints _ _ _ _ _ _ from hsz ▸ unhide i2)
  have hb := hide (show Below w.heap.size w ((w.alloc (Obj.cells #[Value.int IntKind.i64 3, Value.int IntKind.i64 0] 3)).alloc (Obj.cells #[Value.int IntKind.i64 2, Value.int IntKind.i64 1] 3)) from ((Below.refl _ _).alloc (Nat.le_refl _) _).alloc (by simp) _)
  clear hsz
  go_enter Try.func21, Try.ntmps21
  go_wp2_with fail
  refine (Uneven_ok _ _ _ _ _ _ _ _ _ (unhide j1) (unhide j2) hs).mono ?_
  rintro e w1 ⟨rfl, hb1⟩
  rw [hu.out]
  go_wp2_with fail
  go_ret
  exact ⟨rfl, (unhide hb).trans (hb1.mono (by simp; omega))⟩
end Go.Proofs.Ytmpdalcdkibgpaa
