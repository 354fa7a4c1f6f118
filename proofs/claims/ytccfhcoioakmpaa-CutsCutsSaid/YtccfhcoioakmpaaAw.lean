/-
  awake: the call that every correct program passes.
-/
import Derived.Test.YtccfhcoioakmpaaC4
namespace Go.Proofs.Ytccfhcoioakmpaa
open Go.RowKit

theorem gs_new (w : World) (gs : List G) (e : TypeId) (h : gs.length ≤ 1000) : Gs (w.alloc (.cells (cells3_ gs).toArray e)) (w.heap.size + 1) (some ⟨w.heap.size, 0, none⟩) gs.length gs.length gs :=
  ⟨rfl, Nat.le_refl _, by omega, (fun e => by cases e), fun k hk => by
    have hc := cells3_at gs k hk
    refine ⟨w.heap.size, 0, rfl, by omega, ?_, ?_, ?_⟩
    · rw [cell_row_ (heap_new_ _ _)]; simpa using hc.1
    · rw [cell_row_ (heap_new_ _ _)]; simpa using hc.2.1
    · rw [cell_row_ (heap_new_ _ _)]; simpa using hc.2.2⟩

def awGs : List G := [(1, 0, 1), (-1, 0, -1), (0, 1, 2), (0, -1, -2)]
theorem aw_pl : plF awGs = true := by decide +kernel
theorem aw_pts : ptsF awGs = [(1, 2)] := by decide +kernel

set_option maxHeartbeats 800000 in
theorem awake_any (w : World) : Calls Try.prog 21 #[] w fun e w' => e = .returned (.bool true) ∧ Below w.heap.size w w' := by
  have HP := hide aw_pl; have HT := hide aw_pts
  have he : ∀ w, (binOp .eql 43 (.agg #[.int .i64 1, .int .i64 2]) (.agg #[.int .i64 1, .int .i64 2])).run Try.prog w = .ok (.bool true) w := fun _ => by kernel_rfl
  have HG := hide (show Gs (w.alloc (.cells #[.int .i64 1, .int .i64 0, .int .i64 1, .int .i64 (-1), .int .i64 0, .int .i64 (-1), .int .i64 0, .int .i64 1, .int .i64 2, .int .i64 0, .int .i64 (-1), .int .i64 (-2)] 57)) (w.alloc (.cells #[.int .i64 1, .int .i64 0, .int .i64 1, .int .i64 (-1), .int .i64 0, .int .i64 (-1), .int .i64 0, .int .i64 1, .int .i64 2, .int .i64 0, .int .i64 (-1), .int .i64 (-2)] 57)).heap.size (some ⟨w.heap.size, 0, none⟩) 4 4 awGs from (gs_new w awGs 57 (by decide)).more (by simp))
  have HB := hide ((Below.refl _ w).alloc (Nat.le_refl _) (.cells #[.int .i64 1, .int .i64 0, .int .i64 1, .int .i64 (-1), .int .i64 0, .int .i64 (-1), .int .i64 0, .int .i64 1, .int .i64 2, .int .i64 0, .int .i64 (-1), .int .i64 (-2)] 57))
  have HY := hide (Points_yes _ _ _ awGs _ (unhide HG) HP)
  clear HG
  obtain ⟨ps, hps⟩ : ∃ ps, ptsF awGs = ps := ⟨_, rfl⟩
  rw [hps] at HY
  rw [hps] at HT
  clear hps HP
  go_enter Try.func21, Try.ntmps21
  go_wp2_with fail
  refine (unhide HY).mono ?_
  rintro e w1 ⟨v, rfl, ho, hb⟩
  rw [HT.out] at ho
  obtain ⟨A, c, rfl, hf⟩ := ho.fs
  have HB1 := hide ((unhide HB).trans (hb.mono (by simp)))
  obtain ⟨b, off, rfl, _, c1, c2⟩ := hf.at_ 0 (by simp)
  have hcap := hf.cap
  have hmost := hf.most
  simp only [fth, List.getD, List.getElem?_cons_zero, Option.getD_some, List.length_cons, List.length_nil, Nat.zero_mul, Nat.add_zero, Nat.zero_add] at c1 c2 hcap
  clear ho hb hf
  go_wp2_with fail
  go_ret
  exact ⟨rfl, unhide HB1⟩
end Go.Proofs.Ytccfhcoioakmpaa
