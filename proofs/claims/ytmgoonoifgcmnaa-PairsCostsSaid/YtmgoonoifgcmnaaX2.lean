/-
  The iterator over rows: what it yields; First, Count.
-/
import Derived.Test.YtmgoonoifgcmnaaX1
import Derived.Stop.RegionWithIn
namespace Go.Proofs.Ytmgoonoifgcmnaa
open Go.RowKit Go.Shelf

attribute [local go_sem] Oper.semAt_some

/-- All rows of n, in order. -/
def rowsL (n s : Nat) : List (List Int) := fillL (n + 1) s (List.replicate (2 * n) 0)

set_option maxRecDepth 100000 in
set_option maxHeartbeats 4000000 in
theorem rows_seq (n s Bs Bn : Nat) (hn : 1 ≤ n ∧ n ≤ 8) (hs : 1 ≤ s ∧ s ≤ 2) (w : World) (hBs : w.cell? ⟨Bs, 0, none⟩ = some (.int .i64 s)) (hBn : w.cell? ⟨Bn, 0, none⟩ = some (.int .i64 n)) (hls : Bs < w.heap.size) (hln : Bn < w.heap.size) :
    SeqR Try.prog 99 #[.pointer (some ⟨Bs, 0, none⟩), .pointer (some ⟨Bn, 0, none⟩)] (rowsL n s) w := by
  intro l J Jx W hW hJ hY h0
  have hcs := (hW.cell (p := ⟨Bs, 0, none⟩) hls).trans hBs
  have hcn := (hW.cell (p := ⟨Bn, 0, none⟩) hln).trans hBn
  have hls2 : Bs < W.heap.size := Nat.lt_of_lt_of_le hls hW.size
  have hln2 : Bn < W.heap.size := Nat.lt_of_lt_of_le hln hW.size
  obtain ⟨N, hN⟩ : ∃ N, 2 * n = N := ⟨_, rfl⟩
  have hN2 : (2 : Int) * (n : Int) = (N : Int) := by omega
  have hN16 : N ≤ 16 := by omega
  have hwr : IntKind.i64.wrap (N : Int) = (N : Int) := by simp [IntKind.wrap, IntKind.signed, IntKind.bits]; omega
  obtain ⟨Z, hZ1, hZ2, hmk⟩ := make_zeros N (by omega)
  have hw : Below W.heap.size W (W.drew.alloc (.cells Z 3)) := ((Below.refl _ W).drew).alloc (Nat.le_refl _) _
  have hZr : Z = ((List.replicate N (0 : Int)).map (Value.int .i64)).toArray := by
    apply Array.ext'
    rw [hZ2]; simp
  have HR := hide (show RowAt (W.drew.alloc (.cells Z 3)) W.heap.size (List.replicate N 0) from by unfold RowAt; rw [← hZr]; exact Blk.new W.drew 3 Z)
  have HJ0 := hide (hJ _ _ _ h0 (Nat.le_refl _) hw)
  have HF := hide (fill_any l W.heap.size s N W.heap.size (rowsL n s) hs hN16 (Nat.le_refl _) J Jx (hide hJ) (hide hY) (n + 1) (List.replicate N 0) [] _ (by unfold zer; rw [List.count_replicate_self]; omega) (by simp) (unhide HR) (unhide HJ0) (hide (by unfold rowsL; rw [hN]; exact List.prefix_refl _)) |>.mono (R' := fun e w' => ∃ b, e = .returned (.bool b) ∧ (J (fillL (n + 1) s (List.replicate N 0)) w' ∨ Jx w')) (fun e w' h => by
    rcases h with ⟨rfl, h, _⟩ | ⟨rfl, h⟩
    · exact ⟨true, rfl, .inl (by simpa using h)⟩
    · exact ⟨false, rfl, .inr h⟩))
  have hcs1 : W.drew.cell? ⟨Bs, 0, none⟩ = some (.int .i64 s) := hcs
  have hcn1 : W.drew.cell? ⟨Bn, 0, none⟩ = some (.int .i64 n) := hcn
  have hcs2 : (W.drew.alloc (.cells Z 3)).cell? ⟨Bs, 0, none⟩ = some (.int .i64 s) := (hw.cell (p := ⟨Bs, 0, none⟩) hls2).trans hcs
  have HE := hide (show rowsL n s = fillL (n + 1) s (List.replicate N 0) from by unfold rowsL; rw [hN])
  clear hW hJ hY h0 hw hZ1 hZ2 hZr hls hln hBs hBn hN
  refine callsIn_of_wp Try.func99 rfl trivial ?_ rfl
  simp only [Try.ntmps99, List.size_toArray, List.length_cons, List.length_nil, Nat.reduceAdd, Nat.reduceSub, Array.replicate_succ, Array.replicate_zero, List.push_toArray, List.append_toArray, List.nil_append, List.cons_append]
  gi_wp2_with fail
  gi_region_with (refine ⟨trivial, rfl, (unhide HF).mono ?_⟩; rintro e w3 ⟨b, rfl, hj3⟩)
  all_goals
    gi_wp2_with fail
    refine bodyPost_end (results_none rfl _ _ _) rfl ?_
    rw [HE.out]
    exact ⟨⟨_, rfl⟩, hj3⟩

theorem fillT_len {f s : Nat} {xs : List Int} (h : ∀ ys : List Int, ys.length ≤ 16 → (fillL f s ys).length ≤ 8 ^ f) (hx : xs.length ≤ 16) (p : Nat) : ∀ k : Nat, (fillT f s xs p k).length ≤ k * 8 ^ f
  | 0 => by simp [fillT]
  | k + 1 => by
    have h1 := fillT_len h hx p k
    rw [fillT_succ, List.length_append, Nat.add_mul]
    have : (fillS f s xs p k).length ≤ 8 ^ f := by
      unfold fillS
      split
      · simp
      · exact h _ (by rw [putR_len]; exact hx)
    omega
theorem fillL_len (s : Nat) : ∀ (f : Nat) (xs : List Int), xs.length ≤ 16 → (fillL f s xs).length ≤ 8 ^ f
  | 0, _, _ => by simp [fillL]
  | f + 1, xs, hx => by
    rcases ix_cases xs 0 with ⟨e, _⟩ | ⟨p, e, _⟩
    · rw [fillL_end (by omega)]; exact Nat.pow_pos (by omega)
    · rw [fillL_on e]
      refine Nat.le_trans (fillT_len (fun ys hy => fillL_len s f ys hy) hx p _) ?_
      rw [Nat.pow_succ, Nat.mul_comm]
      exact Nat.mul_le_mul_left _ (by omega)
theorem rowsL_len {n s : Nat} (hn : n ≤ 8) : (rowsL n s).length ≤ 134217728 := by
  have h := fillL_len s (n + 1) (List.replicate (2 * n) 0) (by simp; omega)
  have : (8 : Nat) ^ (n + 1) ≤ 8 ^ 9 := Nat.pow_le_pow_right (by omega) (by omega)
  unfold rowsL
  omega

theorem rows_any (n s : Int) (w : World) : Calls Try.prog 73 #[.int .i64 n, .int .i64 s] w fun e w' => e = .returned (.func (.func 99) #[] #[.pointer (some ⟨w.heap.size + 1, 0, none⟩), .pointer (some ⟨w.heap.size, 0, none⟩)]) ∧ w' = (w.alloc (.cells #[.int .i64 n] 3)).alloc (.cells #[.int .i64 s] 3) := by
  go_enter Try.func73, Try.ntmps73
  go_wp2_with fail
  go_ret
  exact ⟨by simp, rfl⟩
theorem enters99 : ∀ args w, (callFunc 99 args).run Try.prog w = .ok (.enter 99 args) w := enters_of Try.func99 (by kernel_rfl) rfl
theorem ct_iff {n : Int} : ctB n = true ↔ 1 ≤ n ∧ n ≤ 8 := by simp [ctB]
end Go.Proofs.Ytmgoonoifgcmnaa
