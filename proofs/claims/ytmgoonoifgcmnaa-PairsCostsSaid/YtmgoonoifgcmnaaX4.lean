/-
  Count; the law is awake.
-/
import Derived.Test.YtmgoonoifgcmnaaX3
namespace Go.Proofs.Ytmgoonoifgcmnaa
open Go.RowKit Go.Shelf

attribute [local go_sem] Oper.semAt_some

set_option maxRecDepth 100000 in
set_option maxHeartbeats 4000000 in
theorem Count_ok (n s : Nat) (hn : 1 ≤ n ∧ n ≤ 8) (hs : 1 ≤ s ∧ s ≤ 2) (w : World) :
    Calls Try.prog 27 #[.int .i64 n, .int .i64 s] w fun e w' => e = .returned (.tuple #[.int .i64 ((rowsL n s).length : Nat), .int .i64 0]) ∧ Below w.heap.size w w' := by
  have HC := hide (show ctB n = true from by simp [ctB]; omega)
  have HS := hide (show shB s = true from by simp [shB]; omega)
  have HLEN := hide (rowsL_len (s := s) hn.2)
  refine (callsIn_wide (n := 0)).1 ?_
  refine callsIn_of_wp_marks Try.func27 rfl trivial ?_ rfl
  simp only [Try.ntmps27, List.size_toArray, List.length_cons, List.length_nil, Nat.reduceAdd, Nat.reduceSub, Array.replicate_succ, Array.replicate_zero, List.push_toArray, List.append_toArray, List.nil_append, List.cons_append]
  gi_wp2_with fail
  refine ⟨trivial, rfl, (callsIn_wide.2 (isCount_any _ _ true HC)).mono ?_⟩
  rintro e w' ⟨rfl, rfl⟩
  gi_wp2_with fail
  refine ⟨trivial, rfl, (callsIn_wide.2 (isShift_any _ _ true HS)).mono ?_⟩
  rintro e w' ⟨rfl, rfl⟩
  gi_wp2_with fail
  refine ⟨trivial, rfl, (callsIn_wide.2 (rows_any _ _ _)).mono ?_⟩
  rintro e w' ⟨rfl, rfl⟩
  gi_wp2_with fail
  obtain ⟨wr, hwr⟩ : ∃ wr, wr = ((w.alloc (.cells #[.int .i64 0] 3)).alloc (.cells #[.int .i64 n] 3)).alloc (.cells #[.int .i64 s] 3) := ⟨_, rfl⟩
  have hb0 : Below w.heap.size w wr := by rw [hwr]; exact (((Below.refl _ w).alloc (Nat.le_refl _) _).alloc (by simp) _).alloc (by simp; omega) _
  have hsz : wr.heap.size = w.heap.size + 1 + 1 + 1 := by rw [hwr]; simp
  have hk0 : Blk wr w.heap.size 3 #[.int .i64 0] := by rw [hwr]; exact ((Blk.new w _ _).alloc _).alloc _
  have hcn : wr.cell? ⟨w.heap.size + 1, 0, none⟩ = some (.int .i64 n) := by
    rw [hwr, World.cell?_alloc_lt _ _ _ (by simp), World.cell?_alloc_at _ _ _ _ (by simp)]; rfl
  have hcs : wr.cell? ⟨w.heap.size + 1 + 1, 0, none⟩ = some (.int .i64 s) := by
    rw [hwr, World.cell?_alloc_at _ _ _ _ (by simp)]; rfl
  have hseq := rows_seq n s (w.heap.size + 1 + 1) (w.heap.size + 1) hn hs wr hcs hcn (by omega) (by omega)
  rw [← hwr]
  clear hwr hcn hcs
  refine wp_rangeR rfl enters99 hseq (Below.refl _ _) rfl
    (fun pre W => Blk W w.heap.size 3 #[.int .i64 (pre.length : Nat)] ∧ Below w.heap.size w W)
    (fun _ _ => False) ?hI ?hIx ⟨hk0, hb0⟩
    (fun A' n' c' a' => a' = { tmps := #[.int .i64 n, .int .i64 s, undef, undef, .int .i64 0, .int .i64 0, .pointer (some ⟨w.heap.size, 0, none⟩), .int .i64 n, .bool true, .bool false, .bool false, .int .i64 s, .bool true, .bool false, .bool false, .int .i64 n, .int .i64 s, .func (.func 99) #[] #[.pointer (some ⟨w.heap.size + 1 + 1, 0, none⟩), .pointer (some ⟨w.heap.size + 1, 0, none⟩)], .slice A' n' c', undef, undef, undef], defers := [] })
    ?assign ?body ?done ?stop
  case hI =>
    rintro pre A B ⟨h1, h4⟩ hA hB
    exact ⟨h1.below hB (by omega), h4.trans (hB.mono (by omega))⟩
  case hIx => exact fun _ _ _ _ _ h _ _ => h
  case assign =>
    rintro l A1 n1 c1 W K hK
    have HK := hide (hK _ rfl)
    clear hK
    gi_wp2
    simpa using unhide HK
  case body =>
    rintro l pre y A1 n1 c1 a' W hpre hWs ⟨h1, h4⟩ hi rfl
    have hle := hpre.length_le
    rw [List.length_append, List.length_cons, List.length_nil] at hle
    obtain ⟨m, hm⟩ : ∃ m, pre.length = m := ⟨_, rfl⟩
    rw [hm] at h1 hle
    have hm2 : m < 134217728 := by have := HLEN.out; omega
    have x0 := h1.cell 0; have x2 := h1.frozen 0
    simp only [List.getElem?_toArray, List.getElem?_cons_zero] at x0
    have HU := hide (show Upper wr.heap.size W (W.setCell ⟨w.heap.size, 0, none⟩ (.int .i64 ((m : Int) + 1))) from Upper.set (p := ⟨w.heap.size, 0, none⟩) (by show w.heap.size < wr.heap.size; omega) _)
    have HN := hide (show Blk (W.setCell ⟨w.heap.size, 0, none⟩ (.int .i64 ((m : Int) + 1))) w.heap.size 3 #[.int .i64 ((pre ++ [y]).length : Nat)] from by
      have := h1.set_ 0 (.int .i64 ((m : Int) + 1))
      rw [List.length_append, hm]
      exact this)
    have HB := hide (h4.setCell (p := ⟨w.heap.size, 0, none⟩) (Nat.le_refl _) (.int .i64 ((m : Int) + 1)))
    clear h1 h4 hi hpre hle hm
    gi_wp2_with fail
    exact ⟨HU.out, HN.out, HB.out⟩
  case done =>
    rintro D W hD ⟨h1, h4⟩ hK
    obtain ⟨m, hm⟩ : ∃ m, (rowsL n s).length = m := ⟨_, rfl⟩
    rw [hm] at h1
    have HM := hide hm
    clear hm
    have x0 := h1.cell 0
    simp only [List.getElem?_toArray, List.getElem?_cons_zero] at x0
    have hg := grownBy_putObj' W D (.deferred none)
    have HB := hide (h4.grown hg h4.size (fun r e => by cases e; omega))
    clear h1 h4 hg
    gi_wp2
    refine ⟨by simp, .inl ⟨_, _, rfl, run_takeDeferred hK, ?_⟩⟩
    exact ⟨.tuple #[.int .i64 (m : Nat), .int .i64 0], by simp [results, Try.results27, go_sem], by rw [HM.out], HB.out⟩
  case stop =>
    rintro D c W _ h _
    exact h.elim

set_option maxRecDepth 100000 in
set_option maxHeartbeats 4000000 in
theorem Count_no (n s : Int) (h : Hid ((ctB n && shB s) = false)) (w : World) :
    Calls Try.prog 27 #[.int .i64 n, .int .i64 s] w fun e w' => e = .returned (.tuple #[.int .i64 0, .int .i64 2]) ∧ w = w' := by
  cases hc : ctB n with
  | false =>
    go_enter Try.func27, Try.ntmps27
    go_wp2_with (go_at_call 72; refine (isCount_any _ _ false (hide hc)).mono ?_; rintro e w' ⟨rfl, rfl⟩)
    go_ret2
    exact ⟨rfl, rfl⟩
  | true =>
    have hs : shB s = false := by have := h.out; rw [hc] at this; simpa using this
    go_enter Try.func27, Try.ntmps27
    go_wp2_with (first
      | (go_at_call 72; refine (isCount_any _ _ true (hide hc)).mono ?_; rintro e w' ⟨rfl, rfl⟩)
      | (go_at_call 68; refine (isShift_any _ _ false (hide hs)).mono ?_; rintro e w' ⟨rfl, rfl⟩))
    go_ret2
    exact ⟨rfl, rfl⟩

theorem rows_one : rowsL 1 1 = [1, 1] :: [] := by decide
set_option maxHeartbeats 800000 in
theorem awake_any (w : World) : Calls Try.prog 22 #[] w fun e w' => e = .returned (.bool true) ∧ Below w.heap.size w w' := by
  have HR := hide rows_one
  go_enter Try.func22, Try.ntmps22
  go_wp2_with fail
  refine (First_ok 1 1 (by omega) (by omega) [1, 1] [] HR (by simp) w).mono ?_
  rintro e w1 ⟨A, n, c, rfl, hi, hb⟩
  have hi2 : Ints (w1.alloc (.cells #[.int .i64 1, .int .i64 1] 3)) (w1.heap.size + 1) (some ⟨w1.heap.size, 0, none⟩) 2 2 [1, 1] :=
    ⟨rfl, Nat.le_refl _, by omega, (fun e => by cases e), fun k hk => ⟨w1.heap.size, 0, rfl, by omega, by
      rw [World.cell?_alloc_at _ _ _ _ rfl]
      rcases k with _ | _ | k
      · rfl
      · rfl
      · omega⟩⟩
  have HI := hide (hi.alloc (Nat.le_refl _) (.cells #[.int .i64 1, .int .i64 1] 3))
  have HI2 := hide hi2
  have HB := hide (hb.alloc hb.size (.cells #[.int .i64 1, .int .i64 1] 3))
  clear hi hb hi2
  go_wp2_with fail
  refine (equal_is _ _ _ _ _ _ _ _ _ _ _ (unhide HI) (unhide HI2) (hide rfl)).mono ?_
  rintro e w2 ⟨rfl, q, rfl⟩
  go_wp2_with fail
  go_ret
  exact ⟨rfl, Below.drewN' (unhide HB) q⟩
end Go.Proofs.Ytmgoonoifgcmnaa
