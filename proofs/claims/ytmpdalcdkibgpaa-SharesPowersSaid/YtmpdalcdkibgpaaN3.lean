import Derived.Test.YtmpdalcdkibgpaaN2
import Derived.Laws.EntriesVeiled
namespace Go.Proofs.Ytmpdalcdkibgpaa
open Go.RowKit Go.Sort

theorem make_ints (n : Nat) (hn : n ≤ 1000000) : ∃ Z : Array Value, Z.size = n ∧ ∀ W : World, (Instr.makeSlice 22 (.int .i64 0) (.int .i64 (n : Int))).run Try.prog W = .ok (.slice (some ⟨W.heap.size, 0, none⟩) 0 n) (W.alloc (.cells Z 3)) := by
  obtain ⟨i0, h0, hz0, hz1, hz2⟩ := info_parts info3
  refine ⟨madeCells (Value.int .i64 0).cells n, size_madeCells _ _, fun W => ?_⟩
  have := run_make (P := Try.prog) W 22 3 i0 _ Try.underlying22 h0 hz0 .i64 .i64 0 n (Int.le_refl _) (by omega) (by rw [hz2]; omega) (by omega)
  rw [hz1] at this
  simpa using this

theorem at_alloc {w : World} {o : Obj} {k : Nat} (h : k = w.heap.size) : (w.alloc o).heap[k]? = some o := by subst h; show (w.heap.push o)[w.heap.size]? = some o; simp
theorem past_alloc {w : World} {o u : Obj} {k : Nat} (h : w.heap[k]? = some u) : (w.alloc o).heap[k]? = some u := (Below.heap_alloc _ _ _ (lt_of_block h)).trans h
/-- The world in which the closure is called first. -/
def W5 (w : World) (n : Nat) (Z : Array Value) : World :=
  ((((w.alloc (.cells #[.int .i64 n] 3)).alloc (.cells #[.slice none 0 0] 22)).alloc (.cells Z 3)).alloc (.cells #[.slice (some ⟨w.heap.size + 1 + 1, 0, none⟩) 0 n] 22)).alloc (.cells #[.func (.func 105) #[] #[.pointer (some ⟨w.heap.size + 1 + 1 + 1, 0, none⟩), .pointer (some ⟨w.heap.size, 0, none⟩), .pointer (some ⟨w.heap.size + 1, 0, none⟩), .pointer (some ⟨w.heap.size + 1 + 1 + 1 + 1, 0, none⟩)]] 1)
theorem st_start (w : World) (n : Nat) (Z : Array Value) (hZ : Z.size = n) (hn : n ≤ 1000000) : St (w.heap.size + 1 + 1 + 1) w.heap.size (w.heap.size + 1) (w.heap.size + 1 + 1 + 1 + 1) n (w.heap.size + 1) (W5 w n Z) (.slice (some ⟨w.heap.size + 1 + 1, 0, none⟩) 0 n) (.slice none 0 0) [] [] := by
  have hown : Owned (W5 w n Z) (w.heap.size + 1) (.slice (some ⟨w.heap.size + 1 + 1, 0, none⟩) 0 n) [] := by
    have := World.ownsRow_made (e := 3) (size := 1) ((w.alloc (.cells #[.int .i64 n] 3)).alloc (.cells #[.slice none 0 0] 22)) Z n (base := w.heap.size + 1) (by simp) (by unfold maxLen; omega) (by omega)
    have h2 := (this.alloc (.cells #[.slice (some ⟨w.heap.size + 1 + 1, 0, none⟩) 0 n] 22)).alloc (.cells #[.func (.func 105) #[] #[.pointer (some ⟨w.heap.size + 1 + 1 + 1, 0, none⟩), .pointer (some ⟨w.heap.size, 0, none⟩), .pointer (some ⟨w.heap.size + 1, 0, none⟩), .pointer (some ⟨w.heap.size + 1 + 1 + 1 + 1, 0, none⟩)]] 1)
    unfold Owned W5; simpa using h2
  exact ⟨⟨past_alloc (at_alloc (by simp)), past_alloc (past_alloc (past_alloc (past_alloc (at_alloc rfl)))), past_alloc (past_alloc (past_alloc (at_alloc (by simp)))), at_alloc (by simp)⟩, hown, World.ownsRow_nil _ _ _ _, fun g _ e => by simp [Value.ownBlock] at e, by omega, by omega, by simp [W5]⟩

theorem ex_length (n : Nat) : ∀ (d : Nat) (o p : List Int), p ∈ ex n d o → p.length = o.length + d := by
  intro d
  induction d with
  | zero => intro o p h; simp [ex] at h; rw [h]; rfl
  | succ d ih =>
    intro o p h
    simp only [ex, List.mem_flatMap] at h
    obtain ⟨e, _, h⟩ := h
    split at h
    · simp at h
    · have := ih _ _ h
      simp at this
      omega
theorem flat_length (n : Nat) : ∀ (xss : List (List Int)), (∀ x ∈ xss, x.length = n) → xss.flatten.length = xss.length * n := by
  intro xss
  induction xss with
  | nil => intro _; simp
  | cons x l ih =>
    intro h
    have h1 := h x (by simp)
    have h2 := ih fun y hy => h y (by simp [hy])
    rw [List.flatten_cons, List.length_append, h1, h2, List.length_cons, Nat.succ_mul]; omega
theorem flat_nth (n : Nat) : ∀ (xss : List (List Int)), (∀ x ∈ xss, x.length = n) → ∀ k, k < xss.length → ∀ i, i < n → nth xss.flatten (k * n + i) = nth (row xss k) i := by
  intro xss
  induction xss with
  | nil => intro _ k hk; simp at hk
  | cons x l ih =>
    intro h k hk i hi
    have h1 := h x (by simp)
    rcases k with _ | k
    · rw [Nat.zero_mul, Nat.zero_add, List.flatten_cons, nth_app (by omega)]; rfl
    · have h2 := ih (fun y hy => h y (by simp [hy])) k (by simpa using hk) i hi
      have e : row (x :: l) (k + 1) = row l k := by simp [row, List.getD]
      rw [e, ← h2, List.flatten_cons]
      simp only [nth, List.getD]
      rw [List.getElem?_append_right (by rw [h1, Nat.succ_mul]; omega), h1, show (k + 1) * n + i - n = k * n + i from by rw [Nat.succ_mul]; omega]
theorem ex_most {n : Nat} (h1 : 1 ≤ n) (h5 : n ≤ 5) : (ex n n []).length ≤ 120 ∧ 0 < (ex n n []).length := by
  have : n = 1 ∨ n = 2 ∨ n = 3 ∨ n = 4 ∨ n = 5 := by omega
  rcases this with rfl | rfl | rfl | rfl | rfl <;> decide +kernel

set_option maxRecDepth 4000 in
set_option maxHeartbeats 4000000 in
/-- All orders of n numbers, as slices of n. -/
theorem orders_any (n : Nat) (h1 : 1 ≤ n) (h5 : n ≤ 5) (w : World) :
    Calls Try.prog 75 #[.int .i64 n] w fun e w' => ∃ A m c, e = .returned (.slice A m c) ∧ Rows_ w' w'.heap.size A m c (ex n n []) ∧ Below w.heap.size w w' := by
  obtain ⟨Z, hZ, hmk⟩ := make_ints n (by omega)
  have HST := hide (st_start w n Z hZ (by omega))
  obtain ⟨m, hm⟩ : ∃ m, (ex n n []).length = m := ⟨_, rfl⟩
  obtain ⟨M, hM⟩ : ∃ M, (ex n n []).flatten.length = M := ⟨_, rfl⟩
  have hall := hide (show ∀ x ∈ ex n n [], x.length = n from fun x hx => by simpa using ex_length n n [] x hx)
  have hmost := ex_most h1 h5
  rw [hm] at hmost
  obtain ⟨hm1, hm0⟩ := hmost
  have hMm : M = m * n := by rw [← hM, flat_length n _ hall.out, hm]
  have hM1 : M ≤ 600 := by rw [hMm]; exact Nat.le_trans (Nat.mul_le_mul hm1 h5) (by decide)
  have hM0 : 0 < M := by rw [hMm]; exact Nat.mul_pos hm0 h1
  have Hm := hide hm; have HM := hide hM; have HMm := hide hMm; clear hm hM hMm
  go_enter Try.func75, Try.ntmps75
  go_wp2_with fail
  refine (ext_all _ _ _ _ n (w.heap.size + 1) w.heap.size (by omega) (by omega) (by omega) (by omega) n (W5 w n Z) _ _ [] [] (unhide HST) (by simp) (by unfold fz; rw [HM.out]; simp; omega)).mono ?_
  rintro e w1 ⟨rfl, vo, vf, st, hb⟩
  rw [List.nil_append] at st
  obtain ⟨g, cf, rfl, hg, hcf, hcm, hof⟩ := st.hf.head HM.out hM0
  have cn := cell_of_one st.ob.n; have cfl := cell_of_one st.ob.f
  have ln := lt_of_block st.ob.n; have lf := lt_of_block st.ob.f
  have lg : g < w1.heap.size := (World.ownsRow.lt st.hf g rfl).2
  have HB1 := hide ((((((Below.refl w.heap.size w).alloc (Nat.le_refl _) (.cells #[.int .i64 n] 3)).alloc (by simp) (.cells #[.slice none 0 0] 22)).alloc (by simp; omega) (.cells Z 3)).alloc (by simp; omega) (.cells #[.slice (some ⟨w.heap.size + 1 + 1, 0, none⟩) 0 n] 22)).alloc (by simp; omega) _ |>.trans hb)
  have HI := hide hof.asInts
  clear st hb hof
  go_wp2_with fail
  go_loopw [7, 6] (fun i v wr => ∃ (k F : Nat) (A2 : Option Addr) (n2 c2 : Nat), k ≤ m ∧ Hid (F = k * n) ∧ i = .int .i64 F ∧ v = .slice A2 n2 c2 ∧ OwnedR wr w1.heap.size (.slice A2 n2 c2) ((ex n n []).take k) ∧ Below w1.heap.size w1 wr) (fun i _ _ => M - (intOf i).toNat)
  case atStart => exact ⟨0, 0, none, 0, 0, Nat.zero_le _, hide (by simp), rfl, rfl, ownedR_nil _ _, Below.refl _ _⟩
  case round =>
    obtain ⟨k, F, A2, n2, c2, hk, hF, rfl, rfl, hor, hbl⟩ := hrel
    have HOR := hide hor; have HB := hide hbl; clear hor hbl
    have cn' := ((unhide HB).cell (p := ⟨w.heap.size, 0, none⟩) ln).trans cn
    have cf' := ((unhide HB).cell (p := ⟨w.heap.size + 1, 0, none⟩) lf).trans cfl
    by_cases hlt : k < m
    · have hF1 : F + n ≤ M := by
        have h2 := Nat.mul_le_mul_right n (show k + 1 ≤ m from hlt)
        rw [HMm.out, hF.out]
        rw [Nat.succ_mul] at h2
        exact h2
      have hF2 := hide (show F + n = (k + 1) * n from by rw [hF.out, Nat.succ_mul])
      have hki : k < (ex n n []).length := by rw [Hm.out]; exact hlt
      have hi := hide (show Ints wr wr.heap.size (some ⟨g, F, none⟩) n n (row (ex n n []) k) from by
        refine ⟨hall.out _ (by simp only [row, List.getD, List.getElem?_eq_getElem hki, Option.getD_some]; exact List.getElem_mem hki), Nat.le_refl _, by omega, (fun e => by cases e), fun i hi => ⟨g, F, rfl, Nat.lt_of_lt_of_le lg (unhide HB).size, ?_⟩⟩
        obtain ⟨b, off, e, hbg, hc⟩ := ((unhide HI).below (unhide HB)).at_ (F + i) (by omega)
        cases e
        rw [Nat.zero_add] at hc
        rw [hc, hF.out, flat_nth n _ hall.out k hki i hi])
      have htk := hide (show (ex n n []).take (k + 1) = (ex n n []).take k ++ [row (ex n n []) k] from by
        rw [List.take_succ_eq_append_getElem hki]; simp [row, List.getD, hki])
      clear hki
      go_wp2_with (at_builtin
                   refine wpList_appR (w := wr) (by rfl) (.tmp 20) (.tmp 30) (by rfl) (by rfl) (by rfl) (unhide HOR) (unhide hi) (fun b off e => by
                     cases e
                     exact ⟨fun e2 => by have := ((unhide HOR).lt g e2.symm).1; omega, Nat.lt_of_lt_of_le lg (unhide HB).size⟩) (by rw [List.length_take]; omega) (unhide HB).size ?_
                   intro v2 w2 hor2 hb2
                   obtain ⟨A3, n3, c3, e3, _⟩ := hor2.to
                   subst e3
                   have HOR2 := hide hor2; have HB2 := hide ((unhide HB).trans hb2)
                   have cn2 := ((unhide HB2).cell (p := ⟨w.heap.size, 0, none⟩) ln).trans cn
                   clear hor2 hb2)
      go_roundw
      case rel => exact ⟨k + 1, F + n, A3, n3, c3, by omega, hF2, by go_num, rfl, by rw [htk.out]; exact unhide HOR2, unhide HB2⟩
      case measure => simp [intOf]; omega
    · obtain rfl : k = m := by omega
      have hFM : F = M := by rw [hF.out, HMm.out]
      subst hFM
      go_wp2_with fail
      go_ret
      obtain ⟨A4, n4, c4, e4, hr⟩ := (unhide HOR).to
      cases e4
      rw [List.take_of_length_le (by rw [Hm.out]; exact Nat.le_refl _)] at hr
      exact ⟨_, _, _, rfl, hr, (unhide HB1).trans ((unhide HB).mono (unhide HB1).size)⟩
end Go.Proofs.Ytmpdalcdkibgpaa
