import Derived.Test.YtdlbahoenhhkdaaTg
/-
  Add of the program and of the reference.
-/
namespace Go.Proofs.Ytdlbahoenhhkdaa
open Go.RowKit

theorem quiet_left {P : Program} {f : FuncId} {args : Array Value} {w : World} {n : Nat} {v : Value}
    (h : Calls P f args (w.drewN n) fun e w' => e = .returned v ∧ w.drewN n = w') : Calls P f args (w.drewN n) fun e w'' => e = .returned v ∧ ∃ m, w'' = w.drewN m :=
  h.mono fun _ _ ⟨he, hm⟩ => ⟨he, n, hm.symm⟩

def addF (xss yss : List (List Int)) (r i : Nat) : Int := nth (row xss r) i + nth (row yss r) i
def overB (n m : Nat) (F : Nat → Nat → Int) : Bool := (List.range n).any fun r => (List.range m).any fun i => decide (80 < F r i)
def FineTo (m : Nat) (F : Nat → Nat → Int) (r i : Nat) : Prop := (∀ r', r' < r → ∀ i', i' < m → F r' i' ≤ 80) ∧ ∀ i', i' < i → F r i' ≤ 80
theorem over_yes {n m : Nat} {F : Nat → Nat → Int} {r i : Nat} (hr : r < n) (hi : i < m) (h : 80 < F r i) : overB n m F = true := by
  simp only [overB, List.any_eq_true, List.mem_range, decide_eq_true_eq]
  exact ⟨r, hr, i, hi, h⟩
theorem over_no {n m : Nat} {F : Nat → Nat → Int} (h : FineTo m F n 0) : overB n m F = false := by
  rw [Bool.eq_false_iff]
  intro hc
  simp only [overB, List.any_eq_true, List.mem_range, decide_eq_true_eq] at hc
  obtain ⟨r, hr, i, hi, h3⟩ := hc
  have := h.1 r hr i hi
  omega
theorem FineTo.col {m : Nat} {F : Nat → Nat → Int} {r i : Nat} (h : FineTo m F r i) (hf : F r i ≤ 80) : FineTo m F r (i + 1) :=
  ⟨h.1, fun i' hi' => by
    rcases Nat.lt_or_ge i' i with h1 | h1
    · exact h.2 i' h1
    · obtain rfl : i' = i := by omega
      exact hf⟩
theorem FineTo.next {m : Nat} {F : Nat → Nat → Int} {r : Nat} (h : FineTo m F r m) : FineTo m F (r + 1) 0 :=
  ⟨fun r' hr' i' hi' => by
    rcases Nat.lt_or_ge r' r with h1 | h1
    · exact h.1 r' h1 i' hi'
    · obtain rfl : r' = r := by omega
      exact h.2 i' hi', fun i' hi' => by omega⟩
theorem allIn_at {lo hi : Int} {xs : List Int} (h : allIn lo hi xs = true) {k : Nat} (hk : k < xs.length) : lo ≤ nth xs k ∧ nth xs k ≤ hi := allIn_bd h k hk

theorem Tab.drewN {w : World} {g n m : Nat} {F : Nat → Nat → Int} (h : Tab w g n m F) (q : Nat) : Tab (w.drewN q) g n m F := ⟨h.outer, h.rows⟩

def addErr (n m : Nat) (F : Nat → Nat → Int) : Int := if overB n m F then 4 else 0
def addOut (n m : Nat) (F : Nat → Nat → Int) : List (List Int) := if overB n m F then [] else tabL n m F
/-- The numbers while they are filled in. -/
def fillF (F : Nat → Nat → Int) (r i : Nat) (r' i' : Nat) : Int := if r' < r ∨ (r' = r ∧ i' < i) then F r' i' else 0

theorem Add_no (A A' : Option Addr) (n c n' c' : Nat) (xss yss : List (List Int)) (w : World) (B B' : Nat) (h : Rows_ w B A n c xss) (h' : Rows_ w B' A' n' c' yss) (hv : Hid ((isTab xss && isTab yss && decide (xss.length = yss.length) && decide ((row xss 0).length = (row yss 0).length)) = false)) :
    Calls Try.prog 41 #[.slice A n c, .slice A' n' c'] w fun e w' => e = .returned (.tuple #[.slice none 0 0, .int .i64 2]) ∧ ∃ q, w' = w.drewN q := by
  have hl := hide h.len; have hl' := hide h'.len
  rcases h1 : isTab xss
  · have H1 := hide h1; clear h1
    go_enter Try.func41, Try.ntmps41
    go_wp2
    go_big_quiet (first | (with_reducible exact quiet_left (isTable_is _ _ _ _ _ _ (h.drewN _) _ H1)))
    go_wp2
    go_ret2
    exact ⟨rfl, (by first | exact ⟨_, rfl⟩ | exact quiet_q _ _ _)⟩
  rcases h2 : isTab yss
  · have H1 := hide h1; clear h1
    have H2 := hide h2; clear h2
    go_enter Try.func41, Try.ntmps41
    go_wp2
    go_big_quiet (first | (with_reducible exact quiet_left (isTable_is _ _ _ _ _ _ (h.drewN _) _ H1)) | (with_reducible exact quiet_left (isTable_is _ _ _ _ _ _ (h'.drewN _) _ H2)))
    go_wp2
    go_ret2
    exact ⟨rfl, (by first | exact ⟨_, rfl⟩ | exact quiet_q _ _ _)⟩
  by_cases h3 : n = n'
  · subst h3
    have hn := isTab_parts h1
    have hn' := isTab_parts h2
    have h4 : ¬ (row xss 0).length = (row yss 0).length := by
      have := hv.out
      simp only [h1, h2, hl.out, hl'.out, decide_true, Bool.and_true, Bool.true_and, decide_eq_false_iff_not] at this
      exact this
    obtain ⟨b0, off0, A0, n0, c0, rfl, hb0, hc0, hi0⟩ := h.at_ 0 (by have := hl.out; omega)
    obtain ⟨b0', off0', A0', n0', c0', rfl, hb0', hc0', hi0'⟩ := h'.at_ 0 (by have := hl.out; omega)
    simp only [Nat.add_zero] at hc0 hc0'
    have hne : ((n0 : Int) != (n0' : Int)) = true := by have := hi0.len; have := hi0'.len; simp; omega
    have h1n : 1 ≤ n := by have := hl.out; omega
    have H1 := hide h1; clear h1
    have H2 := hide h2; clear h2
    clear hn hn' h4
    go_enter Try.func41, Try.ntmps41
    go_wp2
    go_big_quiet (first | (with_reducible exact quiet_left (isTable_is _ _ _ _ _ _ (h.drewN _) _ H1)) | (with_reducible exact quiet_left (isTable_is _ _ _ _ _ _ (h'.drewN _) _ H2)))
    go_wp2
    go_ret2
    exact ⟨rfl, (by first | exact ⟨_, rfl⟩ | exact quiet_q _ _ _)⟩
  · have hne : ((n : Int) != (n' : Int)) = true := by simp; omega
    have H1 := hide h1; clear h1
    have H2 := hide h2; clear h2
    go_enter Try.func41, Try.ntmps41
    go_wp2
    go_big_quiet (first | (with_reducible exact quiet_left (isTable_is _ _ _ _ _ _ (h.drewN _) _ H1)) | (with_reducible exact quiet_left (isTable_is _ _ _ _ _ _ (h'.drewN _) _ H2)))
    go_wp2
    go_ret2
    exact ⟨rfl, (by first | exact ⟨_, rfl⟩ | exact quiet_q _ _ _)⟩

set_option maxRecDepth 100000 in
set_option maxHeartbeats 2000000 in
theorem Add_ok (A A' : Option Addr) (n c c' m : Nat) (xss yss : List (List Int)) (w : World) (h : Rows_ w w.heap.size A n c xss) (h' : Rows_ w w.heap.size A' n c' yss) (H1 : Hid (isTab xss = true)) (H2 : Hid (isTab yss = true))
    (hx : Hid ((row xss 0).length = m)) (hy : Hid ((row yss 0).length = m)) :
    Calls Try.prog 41 #[.slice A n c, .slice A' n c'] w fun e w' => ∃ A3 n3 c3, e = .returned (.tuple #[.slice A3 n3 c3, .int .i64 (addErr n m (addF xss yss))]) ∧ Rows_ w' w'.heap.size A3 n3 c3 (addOut n m (addF xss yss)) ∧ Below w.heap.size w w' := by
  have hm := h.most; have hcap := h.cap
  have hm' := h'.most; have hcap' := h'.cap
  have hl := hide h.len; have hl' := hide h'.len
  have hn : 1 ≤ n ∧ n ≤ 4 := by have := hl.out; have := isTab_parts H1.out; omega
  obtain ⟨hn1, hn2⟩ := hn
  have hmm : 1 ≤ m ∧ m ≤ 8 := by have := hx.out; have := isTab_parts H1.out; omega
  obtain ⟨m1, m2⟩ := hmm
  obtain ⟨b0, off0, A0, n0, c0, rfl, hb0, hc0, hi0⟩ := h.at_ 0 (by omega)
  obtain ⟨b0', off0', A0', n0', c0', rfl, hb0', hc0', hi0'⟩ := h'.at_ 0 (by omega)
  have e1 : n0 = m := by have := hi0.len; have := hx.out; omega
  have e2 : n0' = m := by have := hi0'.len; have := hy.out; omega
  obtain rfl : m = n0 := e1.symm
  obtain rfl : m = n0' := e2.symm
  simp only [Nat.add_zero] at hc0 hc0'
  clear e1 e2
  go_enter Try.func41, Try.ntmps41
  go_wp2
  go_big_quiet (first | (with_reducible exact quiet_left (isTable_is _ _ _ _ _ _ (h.drewN _) _ H1)) | (with_reducible exact quiet_left (isTable_is _ _ _ _ _ _ (h'.drewN _) _ H2)))
  go_wp2_with fail
  refine (emptyTable_any _ _ _ (by omega) (by omega)).mono ?_
  rintro e w1 ⟨rfl, ht1, hb1⟩
  simp only [World.heap_drewN] at ht1 hb1 ⊢
  have hb1' : Below w.heap.size w w1 := (Below.drewN' (Below.refl _ _) nq).trans hb1
  clear hb1
  go_wp2
  go_loopw [7, 8, 9, 45] (fun _ _ _ i wr => ∃ r : Nat, r ≤ n ∧ i = .int .i64 r ∧ FineTo m (addF xss yss) r 0 ∧ Tab wr w.heap.size n m (fillF (addF xss yss) r 0) ∧ Below w.heap.size w wr) (fun _ _ _ i _ => n - (intOf i).toNat)
  case atStart => exact ⟨0, Nat.zero_le _, rfl, ⟨fun r' hr' => by omega, fun i' hi' => by omega⟩, ht1.ext (fun r i _ _ => by simp [fillF]), hb1'⟩
  case round =>
    obtain ⟨wo, rfl⟩ : ∃ wo : World, wo = wr := ⟨_, rfl⟩
    obtain ⟨r, hr, rfl, hfine, htr, hbo⟩ := hrel
    clear ht1 hb1'
    have HF := hide hfine; clear hfine
    by_cases hlr : r < n
    · have c0g := htr.cell hlr
      obtain ⟨Ax, nx, cx, hcx, hix⟩ := h.get hlr
      obtain ⟨Ay, ny, cy, hcy, hiy⟩ := h'.get hlr
      have p1 := (isTab_parts H1.out).2.2.2.2 r (by rw [hl.out]; exact hlr)
      have p2 := (isTab_parts H2.out).2.2.2.2 r (by rw [hl'.out]; exact hlr)
      have ex : nx = m := by have := hix.len; have := hx.out; omega
      have ey : ny = m := by have := hiy.len; have := hy.out; omega
      obtain rfl : m = nx := ex.symm
      obtain rfl : m = ny := ey.symm
      have P1 := hide p1; have P2 := hide p2
      clear p1 p2 ex ey
      go_wp2
      go_loopw [8, 9, 53] (fun _ _ i wr => ∃ k : Nat, k ≤ m ∧ i = .int .i64 k ∧ FineTo m (addF xss yss) r k ∧ Tab wr w.heap.size n m (fillF (addF xss yss) r k) ∧ Below w.heap.size w wr) (fun _ _ i _ => m - (intOf i).toNat)
      case atStart => exact ⟨0, Nat.zero_le _, rfl, HF.out, htr, hbo⟩
      case round =>
        obtain ⟨k, hk, rfl, hfk, htk, hbk⟩ := hrel
        clear htr c0g hbo
        have HK := hide hfk; clear hfk
        by_cases hlk : k < m
        · have hcx' : wr.cell? ⟨b0, off0 + r, none⟩ = some (.slice Ax m cx) := (hbk.cell hb0).trans hcx
          have hcy' : wr.cell? ⟨b0', off0' + r, none⟩ = some (.slice Ay m cy) := (hbk.cell hb0').trans hcy
          obtain ⟨bx, ox, rfl, hbx, hvx⟩ := (hix.below hbk).at_ k hlk
          obtain ⟨by', oy, rfl, hby, hvy⟩ := (hiy.below hbk).at_ k hlk
          have q1 := allIn_at P1.out.2 (k := k) (by rw [P1.out.1, hx.out]; exact hlk)
          have q2 := allIn_at P2.out.2 (k := k) (by rw [P2.out.1, hy.out]; exact hlk)
          obtain ⟨q1a, q1b⟩ := q1
          obtain ⟨q2a, q2b⟩ := q2
          have c1 := htk.cell hlr
          have c2 := htk.at_ hlr hlk
          have c3 := htk.free hlr k
          have hrm : (r : Int) < n := by omega
          have hkm : (k : Int) < m := by omega
          clear hcx hcy
          by_cases hov : 80 < nth (row xss r) k + nth (row yss r) k
          · have HOV := hide (over_yes (F := addF xss yss) hlr hlk hov)
            go_wp2
            go_quiet (fail)
            go_wp2
            go_ret2
            refine ⟨none, 0, 0, by rw [addErr, HOV.out]; rfl, by rw [addOut, HOV.out]; exact Rows_.none_ _ _, ?_⟩
            exact Below.drewN' hbk _
          · have hle : addF xss yss r k ≤ 80 := by unfold addF; omega
            have HC := hide (FineTo.col HK.out hle)
            have HE := hide (show ∀ r' i', ¬ (r' = r ∧ i' = k) → fillF (addF xss yss) r (k + 1) r' i' = fillF (addF xss yss) r k r' i' from by
              intro r' i' hh
              unfold fillF
              by_cases e1 : r' < r
              · rw [if_pos (.inl e1), if_pos (.inl e1)]
              · by_cases e2 : r' = r ∧ i' < k
                · rw [if_pos (.inr ⟨e2.1, by omega⟩), if_pos (.inr e2)]
                · rw [if_neg (by omega), if_neg (by omega)])
            have HTK := hide htk
            clear hle htk
            go_wp2
            go_quiet (fail)
            go_wp2
            go_roundw
            case rel => exact ⟨k + 1, by omega, by go_num, HC.out, (HTK.out.drewN nq).put (fillF (addF xss yss) r (k + 1)) (nth (row xss r) k + nth (row yss r) k) hlr (by simp [fillF, addF]) HE.out, (Below.drewN' hbk nq).setCell (p := ⟨w.heap.size + 1 + r, k, none⟩) (by show _ ≤ w.heap.size + 1 + r; omega) _⟩
            case measure => simp [intOf]; omega
        · obtain rfl : m = k := by omega
          have HN := hide (FineTo.next HK.out)
          have HT := hide (htk.ext (F' := fillF (addF xss yss) (r + 1) 0) (fun r' i' _ hi' => by
            unfold fillF
            by_cases e1 : r' < r
            · rw [if_pos (.inl e1), if_pos (.inl (by omega))]
            · by_cases e2 : r' = r
              · rw [if_pos (.inr ⟨e2, hi'⟩), if_pos (.inl (by omega))]
              · rw [if_neg (by omega), if_neg (by omega)]))
          clear htk
          go_wp2
          go_roundw
          case rel => exact ⟨r + 1, by omega, by go_num, HN.out, HT.out, hbk⟩
          case measure => simp [intOf]; omega
    · obtain rfl : n = r := by omega
      have HOV := hide (over_no HF.out)
      have HT := hide (htr.ext (F' := addF xss yss) (fun r' i' hr' _ => by unfold fillF; rw [if_pos (.inl hr')]))
      clear htr
      go_wp2
      go_ret2
      refine ⟨_, _, _, by rw [addErr, HOV.out]; rfl, by rw [addOut, HOV.out]; exact HT.out.rows_ (by omega) (by omega), hbo⟩
end Go.Proofs.Ytdlbahoenhhkdaa
