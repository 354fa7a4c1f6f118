import Derived.Test.YtdlbahoenhhkdaaO4
/-
  The law SketchOrder walked.
-/
namespace Go.Proofs.Ytdlbahoenhhkdaa
open Go.RowKit

set_option maxHeartbeats 1000000 in
theorem LOrder_no (A A' : Option Addr) (n c n' c' : Nat) (xs : List Int) (d m k : Int) (w : World) (h : Ints w w.heap.size A n c xs) (hs : Hid (isStr xs = false)) :
    Calls Try.prog 13 #[.int .i64 d, .int .i64 m, .int .i64 k, .slice A n c, .slice A' n' c'] w fun e w' => e = .returned (.bool true) ∧ Below w.heap.size w w' := by
  have hs2 := hide (show (cntB k && isStr (xs.take 45)) = false from by rw [isStr_take, hs.out]; simp)
  go_enter Try.func13, Try.ntmps13
  go_wp2_with fail
  refine (RStream_is _ _ _ _ _ _ h _ hs).mono ?_
  rintro e w1 ⟨rfl, rfl⟩
  go_wp2_with fail
  refine (list_ints _ _ _ _ _ _ h (Nat.le_refl _)).mono ?_
  rintro e w1 ⟨A1, n1, c1, rfl, i1, b1⟩
  go_wp2_with fail
  refine (Heavy_no _ _ _ _ _ _ _ i1 hs2).mono ?_
  rintro e w3 ⟨rfl, rfl⟩
  go_wp2_with (go_at_call 21; refine (awake_any _).mono ?_; rintro e w3 ⟨rfl, b3⟩)
  go_ret
  exact ⟨rfl, b1.trans (b3.mono b1.size)⟩

set_option maxRecDepth 100000 in
set_option maxHeartbeats 2000000 in
theorem LOrder_ok (A A' : Option Addr) (n c n' c' M : Nat) (xs bs : List Int) (d m k : Int) (w : World) (h : Ints w w.heap.size A n c xs) (h' : Ints w w.heap.size A' n' c' bs) (hs : Hid (isStr xs = true))
    (hM : M ≤ n') (hM2 : M ≤ 60) (hmin : ∀ W : World, (Builtin.min_ #[3, 3] 3 #[.int .i64 (n' : Int), .int .i64 60]).run Try.prog W = .ok (.int .i64 (M : Int)) W) :
    Calls Try.prog 13 #[.int .i64 d, .int .i64 m, .int .i64 k, .slice A n c, .slice A' n' c'] w fun e w' => e = .returned (.bool true) ∧ Below w.heap.size w w' := by
  have hm := h.most; have hcap := h.cap
  have hm' := h'.most; have hcap' := h'.cap
  have hl := hide h.len; have hl' := hide h'.len
  have hn : n ≤ 40 := by have := isStr_len hs.out; have := hl.out; omega
  have hx := hide (take_of_str hs.out)
  go_enter Try.func13, Try.ntmps13
  go_wp2_with fail
  refine (RStream_is _ _ _ _ _ _ h _ hs).mono ?_
  rintro e w1 ⟨rfl, rfl⟩
  go_wp2_with fail
  refine (list_any _ _ _ _ _ _ h (Nat.le_refl _)).mono ?_
  rintro e w1 ⟨v1, rfl, o1, b1⟩
  rw [hx.out] at o1
  obtain ⟨A1, c1, rfl, _⟩ := o1.ints
  rw [hl.out] at o1 ⊢
  go_wp2
  go_loopw [14, 15, 16, 17, 18, 50] (fun _ _ _ _ _ i wr => ∃ j : Nat, j ≤ M ∧ i = .int .i64 j ∧ (∃ ys, ys.Perm xs ∧ Owned wr w.heap.size (.slice A1 n c1) ys) ∧ Below w.heap.size w wr) (fun _ _ _ _ _ i _ => M - (intOf i).toNat)
  case atStart => exact ⟨0, by omega, rfl, ⟨xs, List.Perm.refl _, o1⟩, b1⟩
  case round =>
    obtain ⟨j, hj, rfl, ⟨ys, hp, ho⟩, hb⟩ := hrel
    have hyl : ys.length = n := by rw [hp.length_eq, hl.out]
    have HYL := hide hyl; clear hyl
    by_cases hlt : j < M
    · obtain ⟨b, off, rfl, hb0, hc⟩ := (h'.below hb).at_ j (by omega)
      by_cases h0 : 0 < n
      · obtain ⟨g, rfl, g1, g2, _, g4, g5, hcell⟩ := ho.open_ h0
        obtain ⟨p, hpp, hpn⟩ := pick_idx j h0
        obtain ⟨q, hqq, hqn⟩ := pick_pos (nth bs j) h0 (by omega)
        obtain ⟨c1p, c2p, c3p⟩ := hcell p hpn
        obtain ⟨c1q, c2q, c3q⟩ := hcell q hqn
        have o2 := c3p (nth ys q)
        obtain ⟨g', hg', _, _, _, _, _, hcell2⟩ := o2.open_ h0
        cases hg'
        obtain ⟨d1, d2, d3⟩ := hcell2 q hqn
        have o3 := d3 (nth ys p)
        have hperm := (swapL_perm ys p q (by rw [HYL.out]; exact hpn) (by rw [HYL.out]; exact hqn)).trans hp
        have HP := hide hperm
        have O3 := hide o3
        have HPP := hide hpp; have HQQ := hide hqq
        clear hcell hcell2 c3p c3q o2 d3 o3 hperm hp ho hpp hqq d1
        by_cases hpq : p = q
        · subst hpq
          clear d2
          go_wp2
          go_quiet (fail)
          rw [HPP.out, HQQ.out]
          go_wp2
          go_roundw
          case rel => exact ⟨j + 1, by omega, by go_num, ⟨_, HP.out, O3.out⟩, ((Below.drewN' hb nq).setCell (by simpa using g1) _).setCell (by simpa using g1) _⟩
          case measure => simp [intOf]; omega
        · have hne : ¬ q = p := fun e => hpq e.symm
          clear d2
          go_wp2
          go_quiet (fail)
          rw [HPP.out, HQQ.out]
          go_wp2
          go_roundw
          case rel => exact ⟨j + 1, by omega, by go_num, ⟨_, HP.out, O3.out⟩, ((Below.drewN' hb nq).setCell (by simpa using g1) _).setCell (by simpa using g1) _⟩
          case measure => simp [intOf]; omega
      · go_wp2
        go_roundw
        case rel => exact ⟨j + 1, by omega, by go_num, ⟨ys, hp, ho⟩, hb⟩
        case measure => simp [intOf]; omega
    · have HT := hide (perm_tab hp d m)
      have HH := hide (perm_heavy hp k)
      have HS1 := hide (perm_str hp)
      have hys : ys.take 45 = ys := List.take_of_length_le (by rw [HYL.out]; omega)
      have HYS := hide hys; clear hys
      have i2 := ho.reads
      clear hp
      go_wp2_with fail
      refine (list_ints _ _ _ _ _ _ (h.below hb) hb.size).mono ?_
      rintro e w2 ⟨A3, n3, c3, rfl, i3, b3⟩
      rw [hx.out] at i3
      have b3' := hb.trans (b3.mono hb.size)
      go_wp2_with fail
      refine (Table_all _ _ _ _ _ _ _ i3).mono ?_
      rintro e w4 ⟨A4, n4, c4, rfl, i4, b4⟩
      have b4' := b3'.trans (b4.mono b3'.size)
      have b34 := b3.trans (b4.mono b3.size)
      go_wp2_with fail
      refine (list_ints _ _ _ _ _ _ (i2.below b34) b34.size).mono ?_
      rintro e w5 ⟨A5, n5, c5, rfl, i5, b5⟩
      rw [HYS.out] at i5
      have b5' := b4'.trans (b5.mono b4'.size)
      go_wp2_with fail
      refine (Table_all _ _ _ _ _ _ _ i5).mono ?_
      rintro e w6 ⟨A6, n6, c6, rfl, i6, b6⟩
      have b6' := b5'.trans (b6.mono b5'.size)
      have b56 := b5.trans (b6.mono b5.size)
      go_wp2_with fail
      refine (list_ints _ _ _ _ _ _ (h.below b6') b6'.size).mono ?_
      rintro e w7 ⟨A7, n7, c7, rfl, i7, b7⟩
      rw [hx.out] at i7
      have b7' := b6'.trans (b7.mono b6'.size)
      go_wp2_with fail
      refine (Heavy_all _ _ _ _ _ _ i7).mono ?_
      rintro e w8 ⟨A8, n8, c8, rfl, i8, b8⟩
      have b8' := b7'.trans (b8.mono b7'.size)
      have b78 := b7.trans (b8.mono b7.size)
      have b38 := b34.trans ((b56.trans (b78.mono b56.size)).mono b34.size)
      go_wp2_with fail
      refine (Heavy_all _ _ _ _ _ _ ((i2.below b38).more b38.size)).mono ?_
      rintro e w9 ⟨A9, n9, c9, rfl, i9, b9⟩
      have b9' := b8'.trans (b9.mono b8'.size)
      have b59 := b56.trans ((b78.trans (b9.mono b78.size)).mono b56.size)
      have b79 := b78.trans (b9.mono b78.size)
      rw [HH.out] at i9
      rw [HT.out] at i6
      rw [HS1.out]
      have r4 := i4.below b59
      have r6 := i6.below b79
      have r8 := i8.below b9
      have e1 : (errOf (sizeB d m && isStr xs) == errOf (sizeB d m && isStr xs)) = true := by simp
      have e2 : (errOf (cntB k && isStr xs) == errOf (cntB k && isStr xs)) = true := by simp
      go_wp2_with fail
      refine (equalT_is _ _ _ _ _ _ _ _ _ _ _ r4 r6 (hide rfl)).mono ?_
      rintro e wa ⟨rfl, q1, rfl⟩
      go_wp2_with fail
      refine (equal_is _ _ _ _ _ _ _ _ _ _ _ (r8.drewN q1) (i9.drewN q1) (hide rfl)).mono ?_
      rintro e wb ⟨rfl, q2, rfl⟩
      have bb := Below.drewN' b9' (q1 + q2)
      go_wp2_with (go_at_call 21; refine (awake_any _).mono ?_; rintro e wc ⟨rfl, bc⟩)
      go_ret
      exact ⟨rfl, bb.trans (bc.mono bb.size)⟩

theorem LOrder_any (A : Option Addr) (n c : Nat) (xs : List Int) (A' : Option Addr) (n' c' : Nat) (bs : List Int) (d m k : Int) (w : World) (h : Ints w w.heap.size A n c xs) (h' : Ints w w.heap.size A' n' c' bs) :
    Calls Try.prog 13 #[.int .i64 d, .int .i64 m, .int .i64 k, .slice A n c, .slice A' n' c'] w fun e w' => e = .returned (.bool true) ∧ Below w.heap.size w w' := by
  rcases hs : isStr xs
  · exact LOrder_no _ _ _ _ _ _ _ _ _ _ _ h (hide hs)
  · refine LOrder_ok A A' n c n' c' (min n' 60) xs bs d m k w h h' (hide hs) (by omega) (by omega) fun W => ?_
    rw [run_min_int2 (P := Try.prog)]
    congr 2
    split <;> omega
end Go.Proofs.Ytdlbahoenhhkdaa
