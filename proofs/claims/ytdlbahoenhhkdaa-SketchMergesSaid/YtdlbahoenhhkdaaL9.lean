import Derived.Test.YtdlbahoenhhkdaaC7
/-
  The law SketchMerges walked.
-/
namespace Go.Proofs.Ytdlbahoenhhkdaa
open Go.RowKit

theorem lstOk_take {k : Int} (hk : cntB k = true) (xs : List G) : lstOk k (xs.take 11) = lstOk k xs := by
  have := cntB_bd hk
  by_cases h : xs.length ≤ 11
  · rw [List.take_of_length_le h]
  · have h1 : lstOk k xs = false := by simp [lstOk]; intro h2; omega
    have h2 : lstOk k (xs.take 11) = false := by simp [lstOk]; intro h2; omega
    rw [h1, h2]
theorem okM_take (k : Int) (xs ys : List G) : okM k (xs.take 11) (ys.take 11) = okM k xs ys := by
  unfold okM
  rcases h : cntB k
  · rfl
  · rw [lstOk_take h, lstOk_take h]
theorem lst_take {k : Int} (hk : cntB k = true) {xs : List G} (h : lstOk k xs = true) : xs.take 11 = xs := by
  have := cntB_bd hk
  simp only [lstOk, Bool.and_eq_true, decide_eq_true_eq] at h
  exact List.take_of_length_le (by omega)
theorem RList_is (A : Option Addr) (n c : Nat) (xs : List G) (k : Int) (w : World) (h : Gs w w.heap.size A n c xs) (b : Bool) (hb : Hid ((cntB k && lstOk k xs) = b)) :
    Calls Try.prog 33 #[.int .i64 k, .slice A n c] w fun e w' => e = .returned (.bool b) ∧ Below w.heap.size w w' :=
  (RList_any A n c xs k w h).mono fun _ _ ⟨he, hw⟩ => ⟨by
    rw [he, ← hb.out]
    refine ret_bool ?_
    unfold lstOk
    cases lstB xs <;> cases cntB k <;> simp, hw⟩

theorem okM_parts {k : Int} {xs ys : List G} (h : okM k xs ys = true) : cntB k = true ∧ lstOk k xs = true ∧ lstOk k ys = true := by
  simp only [okM, Bool.and_eq_true] at h
  exact ⟨h.1.1, h.1.2, h.2⟩
theorem okM_no {k : Int} {xs ys : List G} (h : okM k xs ys = false) : (cntB k && lstOk k xs) = false ∨ ((cntB k && lstOk k xs) = true ∧ (cntB k && lstOk k ys) = false) := by
  unfold okM at h
  cases h1 : cntB k <;> cases h2 : lstOk k xs <;> cases h3 : lstOk k ys <;> simp_all

set_option maxHeartbeats 2000000 in
theorem LMerges_no {A A' : Option Addr} {n c n' c' : Nat} {xs ys : List G} {w : World} (h : Gs w w.heap.size A n c xs) (h' : Gs w w.heap.size A' n' c' ys) (k : Int) (hv : Hid (okM k xs ys = false)) :
    Calls Try.prog 5 #[.int .i64 k, .slice A n c, .slice A' n' c'] w fun e w' => e = .returned (.bool true) ∧ Below w.heap.size w w' := by
  have hv1 := hide (show okM k (xs.take 11) (ys.take 11) = false from by rw [okM_take]; exact hv.out)
  rcases okM_no hv.out with h1 | ⟨h1, h2⟩
  · have H1 := hide h1; clear h1
    go_enter Try.func5, Try.ntmps5
    go_wp2_with fail
    refine (Of_any _ _ _ _ _ h).mono ?_
    rintro e w1 ⟨A1, n1, c1, rfl, i1, b1⟩
    go_wp2_with fail
    refine (Of_any _ _ _ _ _ ((h'.below b1).more b1.size)).mono ?_
    rintro e w2 ⟨A2, n2, c2, rfl, i2, b2⟩
    have b2' := b1.trans (b2.mono b1.size)
    go_wp2_with fail
    refine (Merge_no _ _ _ _ _ _ _ _ _ _ ((i1.below b2).more b2.size) i2 hv1).mono ?_
    rintro e w3 ⟨rfl, b3⟩
    have b3' := b2'.trans (b3.mono b2'.size)
    go_wp2_with fail
    refine (RList_is _ _ _ _ _ _ ((h.below b3').more b3'.size) _ H1).mono ?_
    rintro e w4 ⟨rfl, b4⟩
    have b4' := b3'.trans (b4.mono b3'.size)
    go_wp2_with (go_at_call 21; refine (awake_any _).mono ?_; rintro e w5 ⟨rfl, b5⟩)
    go_ret
    exact ⟨rfl, b4'.trans (b5.mono b4'.size)⟩
  · have H1 := hide h1; have H2 := hide h2; clear h1 h2
    go_enter Try.func5, Try.ntmps5
    go_wp2_with fail
    refine (Of_any _ _ _ _ _ h).mono ?_
    rintro e w1 ⟨A1, n1, c1, rfl, i1, b1⟩
    go_wp2_with fail
    refine (Of_any _ _ _ _ _ ((h'.below b1).more b1.size)).mono ?_
    rintro e w2 ⟨A2, n2, c2, rfl, i2, b2⟩
    have b2' := b1.trans (b2.mono b1.size)
    go_wp2_with fail
    refine (Merge_no _ _ _ _ _ _ _ _ _ _ ((i1.below b2).more b2.size) i2 hv1).mono ?_
    rintro e w3 ⟨rfl, b3⟩
    have b3' := b2'.trans (b3.mono b2'.size)
    go_wp2_with fail
    refine (RList_is _ _ _ _ _ _ ((h.below b3').more b3'.size) _ H1).mono ?_
    rintro e w4 ⟨rfl, b4⟩
    have b4' := b3'.trans (b4.mono b3'.size)
    go_wp2_with fail
    refine (RList_is _ _ _ _ _ _ ((h'.below b4').more b4'.size) _ H2).mono ?_
    rintro e w5 ⟨rfl, b5⟩
    have b5' := b4'.trans (b5.mono b4'.size)
    go_wp2_with (go_at_call 21; refine (awake_any _).mono ?_; rintro e w6 ⟨rfl, b6⟩)
    go_ret
    exact ⟨rfl, b5'.trans (b6.mono b5'.size)⟩

set_option maxHeartbeats 2000000 in
theorem LMerges_ok {A A' : Option Addr} {n c n' c' : Nat} {xs ys : List G} {w : World} (h : Gs w w.heap.size A n c xs) (h' : Gs w w.heap.size A' n' c' ys) (K : Nat) (hv : Hid (okM (K : Int) xs ys = true)) :
    Calls Try.prog 5 #[.int .i64 (K : Int), .slice A n c, .slice A' n' c'] w fun e w' => e = .returned (.bool true) ∧ Below w.heap.size w w' := by
  obtain ⟨h1, h2, h3⟩ := okM_parts hv.out
  have kb := cntB_bd h1
  have T1 := hide (lst_take h1 h2); have T2 := hide (lst_take h1 h3)
  have hx : lstB xs = true := by simp only [lstOk, Bool.and_eq_true] at h2; exact h2.2
  have hy : lstB ys = true := by simp only [lstOk, Bool.and_eq_true] at h3; exact h3.2
  have HS := hide (less_same (kF (xs ++ ys)) K (by omega) (fun j _ => by rw [kF_app]; have := kF_bd hx j; have := kF_bd hy j; omega))
  have R1 := hide (show (cntB (K : Int) && lstOk (K : Int) xs) = true from by rw [h1, h2]; rfl)
  have R2 := hide (show (cntB (K : Int) && lstOk (K : Int) ys) = true from by rw [h1, h3]; rfl)
  have H1 := hide h1; have H2 := hide h2; have H3 := hide h3
  clear h1 h2 h3 hx hy kb
  go_enter Try.func5, Try.ntmps5
  go_wp2_with fail
  refine (Of_any _ _ _ _ _ h).mono ?_
  rintro e w1 ⟨A1, n1, c1, rfl, i1, b1⟩
  rw [T1.out] at i1
  go_wp2_with fail
  refine (Of_any _ _ _ _ _ ((h'.below b1).more b1.size)).mono ?_
  rintro e w2 ⟨A2, n2, c2, rfl, i2, b2⟩
  rw [T2.out] at i2
  have b2' := b1.trans (b2.mono b1.size)
  go_wp2_with fail
  refine (Merge_ok _ _ _ _ _ _ _ _ _ _ ((i1.below b2).more b2.size) i2 H1 H2 H3).mono ?_
  rintro e w3 ⟨v3, rfl, o3, b3⟩
  have b3' := b2'.trans (b3.mono b2'.size)
  obtain ⟨A3, n3, c3, rfl, hn3, o3⟩ := o3.some_
  have hn3' : n3 ≤ 16 := by rw [hn3]; exact mergeTo_len _ _ 16
  clear hn3
  have i3 := o3.reads
  go_wp2_with fail
  refine (RList_is _ _ _ _ _ _ ((h.below b3').more b3'.size) _ R1).mono ?_
  rintro e w4 ⟨rfl, b4⟩
  have b4' := b3'.trans (b4.mono b3'.size)
  go_wp2_with fail
  refine (RList_is _ _ _ _ _ _ ((h'.below b4').more b4'.size) _ R2).mono ?_
  rintro e w5 ⟨rfl, b5⟩
  have b5' := b4'.trans (b5.mono b4'.size)
  have b35 := b4.trans (b5.mono b4.size)
  go_wp2_with fail
  refine (own_any _ _ _ _ _ ((i3.below b35).more b35.size) (by omega)).mono ?_
  rintro e w6 ⟨v6, rfl, o6, b6⟩
  have b6' := b5'.trans (b6.mono b5'.size)
  obtain ⟨A6, n6, c6, rfl, i6⟩ := o6.to
  go_wp2_with fail
  refine (RMerge_any _ _ _ _ _ _ _ _ _ _ ((h.below b6').more b6'.size) ((h'.below b6').more b6'.size) H1 H2 H3).mono ?_
  rintro e w7 ⟨v7, rfl, o7, b7⟩
  have b7' := b6'.trans (b7.mono b6'.size)
  rw [HS.out] at o7
  obtain ⟨A7, n7, c7, rfl, i7⟩ := o7.to
  go_wp2_with fail
  refine (equalG_any _ _ _ _ _ _ _ _ _ _ _ (i6.below b7) i7).mono ?_
  rintro e w8 ⟨rfl, q, rfl⟩
  rw [decide_eq_true (rfl : mergeTo (kF (xs ++ ys)) (nth (srt (kF (xs ++ ys))) (15 - K)) 16 = _)]
  have b8 := Below.drewN' b7' q
  go_wp2_with (go_at_call 21; refine (awake_any _).mono ?_; rintro e w9 ⟨rfl, b9⟩)
  go_ret
  exact ⟨rfl, b8.trans (b9.mono b8.size)⟩

theorem LMerges_any {A A' : Option Addr} {n c n' c' : Nat} {xs ys : List G} {w : World} (h : Gs w w.heap.size A n c xs) (h' : Gs w w.heap.size A' n' c' ys) (k : Int) :
    Calls Try.prog 5 #[.int .i64 k, .slice A n c, .slice A' n' c'] w fun e w' => e = .returned (.bool true) ∧ Below w.heap.size w w' := by
  rcases hv : okM k xs ys
  · exact LMerges_no h h' k (hide hv)
  · have hb := cntB_bd (okM_parts hv).1
    obtain ⟨K, rfl⟩ : ∃ K : Nat, k = K := ⟨k.toNat, by omega⟩
    exact LMerges_ok h h' K (hide hv)
end Go.Proofs.Ytdlbahoenhhkdaa
