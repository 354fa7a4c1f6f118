import Derived.Test.YtmpdalcdkibgpaaN5
namespace Go.Proofs.Ytmpdalcdkibgpaa
open Go.RowKit Go.Sort

theorem few_x {xs ys : List Int} {k : Nat} (hk : k < xs.length) (h : 6 < nth xs k) : fewB xs ys = false := by
  rcases hf : fewB xs ys
  · rfl
  · have := (FewL.of hf).ex k; omega
theorem few_y {xs ys : List Int} {k : Nat} (hk : k < ys.length) (h : nth ys k < 1 ∨ 5 < nth ys k) : fewB xs ys = false := by
  rcases hf : fewB xs ys
  · rfl
  · have := (FewL.of hf).ba k hk; omega
theorem few_val {xs ys : List Int} (hx : ∀ j, j < xs.length → nth xs j ≤ 6) (hy : ∀ j, j < ys.length → 1 ≤ nth ys j ∧ nth ys j ≤ 5) : fewB xs ys = (isSh xs && decide (xs.length ≤ 4) && decide (ys.length = xs.length)) := by
  have h5 : allIn 1 5 ys = true := by
    simp only [allIn, List.all_eq_true, Bool.and_eq_true, decide_eq_true_eq]
    intro v hv
    obtain ⟨j, hj, rfl⟩ := List.getElem_of_mem hv
    have := hy j hj
    simpa [nth, List.getD, hj] using this
  rcases hs : isSh xs
  · simp [fewB, hs]
  · have h3 : allIn 0 6 xs = true := by
      simp only [allIn, List.all_eq_true, Bool.and_eq_true, decide_eq_true_eq]
      intro v hv
      obtain ⟨j, hj, rfl⟩ := List.getElem_of_mem hv
      have h1 := hx j hj
      have h2 := (isSh_small hs j).1
      simp only [nth, List.getD, List.getElem?_eq_getElem hj, Option.getD_some] at h1 h2
      exact ⟨h2, h1⟩
    simp [fewB, hs, h3, h5]

set_option maxRecDepth 4000 in
set_option maxHeartbeats 4000000 in
theorem Few_is (A A' : Option Addr) (n c n' c' : Nat) (xs ys : List Int) (w : World) (B B' : Nat) (h : Ints w B A n c xs) (h' : Ints w B' A' n' c' ys) (b : Bool) (hb : Hid (fewB xs ys = b)) :
    Calls Try.prog 42 #[.slice A n c, .slice A' n' c'] w fun e w' => e = .returned (.bool b) ∧ Below w.heap.size w w' := by
  have hl := hide h.len; have hl' := hide h'.len
  have hm := h.most; have hcap := h.cap; have hm' := h'.most; have hcap' := h'.cap
  go_enter Try.func42, Try.ntmps42
  go_wp2_with fail
  go_loopw [11] (fun i wr => ∃ k : Nat, k ≤ n ∧ i = .int .i64 k ∧ Hid (∀ j, j < k → nth xs j ≤ 6) ∧ ∃ q, wr = w.drewN q) (fun i _ => n - (intOf i).toNat)
  case atStart => exact ⟨0, Nat.zero_le _, rfl, (fun j hj => by omega), 0, rfl⟩
  case round =>
    obtain ⟨k, hk, rfl, HL, q, rfl⟩ := hrel
    by_cases hlt : k < n
    · obtain ⟨b1, o1, rfl, _, c1⟩ := h.at_ k hlt
      by_cases hv : 6 < nth xs k
      · have HV := hide (few_x (ys := ys) (by rw [hl.out]; exact hlt) hv)
        go_wp2_with fail
        go_ret
        exact ⟨ret_bool (by rw [← hb.out, HV.out]), Below.ofDraws _⟩
      · have HL2 := hide (show ∀ j, j < k + 1 → nth xs j ≤ 6 from fun j hj => by
          rcases Nat.lt_or_ge j k with h1 | h1
          · exact HL.out j h1
          · obtain rfl : j = k := by omega
            omega)
        go_wp2_with fail
        go_roundw
        case rel => exact ⟨k + 1, by omega, by go_num, HL2, (by first | exact ⟨_, rfl⟩ | exact quiet_q _ _ _)⟩
        case measure => simp [intOf]; omega
    · obtain rfl : k = n := by omega
      go_wp2_with fail
      go_loopw [20] (fun i wr => ∃ k : Nat, k ≤ n' ∧ i = .int .i64 k ∧ Hid (∀ j, j < k → 1 ≤ nth ys j ∧ nth ys j ≤ 5) ∧ ∃ q, wr = w.drewN q) (fun i _ => n' - (intOf i).toNat)
      case atStart => exact ⟨0, Nat.zero_le _, rfl, (fun j hj => by omega), q, rfl⟩
      case round =>
        obtain ⟨i, hi, rfl, HL', q2, rfl⟩ := hrel
        by_cases hlt' : i < n'
        · obtain ⟨b1, o1, rfl, _, c1⟩ := h'.at_ i hlt'
          by_cases hv : nth ys i < 1
          · have HV := hide (few_y (xs := xs) (by rw [hl'.out]; exact hlt') (.inl hv))
            go_wp2_with fail
            go_ret
            exact ⟨ret_bool (by rw [← hb.out, HV.out]), Below.ofDraws _⟩
          by_cases hv2 : 5 < nth ys i
          · have HV := hide (few_y (xs := xs) (by rw [hl'.out]; exact hlt') (.inr hv2))
            go_wp2_with fail
            go_ret
            exact ⟨ret_bool (by rw [← hb.out, HV.out]), Below.ofDraws _⟩
          · have HL2 := hide (show ∀ j, j < i + 1 → 1 ≤ nth ys j ∧ nth ys j ≤ 5 from fun j hj => by
              rcases Nat.lt_or_ge j i with h1 | h1
              · exact HL'.out j h1
              · obtain rfl : j = i := by omega
                omega)
            go_wp2_with fail
            go_roundw
            case rel => exact ⟨i + 1, by omega, by go_num, HL2, (by first | exact ⟨_, rfl⟩ | exact quiet_q _ _ _)⟩
            case measure => simp [intOf]; omega
        · obtain rfl : i = n' := by omega
          have HV := hide (few_val (xs := xs) (ys := ys) (by rw [hl.out]; exact HL.out) (by rw [hl'.out]; exact HL'.out))
          have hx2 := hide (h.drewN q2)
          rcases hs : isSh xs
          · have HS := hide hs
            have HB := hide (show b = false from by rw [← hb.out, HV.out, hs]; rfl)
            clear hs
            go_wp2_with fail
            refine (Shares_is _ _ _ _ _ _ (unhide hx2) false HS).mono ?_
            rintro e w1 ⟨rfl, rfl⟩
            go_wp2_with fail
            go_ret
            exact ⟨ret_bool (by rw [HB.out]), Below.ofDraws _⟩
          · have HS := hide hs
            by_cases h4 : (k : Int) ≤ 4
            · by_cases he : i = k
              · have HB := hide (show b = true from by rw [← hb.out, HV.out, hs, hl.out, hl'.out]; simp [he]; omega)
                have d4 : decide ((k : Int) ≤ 4) = true := by simp [h4]
                have de : ((i : Int) == (k : Int)) = true := by simp [he]
                clear hs
                go_wp2_with fail
                refine (Shares_is _ _ _ _ _ _ (unhide hx2) true HS).mono ?_
                rintro e w1 ⟨rfl, rfl⟩
                go_wp2_with fail
                go_ret
                exact ⟨ret_bool (by rw [HB.out]; try simp [he]), Below.ofDraws _⟩
              · have HB := hide (show b = false from by rw [← hb.out, HV.out, hs, hl.out, hl'.out]; simp [he])
                have d4 : decide ((k : Int) ≤ 4) = true := by simp [h4]
                have de : ((i : Int) == (k : Int)) = false := by simp; omega
                have de2 : (i == k) = false := by simp [he]
                clear hs
                go_wp2_with fail
                refine (Shares_is _ _ _ _ _ _ (unhide hx2) true HS).mono ?_
                rintro e w1 ⟨rfl, rfl⟩
                go_wp2_with fail
                go_ret
                exact ⟨ret_bool (by rw [HB.out]; try simp [he]), Below.ofDraws _⟩
            · have HB := hide (show b = false from by rw [← hb.out, HV.out, hs, hl.out, hl'.out]; simp; omega)
              have d4 : decide ((k : Int) ≤ 4) = false := by simp; omega
              clear hs
              go_wp2_with fail
              refine (Shares_is _ _ _ _ _ _ (unhide hx2) true HS).mono ?_
              rintro e w1 ⟨rfl, rfl⟩
              go_wp2_with fail
              go_ret
              exact ⟨ret_bool (by rw [HB.out]; try simp; try omega), Below.ofDraws _⟩
end Go.Proofs.Ytmpdalcdkibgpaa
