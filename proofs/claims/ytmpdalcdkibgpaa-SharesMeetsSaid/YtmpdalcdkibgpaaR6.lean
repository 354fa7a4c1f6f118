import Derived.Test.YtmpdalcdkibgpaaM4
namespace Go.Proofs.Ytmpdalcdkibgpaa
open Go.RowKit Go.Sort

set_option maxHeartbeats 800000 in
theorem same_is (A A' : Option Addr) (n c n' c' : Nat) (xs ys : List Int) (w : World) (B B' : Nat) (h : Ints w B A n c xs) (h' : Ints w B' A' n' c' ys) (b : Bool) (hb : Hid (decide (xs = ys) = b)) :
    Calls Try.prog 94 #[.slice A n c, .slice A' n' c'] w fun e w' => e = .returned (.bool b) ∧ Below w.heap.size w w' := by
  have hl := hide h.len; have hl' := hide h'.len
  have hm := h.most; have hcap := h.cap; have hm' := h'.most; have hcap' := h'.cap
  by_cases hn : n = n'
  · subst hn
    go_enter Try.func94, Try.ntmps94
    go_wp2_with fail
    go_loop [14] (fun i => ∃ k : Nat, k ≤ n ∧ i = .int .i64 k ∧ Hid (∀ j, j < k → nth xs j = nth ys j)) (fun i => n - (intOf i).toNat)
    case atStart => exact ⟨0, Nat.zero_le _, rfl, fun j hj => by omega⟩
    case round =>
      obtain ⟨k, hk, rfl, HE⟩ := hrel
      by_cases hlt : k < n
      · obtain ⟨b1, off, rfl, hb1, hc⟩ := h.at_ k hlt
        obtain ⟨b2, off2, rfl, hb2, hc2⟩ := h'.at_ k hlt
        by_cases hv : nth xs k = nth ys k
        · have hvb : (nth xs k != nth ys k) = false := by simp [hv]
          have HE2 := hide (show Hid (∀ j, j < k + 1 → nth xs j = nth ys j) from fun j hj => by
            rcases Nat.lt_or_ge j k with h1 | h1
            · exact (unhide HE) j h1
            · obtain rfl : j = k := by omega
              exact hv)
          clear hv
          go_wp2_with fail
          go_round
          case rel => exact ⟨k + 1, by omega, by go_num, unhide HE2⟩
          case measure => simp [intOf]; omega
        · have hvb : (nth xs k != nth ys k) = true := by simp [hv]
          have HV := hide hv; clear hv
          go_wp2_with fail
          go_ret
          refine ⟨ret_bool ?_, Below.refl _ _⟩
          rw [← hb.out, eq_comm, decide_eq_false_iff_not]
          exact fun e => HV.out (by rw [e])
      · obtain rfl : k = n := by omega
        go_wp2_with fail
        go_ret
        refine ⟨ret_bool ?_, Below.refl _ _⟩
        rw [← hb.out, eq_comm, decide_eq_true_eq]
        apply List.ext_getElem (by rw [hl.out, hl'.out])
        intro j h1 h2
        have := (unhide HE) j (by rw [← hl.out]; exact h1)
        simpa [nth, List.getD, h1, h2] using this
  · have hnb : ((n : Int) != (n' : Int)) = true := by simp; omega
    have HN := hide hn; clear hn
    go_enter Try.func94, Try.ntmps94
    go_wp2_with fail
    go_ret
    refine ⟨ret_bool ?_, Below.refl _ _⟩
    rw [← hb.out, eq_comm, decide_eq_false_iff_not]
    exact fun e => HN.out (by rw [← hl.out, ← hl'.out, e])

theorem turnTake (xs : List Int) (i : Nat) (h : i < (nth xs 0).toNat) : (turnF xs).take (i + 1) = (turnF xs).take i ++ [cnt xs i xs.length] := by
  rw [take_snoc _ _ (by rw [turnF, turnTo_length]; exact h)]
  congr 2
  show (turnF xs).getD i 0 = _
  rw [List.getD, turnF, turnTo, List.getElem?_map, List.getElem?_range h]
  rfl

set_option maxHeartbeats 800000 in
theorem RTurn_any (A : Option Addr) (n c : Nat) (xs : List Int) (w : World) (h : Ints w w.heap.size A n c xs) (hx : Hid (partsOk xs = true)) (hn1 : 1 ≤ n) :
    Calls Try.prog 53 #[.slice A n c] w fun e w' => ∃ A1 n1 c1, e = .returned (.slice A1 n1 c1) ∧ Ints w' w'.heap.size A1 n1 c1 (turnF xs) ∧ Below w.heap.size w w' := by
  have hl := hide h.len
  have hm := h.most; have hcap := h.cap
  obtain ⟨b, off, rfl, hb, hc0⟩ := h.at_ 0 (by omega)
  have hbd0 := partsOk_bd hx.out (k := 0) (by rw [hl.out]; omega)
  obtain ⟨m, hm0⟩ : ∃ m : Nat, nth xs 0 = m := ⟨(nth xs 0).toNat, by omega⟩
  rw [hm0] at hc0 hbd0
  rw [Nat.add_zero] at hc0
  have HM := hide hm0; clear hm0
  have hT := hide (show (nth xs 0).toNat = m from by rw [HM.out]; simp)
  have hb1 := hbd0.1; have hb2 := hbd0.2; clear hbd0
  have hlen12 : n ≤ 12 := by have := partsOk_len hx.out; have := hl.out; omega
  have H := hide h; clear h
  go_enter Try.func53, Try.ntmps53
  go_wp2_with fail
  go_loopw [11, 3] (fun i v wr => ∃ (k : Nat) (A1 : Option Addr) (c1 : Nat), k ≤ m ∧ i = .int .i64 k ∧ v = .slice A1 k c1 ∧ Owned wr w.heap.size (.slice A1 k c1) ((turnF xs).take k) ∧ Below w.heap.size w wr) (fun i _ _ => m - (intOf i).toNat)
  case atStart => exact ⟨0, none, 0, Nat.zero_le _, rfl, rfl, World.ownsRow_nil _ _ _ _, Below.refl _ _⟩
  case round =>
    obtain ⟨k, A1, c1, hk, rfl, rfl, ho, hbl⟩ := hrel
    have HO := hide ho; have HB := hide hbl; clear ho hbl
    by_cases hlt : k < m
    · have I := hide (((unhide H).below (unhide HB)).more (unhide HB).size)
      go_wp2_with fail
      go_loop [16, 5] (fun i s => ∃ j : Nat, j ≤ n ∧ i = .int .i64 j ∧ s = .int .i64 (cnt xs k j)) (fun i _ => n - (intOf i).toNat)
      case atStart => exact ⟨0, Nat.zero_le _, rfl, rfl⟩
      case round =>
        obtain ⟨j, hj, rfl, rfl⟩ := hrel
        obtain ⟨q1, q2⟩ := cnt_bd xs k j
        by_cases hjn : j < n
        · obtain ⟨b3, o3, e3, _, hcj⟩ := (unhide I).at_ j hjn
          simp only [Option.some.injEq, Addr.mk.injEq, and_true] at e3
          obtain ⟨rfl, rfl⟩ := e3
          by_cases hv : (k : Int) < nth xs j
          · have hS := hide (show cnt xs k (j + 1) = cnt xs k j + 1 from by rw [cnt, if_pos hv])
            go_wp2_with fail
            go_round
            case rel => exact ⟨j + 1, by omega, by go_num, by rw [hS.out]⟩
            case measure => simp [intOf]; omega
          · have hS := hide (show cnt xs k (j + 1) = cnt xs k j from by rw [cnt, if_neg hv]; simp)
            go_wp2_with fail
            go_round
            case rel => exact ⟨j + 1, by omega, by go_num, by rw [hS.out]⟩
            case measure => simp [intOf]; omega
        · obtain rfl : j = n := by omega
          have hs := (unhide HB).size
          have ht := hide (turnTake xs k (by rw [hT.out]; exact hlt))
          rw [hl.out] at ht
          have hlk := hide (show ((turnF xs).take k).length = k from by rw [List.length_take, turnF, turnTo_length, hT.out]; omega)
          go_wp2_with (at_builtin
                       refine wpList_app (by rfl) (.tmp 26) (.tmp 28) (by rfl) (by rfl) (by rfl) ((unhide HO).alloc _) (ints_one wr _) (by rw [hlk.out]; simp; omega) (by simp; omega) ?_
                       intro v1 w1 ho1 hg1 hat1
                       obtain ⟨A3, c3, e3, o3⟩ := ho1.shape (L' := (turnF xs).take (k + 1)) (n := k + 1) (by rw [ht.out, List.length_append, hlk.out]; rfl) (by rw [ht.out])
                       have EE3 := hide e3
                       have hb3 := hide (((unhide HB).alloc (unhide HB).size (.cells #[.int .i64 (cnt xs k j)] 3)).grown hg1 (by simp; omega) (fun j hj => (World.ownsRow.lt (unhide HO) j hj).1))
                       clear ho1 hg1 hat1 e3)
          go_roundw
          case rel => exact ⟨k + 1, A3, c3, by omega, by go_num, EE3.out, o3, unhide hb3⟩
          case measure => simp [intOf]; omega
    · obtain rfl : k = m := by omega
      go_wp2_with fail
      go_ret
      have ho := unhide HO
      rw [List.take_of_length_le (by rw [turnF, turnTo_length, hT.out]; exact Nat.le_refl _)] at ho
      obtain ⟨A4, n4, c4, e4, hi⟩ := ho.to
      cases e4
      exact ⟨_, _, _, rfl, hi, unhide HB⟩

set_option maxHeartbeats 800000 in
theorem equalFunc_any (A A' : Option Addr) (n c n' c' : Nat) (xss yss : List (List Int)) (w : World) (h : Rows_ w w.heap.size A n c xss) (h' : Rows_ w w.heap.size A' n' c' yss) (he : Hid (xss = yss)) :
    Calls Try.prog 54 #[.slice A n c, .slice A' n' c', .func (.func 47) #[] #[]] w fun e w' => e = .returned (.bool true) ∧ Below w.heap.size w w' := by
  have hnn : n = n' := by rw [← h.len, ← h'.len, he.out]
  subst hnn
  have hm := h.most; have hcap := h.cap; have hm' := h'.most; have hcap' := h'.cap
  have H := hide h; have H' := hide h'; clear h h'
  go_enter Try.func54, Try.ntmps54
  go_wp2_with fail
  go_loopw [17] (fun i wr => ∃ k : Nat, k ≤ n ∧ i = .int .i64 k ∧ Below w.heap.size w wr) (fun i _ => n - (intOf i).toNat)
  case atStart => exact ⟨0, Nat.zero_le _, rfl, Below.refl _ _⟩
  case round =>
    obtain ⟨k, hk, rfl, hb⟩ := hrel
    have J := hide (((unhide H).below hb).more hb.size); have J' := hide (((unhide H').below hb).more hb.size)
    have HB := hide hb; clear hb
    by_cases hlt : k < n
    · obtain ⟨b1, o1, rfl⟩ := (unhide J).addr (by omega)
      obtain ⟨b2, o2, rfl⟩ := (unhide J').addr (by omega)
      obtain ⟨A3, n3, c3, hc3, i3⟩ := (unhide J).get hlt
      obtain ⟨A4, n4, c4, hc4, i4⟩ := (unhide J').get hlt
      have I3 := hide i3; have I4 := hide i4; clear i3 i4
      go_wp2_with fail
      refine (equal_any _ _ _ _ _ _ _ _ _ _ _ (unhide I3) (unhide I4) true (hide (by rw [he.out]; simp))).mono ?_
      rintro e w2 ⟨rfl, b2'⟩
      have HB2 := hide ((unhide HB).trans (b2'.mono (unhide HB).size)); clear b2'
      go_wp2_with fail
      go_roundw
      case rel => exact ⟨k + 1, by omega, by go_num, unhide HB2⟩
      case measure => simp [intOf]; omega
    · go_wp2_with fail
      go_ret
      exact ⟨rfl, unhide HB⟩
end Go.Proofs.Ytmpdalcdkibgpaa
