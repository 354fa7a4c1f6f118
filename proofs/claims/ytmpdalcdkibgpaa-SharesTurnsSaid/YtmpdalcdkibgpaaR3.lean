import Derived.Test.YtmpdalcdkibgpaaR2
namespace Go.Proofs.Ytmpdalcdkibgpaa
open Go.RowKit Go.Sort

/-- What the last m numbers give. -/
def accD (xs : List Int) : Nat → List (List Int)
  | 0 => []
  | m + 1 => accD xs m ++ (stepF xs (xs.length - 1 - m)).toList
def belowF (xs : List Int) : List (List Int) := accD xs xs.length
theorem accD_len (xs : List Int) : ∀ m, (accD xs m).length ≤ m := by
  intro m
  induction m with
  | zero => simp [accD]
  | succ m ih =>
    rw [accD, List.length_append]
    have : (stepF xs (xs.length - 1 - m)).toList.length ≤ 1 := by cases stepF xs (xs.length - 1 - m) <;> simp
    omega

set_option maxHeartbeats 400000 in
theorem Below_no (A : Option Addr) (n c : Nat) (xs : List Int) (w : World) (B : Nat) (h : Ints w B A n c xs) (hs : Hid (parts xs = 0)) :
    Calls Try.prog 51 #[.slice A n c] w fun e w' => e = .returned (.tuple #[.slice none 0 0, .int .i64 2]) ∧ Below w.heap.size w w' := by
  go_enter Try.func51, Try.ntmps51
  go_wp2_with fail
  refine (sumOfParts_is _ _ _ _ _ _ h _ hs).mono ?_
  rintro e w1 ⟨rfl, q, rfl⟩
  go_wp2_with fail
  go_ret2
  exact ⟨rfl, Below.ofDraws q⟩

set_option maxHeartbeats 1600000 in
theorem Below_ok (A : Option Addr) (n c : Nat) (xs : List Int) (w : World) (h : Ints w w.heap.size A n c xs) (m : Nat) (hx : Hid (IsP xs m)) :
    Calls Try.prog 51 #[.slice A n c] w fun e w' => ∃ A1 n1 c1, e = .returned (.tuple #[.slice A1 n1 c1, .int .i64 0]) ∧ Rows_ w' w'.heap.size A1 n1 c1 (belowF xs) ∧ Below w.heap.size w w' := by
  have hs := hide hx.out.parts
  have hne : ((m : Int) == 0) = false := by have := hx.out.pos; simp; omega
  have hok := hide hx.out.ok
  have hl := hide h.len
  have hn1 : 1 ≤ n := by have := hx.out.len; have := hl.out; omega
  have hn12 : n ≤ 12 := by have := hx.out.len12; have := hl.out; omega
  have hm := h.most; have hcap := h.cap
  have qn : ∀ (w : World) (a : Option Addr) (n c n' c' : Nat), (binOp .neq 22 (.slice a n c) (.slice none n' c')).run Try.prog w = .ok (.bool (!a.isNone)) w := fun w a n c n' c' => run_neq_slice_nil_any w 22 3 a n c n' c' Try.underlying22
  have QN := hide qn; clear qn
  have H := hide h; clear h
  go_enter Try.func51, Try.ntmps51
  go_wp2_with fail
  refine (sumOfParts_is _ _ _ _ _ _ (unhide H) _ hs).mono ?_
  rintro e w1 ⟨rfl, q, rfl⟩
  go_wp2_with fail
  have HB0 := hide (Below.ofDraws (w := w) q)
  go_loopw [5, 4] (fun i v wr => ∃ (z : Int) (A1 : Option Addr) (n1 c1 : Nat), -1 ≤ z ∧ z < n ∧ i = .int .i64 z ∧ v = .slice A1 n1 c1 ∧ OwnedR wr w.heap.size (.slice A1 n1 c1) (accD xs (n - 1 - z).toNat) ∧ Below w.heap.size w wr) (fun i _ _ => (intOf i + 1).toNat)
  case atStart => exact ⟨(n : Int) - 1, none, 0, 0, by omega, by omega, rfl, rfl, by rw [show ((n : Int) - 1 - ((n : Int) - 1)).toNat = 0 from by omega]; exact ownedR_nil _ _, unhide HB0⟩
  case round =>
    obtain ⟨z, A1, n1, c1, hz1, hz2, rfl, rfl, ho, hb⟩ := hrel
    have HO := hide ho; have HB := hide hb; clear ho hb
    by_cases hz : 0 ≤ z
    · obtain ⟨f, rfl⟩ : ∃ f : Nat, z = f := ⟨z.toNat, by omega⟩
      go_wp2_with fail
      refine (stepDown_any _ _ _ _ _ _ (((unhide H).below (unhide HB)).more (unhide HB).size) (by omega) hok).mono ?_
      rintro e w2 ⟨v, rfl, hpost⟩
      obtain ⟨hb2, hno, hyes⟩ := hpost
      have HB2 := hide ((unhide HB).trans (hb2.mono (unhide HB).size))
      have HO2 := hide ((unhide HO).below hb2)
      have hacc := hide (show accD xs (n - 1 - ((f : Int) - 1)).toNat = accD xs (n - 1 - (f : Int)).toNat ++ (stepF xs f).toList from by
        rw [show ((n : Int) - 1 - ((f : Int) - 1)).toNat = (n - 1 - (f : Int)).toNat + 1 from by omega, accD]
        congr 3
        rw [hl.out]; omega)
      have qn := unhide QN
      rcases hst : stepF xs f with _ | b
      · rw [hst] at hacc
        have hv := hno hst
        subst hv
        have HST := hide hst; clear hst hno hyes hb2
        go_wp2_with fail
        go_roundw
        case rel => exact ⟨(f : Int) - 1, A1, n1, c1, by omega, by omega, rfl, rfl, by rw [hacc.out]; simpa using unhide HO2, unhide HB2⟩
        case measure => simp [intOf]
      · rw [hst] at hacc
        obtain ⟨g, c2, rfl, hob⟩ := hyes b hst
        have HST := hide hst; clear hst hno hyes
        have hlacc := accD_len xs (n - 1 - (f : Int)).toNat
        have hel := hob.elem (g := (Value.slice A1 n1 c1).ownBlock) (fun b hb => ((unhide HO).lt b hb).2)
        obtain ⟨A9, c9, e9, i9⟩ := hob.ints
        cases e9
        have HI := hide i9; have HE := hide hel
        clear i9 hel hob hb2
        go_wp2_with (at_builtin
                     refine wpList_appR (by rfl) (.tmp 22) (.tmp 24) (by rfl) (by rfl) (by rfl) (unhide HO2) (unhide HI) (unhide HE) (by omega) (unhide HB2).size ?_
                     intro v3 w3 ho3 hb3
                     obtain ⟨A3, c3, e3, _⟩ := ho3.rows
                     have HO3 := hide ho3; have E3 := hide e3; have HB3 := hide ((unhide HB2).trans hb3)
                     clear ho3 hb3 e3)
        go_roundw
        case rel => exact ⟨(f : Int) - 1, A3, _, c3, by omega, by omega, rfl, E3.out, by rw [hacc.out, ← E3.out]; exact unhide HO3, unhide HB3⟩
        case measure => simp [intOf]
    · obtain rfl : z = -1 := by omega
      go_wp2_with fail
      go_ret2
      obtain ⟨A4, n4, c4, e4, hr⟩ := (unhide HO).to
      cases e4
      refine ⟨_, _, _, rfl, ?_, unhide HB⟩
      rw [show ((n : Int) - 1 - -1).toNat = n from by omega] at hr
      rw [belowF, hl.out]
      exact hr

def cmpL : List Int → List Int → Int
  | [], [] => 0
  | [], _ :: _ => -1
  | _ :: _, [] => 1
  | a :: l, b :: m => if a < b then -1 else if b < a then 1 else cmpL l m
theorem drop_cons (xs : List Int) (k : Nat) (h : k < xs.length) : xs.drop k = nth xs k :: xs.drop (k + 1) := by
  rw [List.drop_eq_getElem_cons h]; simp [nth, List.getD, h]

set_option maxHeartbeats 800000 in
theorem compare_any (A A' : Option Addr) (n c n' c' : Nat) (xs ys : List Int) (w : World) (B B' : Nat) (h : Ints w B A n c xs) (h' : Ints w B' A' n' c' ys) :
    Calls Try.prog 58 #[.slice A n c, .slice A' n' c'] w fun e w' => e = .returned (.int .i64 (cmpL xs ys)) ∧ w = w' := by
  have hl := hide h.len; have hl' := hide h'.len
  have hm := h.most; have hcap := h.cap; have hm' := h'.most; have hcap' := h'.cap
  go_enter Try.func58, Try.ntmps58
  go_wp2_with fail
  go_loop [11] (fun i => ∃ k : Nat, k ≤ n ∧ k ≤ n' ∧ i = .int .i64 k ∧ cmpL (xs.drop k) (ys.drop k) = cmpL xs ys) (fun i => n - (intOf i).toNat)
  case atStart => exact ⟨0, Nat.zero_le _, Nat.zero_le _, rfl, by simp⟩
  case round =>
    obtain ⟨k, hk, hk', rfl, he⟩ := hrel
    have HE := hide he; clear he
    by_cases hlt : k < n
    · obtain ⟨b, off, rfl, hb, hc⟩ := h.at_ k hlt
      have d1 := hide (drop_cons xs k (by rw [hl.out]; exact hlt))
      by_cases hlt' : k < n'
      · obtain ⟨b2, off2, rfl, hb2, hc2⟩ := h'.at_ k hlt'
        have d2 := hide (drop_cons ys k (by rw [hl'.out]; exact hlt'))
        rcases Int.lt_trichotomy (nth xs k) (nth ys k) with hv | hv | hv
        · have hcmp := hide (show Lib.compareInt (nth xs k) (nth ys k) = -1 from by rw [Lib.compareInt, if_pos hv])
          go_wp2_with fail
          refine (Try.cmp_Compare_int _ _ _).mono ?_
          rintro e w1 ⟨rfl, rfl⟩
          rw [hcmp.out]
          go_wp2_with fail
          go_ret
          exact ⟨ret_int (by rw [← HE.out, d1.out, d2.out, cmpL, if_pos hv]), rfl⟩
        · have hcmp := hide (show Lib.compareInt (nth xs k) (nth ys k) = 0 from by rw [Lib.compareInt, if_neg (by omega), if_neg (by omega)])
          have HV := hide hv; clear hv
          go_wp2_with fail
          refine (Try.cmp_Compare_int _ _ _).mono ?_
          rintro e w1 ⟨rfl, rfl⟩
          rw [hcmp.out]
          go_wp2_with fail
          go_round
          case rel => exact ⟨k + 1, by omega, by omega, by go_num, by rw [← HE.out, d1.out, d2.out, cmpL, if_neg (by have := HV.out; omega), if_neg (by have := HV.out; omega)]⟩
          case measure => simp [intOf]; omega
        · have hcmp := hide (show Lib.compareInt (nth xs k) (nth ys k) = 1 from by rw [Lib.compareInt, if_neg (by omega), if_pos hv])
          go_wp2_with fail
          refine (Try.cmp_Compare_int _ _ _).mono ?_
          rintro e w1 ⟨rfl, rfl⟩
          rw [hcmp.out]
          go_wp2_with fail
          go_ret
          exact ⟨ret_int (by rw [← HE.out, d1.out, d2.out, cmpL, if_neg (by omega), if_pos hv]), rfl⟩
      · have d2 := hide (show ys.drop k = [] from List.drop_eq_nil_of_le (by rw [hl'.out]; omega))
        go_wp2_with fail
        go_ret
        exact ⟨ret_int (by rw [← HE.out, d1.out, d2.out, cmpL]), rfl⟩
    · have d1 := hide (show xs.drop k = [] from List.drop_eq_nil_of_le (by rw [hl.out]; omega))
      by_cases hlt' : n < n'
      · have d2 := hide (drop_cons ys k (by rw [hl'.out]; omega))
        go_wp2_with fail
        go_ret
        exact ⟨ret_int (by rw [← HE.out, d1.out, d2.out, cmpL]), rfl⟩
      · have d2 := hide (show ys.drop k = [] from List.drop_eq_nil_of_le (by rw [hl'.out]; omega))
        go_wp2_with fail
        go_ret
        exact ⟨ret_int (by rw [← HE.out, d1.out, d2.out, cmpL]), rfl⟩
end Go.Proofs.Ytmpdalcdkibgpaa
