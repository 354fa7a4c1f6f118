import Derived.Test.YtdlbahoenhhkdaaO2
import Derived.Test.YtdlbahoenhhkdaaT2
/-
  Keep of the program and of the reference.
-/
namespace Go.Proofs.Ytdlbahoenhhkdaa
open Go.RowKit

/-- A slice of the call's own, opened: its cells, and what a store leaves. -/
theorem Owned.open_ {w : World} {base : Nat} {A : Option Addr} {n c : Nat} {xs : List Int} (h : Owned w base (.slice A n c) xs) (hp : 0 < n) :
    ∃ g, A = some ⟨g, 0, none⟩ ∧ base ≤ g ∧ g < w.heap.size ∧ xs.length = n ∧ n ≤ c ∧ c ≤ 9223372036854775807 ∧ ∀ p, p < n → w.cell? ⟨g, p, none⟩ = some (.int .i64 (nth xs p)) ∧ w.frozen? ⟨g, p, none⟩ = false ∧
      ∀ z, Owned (w.setCell ⟨g, p, none⟩ (.int .i64 z)) base (.slice (some ⟨g, 0, none⟩) n c) (xs.set p z) := by
  rcases h.2 with ⟨hv, _⟩ | ⟨g, cap, cur, hv, hg, hh, hn, hc, hs, ht⟩
  · cases hv; omega
  · simp only [Value.slice.injEq] at hv
    obtain ⟨rfl, rfl, rfl⟩ := hv
    refine ⟨g, rfl, hg, (Array.getElem?_eq_some_iff.1 hh).1, rfl, hn, by unfold maxLen at hc; omega, fun p hpn => ⟨?_, frozen_of_row w g p cur 3 hh, fun z => ?_⟩⟩
    · rw [h.cellAt p (by omega)]
      simp [nth, List.getD, hpn]
    · refine ⟨by simp, .inr ⟨g, c, cur.setIfInBounds p (.int .i64 z), by simp, hg, heap_setCell_same w g p cur 3 _ hh, by simpa using hn, hc, by simpa using hs, ?_⟩⟩
      simp only [Nat.mul_one] at ht ⊢
      simp only [List.length_set, Array.toList_setIfInBounds, List.map_set]
      rw [List.take_set, ht]

theorem areDice_any (A : Option Addr) (n c : Nat) (ds : List Int) (m : Nat) (w : World) (B : Nat) (h : Ints w B A n c ds) :
    Calls Try.prog 72 #[.slice A n c, .int .i64 m] w fun e w' => e = .returned (.bool (diceB ds m)) ∧ w = w' := by
  have hm := h.most; have hcap := h.cap
  have hl := hide h.len
  by_cases h2 : n = m
  · subst h2
    go_enter Try.func72, Try.ntmps72
    go_wp2_with (go_at_call 79; refine (allWithin_any _ _ _ _ _ _ _ _ h).mono ?_; rintro e w' ⟨rfl, rfl⟩)
    go_ret
    exact ⟨ret_bool (by simp [diceB, hl.out]), rfl⟩
  · have e1 : ((n : Int) == (m : Int)) = false := by simp; omega
    go_enter Try.func72, Try.ntmps72
    go_wp2_with fail
    go_ret
    exact ⟨ret_bool (by simp [diceB, hl.out, h2]), rfl⟩
theorem areDice_is (A : Option Addr) (n c : Nat) (ds : List Int) (m : Nat) (w : World) (B : Nat) (h : Ints w B A n c ds) (b : Bool) (hb : Hid (diceB ds m = b)) :
    Calls Try.prog 72 #[.slice A n c, .int .i64 m] w fun e w' => e = .returned (.bool b) ∧ w = w' :=
  (areDice_any A n c ds m w B h).mono fun _ _ ⟨he, hw⟩ => ⟨by rw [he, hb.out], hw⟩

set_option maxHeartbeats 400000 in
theorem RDice_any (A A' : Option Addr) (n c n' c' : Nat) (xs ds : List Int) (w : World) (B B' : Nat) (h' : Ints w B' A' n' c' xs) (h : Ints w B A n c ds) :
    Calls Try.prog 46 #[.slice A' n' c', .slice A n c] w fun e w' => e = .returned (.bool (diceB ds xs.length)) ∧ w = w' := by
  have hm := h.most; have hcap := h.cap; have hm' := h'.most; have hcap' := h'.cap
  have hl := hide h.len; have hl' := hide h'.len
  go_enter Try.func46, Try.ntmps46
  go_wp2
  go_loop [9] (fun i => ∃ k : Nat, k ≤ n ∧ i = .int .i64 k ∧ allIn 0 39 (ds.take k) = true) (fun i => n - (intOf i).toNat)
  case atStart => exact ⟨0, Nat.zero_le _, rfl, by simp [allIn]⟩
  case round =>
    obtain ⟨k, hk, rfl, hall⟩ := hrel
    have HA : Hid _ := hall
    clear hall
    by_cases hlt : k < n
    · obtain ⟨b, off, rfl, hb, hc⟩ := h.at_ k hlt
      have hkl : k < ds.length := by have := hl.out; omega
      have HS := hide (allIn_snoc 0 39 ds k hkl)
      go_wp2
      all_goals first
        | (go_ret
           exact ⟨ret_bool (by rw [diceB, allIn_no 0 39 ds k hkl (by omega), Bool.and_false]), rfl⟩)
        | (go_round
           case rel => exact ⟨k + 1, by omega, by go_num, by rw [HS.out, HA.out]; simp; omega⟩
           case measure => simp [intOf]; omega)
    · have hkn : k = ds.length := by have := hl.out; omega
      have HB := HA.out
      rw [hkn, List.take_length] at HB
      have HC := hide HB
      clear HB hkn
      by_cases hn : n = n'
      · subst hn
        go_wp2
        go_ret
        exact ⟨ret_bool (by simp [diceB, hl.out, hl'.out, HC.out]), rfl⟩
      · have e1 : ((n : Int) == (n' : Int)) = false := by simp; omega
        go_wp2
        go_ret
        exact ⟨ret_bool (by simp [diceB, hl.out, hl'.out, HC.out, hn]), rfl⟩
theorem RDice_is (A A' : Option Addr) (n c n' c' : Nat) (xs ds : List Int) (w : World) (B B' : Nat) (h' : Ints w B' A' n' c' xs) (h : Ints w B A n c ds) (b : Bool) (hb : Hid (diceB ds xs.length = b)) :
    Calls Try.prog 46 #[.slice A' n' c', .slice A n c] w fun e w' => e = .returned (.bool b) ∧ w = w' :=
  (RDice_any A A' n c n' c' xs ds w B B' h' h).mono fun _ _ ⟨he, hw⟩ => ⟨by rw [he, hb.out], hw⟩

set_option maxHeartbeats 400000 in
theorem Keep_no (A A' : Option Addr) (n c n' c' : Nat) (xs ds : List Int) (k : Int) (w : World) (B B' : Nat) (h : Ints w B A n c xs) (h' : Ints w B' A' n' c' ds) (hs : Hid ((cntB k && isStr xs && diceB ds xs.length) = false)) :
    Calls Try.prog 45 #[.int .i64 k, .slice A n c, .slice A' n' c'] w fun e w' => e = .returned (.tuple #[.slice none 0 0, .int .i64 2]) ∧ w = w' := by
  have hl := hide h.len
  rcases and_no hs.out with h0 | ⟨h0, h3⟩
  · rcases and_no h0 with h1 | ⟨h1, h2⟩
    · have H1 := hide h1; clear h1 h0
      go_enter Try.func45, Try.ntmps45
      go_wp2_with (go_at_call 62; refine (isCounters_is _ _ _ H1).mono ?_; rintro e w' ⟨rfl, rfl⟩)
      go_ret2
      exact ⟨rfl, rfl⟩
    · have H1 := hide h1; clear h1 h0
      have H2 := hide h2; clear h2
      go_enter Try.func45, Try.ntmps45
      go_wp2_with (first
        | (go_at_call 62; refine (isCounters_is _ _ _ H1).mono ?_; rintro e w' ⟨rfl, rfl⟩)
        | (go_at_call 59; refine (isStream_is _ _ _ _ _ _ h _ H2).mono ?_; rintro e w' ⟨rfl, rfl⟩))
      go_ret2
      exact ⟨rfl, rfl⟩
  · simp only [Bool.and_eq_true] at h0
    obtain ⟨h1, h2⟩ := h0
    rw [hl.out] at h3
    have H1 := hide h1; clear h1
    have H2 := hide h2; clear h2
    have H3 := hide h3; clear h3
    go_enter Try.func45, Try.ntmps45
    go_wp2_with (first
      | (go_at_call 62; refine (isCounters_is _ _ _ H1).mono ?_; rintro e w' ⟨rfl, rfl⟩)
      | (go_at_call 59; refine (isStream_is _ _ _ _ _ _ h _ H2).mono ?_; rintro e w' ⟨rfl, rfl⟩)
      | (go_at_call 72; refine (areDice_is _ _ _ _ _ _ _ h' _ H3).mono ?_; rintro e w' ⟨rfl, rfl⟩))
    go_ret2
    exact ⟨rfl, rfl⟩

/-- The walk from the first key behind the kept ones on. -/
theorem keep_pos {i : Nat} {x : Int} (hx : 0 ≤ x) : ∃ p : Nat, x % ((i : Int) + 1) = p ∧ p ≤ i := by
  have h1 := Int.emod_nonneg x (show ((i : Int) + 1) ≠ 0 by omega)
  have h2 := Int.emod_lt_of_pos x (show 0 < (i : Int) + 1 by omega)
  exact ⟨(x % ((i : Int) + 1)).toNat, by omega, by omega⟩

set_option maxHeartbeats 800000 in
theorem Keep_ok (A A' : Option Addr) (n c n' c' : Nat) (xs ds : List Int) (K : Nat) (w : World) (h : Ints w w.heap.size A n c xs) (h' : Ints w w.heap.size A' n' c' ds) (hk : Hid (cntB (K : Int) = true)) (hs : Hid (isStr xs = true)) (hd : Hid (diceB ds xs.length = true)) :
    Calls Try.prog 45 #[.int .i64 (K : Int), .slice A n c, .slice A' n' c'] w fun e w' => ∃ v, e = .returned (.tuple #[v, .int .i64 0]) ∧ Owned w' w.heap.size v (keep K xs ds) ∧ Below w.heap.size w w' := by
  have hm := h.most; have hcap := h.cap; have hm' := h'.most; have hcap' := h'.cap
  have hl := hide h.len; have hl' := hide h'.len
  obtain ⟨k1, k2⟩ := cntB_bd hk.out
  have hn : n ≤ 40 := by have := isStr_len hs.out; have := hl.out; omega
  have hnn : n' = n := by have := diceB_len hd.out; have := hl.out; have := hl'.out; omega
  subst hnn
  have H3 : Hid (diceB ds n' = true) := by have := hd.out; rw [hl.out] at this; exact this
  by_cases hKn : K ≤ n'
  · have hcut := hide (h.cut (k := K) hKn)
    go_enter Try.func45, Try.ntmps45
    go_wp2_with (first
      | (go_at_call 62; refine (isCounters_is _ _ _ hk).mono ?_; rintro e w' ⟨rfl, rfl⟩)
      | (go_at_call 59; refine (isStream_is _ _ _ _ _ _ h _ hs).mono ?_; rintro e w' ⟨rfl, rfl⟩)
      | (go_at_call 72; refine (areDice_is _ _ _ _ _ _ _ h' _ H3).mono ?_; rintro e w' ⟨rfl, rfl⟩)
      | (go_at_call 53; refine (clone_any _ _ _ _ _ _ (unhide hcut) (by omega) (Nat.le_refl _)).mono ?_; rintro e w1 ⟨v1, rfl, o1, b1⟩))
    obtain ⟨A1, cc, rfl, _⟩ := o1.ints
    have hlk : (xs.take K).length = K := by have := hl.out; simp; omega
    have o2 : Owned w1 w.heap.size (.slice A1 K cc) (keepTo K xs ds K) := by
      rw [keepTo_take K xs ds K (Nat.le_refl _) (by have := hl.out; omega)]
      rw [hlk] at o1
      exact o1
    rw [hlk]
    clear o1
    have hlk' := hide hlk; clear hlk
    go_loopw [10, 11] (fun i _ wr => ∃ j : Nat, K ≤ j ∧ j ≤ n' ∧ i = .int .i64 j ∧ Owned wr w.heap.size (.slice A1 K cc) (keepTo K xs ds j) ∧ Below w.heap.size w wr) (fun i _ _ => n' - (intOf i).toNat)
    case atStart => exact ⟨K, Nat.le_refl _, hKn, rfl, o2, b1⟩
    case round =>
      obtain ⟨j, hKj, hj, rfl, ho, hb⟩ := hrel
      by_cases hlt : j < n'
      · obtain ⟨q1, q2⟩ := diceB_bd H3.out j hlt
        obtain ⟨p, hp, hpj⟩ := keep_pos (i := j) q1
        obtain ⟨b, off, rfl, hb0, hc⟩ := (h.below hb).at_ j hlt
        obtain ⟨b', off', rfl, hb0', hc'⟩ := (h'.below hb).at_ j hlt
        by_cases hpK : p < K
        · obtain ⟨g, rfl, g1, g2, _, g4, g5, hcell⟩ := ho.open_ (by omega)
          obtain ⟨c1, c2, c3⟩ := hcell p hpK
          have HK := hide (keepTo_put (xs := xs) (ds := ds) (show ¬ j < K by omega) hp hpK)
          have C3 := hide c3; clear c3 hcell
          go_wp2
          go_roundw
          case rel => exact ⟨j + 1, by omega, by omega, by go_num, by rw [HK.out]; exact C3.out _, hb.setCell (by simpa using g1) _⟩
          case measure => simp [intOf]; omega
        · have HK := hide (keepTo_same (xs := xs) (ds := ds) (show ¬ j < K by omega) hp hpK)
          go_wp2
          go_roundw
          case rel => exact ⟨j + 1, by omega, by omega, by go_num, by rw [HK.out]; exact ho, hb⟩
          case measure => simp [intOf]; omega
      · obtain rfl : j = n' := by omega
        go_wp2
        go_ret2
        refine ⟨_, rfl, ?_, hb⟩
        unfold keep
        rw [hl.out]
        exact ho
  · have hcut := hide (h.cut (k := n') (Nat.le_refl _))
    go_enter Try.func45, Try.ntmps45
    go_wp2_with (first
      | (go_at_call 62; refine (isCounters_is _ _ _ hk).mono ?_; rintro e w' ⟨rfl, rfl⟩)
      | (go_at_call 59; refine (isStream_is _ _ _ _ _ _ h _ hs).mono ?_; rintro e w' ⟨rfl, rfl⟩)
      | (go_at_call 72; refine (areDice_is _ _ _ _ _ _ _ h' _ H3).mono ?_; rintro e w' ⟨rfl, rfl⟩)
      | (go_at_call 53; refine (clone_any _ _ _ _ _ _ (unhide hcut) (by omega) (Nat.le_refl _)).mono ?_; rintro e w1 ⟨v1, rfl, o1, b1⟩))
    go_loopw [10, 11] (fun i _ wr => i = .int .i64 n' ∧ wr = w1) (fun i _ _ => n' - (intOf i).toNat)
    case atStart => exact ⟨rfl, rfl⟩
    case round =>
      obtain ⟨rfl, rfl⟩ := hrel
      go_wp2
      go_ret2
      refine ⟨_, rfl, ?_, b1⟩
      rw [keep_all K xs ds (by have := hl.out; omega)]
      rw [← hl.out, List.take_length] at o1
      exact o1

set_option maxHeartbeats 800000 in
theorem RKeep_any (A A' : Option Addr) (n c n' c' : Nat) (xs ds : List Int) (K : Nat) (w : World) (h : Ints w w.heap.size A n c xs) (h' : Ints w w.heap.size A' n' c' ds) (hk : Hid (cntB (K : Int) = true)) (hs : Hid (isStr xs = true)) (hd : Hid (diceB ds xs.length = true)) :
    Calls Try.prog 47 #[.int .i64 (K : Int), .slice A n c, .slice A' n' c'] w fun e w' => ∃ v, e = .returned v ∧ Owned w' w.heap.size v (keep K xs ds) ∧ Below w.heap.size w w' := by
  have hm := h.most; have hcap := h.cap; have hm' := h'.most; have hcap' := h'.cap
  have hl := hide h.len; have hl' := hide h'.len
  obtain ⟨k1, k2⟩ := cntB_bd hk.out
  have hn : n ≤ 40 := by have := isStr_len hs.out; have := hl.out; omega
  have hnn : n' = n := by have := diceB_len hd.out; have := hl.out; have := hl'.out; omega
  subst hnn
  have H3 : Hid (diceB ds n' = true) := by have := hd.out; rw [hl.out] at this; exact this
  go_enter Try.func47, Try.ntmps47
  go_wp2
  go_loopw [7, 8, 9, 10, 13] (fun v _ _ _ i wr => ∃ j : Nat, j ≤ n' ∧ i = .int .i64 j ∧ Owned wr w.heap.size v (keepTo K xs ds j) ∧ Below w.heap.size w wr) (fun _ _ _ _ i _ => n' - (intOf i).toNat)
  case atStart => exact ⟨0, Nat.zero_le _, rfl, World.ownsRow_nil _ _ _ _, Below.refl _ _⟩
  case round =>
    obtain ⟨j, hj, rfl, ho, hb⟩ := hrel
    by_cases hlt : j < n'
    · obtain ⟨q1, q2⟩ := diceB_bd H3.out j hlt
      obtain ⟨p, hp, hpj⟩ := keep_pos (i := j) q1
      obtain ⟨b, off, rfl, hb0, hc⟩ := (h.below hb).at_ j hlt
      obtain ⟨b', off', rfl, hb0', hc'⟩ := (h'.below hb).at_ j hlt
      have hlen := keepTo_len K xs ds j
      by_cases hjK : j < K
      · have HK := hide (keepTo_add (xs := xs) (ds := ds) hjK)
        have hll : (keepTo K xs ds j).length ≤ 100000 := by omega
        have hbase := hb.size
        clear hlen hp
        go_wp2_with (at_builtin; refine wpList_app1 rfl _ _ rfl rfl rfl ho hll hbase ?_; intro v' w2 ho2 hb2)
        go_roundw
        case rel => exact ⟨j + 1, by omega, by go_num, by rw [HK.out]; exact ho2, hb.trans hb2⟩
        case measure => simp [intOf]; omega
      · obtain ⟨A1, cc, rfl, _⟩ := ho.ints
        have e1 : (keepTo K xs ds j).length = K := by omega
        rw [e1] at ho ⊢
        have E1 := hide e1; clear e1 hlen
        by_cases hpK : p < K
        · obtain ⟨g, rfl, g1, g2, _, g4, g5, hcell⟩ := ho.open_ (by omega)
          obtain ⟨c1, c2, c3⟩ := hcell p hpK
          have HK := hide (keepTo_put (xs := xs) (ds := ds) hjK hp hpK)
          have C3 := hide c3; clear c3 hcell
          go_wp2
          go_roundw
          case rel => exact ⟨j + 1, by omega, by go_num, by rw [HK.out]; exact C3.out _, hb.setCell (by simpa using g1) _⟩
          case measure => simp [intOf]; omega
        · have HK := hide (keepTo_same (xs := xs) (ds := ds) hjK hp hpK)
          go_wp2
          go_roundw
          case rel => exact ⟨j + 1, by omega, by go_num, by rw [HK.out]; exact ho, hb⟩
          case measure => simp [intOf]; omega
    · obtain rfl : j = n' := by omega
      go_wp2
      go_ret
      refine ⟨_, rfl, ?_, hb⟩
      unfold keep
      rw [hl.out]
      exact ho

def NoneTo (xs : List Int) (z : Int) (k : Nat) : Prop := ∀ j, j < k → nth xs j ≠ z
theorem mem_nth {xs : List Int} {z : Int} (h : z ∈ xs) : ∃ j, j < xs.length ∧ nth xs j = z := by
  obtain ⟨j, hj, e⟩ := List.getElem_of_mem h
  exact ⟨j, hj, by simp [nth, List.getD, hj, e]⟩
theorem nth_mem {xs : List Int} {j : Nat} (h : j < xs.length) : nth xs j ∈ xs := by simp [nth, List.getD, h]

def Says (r z : Int) (xs : List Int) : Prop := decide (0 ≤ r) = decide (z ∈ xs)
/-- slices.Index of a number that may be in the slice. -/
theorem index_any (A : Option Addr) (n c : Nat) (xs : List Int) (z : Int) (w : World) (B : Nat) (h : Ints w B A n c xs) :
    Calls Try.prog 73 #[.slice A n c, .int .i64 z] w fun e w' => ∃ r : Int, e = .returned (.int .i64 r) ∧ Says r z xs ∧ w = w' := by
  have hm := h.most; have hcap := h.cap
  have hl := hide h.len
  go_enter Try.func73, Try.ntmps73
  go_wp2
  go_loop [5, 8] (fun _ i => ∃ k : Nat, k ≤ n ∧ i = .int .i64 k ∧ NoneTo xs z k) (fun _ i => n - (intOf i).toNat)
  case atStart => exact ⟨0, Nat.zero_le _, rfl, by intro j hj; omega⟩
  case round =>
    obtain ⟨k, hk, rfl, hall⟩ := hrel
    have HA := hide hall; clear hall
    by_cases hlt : k < n
    · obtain ⟨b, off, rfl, hb, hc⟩ := h.at_ k hlt
      by_cases he : z = nth xs k
      · have he' : (z == nth xs k) = true := by simp [he]
        have HE := hide he; clear he
        go_wp2
        go_ret
        exact ⟨_, rfl, by
          rw [Says, decide_eq_decide]; exact ⟨fun _ => by rw [HE.out]; exact nth_mem (by rw [hl.out]; exact hlt), fun _ => by omega⟩, rfl⟩
      · have he' : (z == nth xs k) = false := by simp [he]
        have HE := hide he; clear he
        go_wp2
        go_round
        case rel => exact ⟨k + 1, by omega, by go_num, by
          intro j hj
          rcases Nat.lt_or_ge j k with h1 | h1
          · exact HA.out j h1
          · obtain rfl : j = k := by omega
            exact fun e => HE.out e.symm⟩
        case measure => simp [intOf]; omega
    · go_wp2
      go_ret
      obtain rfl : k = n := by omega
      exact ⟨_, rfl, by
        rw [Says, decide_eq_decide]; exact ⟨fun hh => by omega, fun hh => by
          obtain ⟨j, hj, e⟩ := mem_nth hh
          exact absurd e (HA.out j (by have := hl.out; omega))⟩, rfl⟩

theorem contains_any (A : Option Addr) (n c : Nat) (xs : List Int) (z : Int) (w : World) (B : Nat) (h : Ints w B A n c xs) :
    Calls Try.prog 50 #[.slice A n c, .int .i64 z] w fun e w' => e = .returned (.bool (decide (z ∈ xs))) ∧ w = w' := by
  go_enter Try.func50, Try.ntmps50
  go_wp2_with fail
  refine (index_any _ _ _ _ _ _ _ h).mono ?_
  rintro e w' ⟨r, rfl, hr, rfl⟩
  have HR := hide hr; clear hr
  go_wp2_with fail
  go_ret
  exact ⟨ret_bool HR.out, rfl⟩
theorem contains_is (A : Option Addr) (n c : Nat) (xs : List Int) (z : Int) (w : World) (B : Nat) (h : Ints w B A n c xs) (b : Bool) (hb : Hid (decide (z ∈ xs) = b)) :
    Calls Try.prog 50 #[.slice A n c, .int .i64 z] w fun e w' => e = .returned (.bool b) ∧ w = w' :=
  (contains_any A n c xs z w B h).mono fun _ _ ⟨he, hw⟩ => ⟨by rw [he, hb.out], hw⟩
end Go.Proofs.Ytdlbahoenhhkdaa
