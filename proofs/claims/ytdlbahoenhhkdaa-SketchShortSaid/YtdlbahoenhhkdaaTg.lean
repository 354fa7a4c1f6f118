import Derived.Test.YtdlbahoenhhkdaaTf
/-
  IsTable of the reference, Ask of both, table.
-/
namespace Go.Proofs.Ytdlbahoenhhkdaa
open Go.RowKit

theorem isTable_is (A : Option Addr) (n c : Nat) (xss : List (List Int)) (w : World) (B : Nat) (h : Rows_ w B A n c xss) (b : Bool) (hb : Hid (isTab xss = b)) :
    Calls Try.prog 71 #[.slice A n c] w fun e w' => e = .returned (.bool b) ∧ w = w' :=
  (isTable_any A n c xss w B h).mono fun _ _ ⟨he, hw⟩ => ⟨by rw [he, hb.out], hw⟩

set_option maxHeartbeats 800000 in
theorem RIsTable_any (A : Option Addr) (n c : Nat) (xss : List (List Int)) (w : World) (B : Nat) (h : Rows_ w B A n c xss) :
    Calls Try.prog 42 #[.slice A n c] w fun e w' => e = .returned (.bool (isTab xss)) ∧ w = w' := by
  have hm := h.most; have hcap := h.cap
  have hl := hide h.len
  rcases Nat.eq_zero_or_pos n with h0 | h0
  · subst h0
    go_enter Try.func42, Try.ntmps42
    go_wp2
    go_loopw [4, 9] (fun _ i wr => i = .int .i64 0 ∧ w = wr) (fun _ i _ => 0 - (intOf i).toNat)
    case atStart => exact ⟨rfl, rfl⟩
    case round =>
      obtain ⟨rfl, rfl⟩ := hrel
      go_wp2
      go_ret
      exact ⟨ret_bool (by simp [isTab, hl.out]), rfl⟩
  · obtain ⟨b0, off0, A0, n0, c0, rfl, hb0, hc0, hi0⟩ := h.at_ 0 h0
    have hc0' : w.cell? ⟨b0, off0, none⟩ = some (.slice A0 n0 c0) := hc0
    have hL0 := hide hi0.len
    go_enter Try.func42, Try.ntmps42
    go_wp2
    go_loopw [4, 9] (fun _ i wr => ∃ k : Nat, k ≤ n ∧ i = .int .i64 k ∧ RowsTo xss k ∧ w = wr) (fun _ i _ => n - (intOf i).toNat)
    case atStart => exact ⟨0, Nat.zero_le _, rfl, (by intro j hj; omega), rfl⟩
    case round =>
      obtain ⟨k, hk, rfl, hall, rfl⟩ := hrel
      have HA := hide hall; clear hall
      by_cases hlt : k < n
      · obtain ⟨A1, n1, c1, hc1, hi1⟩ := h.get hlt
        have hL1 := hide hi1.len
        have hm1 := hi1.most; have hcap1 := hi1.cap
        by_cases hlen : n1 = n0
        · subst hlen
          go_wp2
          go_loopw [6, 22] (fun _ i wr => ∃ j : Nat, j ≤ n1 ∧ i = .int .i64 j ∧ allIn 0 80 ((row xss k).take j) = true ∧ w = wr) (fun _ i _ => n1 - (intOf i).toNat)
          case atStart => exact ⟨0, Nat.zero_le _, rfl, by simp [allIn], rfl⟩
          case round =>
            obtain ⟨j, hj, rfl, hin, rfl⟩ := hrel
            have HI := hide hin; clear hin
            by_cases hlj : j < n1
            · obtain ⟨b, off, rfl, hb, hc⟩ := hi1.at_ j hlj
              have hjl : j < (row xss k).length := by have := hL1.out; omega
              have HSN := hide (allIn_snoc 0 80 (row xss k) j hjl)
              go_wp2
              all_goals first
                | (go_ret
                   exact ⟨ret_bool (isTab_no (k := k) (by rw [hl.out]; exact hlt) (by rw [rowOk, allIn_no 0 80 (row xss k) j hjl (by omega), Bool.and_false])).symm, rfl⟩)
                | (go_roundw
                   case rel => exact ⟨j + 1, by omega, by go_num, by rw [HSN.out, HI.out]; simp; omega, trivial⟩
                   case measure => simp [intOf]; omega)
            · obtain rfl : n1 = j := by omega
              have HB := HI.out
              rw [← hL1.out, List.take_length] at HB
              have HW := hide HB; clear HB
              go_wp2
              go_roundw
              case rel => exact ⟨k + 1, by omega, by go_num, (by
                intro i hi
                rcases Nat.lt_or_ge i k with h1 | h1
                · exact HA.out i h1
                · obtain rfl : i = k := by omega
                  rw [rowOk, HW.out, hL1.out, hL0.out]; simp), trivial⟩
              case measure => simp [intOf]; omega
        · have hne : ((n1 : Int) != (n0 : Int)) = true := by simp; omega
          have HL := hide hlen; clear hlen
          go_wp2_with fail
          go_ret
          exact ⟨ret_bool (isTab_no (k := k) (by rw [hl.out]; exact hlt) (by rw [rowOk, hL1.out, hL0.out]; simp [HL.out])).symm, rfl⟩
      · obtain rfl : n = k := by omega
        go_wp2_with (go_at_call 36; refine (RSize_any _ _ _).mono ?_; rintro e w' ⟨rfl, rfl⟩)
        go_ret
        refine ⟨ret_bool ?_, rfl⟩
        rw [isTab_yes (by rw [hl.out]; exact HA.out), hl.out, hL0.out]
        have : decide (1 ≤ n) = true := by simp; omega
        rw [this, Bool.true_and]
theorem RIsTable_is (A : Option Addr) (n c : Nat) (xss : List (List Int)) (w : World) (B : Nat) (h : Rows_ w B A n c xss) (b : Bool) (hb : Hid (isTab xss = b)) :
    Calls Try.prog 42 #[.slice A n c] w fun e w' => e = .returned (.bool b) ∧ w = w' :=
  (RIsTable_any A n c xss w B h).mono fun _ _ ⟨he, hw⟩ => ⟨by rw [he, hb.out], hw⟩

theorem Ask_no (A : Option Addr) (n c : Nat) (xss : List (List Int)) (key : Int) (w : World) (B : Nat) (h : Rows_ w B A n c xss) (hs : Hid ((isTab xss && isKeyB key) = false)) :
    Calls Try.prog 39 #[.slice A n c, .int .i64 key] w fun e w' => e = .returned (.tuple #[.int .i64 0, .int .i64 2]) ∧ w = w' := by
  rcases and_no hs.out with h1 | ⟨h1, h2⟩
  · have H1 := hide h1; clear h1
    go_enter Try.func39, Try.ntmps39
    go_wp2_with (go_at_call 71; refine (isTable_is _ _ _ _ _ _ h _ H1).mono ?_; rintro e w' ⟨rfl, rfl⟩)
    go_ret2
    exact ⟨rfl, rfl⟩
  · have H1 := hide h1; clear h1
    have H2 := hide h2; clear h2
    go_enter Try.func39, Try.ntmps39
    go_wp2_with (first
      | (go_at_call 71; refine (isTable_is _ _ _ _ _ _ h _ H1).mono ?_; rintro e w' ⟨rfl, rfl⟩)
      | (go_at_call 60; refine (isKey_is _ _ _ H2).mono ?_; rintro e w' ⟨rfl, rfl⟩))
    go_ret2
    exact ⟨rfl, rfl⟩

set_option maxHeartbeats 800000 in
theorem Ask_ok (A : Option Addr) (n c : Nat) (xss : List (List Int)) (key : Nat) (w : World) (B : Nat) (h : Rows_ w B A n c xss) (hs : Hid (isTab xss = true)) (hk : Hid (isKeyB (key : Int) = true)) :
    Calls Try.prog 39 #[.slice A n c, .int .i64 (key : Int)] w fun e w' => e = .returned (.tuple #[.int .i64 (ask xss key), .int .i64 0]) ∧ w = w' := by
  have hm := h.most; have hcap := h.cap
  have hl := hide h.len
  obtain ⟨t1, t2, t3, t4, t5⟩ := isTab_parts hs.out
  have T5 := hide t5
  have hn : 1 ≤ n ∧ n ≤ 4 := by have := hl.out; omega
  obtain ⟨hn1, hn2⟩ := hn
  have hk0 := hk.out
  simp only [isKeyB, Bool.and_eq_true, decide_eq_true_eq] at hk0
  obtain ⟨hk1, hk2⟩ := hk0
  clear t1 t2 t5
  go_enter Try.func39, Try.ntmps39
  go_wp2_with (first
    | (go_at_call 71; refine (isTable_is _ _ _ _ _ _ h _ hs).mono ?_; rintro e w' ⟨rfl, rfl⟩)
    | (go_at_call 60; refine (isKey_is _ _ _ hk).mono ?_; rintro e w' ⟨rfl, rfl⟩))
  go_loopw [6, 7, 8, 19] (fun a _ _ i wr => ∃ r : Nat, r ≤ n ∧ i = .int .i64 r ∧ a = .int .i64 (askTo xss key r) ∧ w = wr) (fun _ _ _ i _ => n - (intOf i).toNat)
  case atStart => exact ⟨0, Nat.zero_le _, rfl, rfl, rfl⟩
  case round =>
    obtain ⟨r, hr, rfl, rfl, rfl⟩ := hrel
    by_cases hlt : r < n
    · obtain ⟨b, off, A1, n1, c1, rfl, hb, hc, hi1⟩ := h.at_ r hlt
      have hln := (T5.out r (by rw [hl.out]; exact hlt)).1
      have hl1 := hi1.len
      have hn1' : 1 ≤ n1 ∧ n1 ≤ 8 := by omega
      obtain ⟨m1, m2⟩ := hn1'
      have hp := pl_lt r key n1 (by omega)
      obtain ⟨b', off', rfl, hb', hc'⟩ := hi1.at_ _ hp
      have HS := hide (show askTo xss key (r + 1) = min (askTo xss key r) (nth (row xss r) (pl r key n1)) from by rw [askTo, hl1])
      have hmin := run_min' (askTo xss key r) (nth (row xss r) (pl r key n1))
      clear hln hl1
      go_wp2_with (go_at_call 68; refine (place_any _ _ _ _ (by omega) (by omega) (by omega) (by omega)).mono ?_; rintro e w' ⟨rfl, rfl⟩)
      go_roundw
      case rel => exact ⟨r + 1, by omega, by go_num, by rw [HS.out], trivial⟩
      case measure => simp [intOf]; omega
    · obtain rfl : n = r := by omega
      go_wp2
      go_ret2
      exact ⟨ret_int2 (by rw [ask, hl.out]) rfl, rfl⟩

set_option maxHeartbeats 800000 in
theorem RAsk_any (A : Option Addr) (n c : Nat) (xss : List (List Int)) (key : Nat) (w : World) (B : Nat) (h : Rows_ w B A n c xss) (hs : Hid (isTab xss = true)) (hk : Hid (isKeyB (key : Int) = true)) :
    Calls Try.prog 43 #[.slice A n c, .int .i64 (key : Int)] w fun e w' => e = .returned (.int .i64 (ask xss key)) ∧ w = w' := by
  have hm := h.most; have hcap := h.cap
  have hl := hide h.len
  obtain ⟨t1, t2, t3, t4, t5⟩ := isTab_parts hs.out
  have T5 := hide t5
  have hn : 1 ≤ n ∧ n ≤ 4 := by have := hl.out; omega
  obtain ⟨hn1, hn2⟩ := hn
  have hk0 := hk.out
  simp only [isKeyB, Bool.and_eq_true, decide_eq_true_eq] at hk0
  obtain ⟨hk1, hk2⟩ := hk0
  clear t1 t2 t5
  go_enter Try.func43, Try.ntmps43
  go_wp2
  go_loopw [5, 6, 7, 10] (fun a _ _ i wr => ∃ r : Nat, r ≤ n ∧ i = .int .i64 r ∧ a = .int .i64 (askTo xss key r) ∧ w = wr) (fun _ _ _ i _ => n - (intOf i).toNat)
  case atStart => exact ⟨0, Nat.zero_le _, rfl, rfl, rfl⟩
  case round =>
    obtain ⟨r, hr, rfl, rfl, rfl⟩ := hrel
    by_cases hlt : r < n
    · obtain ⟨b, off, A1, n1, c1, rfl, hb, hc, hi1⟩ := h.at_ r hlt
      have hln := (T5.out r (by rw [hl.out]; exact hlt)).1
      have hl1 := hi1.len
      have hn1' : 1 ≤ n1 ∧ n1 ≤ 8 := by omega
      obtain ⟨m1, m2⟩ := hn1'
      have hp := pl_lt r key n1 (by omega)
      obtain ⟨b', off', rfl, hb', hc'⟩ := hi1.at_ _ hp
      have HS := hide (show askTo xss key (r + 1) = min (askTo xss key r) (nth (row xss r) (pl r key n1)) from by rw [askTo, hl1])
      have hmin := run_min' (askTo xss key r) (nth (row xss r) (pl r key n1))
      clear hln hl1
      go_wp2_with (go_at_call 70; refine (RIndex_any _ _ _ _ (by omega) (by omega) (by omega) (by omega)).mono ?_; rintro e w' ⟨rfl, rfl⟩)
      go_roundw
      case rel => exact ⟨r + 1, by omega, by go_num, by rw [HS.out], trivial⟩
      case measure => simp [intOf]; omega
    · obtain rfl : n = r := by omega
      go_wp2
      go_ret
      exact ⟨ret_int (by rw [ask, hl.out]), rfl⟩

theorem clone_ints (A : Option Addr) (n c : Nat) (xs : List Int) (w : World) (B : Nat) (h : Ints w B A n c xs) (hn : n ≤ 100000) (hB : B ≤ w.heap.size) :
    Calls Try.prog 53 #[.slice A n c] w fun e w' => ∃ A' n' c', e = .returned (.slice A' n' c') ∧ Owned w' w.heap.size (.slice A' n' c') xs ∧ Ints w' w'.heap.size A' n' c' xs ∧ Below w.heap.size w w' :=
  (clone_any A n c xs w B h hn hB).mono fun _ _ ⟨_, he, ho, hb⟩ => by
    obtain ⟨A', c', rfl, hi⟩ := ho.ints
    exact ⟨A', _, c', he, ho, hi, hb⟩

def cutTo (xss : List (List Int)) (k : Nat) : List (List Int) := ((xss.take k).take 7).map fun r => r.take 11
theorem cutTo_len (xss : List (List Int)) (k : Nat) : (cutTo xss k).length ≤ 7 := by simp [cutTo]; omega
theorem cutTo_add {xss : List (List Int)} {k : Nat} (hk : k < xss.length) (h : k < 7) : cutTo xss (k + 1) = cutTo xss k ++ [(row xss k).take 11] := by
  unfold cutTo
  rw [List.take_of_length_le (l := xss.take (k + 1)) (by simp; omega), List.take_of_length_le (l := xss.take k) (by simp; omega), List.take_succ_eq_append_getElem hk, List.map_append]
  congr 1
  simp [row, List.getD, hk]
theorem cutTo_same {xss : List (List Int)} {k : Nat} (h : ¬ k < 7) : cutTo xss (k + 1) = cutTo xss k := by
  unfold cutTo
  rw [List.take_take, List.take_take, Nat.min_eq_left (by omega), Nat.min_eq_left (by omega)]

set_option maxHeartbeats 1000000 in
theorem tableC_any (A : Option Addr) (n c : Nat) (xss : List (List Int)) (w : World) (h : Rows_ w w.heap.size A n c xss) :
    Calls Try.prog 40 #[.slice A n c] w fun e w' => ∃ v, e = .returned v ∧ OwnedR w' w.heap.size v (cutT xss) ∧ Below w.heap.size w w' := by
  have hm := h.most; have hcap := h.cap
  have hl := hide h.len
  go_enter Try.func40, Try.ntmps40
  go_wp2
  go_loopw [3, 4, 5, 8] (fun v _ _ i wr => ∃ k : Nat, k ≤ n ∧ i = .int .i64 k ∧ OwnedR wr w.heap.size v (cutTo xss k) ∧ Below w.heap.size w wr) (fun _ _ _ i _ => n - (intOf i).toNat)
  case atStart => exact ⟨0, Nat.zero_le _, rfl, by simpa [cutTo] using ownedR_nil _ _, Below.refl _ _⟩
  case round =>
    obtain ⟨k, hk, rfl, ho, hb⟩ := hrel
    by_cases hlt : k < n
    · obtain ⟨b, off, A1, n1, c1, rfl, hb0, hc, hi1⟩ := (h.below hb).at_ k hlt
      have hl1 := hide hi1.len
      have hm1 := hi1.most; have hcap1 := hi1.cap
      by_cases h7 : k < 7
      · obtain ⟨M, hM⟩ : ∃ M : Nat, M = min n1 11 := ⟨_, rfl⟩
        have hM1 : M ≤ n1 := by omega
        have hM2 : M ≤ 11 := by omega
        have hmin : ∀ W, (Builtin.min_ #[3, 3] 3 #[.int .i64 (n1 : Int), .int .i64 11]).run Try.prog W = .ok (.int .i64 (M : Int)) W := fun W => by
          rw [run_min']; congr 2; omega
        have hrow := hide (show (row xss k).take M = (row xss k).take 11 from by
          have := hl1.out
          by_cases h1 : n1 ≤ 11
          · rw [List.take_of_length_le (by omega), List.take_of_length_le (by omega)]
          · rw [show M = 11 by omega])
        have HADD := hide (cutTo_add (xss := xss) (k := k) (by rw [hl.out]; exact hlt) h7)
        have hcut := hide (hi1.cut hM1)
        have hll : (cutTo xss k).length ≤ 1000000 := by have := cutTo_len xss k; omega
        clear hM
        have hbs := hb.size
        go_wp2_with fail
        refine (clone_ints _ _ _ _ _ _ (unhide hcut) (by omega) hbs).mono ?_
        rintro e w1 ⟨A2, n2, c2, rfl, o1, i2, b1⟩
        rw [hrow.out] at o1 i2
        have hor := ho.below b1
        have hlt' := ho.lt
        have hap := o1.elem (g := u3.ownBlock) (fun b hb => (hlt' b hb).2)
        have HAP := hide hap; clear hap hlt'
        have hbase := (hb.trans (b1.mono hbs)).size
        go_wp2_with (at_builtin; refine wpList_appR (v := u3) rfl _ _ rfl rfl rfl hor i2 HAP.out hll hbase ?_; intro v' w2 ho2 hb2)
        go_roundw
        case rel => exact ⟨k + 1, by omega, by go_num, by rw [HADD.out]; exact ho2, (hb.trans (b1.mono hbs)).trans hb2⟩
        case measure => simp [intOf]; omega
      · have HS := hide (cutTo_same (xss := xss) h7)
        go_wp2
        go_roundw
        case rel => exact ⟨k + 1, by omega, by go_num, by rw [HS.out]; exact ho, hb⟩
        case measure => simp [intOf]; omega
    · obtain rfl : n = k := by omega
      go_wp2
      go_ret
      refine ⟨_, rfl, ?_, hb⟩
      have e : cutT xss = cutTo xss n := by unfold cutT cutTo; rw [← hl.out, List.take_length]
      rw [e]
      exact ho
end Go.Proofs.Ytdlbahoenhhkdaa
