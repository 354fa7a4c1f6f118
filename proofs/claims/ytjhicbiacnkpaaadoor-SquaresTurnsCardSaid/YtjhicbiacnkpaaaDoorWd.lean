/-
  Clues refused; pictures; own and Same.
-/
import Derived.Test.YtjhicbiacnkpaaaDoorWc
namespace Go.Proofs.YtjhicbiacnkpaaaDoor
open Go.RowKit

def picB (x : Int) (xs : List Int) : Bool := sz (xs.length : Int) && ars x xs
theorem picB_take (x : Int) (xs : List Int) : picB x (xs.take 8) = picB x xs := by
  rcases Nat.lt_or_ge 8 xs.length with h | h
  · unfold picB
    rw [sz_no (x := ((xs.take 8).length : Int)) (by rw [List.length_take]; omega), sz_no (x := (xs.length : Int)) (by omega)]
    rfl
  · rw [List.take_of_length_le h]
theorem pic_take {x : Int} {xs : List Int} (h : picB x xs = true) : xs.take 8 = xs := by
  unfold picB at h
  rw [Bool.and_eq_true] at h
  have := sz_iff.1 h.1
  exact List.take_of_length_le (by omega)

set_option maxHeartbeats 400000 in
theorem Clues_no (x : Int) (A : Option Addr) (n c : Nat) (xs : List Int) (w : World) (h : Ints w w.heap.size A n c xs) (HP : Hid (picB x xs = false)) :
    Calls Tryd.prog 29 #[.int .i64 x, .slice A n c] w fun e w' => e = .returned (.tuple #[.agg #[.slice none 0 0, .slice none 0 0], .int .i64 2]) ∧ Below w.heap.size w w' := by
  have hl := hide h.len
  have hi0 := hide (h.alloc (Nat.le_refl _) (.cells #[.slice none 0 0, .slice none 0 0] 40))
  have HB0 := hide ((Below.refl _ w).alloc (Nat.le_refl w.heap.size) (.cells #[.slice none 0 0, .slice none 0 0] 40))
  have K4 := hide (Blk.new w 40 #[.slice none 0 0, .slice none 0 0])
  have hz := put2 (unhide K4) (.slice none 0 0) (.slice none 0 0)
  obtain ⟨z1, z2⟩ := two_at hz
  have HB1 := hide (below_put2 (unhide HB0) (Nat.le_refl _) (.slice none 0 0) (.slice none 0 0))
  cases hs : sz (n : Int) with
  | false =>
    have HS := hide hs; clear hs
    go_enter Tryd.func29, Tryd.ntmps29
    go_wp2_with fail
    refine (isSize_is _ _ false HS).mono ?_
    rintro e w' ⟨rfl, rfl⟩
    go_wp2_with fail
    exact bodyPost_ret (v := .tuple #[.agg #[.slice none 0 0, .slice none 0 0], .int .i64 2]) (by simp [results, Tryd.results29, go_sem]) rfl ⟨rfl, by first | exact unhide HB0 | exact unhide HB1⟩
  | true =>
    have HS := hide hs
    have HA := hide (show ars x xs = false from by
      have := HP.out
      unfold picB at this
      rw [hl.out, hs] at this
      simpa using this)
    clear hs
    go_enter Tryd.func29, Tryd.ntmps29
    go_wp2_with fail
    refine (isSize_is _ _ true HS).mono ?_
    rintro e w' ⟨rfl, rfl⟩
    go_wp2_with fail
    refine (areSets_any _ _ _ _ _ _ _ (unhide hi0)).mono ?_
    rintro e w' ⟨rfl, rfl⟩
    rw [HA.out]
    go_wp2_with fail
    exact bodyPost_ret (v := .tuple #[.agg #[.slice none 0 0, .slice none 0 0], .int .i64 2]) (by simp [results, Tryd.results29, go_sem]) rfl ⟨rfl, by first | exact unhide HB0 | exact unhide HB1⟩

set_option maxHeartbeats 400000 in
theorem RPicture_any (x : Int) (A : Option Addr) (n c : Nat) (xs : List Int) (w : World) (B : Nat) (h : Ints w B A n c xs) (b : Bool) (hb : Hid (picB x xs = b)) :
    Calls Tryd.prog 30 #[.int .i64 x, .slice A n c] w fun e w' => e = .returned (.bool b) ∧ w = w' := by
  have hm := h.most; have hcap := h.cap
  have hl := hide h.len
  go_enter Tryd.func30, Tryd.ntmps30
  go_wp2_with fail
  go_loop [6, 9] (fun _ i => ∃ k : Nat, k ≤ n ∧ i = .int .i64 k ∧ Hid (ArTo x xs k)) (fun _ i => n - (intOf i).toNat)
  case atStart => exact ⟨0, Nat.zero_le _, rfl, hide (fun j hj => absurd hj (by omega))⟩
  case round =>
    obtain ⟨k, hk, rfl, HA⟩ := hrel
    by_cases hlt : k < n
    · obtain ⟨bb, off, rfl, hb0, hc⟩ := h.at_ k hlt
      cases hs : setB x (nth xs k) with
      | true =>
        have HS := hide hs; clear hs
        go_wp2_with fail
        refine (RSet_is _ _ _ _ HS).mono ?_
        rintro e w' ⟨rfl, rfl⟩
        go_wp2_with fail
        go_round
        case rel => exact ⟨k + 1, by omega, by go_num, hide (HA.out.succ HS.out)⟩
        case measure => simp [intOf]; omega
      | false =>
        have HS := hide hs; clear hs
        have HF := hide (show b = false from by
          rw [← hb.out]; unfold picB ars; rw [not_all (by rw [hl.out]; exact hlt) HS.out]; simp)
        go_wp2_with fail
        refine (RSet_is _ _ _ _ HS).mono ?_
        rintro e w' ⟨rfl, rfl⟩
        go_wp2_with fail
        go_ret
        exact ⟨ret_bool HF.out.symm, rfl⟩
    · obtain rfl : k = n := by omega
      have HN := hide (show b = (sz (k : Int) && sz x) from by
        rw [← hb.out]; unfold picB ars
        rw [hl.out, all_nth (f := setB x) (by rw [hl.out]; exact HA.out)]; simp)
      cases hx : sz x with
      | false =>
        have HX := hide hx; clear hx
        go_wp2_with fail
        refine (RSize_is _ _ _ HX).mono ?_
        rintro e w' ⟨rfl, rfl⟩
        go_wp2_with fail
        go_ret
        exact ⟨ret_bool (by rw [HN.out, HX.out]; simp), rfl⟩
      | true =>
        have HX := hide hx; clear hx
        go_wp2_with fail
        refine (RSize_is _ _ _ HX).mono ?_
        rintro e w' ⟨rfl, rfl⟩
        go_wp2_with fail
        refine (RSize_any _ _).mono ?_
        rintro e w' ⟨rfl, rfl⟩
        go_wp2_with fail
        go_ret
        exact ⟨ret_bool (by rw [HN.out, HX.out]; simp), rfl⟩

set_option maxHeartbeats 400000 in
theorem own_any (A : Option Addr) (n c : Nat) (A' : Option Addr) (n' c' : Nat) (w : World) :
    Calls Tryd.prog 32 #[.agg #[.slice A n c, .slice A' n' c']] w fun e w' => e = .returned (.agg #[.slice A n c, .slice A' n' c']) ∧ Below w.heap.size w w' := by
  obtain ⟨W0, hW0⟩ : ∃ W0 : World, W0 = (w.alloc (.cells #[.slice A n c, .slice A' n' c'] 40)).alloc (.cells #[.slice none 0 0, .slice none 0 0] 44) := ⟨_, rfl⟩
  have HB0 := hide (show Below w.heap.size w W0 from by rw [hW0]; exact ((Below.refl _ w).alloc (Nat.le_refl _) _).alloc (by simp) _)
  have K1 : Blk W0 w.heap.size 40 #[.slice A n c, .slice A' n' c'] := by rw [hW0]; exact (Blk.new w _ _).alloc _
  have K2 : Blk W0 (w.heap.size + 1) 44 #[.slice none 0 0, .slice none 0 0] := by
    rw [hW0]
    have := Blk.new (w.alloc (.cells #[.slice A n c, .slice A' n' c'] 40)) 44 #[.slice none 0 0, .slice none 0 0]
    rwa [alloc_sz] at this
  obtain ⟨p0, p1, p2, p3⟩ := cell_two K1
  obtain ⟨q0, q1, q2, q3⟩ := cell_two K2
  have hz := put2 K2 (.slice A n c) (.slice A' n' c')
  obtain ⟨z1, z2⟩ := two_at hz
  have HB1 := hide (below_put2 (unhide HB0) (show w.heap.size ≤ w.heap.size + 1 by omega) (.slice A n c) (.slice A' n' c'))
  clear K1 K2 hz
  go_enter Tryd.func32, Tryd.ntmps32
  go_upto_region 1 with fail
  rw [← hW0]
  clear hW0
  go_wp2_with fail
  exact bodyPost_ret (v := .agg #[.slice A n c, .slice A' n' c']) (by simp [results, Tryd.results32, go_sem, z1, z2]) rfl ⟨rfl, unhide HB1⟩

set_option maxRecDepth 100000 in
set_option maxHeartbeats 1000000 in
theorem Same_yes (A1 A2 B1 B2 : Option Addr) (n1 n2 c1 c2 d1 d2 : Nat) (R C : List (List Int)) (w : World) (r1 : Rows_ w w.heap.size A1 n1 c1 R) (r2 : Rows_ w w.heap.size A2 n2 c2 C) (s1 : Rows_ w w.heap.size B1 n1 d1 R) (s2 : Rows_ w w.heap.size B2 n2 d2 C) :
    Calls Tryd.prog 31 #[.agg #[.slice A1 n1 c1, .slice A2 n2 c2], .agg #[.slice B1 n1 d1, .slice B2 n2 d2]] w fun e w' => e = .returned (.bool true) ∧ Below w.heap.size w w' := by
  have m1 := r1.most; have m2 := r2.most; have m3 := s1.most; have m4 := s2.most
  have k1 := r1.cap; have k2 := r2.cap; have k3 := s1.cap; have k4 := s2.cap
  obtain ⟨W0, hW0⟩ : ∃ W0 : World, W0 = (w.alloc (.cells #[.slice A1 n1 c1, .slice A2 n2 c2] 44)).alloc (.cells #[.slice B1 n1 d1, .slice B2 n2 d2] 44) := ⟨_, rfl⟩
  have HB0 := hide (show Below w.heap.size w W0 from by rw [hW0]; exact ((Below.refl _ w).alloc (Nat.le_refl _) _).alloc (by simp) _)
  have K1 : Blk W0 w.heap.size 44 #[.slice A1 n1 c1, .slice A2 n2 c2] := by rw [hW0]; exact (Blk.new w _ _).alloc _
  have K2 : Blk W0 (w.heap.size + 1) 44 #[.slice B1 n1 d1, .slice B2 n2 d2] := by
    rw [hW0]
    have := Blk.new (w.alloc (.cells #[.slice A1 n1 c1, .slice A2 n2 c2] 44)) 44 #[.slice B1 n1 d1, .slice B2 n2 d2]
    rwa [alloc_sz] at this
  obtain ⟨p0, p1, _, _⟩ := cell_two K1
  obtain ⟨q0, q1, _, _⟩ := cell_two K2
  have R1 := hide (r1.below (unhide HB0)); have R2 := hide (r2.below (unhide HB0)); have S1 := hide (s1.below (unhide HB0)); have S2 := hide (s2.below (unhide HB0))
  clear K1 K2 r1 r2 s1 s2
  go_enter Tryd.func31, Tryd.ntmps31
  go_upto_region 1 with fail
  rw [← hW0]
  clear hW0
  go_wp2_with fail
  go_loop [5, 6, 28] (fun _ _ i => ∃ k : Nat, k ≤ n1 ∧ i = .int .i64 (k : Nat)) (fun _ _ i => n1 - (intOf i).toNat)
  case atStart => exact ⟨0, Nat.zero_le _, rfl⟩
  case round =>
    obtain ⟨k, hk, rfl⟩ := hrel
    by_cases hlt : k < n1
    · obtain ⟨b, off, A', n', c', rfl, hb, hc, hi⟩ := R1.out.at_ k hlt
      obtain ⟨b2, off2, B', m', d', rfl, hb2, hc2, hi2⟩ := S1.out.at_ k hlt
      have HI := hide hi; have HI2 := hide hi2
      clear hi hi2
      go_wp2_with fail
      refine (same_b _ _ _ _ _ _ _ _ _ _ _ (unhide HI) (unhide HI2) true (hide (by simp))).mono ?_
      rintro e w' ⟨rfl, rfl⟩
      go_wp2_with fail
      go_round
      case rel => exact ⟨k + 1, by omega, by go_num⟩
      case measure => simp [intOf]; omega
    · go_wp2_with fail
      go_loop [7, 8, 45] (fun _ _ i => ∃ k : Nat, k ≤ n2 ∧ i = .int .i64 (k : Nat)) (fun _ _ i => n2 - (intOf i).toNat)
      case atStart => exact ⟨0, Nat.zero_le _, rfl⟩
      case round =>
        obtain ⟨k, hk, rfl⟩ := hrel
        by_cases hlt : k < n2
        · obtain ⟨b, off, A', n', c', rfl, hb, hc, hi⟩ := R2.out.at_ k hlt
          obtain ⟨b2, off2, B', m', d', rfl, hb2, hc2, hi2⟩ := S2.out.at_ k hlt
          have HI := hide hi; have HI2 := hide hi2
          clear hi hi2
          go_wp2_with fail
          refine (same_b _ _ _ _ _ _ _ _ _ _ _ (unhide HI) (unhide HI2) true (hide (by simp))).mono ?_
          rintro e w' ⟨rfl, rfl⟩
          go_wp2_with fail
          go_round
          case rel => exact ⟨k + 1, by omega, by go_num⟩
          case measure => simp [intOf]; omega
        · go_wp2_with fail
          go_ret
          exact ⟨rfl, unhide HB0⟩
end Go.Proofs.YtjhicbiacnkpaaaDoor
