/-
  The law PairsWhen.
-/
import Derived.Test.YtmgoonoifgcmnaaN1
import Derived.Test.YtmgoonoifgcmnaaW5
import Derived.Test.YtmgoonoifgcmnaaX4
namespace Go.Proofs.Ytmgoonoifgcmnaa
open Go.RowKit

theorem Owned.toI {w : World} {base : Nat} {v : Value} {xs : List Int} (h : Owned w base v xs) {n : Nat} (hn : xs.length = n) : ∃ A c, v = .slice A n c ∧ Ints w w.heap.size A n c xs := by
  subst hn; exact h.ints
set_option maxHeartbeats 2000000 in
theorem LWhen_1_1 (x y : Int) (ha : (IntKind.u64.wrap x).tmod 8 = 0) (hb : (IntKind.u64.wrap y).tmod 2 = 0) (w : World) :
    Calls Try.prog 10 #[.int .i64 x, .int .i64 y] w fun e w' => e = .returned (.bool true) ∧ Below w.heap.size w w' := by
  obtain ⟨rest, hr⟩ := head_1_1
  have HR := hide hr; clear hr
  have HB := hide (Below.refl w.heap.size w)
  go_enter Try.func10, Try.ntmps10
  go_wp2_with fail
  refine (First_ok 1 1 (by omega) (by omega) [1, 1] rest HR (by simp) _).mono ?_
  rintro e w1 ⟨A1, n1, c1, rfl, i1, b1⟩
  replace i1 := hide i1
  replace HB := hide ((unhide HB).trans (b1.mono (unhide HB).size))
  clear b1
  have hn1 := (unhide i1).len
  simp only [List.length_cons, List.length_nil] at hn1
  subst hn1
  go_wp2_with fail
  refine (Count_ok 1 1 (by omega) (by omega) _).mono ?_
  rintro e w2 ⟨rfl, b2⟩
  replace i1 := hide ((unhide i1).on b2)
  replace HB := hide ((unhide HB).trans (b2.mono (unhide HB).size))
  clear b2
  rw [cnt_1_1]
  go_wp2_with fail
  refine (clone_any _ _ _ _ _ _ (unhide i1) (by omega) (Nat.le_refl _)).mono ?_
  rintro e w3 ⟨v2, rfl, o2, b3⟩
  replace i1 := hide ((unhide i1).on b3)
  replace o2 := hide o2
  replace HB := hide ((unhide HB).trans (b3.mono (unhide HB).size))
  clear b3
  obtain ⟨A2, c2, rfl, i2⟩ := o2.out.ints
  go_wp2_with fail
  refine (IsRow_ok 1 _ _ _ _ _ _ i2 (by simp) (hide rfl) true (hide isr_1_1)).mono ?_
  rintro e wq ⟨rfl, rfl⟩
  go_wp2_with fail
  refine (awake_any _).mono ?_
  rintro e w4 ⟨rfl, b4⟩
  replace i1 := hide ((unhide i1).on b4)
  replace HB := hide ((unhide HB).trans (b4.mono (unhide HB).size))
  clear b4
  go_wp2_with fail
  go_ret
  exact ⟨rfl, unhide HB⟩

set_option maxHeartbeats 2000000 in
theorem LWhen_1_2 (x y : Int) (ha : (IntKind.u64.wrap x).tmod 8 = 0) (hb : (IntKind.u64.wrap y).tmod 2 = 1) (w : World) :
    Calls Try.prog 10 #[.int .i64 x, .int .i64 y] w fun e w' => e = .returned (.bool true) ∧ Below w.heap.size w w' := by
  have HB := hide (Below.refl w.heap.size w)
  go_enter Try.func10, Try.ntmps10
  go_wp2_with fail
  refine (First_none 1 2 (by omega) (by omega) (hide none_1_2) _).mono ?_
  rintro e w1 ⟨rfl, b1⟩
  replace HB := hide ((unhide HB).trans (b1.mono (unhide HB).size))
  clear b1
  go_wp2_with fail
  refine (Count_ok 1 2 (by omega) (by omega) _).mono ?_
  rintro e w2 ⟨rfl, b2⟩
  replace HB := hide ((unhide HB).trans (b2.mono (unhide HB).size))
  clear b2
  rw [cnt_1_2]
  go_wp2_with fail
  refine (awake_any _).mono ?_
  rintro e w3 ⟨rfl, b3⟩
  replace HB := hide ((unhide HB).trans (b3.mono (unhide HB).size))
  clear b3
  go_wp2_with fail
  go_ret
  exact ⟨rfl, unhide HB⟩

set_option maxHeartbeats 2000000 in
theorem LWhen_2_1 (x y : Int) (ha : (IntKind.u64.wrap x).tmod 8 = 1) (hb : (IntKind.u64.wrap y).tmod 2 = 0) (w : World) :
    Calls Try.prog 10 #[.int .i64 x, .int .i64 y] w fun e w' => e = .returned (.bool true) ∧ Below w.heap.size w w' := by
  have HB := hide (Below.refl w.heap.size w)
  go_enter Try.func10, Try.ntmps10
  go_wp2_with fail
  refine (First_none 2 1 (by omega) (by omega) (hide none_2_1) _).mono ?_
  rintro e w1 ⟨rfl, b1⟩
  replace HB := hide ((unhide HB).trans (b1.mono (unhide HB).size))
  clear b1
  go_wp2_with fail
  refine (Count_ok 2 1 (by omega) (by omega) _).mono ?_
  rintro e w2 ⟨rfl, b2⟩
  replace HB := hide ((unhide HB).trans (b2.mono (unhide HB).size))
  clear b2
  rw [cnt_2_1]
  go_wp2_with fail
  refine (awake_any _).mono ?_
  rintro e w3 ⟨rfl, b3⟩
  replace HB := hide ((unhide HB).trans (b3.mono (unhide HB).size))
  clear b3
  go_wp2_with fail
  go_ret
  exact ⟨rfl, unhide HB⟩

set_option maxHeartbeats 2000000 in
theorem LWhen_2_2 (x y : Int) (ha : (IntKind.u64.wrap x).tmod 8 = 1) (hb : (IntKind.u64.wrap y).tmod 2 = 1) (w : World) :
    Calls Try.prog 10 #[.int .i64 x, .int .i64 y] w fun e w' => e = .returned (.bool true) ∧ Below w.heap.size w w' := by
  have HB := hide (Below.refl w.heap.size w)
  go_enter Try.func10, Try.ntmps10
  go_wp2_with fail
  refine (First_none 2 2 (by omega) (by omega) (hide none_2_2) _).mono ?_
  rintro e w1 ⟨rfl, b1⟩
  replace HB := hide ((unhide HB).trans (b1.mono (unhide HB).size))
  clear b1
  go_wp2_with fail
  refine (Count_ok 2 2 (by omega) (by omega) _).mono ?_
  rintro e w2 ⟨rfl, b2⟩
  replace HB := hide ((unhide HB).trans (b2.mono (unhide HB).size))
  clear b2
  rw [cnt_2_2]
  go_wp2_with fail
  refine (awake_any _).mono ?_
  rintro e w3 ⟨rfl, b3⟩
  replace HB := hide ((unhide HB).trans (b3.mono (unhide HB).size))
  clear b3
  go_wp2_with fail
  go_ret
  exact ⟨rfl, unhide HB⟩

set_option maxHeartbeats 2000000 in
theorem LWhen_3_1 (x y : Int) (ha : (IntKind.u64.wrap x).tmod 8 = 2) (hb : (IntKind.u64.wrap y).tmod 2 = 0) (w : World) :
    Calls Try.prog 10 #[.int .i64 x, .int .i64 y] w fun e w' => e = .returned (.bool true) ∧ Below w.heap.size w w' := by
  have HB := hide (Below.refl w.heap.size w)
  go_enter Try.func10, Try.ntmps10
  go_wp2_with fail
  refine (First_none 3 1 (by omega) (by omega) (hide none_3_1) _).mono ?_
  rintro e w1 ⟨rfl, b1⟩
  replace HB := hide ((unhide HB).trans (b1.mono (unhide HB).size))
  clear b1
  go_wp2_with fail
  refine (Count_ok 3 1 (by omega) (by omega) _).mono ?_
  rintro e w2 ⟨rfl, b2⟩
  replace HB := hide ((unhide HB).trans (b2.mono (unhide HB).size))
  clear b2
  rw [cnt_3_1]
  go_wp2_with fail
  refine (awake_any _).mono ?_
  rintro e w3 ⟨rfl, b3⟩
  replace HB := hide ((unhide HB).trans (b3.mono (unhide HB).size))
  clear b3
  go_wp2_with fail
  go_ret
  exact ⟨rfl, unhide HB⟩

set_option maxHeartbeats 2000000 in
theorem LWhen_3_2 (x y : Int) (ha : (IntKind.u64.wrap x).tmod 8 = 2) (hb : (IntKind.u64.wrap y).tmod 2 = 1) (w : World) :
    Calls Try.prog 10 #[.int .i64 x, .int .i64 y] w fun e w' => e = .returned (.bool true) ∧ Below w.heap.size w w' := by
  obtain ⟨rest, hr⟩ := head_3_2
  have HR := hide hr; clear hr
  have HB := hide (Below.refl w.heap.size w)
  go_enter Try.func10, Try.ntmps10
  go_wp2_with fail
  refine (First_ok 3 2 (by omega) (by omega) [2, 3, 1, 2, 1, 3] rest HR (by simp) _).mono ?_
  rintro e w1 ⟨A1, n1, c1, rfl, i1, b1⟩
  replace i1 := hide i1
  replace HB := hide ((unhide HB).trans (b1.mono (unhide HB).size))
  clear b1
  have hn1 := (unhide i1).len
  simp only [List.length_cons, List.length_nil] at hn1
  subst hn1
  go_wp2_with fail
  refine (Count_ok 3 2 (by omega) (by omega) _).mono ?_
  rintro e w2 ⟨rfl, b2⟩
  replace i1 := hide ((unhide i1).on b2)
  replace HB := hide ((unhide HB).trans (b2.mono (unhide HB).size))
  clear b2
  rw [cnt_3_2]
  go_wp2_with fail
  refine (clone_any _ _ _ _ _ _ (unhide i1) (by omega) (Nat.le_refl _)).mono ?_
  rintro e w3 ⟨v2, rfl, o2, b3⟩
  replace i1 := hide ((unhide i1).on b3)
  replace o2 := hide o2
  replace HB := hide ((unhide HB).trans (b3.mono (unhide HB).size))
  clear b3
  obtain ⟨A2, c2, rfl, i2⟩ := o2.out.ints
  go_wp2_with fail
  refine (IsRow_ok 2 _ _ _ _ _ _ i2 (by simp) (hide rfl) true (hide isr_3_2)).mono ?_
  rintro e wq ⟨rfl, rfl⟩
  go_wp2_with fail
  refine (awake_any _).mono ?_
  rintro e w4 ⟨rfl, b4⟩
  replace i1 := hide ((unhide i1).on b4)
  replace HB := hide ((unhide HB).trans (b4.mono (unhide HB).size))
  clear b4
  go_wp2_with fail
  go_ret
  exact ⟨rfl, unhide HB⟩

set_option maxHeartbeats 2000000 in
theorem LWhen_4_1 (x y : Int) (ha : (IntKind.u64.wrap x).tmod 8 = 3) (hb : (IntKind.u64.wrap y).tmod 2 = 0) (w : World) :
    Calls Try.prog 10 #[.int .i64 x, .int .i64 y] w fun e w' => e = .returned (.bool true) ∧ Below w.heap.size w w' := by
  obtain ⟨rest, hr⟩ := head_4_1
  have HR := hide hr; clear hr
  have HB := hide (Below.refl w.heap.size w)
  go_enter Try.func10, Try.ntmps10
  go_wp2_with fail
  refine (First_ok 4 1 (by omega) (by omega) [1, 1, 3, 4, 2, 3, 2, 4] rest HR (by simp) _).mono ?_
  rintro e w1 ⟨A1, n1, c1, rfl, i1, b1⟩
  replace i1 := hide i1
  replace HB := hide ((unhide HB).trans (b1.mono (unhide HB).size))
  clear b1
  have hn1 := (unhide i1).len
  simp only [List.length_cons, List.length_nil] at hn1
  subst hn1
  go_wp2_with fail
  refine (Count_ok 4 1 (by omega) (by omega) _).mono ?_
  rintro e w2 ⟨rfl, b2⟩
  replace i1 := hide ((unhide i1).on b2)
  replace HB := hide ((unhide HB).trans (b2.mono (unhide HB).size))
  clear b2
  rw [cnt_4_1]
  go_wp2_with fail
  refine (clone_any _ _ _ _ _ _ (unhide i1) (by omega) (Nat.le_refl _)).mono ?_
  rintro e w3 ⟨v2, rfl, o2, b3⟩
  replace i1 := hide ((unhide i1).on b3)
  replace o2 := hide o2
  replace HB := hide ((unhide HB).trans (b3.mono (unhide HB).size))
  clear b3
  obtain ⟨A2, c2, rfl, i2⟩ := o2.out.ints
  go_wp2_with fail
  refine (IsRow_ok 1 _ _ _ _ _ _ i2 (by simp) (hide rfl) true (hide isr_4_1)).mono ?_
  rintro e wq ⟨rfl, rfl⟩
  go_wp2_with fail
  refine (awake_any _).mono ?_
  rintro e w4 ⟨rfl, b4⟩
  replace i1 := hide ((unhide i1).on b4)
  replace HB := hide ((unhide HB).trans (b4.mono (unhide HB).size))
  clear b4
  go_wp2_with fail
  go_ret
  exact ⟨rfl, unhide HB⟩

set_option maxHeartbeats 2000000 in
theorem LWhen_4_2 (x y : Int) (ha : (IntKind.u64.wrap x).tmod 8 = 3) (hb : (IntKind.u64.wrap y).tmod 2 = 1) (w : World) :
    Calls Try.prog 10 #[.int .i64 x, .int .i64 y] w fun e w' => e = .returned (.bool true) ∧ Below w.heap.size w w' := by
  obtain ⟨rest, hr⟩ := head_4_2
  have HR := hide hr; clear hr
  have HB := hide (Below.refl w.heap.size w)
  go_enter Try.func10, Try.ntmps10
  go_wp2_with fail
  refine (First_ok 4 2 (by omega) (by omega) [2, 3, 4, 2, 1, 3, 1, 4] rest HR (by simp) _).mono ?_
  rintro e w1 ⟨A1, n1, c1, rfl, i1, b1⟩
  replace i1 := hide i1
  replace HB := hide ((unhide HB).trans (b1.mono (unhide HB).size))
  clear b1
  have hn1 := (unhide i1).len
  simp only [List.length_cons, List.length_nil] at hn1
  subst hn1
  go_wp2_with fail
  refine (Count_ok 4 2 (by omega) (by omega) _).mono ?_
  rintro e w2 ⟨rfl, b2⟩
  replace i1 := hide ((unhide i1).on b2)
  replace HB := hide ((unhide HB).trans (b2.mono (unhide HB).size))
  clear b2
  rw [cnt_4_2]
  go_wp2_with fail
  refine (clone_any _ _ _ _ _ _ (unhide i1) (by omega) (Nat.le_refl _)).mono ?_
  rintro e w3 ⟨v2, rfl, o2, b3⟩
  replace i1 := hide ((unhide i1).on b3)
  replace o2 := hide o2
  replace HB := hide ((unhide HB).trans (b3.mono (unhide HB).size))
  clear b3
  obtain ⟨A2, c2, rfl, i2⟩ := o2.out.ints
  go_wp2_with fail
  refine (IsRow_ok 2 _ _ _ _ _ _ i2 (by simp) (hide rfl) true (hide isr_4_2)).mono ?_
  rintro e wq ⟨rfl, rfl⟩
  go_wp2_with fail
  refine (awake_any _).mono ?_
  rintro e w4 ⟨rfl, b4⟩
  replace i1 := hide ((unhide i1).on b4)
  replace HB := hide ((unhide HB).trans (b4.mono (unhide HB).size))
  clear b4
  go_wp2_with fail
  go_ret
  exact ⟨rfl, unhide HB⟩

set_option maxHeartbeats 2000000 in
theorem LWhen_5_1 (x y : Int) (ha : (IntKind.u64.wrap x).tmod 8 = 4) (hb : (IntKind.u64.wrap y).tmod 2 = 0) (w : World) :
    Calls Try.prog 10 #[.int .i64 x, .int .i64 y] w fun e w' => e = .returned (.bool true) ∧ Below w.heap.size w w' := by
  obtain ⟨rest, hr⟩ := head_5_1
  have HR := hide hr; clear hr
  have HB := hide (Below.refl w.heap.size w)
  go_enter Try.func10, Try.ntmps10
  go_wp2_with fail
  refine (First_ok 5 1 (by omega) (by omega) [1, 1, 3, 4, 5, 3, 2, 4, 2, 5] rest HR (by simp) _).mono ?_
  rintro e w1 ⟨A1, n1, c1, rfl, i1, b1⟩
  replace i1 := hide i1
  replace HB := hide ((unhide HB).trans (b1.mono (unhide HB).size))
  clear b1
  have hn1 := (unhide i1).len
  simp only [List.length_cons, List.length_nil] at hn1
  subst hn1
  go_wp2_with fail
  refine (Count_ok 5 1 (by omega) (by omega) _).mono ?_
  rintro e w2 ⟨rfl, b2⟩
  replace i1 := hide ((unhide i1).on b2)
  replace HB := hide ((unhide HB).trans (b2.mono (unhide HB).size))
  clear b2
  rw [cnt_5_1]
  go_wp2_with fail
  refine (clone_any _ _ _ _ _ _ (unhide i1) (by omega) (Nat.le_refl _)).mono ?_
  rintro e w3 ⟨v2, rfl, o2, b3⟩
  replace i1 := hide ((unhide i1).on b3)
  replace o2 := hide o2
  replace HB := hide ((unhide HB).trans (b3.mono (unhide HB).size))
  clear b3
  obtain ⟨A2, c2, rfl, i2⟩ := o2.out.ints
  go_wp2_with fail
  refine (IsRow_ok 1 _ _ _ _ _ _ i2 (by simp) (hide rfl) true (hide isr_5_1)).mono ?_
  rintro e wq ⟨rfl, rfl⟩
  go_wp2_with fail
  refine (awake_any _).mono ?_
  rintro e w4 ⟨rfl, b4⟩
  replace i1 := hide ((unhide i1).on b4)
  replace HB := hide ((unhide HB).trans (b4.mono (unhide HB).size))
  clear b4
  go_wp2_with fail
  go_ret
  exact ⟨rfl, unhide HB⟩

set_option maxHeartbeats 2000000 in
theorem LWhen_5_2 (x y : Int) (ha : (IntKind.u64.wrap x).tmod 8 = 4) (hb : (IntKind.u64.wrap y).tmod 2 = 1) (w : World) :
    Calls Try.prog 10 #[.int .i64 x, .int .i64 y] w fun e w' => e = .returned (.bool true) ∧ Below w.heap.size w w' := by
  have HB := hide (Below.refl w.heap.size w)
  go_enter Try.func10, Try.ntmps10
  go_wp2_with fail
  refine (First_none 5 2 (by omega) (by omega) (hide none_5_2) _).mono ?_
  rintro e w1 ⟨rfl, b1⟩
  replace HB := hide ((unhide HB).trans (b1.mono (unhide HB).size))
  clear b1
  go_wp2_with fail
  refine (Count_ok 5 2 (by omega) (by omega) _).mono ?_
  rintro e w2 ⟨rfl, b2⟩
  replace HB := hide ((unhide HB).trans (b2.mono (unhide HB).size))
  clear b2
  rw [cnt_5_2]
  go_wp2_with fail
  refine (awake_any _).mono ?_
  rintro e w3 ⟨rfl, b3⟩
  replace HB := hide ((unhide HB).trans (b3.mono (unhide HB).size))
  clear b3
  go_wp2_with fail
  go_ret
  exact ⟨rfl, unhide HB⟩

set_option maxHeartbeats 2000000 in
theorem LWhen_6_1 (x y : Int) (ha : (IntKind.u64.wrap x).tmod 8 = 5) (hb : (IntKind.u64.wrap y).tmod 2 = 0) (w : World) :
    Calls Try.prog 10 #[.int .i64 x, .int .i64 y] w fun e w' => e = .returned (.bool true) ∧ Below w.heap.size w w' := by
  have HB := hide (Below.refl w.heap.size w)
  go_enter Try.func10, Try.ntmps10
  go_wp2_with fail
  refine (First_none 6 1 (by omega) (by omega) (hide none_6_1) _).mono ?_
  rintro e w1 ⟨rfl, b1⟩
  replace HB := hide ((unhide HB).trans (b1.mono (unhide HB).size))
  clear b1
  go_wp2_with fail
  refine (Count_ok 6 1 (by omega) (by omega) _).mono ?_
  rintro e w2 ⟨rfl, b2⟩
  replace HB := hide ((unhide HB).trans (b2.mono (unhide HB).size))
  clear b2
  rw [cnt_6_1]
  go_wp2_with fail
  refine (awake_any _).mono ?_
  rintro e w3 ⟨rfl, b3⟩
  replace HB := hide ((unhide HB).trans (b3.mono (unhide HB).size))
  clear b3
  go_wp2_with fail
  go_ret
  exact ⟨rfl, unhide HB⟩

set_option maxHeartbeats 2000000 in
theorem LWhen_6_2 (x y : Int) (ha : (IntKind.u64.wrap x).tmod 8 = 5) (hb : (IntKind.u64.wrap y).tmod 2 = 1) (w : World) :
    Calls Try.prog 10 #[.int .i64 x, .int .i64 y] w fun e w' => e = .returned (.bool true) ∧ Below w.heap.size w w' := by
  have HB := hide (Below.refl w.heap.size w)
  go_enter Try.func10, Try.ntmps10
  go_wp2_with fail
  refine (First_none 6 2 (by omega) (by omega) (hide none_6_2) _).mono ?_
  rintro e w1 ⟨rfl, b1⟩
  replace HB := hide ((unhide HB).trans (b1.mono (unhide HB).size))
  clear b1
  go_wp2_with fail
  refine (Count_ok 6 2 (by omega) (by omega) _).mono ?_
  rintro e w2 ⟨rfl, b2⟩
  replace HB := hide ((unhide HB).trans (b2.mono (unhide HB).size))
  clear b2
  rw [cnt_6_2]
  go_wp2_with fail
  refine (awake_any _).mono ?_
  rintro e w3 ⟨rfl, b3⟩
  replace HB := hide ((unhide HB).trans (b3.mono (unhide HB).size))
  clear b3
  go_wp2_with fail
  go_ret
  exact ⟨rfl, unhide HB⟩

set_option maxHeartbeats 2000000 in
theorem LWhen_7_1 (x y : Int) (ha : (IntKind.u64.wrap x).tmod 8 = 6) (hb : (IntKind.u64.wrap y).tmod 2 = 0) (w : World) :
    Calls Try.prog 10 #[.int .i64 x, .int .i64 y] w fun e w' => e = .returned (.bool true) ∧ Below w.heap.size w w' := by
  have HB := hide (Below.refl w.heap.size w)
  go_enter Try.func10, Try.ntmps10
  go_wp2_with fail
  refine (First_none 7 1 (by omega) (by omega) (hide none_7_1) _).mono ?_
  rintro e w1 ⟨rfl, b1⟩
  replace HB := hide ((unhide HB).trans (b1.mono (unhide HB).size))
  clear b1
  go_wp2_with fail
  refine (Count_ok 7 1 (by omega) (by omega) _).mono ?_
  rintro e w2 ⟨rfl, b2⟩
  replace HB := hide ((unhide HB).trans (b2.mono (unhide HB).size))
  clear b2
  rw [cnt_7_1]
  go_wp2_with fail
  refine (awake_any _).mono ?_
  rintro e w3 ⟨rfl, b3⟩
  replace HB := hide ((unhide HB).trans (b3.mono (unhide HB).size))
  clear b3
  go_wp2_with fail
  go_ret
  exact ⟨rfl, unhide HB⟩

set_option maxHeartbeats 2000000 in
theorem LWhen_7_2 (x y : Int) (ha : (IntKind.u64.wrap x).tmod 8 = 6) (hb : (IntKind.u64.wrap y).tmod 2 = 1) (w : World) :
    Calls Try.prog 10 #[.int .i64 x, .int .i64 y] w fun e w' => e = .returned (.bool true) ∧ Below w.heap.size w w' := by
  obtain ⟨rest, hr⟩ := head_7_2
  have HR := hide hr; clear hr
  have HB := hide (Below.refl w.heap.size w)
  go_enter Try.func10, Try.ntmps10
  go_wp2_with fail
  refine (First_ok 7 2 (by omega) (by omega) [1, 4, 1, 5, 6, 7, 4, 2, 3, 5, 2, 6, 3, 7] rest HR (by simp) _).mono ?_
  rintro e w1 ⟨A1, n1, c1, rfl, i1, b1⟩
  replace i1 := hide i1
  replace HB := hide ((unhide HB).trans (b1.mono (unhide HB).size))
  clear b1
  have hn1 := (unhide i1).len
  simp only [List.length_cons, List.length_nil] at hn1
  subst hn1
  go_wp2_with fail
  refine (Count_ok 7 2 (by omega) (by omega) _).mono ?_
  rintro e w2 ⟨rfl, b2⟩
  replace i1 := hide ((unhide i1).on b2)
  replace HB := hide ((unhide HB).trans (b2.mono (unhide HB).size))
  clear b2
  rw [cnt_7_2]
  go_wp2_with fail
  refine (clone_any _ _ _ _ _ _ (unhide i1) (by omega) (Nat.le_refl _)).mono ?_
  rintro e w3 ⟨v2, rfl, o2, b3⟩
  replace i1 := hide ((unhide i1).on b3)
  replace o2 := hide o2
  replace HB := hide ((unhide HB).trans (b3.mono (unhide HB).size))
  clear b3
  obtain ⟨A2, c2, rfl, i2⟩ := o2.out.ints
  go_wp2_with fail
  refine (IsRow_ok 2 _ _ _ _ _ _ i2 (by simp) (hide rfl) true (hide isr_7_2)).mono ?_
  rintro e wq ⟨rfl, rfl⟩
  go_wp2_with fail
  refine (awake_any _).mono ?_
  rintro e w4 ⟨rfl, b4⟩
  replace i1 := hide ((unhide i1).on b4)
  replace HB := hide ((unhide HB).trans (b4.mono (unhide HB).size))
  clear b4
  go_wp2_with fail
  go_ret
  exact ⟨rfl, unhide HB⟩

set_option maxHeartbeats 2000000 in
theorem LWhen_8_1 (x y : Int) (ha : (IntKind.u64.wrap x).tmod 8 = 7) (hb : (IntKind.u64.wrap y).tmod 2 = 0) (w : World) :
    Calls Try.prog 10 #[.int .i64 x, .int .i64 y] w fun e w' => e = .returned (.bool true) ∧ Below w.heap.size w w' := by
  obtain ⟨rest, hr⟩ := head_8_1
  have HR := hide hr; clear hr
  have HB := hide (Below.refl w.heap.size w)
  go_enter Try.func10, Try.ntmps10
  go_wp2_with fail
  refine (First_ok 8 1 (by omega) (by omega) [1, 1, 2, 5, 2, 6, 7, 8, 5, 3, 4, 6, 3, 7, 4, 8] rest HR (by simp) _).mono ?_
  rintro e w1 ⟨A1, n1, c1, rfl, i1, b1⟩
  replace i1 := hide i1
  replace HB := hide ((unhide HB).trans (b1.mono (unhide HB).size))
  clear b1
  have hn1 := (unhide i1).len
  simp only [List.length_cons, List.length_nil] at hn1
  subst hn1
  go_wp2_with fail
  refine (Count_ok 8 1 (by omega) (by omega) _).mono ?_
  rintro e w2 ⟨rfl, b2⟩
  replace i1 := hide ((unhide i1).on b2)
  replace HB := hide ((unhide HB).trans (b2.mono (unhide HB).size))
  clear b2
  rw [cnt_8_1]
  go_wp2_with fail
  refine (clone_any _ _ _ _ _ _ (unhide i1) (by omega) (Nat.le_refl _)).mono ?_
  rintro e w3 ⟨v2, rfl, o2, b3⟩
  replace i1 := hide ((unhide i1).on b3)
  replace o2 := hide o2
  replace HB := hide ((unhide HB).trans (b3.mono (unhide HB).size))
  clear b3
  obtain ⟨A2, c2, rfl, i2⟩ := o2.out.ints
  go_wp2_with fail
  refine (IsRow_ok 1 _ _ _ _ _ _ i2 (by simp) (hide rfl) true (hide isr_8_1)).mono ?_
  rintro e wq ⟨rfl, rfl⟩
  go_wp2_with fail
  refine (awake_any _).mono ?_
  rintro e w4 ⟨rfl, b4⟩
  replace i1 := hide ((unhide i1).on b4)
  replace HB := hide ((unhide HB).trans (b4.mono (unhide HB).size))
  clear b4
  go_wp2_with fail
  go_ret
  exact ⟨rfl, unhide HB⟩

set_option maxHeartbeats 2000000 in
theorem LWhen_8_2 (x y : Int) (ha : (IntKind.u64.wrap x).tmod 8 = 7) (hb : (IntKind.u64.wrap y).tmod 2 = 1) (w : World) :
    Calls Try.prog 10 #[.int .i64 x, .int .i64 y] w fun e w' => e = .returned (.bool true) ∧ Below w.heap.size w w' := by
  obtain ⟨rest, hr⟩ := head_8_2
  have HR := hide hr; clear hr
  have HB := hide (Below.refl w.heap.size w)
  go_enter Try.func10, Try.ntmps10
  go_wp2_with fail
  refine (First_ok 8 2 (by omega) (by omega) [1, 3, 1, 6, 7, 3, 8, 5, 2, 4, 6, 2, 7, 5, 4, 8] rest HR (by simp) _).mono ?_
  rintro e w1 ⟨A1, n1, c1, rfl, i1, b1⟩
  replace i1 := hide i1
  replace HB := hide ((unhide HB).trans (b1.mono (unhide HB).size))
  clear b1
  have hn1 := (unhide i1).len
  simp only [List.length_cons, List.length_nil] at hn1
  subst hn1
  go_wp2_with fail
  refine (Count_ok 8 2 (by omega) (by omega) _).mono ?_
  rintro e w2 ⟨rfl, b2⟩
  replace i1 := hide ((unhide i1).on b2)
  replace HB := hide ((unhide HB).trans (b2.mono (unhide HB).size))
  clear b2
  rw [cnt_8_2]
  go_wp2_with fail
  refine (clone_any _ _ _ _ _ _ (unhide i1) (by omega) (Nat.le_refl _)).mono ?_
  rintro e w3 ⟨v2, rfl, o2, b3⟩
  replace i1 := hide ((unhide i1).on b3)
  replace o2 := hide o2
  replace HB := hide ((unhide HB).trans (b3.mono (unhide HB).size))
  clear b3
  obtain ⟨A2, c2, rfl, i2⟩ := o2.out.ints
  go_wp2_with fail
  refine (IsRow_ok 2 _ _ _ _ _ _ i2 (by simp) (hide rfl) true (hide isr_8_2)).mono ?_
  rintro e wq ⟨rfl, rfl⟩
  go_wp2_with fail
  refine (awake_any _).mono ?_
  rintro e w4 ⟨rfl, b4⟩
  replace i1 := hide ((unhide i1).on b4)
  replace HB := hide ((unhide HB).trans (b4.mono (unhide HB).size))
  clear b4
  go_wp2_with fail
  go_ret
  exact ⟨rfl, unhide HB⟩

theorem u64_mod (x : Int) (m : Nat) (hm : 0 < m) : ∃ a : Nat, a < m ∧ (IntKind.u64.wrap x).tmod (m : Int) = (a : Int) := by
  have h1 : 0 ≤ IntKind.u64.wrap x := by rw [IntKind.wrap_u64]; omega
  have h2 := Int.tmod_nonneg (m : Int) h1
  have h3 := Int.tmod_lt_of_pos (IntKind.u64.wrap x) (show (0 : Int) < (m : Int) by omega)
  exact ⟨((IntKind.u64.wrap x).tmod (m : Int)).toNat, by omega, by omega⟩
theorem LWhen_any (x y : Int) (w : World) : Calls Try.prog 10 #[.int .i64 x, .int .i64 y] w fun e w' => e = .returned (.bool true) ∧ Below w.heap.size w w' := by
  obtain ⟨a, ha, ea⟩ := u64_mod x 8 (by omega)
  obtain ⟨b, hb, eb⟩ := u64_mod y 2 (by omega)
  match a, ha, b, hb, ea, eb with
  | 0, _, 0, _, ea, eb => exact LWhen_1_1 x y ea eb w
  | 0, _, 1, _, ea, eb => exact LWhen_1_2 x y ea eb w
  | 1, _, 0, _, ea, eb => exact LWhen_2_1 x y ea eb w
  | 1, _, 1, _, ea, eb => exact LWhen_2_2 x y ea eb w
  | 2, _, 0, _, ea, eb => exact LWhen_3_1 x y ea eb w
  | 2, _, 1, _, ea, eb => exact LWhen_3_2 x y ea eb w
  | 3, _, 0, _, ea, eb => exact LWhen_4_1 x y ea eb w
  | 3, _, 1, _, ea, eb => exact LWhen_4_2 x y ea eb w
  | 4, _, 0, _, ea, eb => exact LWhen_5_1 x y ea eb w
  | 4, _, 1, _, ea, eb => exact LWhen_5_2 x y ea eb w
  | 5, _, 0, _, ea, eb => exact LWhen_6_1 x y ea eb w
  | 5, _, 1, _, ea, eb => exact LWhen_6_2 x y ea eb w
  | 6, _, 0, _, ea, eb => exact LWhen_7_1 x y ea eb w
  | 6, _, 1, _, ea, eb => exact LWhen_7_2 x y ea eb w
  | 7, _, 0, _, ea, eb => exact LWhen_8_1 x y ea eb w
  | 7, _, 1, _, ea, eb => exact LWhen_8_2 x y ea eb w
end Go.Proofs.Ytmgoonoifgcmnaa
