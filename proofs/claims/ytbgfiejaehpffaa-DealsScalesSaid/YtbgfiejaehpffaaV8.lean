/-
  Less of the program.
-/
import Derived.Test.YtbgfiejaehpffaaV5
import Derived.Test.YtbgfiejaehpffaaY4
namespace Go.Proofs.Ytbgfiejaehpffaa
open Go.RowKit

set_option maxRecDepth 100000 in
set_option maxHeartbeats 8000000 in
theorem Less_no1 (A : Option Addr) (n c : Nat) (fs : List F) (i : Int) (w : World) (h : Fs w w.heap.size A n c fs) (hb : Hid (offB fs = false)) :
    Calls Try.prog 33 #[.slice A n c, .int .i64 i] w fun e w' => e = .returned (.tuple #[.slice none 0 0, .int .i64 2]) ∧ Below w.heap.size w w' := by
  have hm := h.most; have hcap := h.cap
  have HL := hide h.len
  have HI := hide h
  have HC := hide (areOffers_any A n c fs w h false hb)
  clear h
  go_enter Try.func33, Try.ntmps33
  go_wp2_with fail
  refine (unhide HC).mono ?_
  rintro e w1 ⟨rfl, b1⟩
  have HB1 := hide b1
  clear b1
  go_wp2_with fail
  exact bodyPost_ret (v := .tuple #[.slice none 0 0, .int .i64 2]) (by simp [results, Try.results33, go_sem]) rfl ⟨rfl, unhide HB1⟩

set_option maxRecDepth 100000 in
set_option maxHeartbeats 8000000 in
theorem Less_no2 (A : Option Addr) (n c : Nat) (fs : List F) (i : Int) (w : World) (h : Fs w w.heap.size A n c fs) (hb : Hid (offB fs = true)) (hr : Hid (allIn 0 ((n : Int) - 1) [i] = false)) :
    Calls Try.prog 33 #[.slice A n c, .int .i64 i] w fun e w' => e = .returned (.tuple #[.slice none 0 0, .int .i64 2]) ∧ Below w.heap.size w w' := by
  have hm := h.most; have hcap := h.cap
  have hn1 : 1 ≤ n := by have := ((offB_iff fs).1 hb.out).pos; have := h.len; omega
  have HL := hide h.len
  have HI := hide h
  have HC := hide (areOffers_any A n c fs w h true hb)
  clear h
  go_enter Try.func33, Try.ntmps33
  go_wp2_with fail
  refine (unhide HC).mono ?_
  rintro e w1 ⟨rfl, b1⟩
  have HB1 := hide b1
  clear b1
  have HI1 := hide (ints_1 w1 i)
  have HB2 := hide ((unhide HB1).alloc (unhide HB1).size (.cells #[.int .i64 i] 3))
  go_wp2_with fail
  refine (within_any _ _ _ _ 0 ((n : Int) - 1) (w1.alloc (.cells #[.int .i64 i] 3)) _ (unhide HI1) (by simp) false hr).mono ?_
  rintro e w2 ⟨rfl, b2⟩
  have HB3 := hide ((unhide HB2).trans (b2.mono (unhide HB2).size))
  clear b2
  go_wp2_with fail
  exact bodyPost_ret (v := .tuple #[.slice none 0 0, .int .i64 2]) (by simp [results, Try.results33, go_sem]) rfl ⟨rfl, unhide HB3⟩

set_option maxRecDepth 100000 in
set_option maxHeartbeats 8000000 in
theorem Less_none (A : Option Addr) (n c : Nat) (fs : List F) (i : Int) (w : World) (h : Fs w w.heap.size A n c fs) (hb : Hid (offB fs = true)) (hr : Hid (allIn 0 ((n : Int) - 1) [i] = true)) (h1 : n = 1) :
    Calls Try.prog 33 #[.slice A n c, .int .i64 i] w fun e w' => e = .returned (.tuple #[.slice none 0 0, .int .i64 4]) ∧ Below w.heap.size w w' := by
  have hm := h.most; have hcap := h.cap
  have hn1 : 1 ≤ n := by omega
  have hnb : ((n : Int) == 1) = true := by simp; omega
  clear h1
  have HL := hide h.len
  have HI := hide h
  have HC := hide (areOffers_any A n c fs w h true hb)
  clear h
  go_enter Try.func33, Try.ntmps33
  go_wp2_with fail
  refine (unhide HC).mono ?_
  rintro e w1 ⟨rfl, b1⟩
  have HB1 := hide b1
  clear b1
  have HI1 := hide (ints_1 w1 i)
  have HB2 := hide ((unhide HB1).alloc (unhide HB1).size (.cells #[.int .i64 i] 3))
  go_wp2_with fail
  refine (within_any _ _ _ _ 0 ((n : Int) - 1) (w1.alloc (.cells #[.int .i64 i] 3)) _ (unhide HI1) (by simp) true hr).mono ?_
  rintro e w2 ⟨rfl, b2⟩
  have HB3 := hide ((unhide HB2).trans (b2.mono (unhide HB2).size))
  clear b2
  go_wp2_with fail
  exact bodyPost_ret (v := .tuple #[.slice none 0 0, .int .i64 4]) (by simp [results, Try.results33, go_sem]) rfl ⟨rfl, unhide HB3⟩

set_option maxRecDepth 100000 in
set_option maxHeartbeats 8000000 in
theorem Less_ok (A : Option Addr) (n c : Nat) (fs : List F) (i : Int) (w : World) (h : Fs w w.heap.size A n c fs) (hb : Hid (offB fs = true)) (m : Nat) (him : i = m) (hmn : m < n) (h1 : n ≠ 1) :
    Calls Try.prog 33 #[.slice A n c, .int .i64 i] w fun e w' => ∃ v, e = .returned (.tuple #[v, .int .i64 0]) ∧ OwnQ w' w.heap.size 30 v (fs.take m ++ fs.drop (m + 1)) ∧ Below w.heap.size w w' := by
  have hm := h.most; have hcap := h.cap
  subst him
  have hn1 : 1 ≤ n := by omega
  have hn8 : n ≤ 8 := by have := ((offB_iff fs).1 hb.out).most; have := h.len; omega
  have hnb : ((n : Int) == 1) = false := by simp; omega
  have hr := hide (show allIn 0 ((n : Int) - 1) [(m : Int)] = true from by rw [allIn_1]; simp; omega)
  clear h1
  have HL := hide h.len
  have HI := hide h
  have HC := hide (areOffers_any A n c fs w h true hb)
  clear h
  go_enter Try.func33, Try.ntmps33
  go_wp2_with fail
  refine (unhide HC).mono ?_
  rintro e w1 ⟨rfl, b1⟩
  have HB1 := hide b1
  clear b1
  have HI1 := hide (ints_1 w1 (m : Int))
  have HB2 := hide ((unhide HB1).alloc (unhide HB1).size (.cells #[.int .i64 (m : Int)] 3))
  go_wp2_with fail
  refine (within_any _ _ _ _ 0 ((n : Int) - 1) (w1.alloc (.cells #[.int .i64 (m : Int)] 3)) _ (unhide HI1) (by simp) true hr).mono ?_
  rintro e w2 ⟨rfl, b2⟩
  have HB3 := hide ((unhide HB2).trans (b2.mono (unhide HB2).size))
  clear b2
  go_wp2_with fail
  refine (clone_any A n c fs w2 (((unhide HI).below (unhide HB3)).more (unhide HB3).size) (by omega)).mono ?_
  rintro e w3 ⟨v3, rfl, ho3, b3⟩
  have HB4 := hide ((unhide HB3).trans (b3.mono (unhide HB3).size))
  obtain ⟨A3, n3, c3, rfl, hf3⟩ := ho3.to
  obtain rfl : n = n3 := by rw [← hf3.len, HL.out]
  have HO3 := hide (ho3.low (unhide HB3).size)
  have hw1 : IntKind.i64.wrap ((m : Int) + 1) = (m : Int) + 1 := wrap_in' (by omega)
  clear b3 ho3 hf3
  go_wp2_with fail
  refine (Delete_any A3 n c3 m fs w.heap.size w3 (unhide HO3) (by omega) hmn).mono ?_
  rintro e w4 ⟨v4, rfl, ho4, b4⟩
  have HO4 := hide ho4
  have HB5 := hide ((unhide HB4).trans b4)
  clear b4 ho4
  go_wp2_with fail
  exact bodyPost_ret (v := .tuple #[v4, .int .i64 0]) (by simp [results, Try.results33, go_sem]) rfl ⟨v4, rfl, unhide HO4, unhide HB5⟩

end Go.Proofs.Ytbgfiejaehpffaa
