import Derived.Test.YtmpdalcdkibgpaaM5
import Derived.Test.YtmpdalcdkibgpaaR2
namespace Go.Proofs.Ytmpdalcdkibgpaa
open Go.RowKit Go.Sort

theorem canG_no {xs : List Int} {f t m : Int} (h : f < 0 ∨ (xs.length : Int) ≤ f ∨ t < 0 ∨ (xs.length : Int) ≤ t) : canG xs (f, t, m) = false := by
  rw [Bool.eq_false_iff]; intro hc
  simp only [canG, Bool.and_eq_true, decide_eq_true_eq] at hc
  omega
theorem canG_val {xs : List Int} {f t : Nat} {m : Int} (hf : f < xs.length) (ht : t < xs.length) : canG xs ((f : Int), (t : Int), m) = (decide (1 ≤ m) && decide (m ≤ (nth xs f - nth xs t).tdiv 2)) := by
  simp [canG, hf, ht]

set_option maxHeartbeats 1600000 in
theorem isPossible_any (A : Option Addr) (n c : Nat) (xs : List Int) (f t m : Int) (w : World) (h : Ints w w.heap.size A n c xs) (hx : Hid (Small 20 xs)) (b : Bool) (hb : Hid (canG xs (f, t, m) = b)) :
    Calls Try.prog 67 #[.slice A n c, .agg #[.int .i64 f, .int .i64 t, .int .i64 m]] w fun e w' => e = .returned (.bool b) ∧ Below w.heap.size w w' := by
  have hm := h.most; have hcap := h.cap
  have hl := hide h.len
  have hno : ∀ q : Nat, Below w.heap.size w ((w.alloc (.cells #[.int .i64 f, .int .i64 t, .int .i64 m] 73)).drewN q) := fun q => Below.drewN' ((Below.refl _ _).alloc (Nat.le_refl _) _) q
  have hno0 : Below w.heap.size w (w.alloc (.cells #[.int .i64 f, .int .i64 t, .int .i64 m] 73)) := (Below.refl _ _).alloc (Nat.le_refl _) _
  have HNO := hide hno; have HNO0 := hide hno0; clear hno hno0
  by_cases h1 : f < 0
  · have hf := hide (canG_no (xs := xs) (m := m) (f := f) (t := t) (.inl h1))
    go_enter Try.func67, Try.ntmps67
    go_wp2_with fail
    go_ret
    exact ⟨ret_bool (by rw [← hb.out, hf.out]), unhide HNO0⟩
  by_cases h2 : (n : Int) ≤ f
  · have hf := hide (canG_no (xs := xs) (m := m) (f := f) (t := t) (.inr (.inl (by rw [hl.out]; exact h2))))
    go_enter Try.func67, Try.ntmps67
    go_wp2_with fail
    go_ret
    exact ⟨ret_bool (by rw [← hb.out, hf.out]), unhide HNO0⟩
  by_cases h3 : t < 0
  · have hf := hide (canG_no (xs := xs) (m := m) (f := f) (t := t) (.inr (.inr (.inl h3))))
    go_enter Try.func67, Try.ntmps67
    go_wp2_with fail
    go_ret
    exact ⟨ret_bool (by rw [← hb.out, hf.out]), unhide HNO0⟩
  by_cases h4 : (n : Int) ≤ t
  · have hf := hide (canG_no (xs := xs) (m := m) (f := f) (t := t) (.inr (.inr (.inr (by rw [hl.out]; exact h4)))))
    go_enter Try.func67, Try.ntmps67
    go_wp2_with fail
    go_ret
    exact ⟨ret_bool (by rw [← hb.out, hf.out]), unhide HNO0⟩
  obtain ⟨f, rfl⟩ : ∃ k : Nat, f = k := ⟨f.toNat, by omega⟩
  obtain ⟨t, rfl⟩ : ∃ k : Nat, t = k := ⟨t.toNat, by omega⟩
  have hval := hide (canG_val (xs := xs) (m := m) (f := f) (t := t) (by rw [hl.out]; omega) (by rw [hl.out]; omega))
  obtain ⟨b1, off, rfl, _, hc1⟩ := (h.alloc (Nat.le_refl _) (.cells #[.int .i64 (f : Int), .int .i64 (t : Int), .int .i64 m] 73)).at_ f (by omega)
  obtain ⟨b2, off2, e2, _, hc2⟩ := (h.alloc (Nat.le_refl _) (.cells #[.int .i64 (f : Int), .int .i64 (t : Int), .int .i64 m] 73)).at_ t (by omega)
  simp only [Option.some.injEq, Addr.mk.injEq, and_true] at e2
  obtain ⟨rfl, rfl⟩ := e2
  obtain ⟨x1, x2⟩ := (unhide hx) f; obtain ⟨y1, y2⟩ := (unhide hx) t
  have hft : f < n := by omega
  have htt : t < n := by omega
  by_cases h5 : 1 ≤ m
  · have hd : decide (1 ≤ m) = true := by simp [h5]
    go_enter Try.func67, Try.ntmps67
    go_wp2_with fail
    go_quiet (fail)
    go_wp2_with fail
    go_ret
    exact ⟨ret_bool (by rw [← hb.out, hval.out, hd, Bool.true_and]), (unhide HNO) _⟩
  · have hd : decide (1 ≤ m) = false := by simp; omega
    go_enter Try.func67, Try.ntmps67
    go_wp2_with fail
    go_quiet (fail)
    go_wp2_with fail
    go_ret
    exact ⟨ret_bool (by rw [← hb.out, hval.out, hd, Bool.false_and]), (unhide HNO) _⟩
end Go.Proofs.Ytmpdalcdkibgpaa
