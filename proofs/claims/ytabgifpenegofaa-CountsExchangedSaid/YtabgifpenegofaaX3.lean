/-
  Swap of the program and of the reference.
-/
import Derived.Test.YtabgifpenegofaaX2
namespace Go.Proofs.Ytabgifpenegofaa
open Go.RowKit

theorem swF_at {K : Nat → Nat → Int} {i j c d : Nat} (hij : i ≠ j) (hcd : c ≠ d) : swF K i j c d i d = K i d - 1 ∧ swF K i j c d j c = K j c - 1 := by
  unfold swF upd
  have h1 : j ≠ i := fun e => hij e.symm
  have h2 : d ≠ c := fun e => hcd e.symm
  simp [hij, hcd, h1, h2]
/-- What Swap answers. -/
def swOk (t : List (List Int)) (i j k l : Int) : Bool := isT t && (twoB i j t.length && twoB k l (row t 0).length)
def swNo (t : List (List Int)) (i j k l : Int) : Bool := decide (at2 t i.toNat l.toNat = 0) || decide (at2 t j.toNat k.toNat = 0)
def swE (t : List (List Int)) (i j k l : Int) : Int := if swOk t i j k l then (if swNo t i j k l then 4 else 0) else 2
def swO (t : List (List Int)) (i j k l : Int) : List (List Int) := if swOk t i j k l && !swNo t i j k l then tabL t.length (row t 0).length (swF (at2 t) i.toNat j.toNat k.toNat l.toNat) else []
theorem Tb.bdd {t : List (List Int)} {n m : Nat} (h : Tb t n m) : Bdd (at2 t) 1000 := fun i j _ _ => ⟨by have := h.nn i j; omega, by have := h.le i j; omega⟩

set_option maxRecDepth 100000 in
set_option maxHeartbeats 4000000 in
theorem Swap_no (A : Option Addr) (n c : Nat) (t : List (List Int)) (i j k l : Int) (w : World) (h : Rows_ w w.heap.size A n c t) (hr : Hid (swOk t i j k l = false)) :
    Calls Try.prog 42 #[.slice A n c, .int .i64 i, .int .i64 j, .int .i64 k, .int .i64 l] w fun e w' => e = .returned (.tuple #[.slice none 0 0, .int .i64 2]) ∧ Below w.heap.size w w' := by
  have hm := h.most; have hcap := h.cap
  cases h0 : isT t with
  | false =>
    have H0 := hide h0
    clear h0
    go_enter Try.func42, Try.ntmps42
    go_wp2_with fail
    refine (isTable_is _ _ _ _ _ h _ H0).mono ?_
    rintro e w1 ⟨rfl, b1⟩
    go_wp2_with fail
    go_ret2
    exact ⟨rfl, b1⟩
  | true =>
    have H0 := hide h0
    have ht := tb_of h0
    have hln : t.length = n := h.len
    obtain ⟨b, off, rfl⟩ := h.addr (show 0 < n by have := ht.n1; omega)
    have hr2 := hr.out
    unfold swOk at hr2
    rw [h0, Bool.true_and, hln] at hr2
    clear h0
    cases h1 : twoB i j n with
    | false =>
      have H1 := hide h1
      clear h1 hr2
      go_enter Try.func42, Try.ntmps42
      go_wp2_with fail
      refine (isTable_is _ _ _ _ _ h _ H0).mono ?_
      rintro e w1 ⟨rfl, b1⟩
      go_wp2_with (go_at_call 87; refine (areTwo_any _ _ _ _ _ H1).mono ?_; rintro e w' ⟨rfl, rfl⟩)
      go_ret2
      exact ⟨rfl, b1⟩
    | true =>
      rw [h1, Bool.true_and] at hr2
      have H1 := hide h1
      have HM := hide (ht.rows 0 ht.n1)
      have HT := hide ht
      have hn0 : 0 < n := by have := ht.n1; omega
      have H2 := hide hr2
      clear h1 hr2
      go_enter Try.func42, Try.ntmps42
      go_wp2_with fail
      refine (isTable_is _ _ _ _ _ h _ H0).mono ?_
      rintro e w1 ⟨rfl, b1⟩
      obtain ⟨A0, n0, c0, hc0, hi0⟩ := (h.below b1).get hn0
      have H3 := hide (show twoB k l n0 = false from by rw [← hi0.len]; exact H2.out)
      simp only [Nat.add_zero] at hc0
      clear hi0
      go_wp2_with (first | (go_at_call 87; (with_reducible refine (areTwo_any i j n _ _ H1).mono ?_); rintro e w' ⟨rfl, rfl⟩) | (go_at_call 87; (with_reducible refine (areTwo_any k l _ _ _ H3).mono ?_); rintro e w' ⟨rfl, rfl⟩))
      go_ret2
      exact ⟨rfl, b1⟩
/-- A key that is laid into a variable. -/
theorem new_key (w : World) (K : Nat → Nat → Int) : ∃ W, (w.alloc (.cells #[.int .i64 0, .int .i64 0, .int .i64 0, .int .i64 0, .int .i64 0, .int .i64 0, .int .i64 0, .int .i64 0, .int .i64 0] 79)).setRow w.heap.size (kyA K) = W ∧
    Blk (w.alloc (.cells #[.int .i64 0, .int .i64 0, .int .i64 0, .int .i64 0, .int .i64 0, .int .i64 0, .int .i64 0, .int .i64 0, .int .i64 0] 79)) w.heap.size 79 (kyA fun _ _ => 0) ∧ Blk W w.heap.size 79 (kyA K) ∧ Below w.heap.size w W := by
  rw [kyA_zero]
  exact ⟨_, rfl, Blk.new _ _ _, setRow_heap _ w.heap.size (kyA fun _ _ => 0) (kyA K) 79 (0, 0) (Blk.new _ _ _), below_setRow ((Below.refl _ w).alloc (Nat.le_refl _) _) (Nat.le_refl _) _⟩

set_option maxRecDepth 100000 in
set_option maxHeartbeats 4000000 in
theorem Swap_ok (b off n c m : Nat) (t : List (List Int)) (i j k l : Nat) (w : World) (h : Rows_ w w.heap.size (some ⟨b, off, none⟩) n c t) (ht : Hid (Tb t n m)) (hij : Hid (twoB (i : Int) (j : Int) n = true)) (hkl : Hid (twoB (k : Int) (l : Int) m = true)) (hi : i < 3) (hj : j < 3) (hk : k < 3) (hl : l < 3) (r : Bool) (hr : Hid ((decide (0 ≤ swF (at2 t) i j k l i l) && decide (0 ≤ swF (at2 t) i j k l j k)) = r)) :
    Calls Try.prog 42 #[.slice (some ⟨b, off, none⟩) n c, .int .i64 (i : Int), .int .i64 (j : Int), .int .i64 (k : Int), .int .i64 (l : Int)] w fun e w' => ∃ A' n' c', e = .returned (.tuple #[.slice A' n' c', .int .i64 (if r then 0 else 4)]) ∧ Rows_ w' w'.heap.size A' n' c' (if r then tabL n m (swF (at2 t) i j k l) else []) ∧ Below w.heap.size w w' := by
  have hm := h.most; have hcap := h.cap
  have hn0 : 0 < n := by have := ht.out.n1; omega
  have H0 := hide (isT_of ht.out)
  have HBd := hide ht.out.bdd
  go_enter Try.func42, Try.ntmps42
  go_wp2_with fail
  refine (isTable_is _ _ _ _ _ h _ H0).mono ?_
  rintro e w1 ⟨rfl, b1⟩
  obtain ⟨A0, c0, hc0, hi0⟩ := ht.out.get (h.below b1) hn0
  simp only [Nat.add_zero] at hc0
  clear hi0
  have h1 := hide ((h.below b1).more b1.size)
  go_wp2_with (first | (go_at_call 87; (with_reducible refine (areTwo_any _ _ (n : Int) _ _ hij).mono ?_); rintro e w' ⟨rfl, rfl⟩) | (go_at_call 87; (with_reducible refine (areTwo_any _ _ (m : Int) _ _ hkl).mono ?_); rintro e w' ⟨rfl, rfl⟩))
  refine (keyOf_any _ _ _ _ _ _ (unhide h1) ht).mono ?_
  rintro e w2 ⟨rfl, b2⟩
  have HB2 := hide (b1.trans (b2.mono b1.size))
  clear b1 b2 hc0
  go_wp2_with fail
  refine (swapped_any (at2 t) i j k l _ hi hj hk hl HBd r hr).mono ?_
  rintro e w3 ⟨rfl, b3⟩
  have HB3 := hide ((unhide HB2).trans (b3.mono (unhide HB2).size))
  clear b3
  obtain ⟨W, hW, k1, k2, k3⟩ := new_key w3 (swF (at2 t) i j k l)
  have K1 := hide k1; have K2 := hide k2
  have HBW := hide ((unhide HB3).trans (k3.mono (unhide HB3).size))
  have HW := hide hW
  clear k1 k2 k3 hW
  have I79 := hide (info79 (swF (at2 t) i j k l))
  have A79 := hide (kyA_all (swF (at2 t) i j k l))
  go_upto_region 4 with (refine wpList_store_row rfl 79 _ _ rfl w3.heap.size (kyA (swF (at2 t) i j k l)) rfl rfl 79 _ (unhide K1) I79.out rfl A79.out ?_)
  rw [HW.out]
  cases r with
  | false =>
    go_wp2_with fail
    go_ret2
    exact ⟨none, 0, 0, rfl, Rows_.none_ _ _, unhide HBW⟩
  | true =>
    have hR := hide ((h.below (unhide HBW)).more (unhide HBW).size)
    go_wp2_with (refine wpList_load_row rfl 79 _ rfl w3.heap.size rfl 79 (kyA (swF (at2 t) i j k l)) (0, 0) _ (unhide K2) Try.underlying79 rfl I79.out ?_)
    refine (tableOf_any _ _ _ _ _ _ _ (unhide hR) ht).mono ?_
    rintro e w5 ⟨g5, rfl, r5, _, b5⟩
    have HB5 := hide ((unhide HBW).trans (b5.mono (unhide HBW).size))
    have R5 := hide r5
    clear b5 r5
    go_wp2_with fail
    go_ret2
    exact ⟨_, _, _, rfl, unhide R5, unhide HB5⟩
theorem Swap_all (A : Option Addr) (n c : Nat) (t : List (List Int)) (i j k l : Int) (w : World) (h : Rows_ w w.heap.size A n c t) :
    Calls Try.prog 42 #[.slice A n c, .int .i64 i, .int .i64 j, .int .i64 k, .int .i64 l] w fun e w' => ∃ A' n' c', e = .returned (.tuple #[.slice A' n' c', .int .i64 (swE t i j k l)]) ∧ Rows_ w' w'.heap.size A' n' c' (swO t i j k l) ∧ Below w.heap.size w w' := by
  cases hr : swOk t i j k l with
  | false =>
    refine (Swap_no A n c t i j k l w h (hide hr)).mono ?_
    rintro e w1 ⟨rfl, b1⟩
    exact ⟨none, 0, 0, by unfold swE; rw [hr]; rfl, by unfold swO; rw [hr]; exact Rows_.none_ _ _, b1⟩
  | true =>
    have hr0 := hr
    simp only [swOk, Bool.and_eq_true] at hr
    obtain ⟨h0, h1, h2⟩ := hr
    have ht := tb_of h0
    have hln : t.length = n := h.len
    have a1 := twoB_iff.1 h1
    have a2 := twoB_iff.1 h2
    have n3 := ht.n3; have m3 := ht.m3
    obtain ⟨b, off, rfl⟩ := h.addr (show 0 < n by have := ht.n1; omega)
    obtain ⟨i, rfl⟩ : ∃ x : Nat, i = x := ⟨i.toNat, by omega⟩
    obtain ⟨j, rfl⟩ : ∃ x : Nat, j = x := ⟨j.toNat, by omega⟩
    obtain ⟨k, rfl⟩ : ∃ x : Nat, k = x := ⟨k.toNat, by omega⟩
    obtain ⟨l, rfl⟩ : ∃ x : Nat, l = x := ⟨l.toNat, by omega⟩
    have hsw := swF_at (K := at2 t) (i := i) (j := j) (c := k) (d := l) (by omega) (by omega)
    have key : (decide (0 ≤ swF (at2 t) i j k l i l) && decide (0 ≤ swF (at2 t) i j k l j k)) = !swNo t i j k l := by
      rw [hsw.1, hsw.2]
      have x1 := ht.nn i l; have x2 := ht.nn j k
      unfold swNo
      rw [Bool.eq_iff_iff]
      simp only [Bool.and_eq_true, decide_eq_true_eq, Bool.not_eq_true', Bool.or_eq_false_iff, decide_eq_false_iff_not, Int.toNat_natCast]
      omega
    refine (Swap_ok b off n c _ t i j k l w h (hide (by rw [← hln]; exact ht)) (hide (by rw [← hln]; exact h1)) (hide h2) (by omega) (by omega) (by omega) (by omega) _ (hide key)).mono ?_
    rintro e w1 ⟨A', n', c', rfl, r1, b1⟩
    refine ⟨A', n', c', ?_, ?_, b1⟩
    · unfold swE; rw [hr0]; cases swNo t i j k l <;> rfl
    · unfold swO; rw [hr0, hln]; cases hh : swNo t i j k l <;> (rw [hh] at r1; exact r1)
end Go.Proofs.Ytabgifpenegofaa
