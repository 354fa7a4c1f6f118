/-
  isLike and Plus of the program; Plus of the reference.
-/
import Derived.Test.YtabgifpenegofaaX6
namespace Go.Proofs.Ytabgifpenegofaa
open Go.RowKit

theorem fold9 (K : Nat → Nat → Int) : kyA K = kyA K := rfl
/-- The sum of all numbers of a key. -/
def tot (K : Nat → Nat → Int) : Int := rS K 0 + rS K 1 + rS K 2
/-- Numbers of a table of n rows and m columns: from 0 on, 0 elsewhere. -/
structure KB (K : Nat → Nat → Int) (n m : Nat) : Prop where
  nn : ∀ i j, 0 ≤ K i j
  zr : ∀ i j, n ≤ i → K i j = 0
  zc : ∀ i j, m ≤ j → K i j = 0
theorem Tb.kb {t : List (List Int)} {n m : Nat} (h : Tb t n m) : KB (at2 t) n m := ⟨h.nn, fun i j hi => h.zero_row i j hi, fun i j hj => h.zero_col i j hj⟩
theorem tab_at2 {K : Nat → Nat → Int} {n m : Nat} (h : KB K n m) (i j : Nat) : at2 (tabL n m K) i j = K i j := by
  rcases Nat.lt_or_ge i n with hi | hi
  · rcases Nat.lt_or_ge j m with hj | hj
    · exact tabL_at hi hj
    · rw [h.zc i j hj]; unfold at2; rw [tabL_row hi]; exact nth_out (by simpa using hj)
  · rw [h.zr i j hi]; unfold at2; rw [row_out (by rw [tabL_len]; exact hi)]; rfl
theorem tab_row_sum {K : Nat → Nat → Int} {n m : Nat} (h : KB K n m) (hm : m ≤ 3) (i : Nat) : (row (tabL n m K) i).sum = rS K i := by
  rw [sum3 (by
    rcases Nat.lt_or_ge i n with hi | hi
    · rw [tabL_row hi]; simpa using hm
    · rw [row_out (by rw [tabL_len]; exact hi)]; simp)]
  show at2 (tabL n m K) i 0 + at2 (tabL n m K) i 1 + at2 (tabL n m K) i 2 = _
  rw [tab_at2 h, tab_at2 h, tab_at2 h]; rfl
theorem tab_sum {K : Nat → Nat → Int} {n m : Nat} (h : KB K n m) (hn : n ≤ 3) (hm : m ≤ 3) : sumTo (tabL n m K) n = tot K := by
  have e := tabL_len n m K
  have := sumTo3 (t := tabL n m K) (by rw [e]; exact hn)
  rw [e] at this
  rw [this, tab_row_sum h hm, tab_row_sum h hm, tab_row_sum h hm]; rfl
theorem tab_tb {K : Nat → Nat → Int} {n m : Nat} (h : KB K n m) (h1 : 1 ≤ n ∧ n ≤ 3) (h2 : 1 ≤ m ∧ m ≤ 3) (ht : tot K ≤ 16) : Tb (tabL n m K) n m :=
  ⟨tabL_len n m K, h1.1, h1.2, h2.1, h2.2, fun k hk => by rw [tabL_row hk]; simp, fun i j => by rw [tab_at2 h]; exact h.nn i j, by rw [tab_sum h h1.2 h2.2]; exact ht⟩
theorem isT_tab {K : Nat → Nat → Int} {n m : Nat} (h : KB K n m) (h1 : 1 ≤ n ∧ n ≤ 3) (h2 : 1 ≤ m ∧ m ≤ 3) : isT (tabL n m K) = decide (tot K ≤ 16) := by
  by_cases ht : tot K ≤ 16
  · rw [isT_of (tab_tb h h1 h2 ht)]; simp [ht]
  · rw [eq_comm, decide_eq_false ht, eq_comm]
    exact isT_over (k := n - 1) (by rw [tabL_len]; omega) (by rw [show n - 1 + 1 = n by omega, tab_sum h h1.2 h2.2]; omega)
def addK (K L : Nat → Nat → Int) (i j : Nat) : Int := K i j + L i j
theorem KB.add {K L : Nat → Nat → Int} {n m : Nat} (h : KB K n m) (g : KB L n m) : KB (addK K L) n m :=
  ⟨fun i j => by have := h.nn i j; have := g.nn i j; unfold addK; omega, fun i j hi => by unfold addK; rw [h.zr i j hi, g.zr i j hi]; rfl, fun i j hj => by unfold addK; rw [h.zc i j hj, g.zc i j hj]; rfl⟩

def likeB (s t : List (List Int)) : Bool := decide (s.length = t.length) && decide ((row s 0).length = (row t 0).length)
set_option maxRecDepth 100000 in
set_option maxHeartbeats 4000000 in
theorem isLike_any (b off n c m b' off' n' c' m' : Nat) (s t : List (List Int)) (w : World) (h : Rows_ w w.heap.size (some ⟨b, off, none⟩) n c s) (h' : Rows_ w w.heap.size (some ⟨b', off', none⟩) n' c' t) (hs : Hid (Tb s n m)) (ht : Hid (Tb t n' m')) (r : Bool) (hr : Hid (likeB s t = r)) :
    Calls Try.prog 90 #[.slice (some ⟨b, off, none⟩) n c, .slice (some ⟨b', off', none⟩) n' c'] w fun e w' => e = .returned (.bool r) ∧ ∃ q, w' = w.drewN q := by
  have hm := h.most; have hcap := h.cap; have hm' := h'.most; have hcap' := h'.cap
  have hn0 : 0 < n := by have := hs.out.n1; omega
  have hn0' : 0 < n' := by have := ht.out.n1; omega
  obtain ⟨A0, c0, hc0, hi0⟩ := hs.out.get h hn0
  obtain ⟨A1, c1, hc1, hi1⟩ := ht.out.get h' hn0'
  simp only [Nat.add_zero] at hc0 hc1
  have m3 := hs.out.m3; have m3' := ht.out.m3
  have hm0 := hi0.most; have hcap0 := hi0.cap; have hm1 := hi1.most; have hcap1 := hi1.cap
  have HL := hide (show likeB s t = (decide (n = n') && decide (m = m')) from by unfold likeB; rw [hs.out.len, ht.out.len, hs.out.rows 0 hn0, ht.out.rows 0 hn0'])
  clear hi0 hi1 h h'
  by_cases e1 : n = n'
  · have HE := hide (show ((m : Int) == (m' : Int)) = r from by
      rw [← hr.out, HL.out, Bool.eq_iff_iff]; simp [e1]; omega)
    have e1' : ((n : Int) == (n' : Int)) = true := by simp; omega
    have HM := hide HE.out
    clear HL
    obtain ⟨q, hq⟩ : ∃ q : Bool, ((m : Int) == (m' : Int)) = q := ⟨_, rfl⟩
    obtain rfl : q = r := by rw [← hq]; exact HM.out
    clear HE HM
    go_enter Try.func90, Try.ntmps90
    go_upto_region 1 with fail
    go_big_quiet (fail)
    go_wp2_with fail
    go_ret
    exact ⟨rfl, _, rfl⟩
  · have HF := hide (show false = r from by rw [← hr.out, HL.out]; simp [e1])
    have e1' : ((n : Int) == (n' : Int)) = false := by simp; omega
    clear HL e1
    go_enter Try.func90, Try.ntmps90
    go_upto_region 1 with fail
    go_big_quiet (fail)
    go_wp2_with fail
    go_ret
    exact ⟨ret_bool HF.out, _, rfl⟩
end Go.Proofs.Ytabgifpenegofaa
