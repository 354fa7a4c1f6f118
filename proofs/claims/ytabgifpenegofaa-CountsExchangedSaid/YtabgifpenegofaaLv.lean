/-
  Odds of a table and of those that exchange makes of it.
-/
import Derived.Test.YtabgifpenegofaaLw
import Derived.Test.YtabgifpenegofaaX7
namespace Go.Proofs.Ytabgifpenegofaa
open Go.RowKit

theorem two_lit {a b c d : Int} (ha : 0 ≤ a) (hb : 0 ≤ b) (hc : 0 ≤ c) (hd : 0 ≤ d) (hs : a + b + c + d ≤ 16) : isTwo [[a, b], [c, d]] = true := by
  have ht : Tb [[a, b], [c, d]] 2 2 := by
    refine ⟨rfl, by omega, by omega, by omega, by omega, fun k hk => ?_, fun i j => ?_, ?_⟩
    · rcases (show k = 0 ∨ k = 1 by omega) with rfl | rfl <;> rfl
    · rcases (show i = 0 ∨ i = 1 ∨ 2 ≤ i by omega) with rfl | rfl | hi
      · rcases (show j = 0 ∨ j = 1 ∨ 2 ≤ j by omega) with rfl | rfl | hj
        · exact ha
        · exact hb
        · show 0 ≤ nth [a, b] j; rw [nth_out (by simpa using hj)]; omega
      · rcases (show j = 0 ∨ j = 1 ∨ 2 ≤ j by omega) with rfl | rfl | hj
        · exact hc
        · exact hd
        · show 0 ≤ nth [c, d] j; rw [nth_out (by simpa using hj)]; omega
      · unfold at2; rw [row_out (by simpa using hi)]; exact Int.le_refl 0
    · simp [sumTo]; omega
  have h1 := isT_of ht
  unfold isTwo
  rw [h1]; rfl
theorem od_lit {a b c d : Int} (ha : 0 ≤ a) (hb : 0 ≤ b) (hc : 0 ≤ c) (hd : 0 ≤ d) (hs : a + b + c + d ≤ 16) : if b ≠ 0 ∧ c ≠ 0 then Fr (Rat.divInt (a * d) (b * c)) (odN [[a, b], [c, d]]) (odD [[a, b], [c, d]]) ∧ odE [[a, b], [c, d]] = 0 else odN [[a, b], [c, d]] = 0 ∧ odD [[a, b], [c, d]] = 0 ∧ odE [[a, b], [c, d]] = 5 :=
  od_parts (two_lit ha hb hc hd hs)
theorem od_turn {t : List (List Int)} (h : isTwo t = true) {a b d f : Int} (ea : at2 t 0 0 = a) (eb : at2 t 0 1 = b) (ed : at2 t 1 0 = d) (ef : at2 t 1 1 = f) (ha : 0 ≤ a) (hb : 0 ≤ b) (hc : 0 ≤ d) (hd : 0 ≤ f) (hs : a + b + d + f ≤ 16) :
    odN [[f, d], [b, a]] = odN t ∧ odD [[f, d], [b, a]] = odD t ∧ odE [[f, d], [b, a]] = odE t := by
  have h1 := od_parts h
  have h2 := od_lit hd hc hb ha (by omega)
  rw [ea, eb, ed, ef] at h1
  by_cases hz : b ≠ 0 ∧ d ≠ 0
  · rw [if_pos hz] at h1
    rw [if_pos ⟨hz.2, hz.1⟩, Int.mul_comm f a, Int.mul_comm d b] at h2
    exact ⟨h2.1.1.symm.trans h1.1.1, h2.1.2.symm.trans h1.1.2, h2.2.trans h1.2.symm⟩
  · rw [if_neg hz] at h1
    rw [if_neg (fun e => hz ⟨e.2, e.1⟩)] at h2
    exact ⟨h2.1.trans h1.1.symm, h2.2.1.trans h1.2.1.symm, h2.2.2.trans h1.2.2.symm⟩
theorem Fr.inv {A B p q r s : Int} (hA : 0 < A) (hB : 0 < B) (h1 : Fr (Rat.divInt A B) p q) (h2 : Fr (Rat.divInt B A) r s) : p = s ∧ q = r := by
  have f1 := fr_of (a := A) hB
  have f2 := fr_of (a := B) hA
  rw [Nat.gcd_comm] at f2
  exact ⟨h1.1.symm.trans (f1.1.trans (f2.2.symm.trans h2.2)), h1.2.symm.trans (f1.2.trans (f2.1.symm.trans h2.1))⟩
theorem two_facts {t : List (List Int)} (h : Tb t 2 2) : 0 ≤ at2 t 0 0 ∧ 0 ≤ at2 t 0 1 ∧ 0 ≤ at2 t 1 0 ∧ 0 ≤ at2 t 1 1 ∧ at2 t 0 0 + at2 t 0 1 + at2 t 1 0 + at2 t 1 1 ≤ 16 := by
  have h16 : tot (at2 t) ≤ 16 := h.total
  have e := h.nn
  have x00 := e 0 0; have x01 := e 0 1; have x02 := e 0 2; have x10 := e 1 0; have x11 := e 1 1; have x12 := e 1 2; have x20 := e 2 0; have x21 := e 2 1; have x22 := e 2 2
  unfold tot rS at h16
  omega
end Go.Proofs.Ytabgifpenegofaa
