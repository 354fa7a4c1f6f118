/-
  gcd, quotients in lowest terms: of the program, of the reference.
-/
import Derived.Test.YtabgifpenegofaaO2
namespace Go.Proofs.Ytabgifpenegofaa
open Go.RowKit

/-- The rational number q is n / d in lowest terms. -/
def Fr (q : Rat) (n d : Int) : Prop := q.num = n ∧ (q.den : Int) = d
theorem Fr.pos {q : Rat} {n d : Int} (h : Fr q n d) : 0 < d := by rw [← h.2]; have := q.den_pos; omega
theorem Fr.eq {q : Rat} {n d : Int} (h : Fr q n d) : q = Rat.divInt n d := by rw [← h.1, ← h.2, Rat.num_divInt_den]
theorem fr_of {a b : Int} (hb : 0 < b) : (Rat.divInt a b).num = a.tdiv (Nat.gcd a.natAbs b.natAbs : Nat) ∧ ((Rat.divInt a b).den : Int) = b.tdiv (Nat.gcd a.natAbs b.natAbs : Nat) := by
  have hg : Nat.gcd a.natAbs b.natAbs = Int.gcd b a := by rw [Nat.gcd_comm]; rfl
  rw [Rat.num_divInt, Rat.den_divInt, hg, Int.sign_eq_one_of_pos hb, if_neg (by omega)]
  have h1 : (Int.gcd b a : Int) ∣ a := Int.gcd_dvd_right ..
  have h2 : (Int.gcd b a : Int) ∣ b := Int.gcd_dvd_left ..
  constructor
  · rw [Int.one_mul, Int.tdiv_eq_ediv_of_dvd h1]
  · rw [Int.tdiv_eq_ediv_of_dvd h2]
    have : b.natAbs = b := by omega
    rw [Int.natCast_ediv, this]
theorem fr_of_neg {a b : Int} (hb : b < 0) : (Rat.divInt a b).num = a.tdiv (-(Nat.gcd a.natAbs b.natAbs : Nat) : Int) ∧ ((Rat.divInt a b).den : Int) = b.tdiv (-(Nat.gcd a.natAbs b.natAbs : Nat) : Int) := by
  have h := fr_of (a := -a) (b := -b) (by omega)
  rw [Rat.divInt_neg', Int.neg_neg, Int.natAbs_neg, Int.natAbs_neg] at h
  rw [h.1, h.2, Int.tdiv_neg, Int.neg_tdiv, Int.neg_tdiv, Int.tdiv_neg]
  exact ⟨rfl, rfl⟩

set_option maxHeartbeats 1000000 in
theorem gcd_any (a b : Int) (w : World) (ha : 0 ≤ a ∧ a ≤ 9000000000000000000) (hb : 0 ≤ b ∧ b ≤ 9000000000000000000) :
    Calls Try.prog 104 #[.int .i64 a, .int .i64 b] w fun e w' => e = .returned (.int .i64 (Nat.gcd a.natAbs b.natAbs : Nat)) ∧ ∃ q, w' = w.drewN q := by
  go_enter Try.func104, Try.ntmps104
  go_wp2_with fail
  go_loopw [0, 1] (fun u v wr => ∃ x y : Int, u = .int .i64 x ∧ v = .int .i64 y ∧ Hid (Nat.gcd x.natAbs y.natAbs = Nat.gcd a.natAbs b.natAbs) ∧ (0 ≤ x ∧ x ≤ 9000000000000000000) ∧ (0 ≤ y ∧ y ≤ 9000000000000000000) ∧ ∃ q, wr = w.drewN q) (fun _ v _ => (intOf v).natAbs)
  case atStart => exact ⟨a, b, rfl, rfl, hide rfl, ha, hb, 0, rfl⟩
  case round =>
    obtain ⟨x, y, rfl, rfl, hg, ⟨hx1, hx2⟩, ⟨hy1, hy2⟩, q, rfl⟩ := hrel
    by_cases h0 : y = 0
    · subst h0
      have hz := hide (show x.natAbs = Nat.gcd a.natAbs b.natAbs from by rw [← hg.out]; simp)
      have hd : ((0 : Int) != 0) = false := by decide
      go_wp2_with fail
      go_ret
      exact ⟨ret_int (show x = _ from by rw [← hz.out]; omega), _, rfl⟩
    · have hd : ((y : Int) != 0) = true := by simp; omega
      obtain ⟨r, hr⟩ : ∃ r : Int, x.tmod y = r := ⟨_, rfl⟩
      have hna : r.natAbs = x.natAbs % y.natAbs := by rw [← hr, Int.natAbs_tmod]
      have hlt : r.natAbs < y.natAbs := by rw [hna]; exact Nat.mod_lt _ (by omega)
      have hr0 : 0 ≤ r := by rw [← hr]; exact Int.tmod_nonneg _ hx1
      have hg2 := hide (show Nat.gcd y.natAbs r.natAbs = Nat.gcd a.natAbs b.natAbs from by rw [← hg.out, hna, Nat.gcd_comm x.natAbs, Nat.gcd_rec y.natAbs x.natAbs, Nat.gcd_comm])
      clear hna
      have hr2 : r ≤ 9000000000000000000 := by omega
      go_wp2_with fail
      go_big_quiet (fail)
      go_wp2_with fail
      go_roundw
      case rel => exact ⟨y, r, by go_num, by go_num, hg2, by omega, by omega, (by first | exact ⟨_, rfl⟩ | exact quiet_q _ _ _)⟩
      case measure => simp [intOf]; omega
theorem gcd_is (a b : Int) (w : World) (ha : 0 ≤ a ∧ a ≤ 9000000000000000000) (hb : 0 ≤ b ∧ b ≤ 9000000000000000000) (g : Int) (hg : Hid (((Nat.gcd a.natAbs b.natAbs : Nat) : Int) = g)) :
    Calls Try.prog 104 #[.int .i64 a, .int .i64 b] w fun e w' => e = .returned (.int .i64 g) ∧ ∃ q, w' = w.drewN q := by rw [← hg.out]; exact gcd_any a b w ha hb
theorem below_dN {B : Nat} {w W : World} (h : Below B w W) (q : Nat) : Below B w (W.drewN q) := ⟨h.os, h.tape, h.output, h.size, h.block⟩

set_option maxRecDepth 4000 in
set_option maxHeartbeats 3200000 in
theorem quotient_any (a b : Int) (w : World) (ha : 0 ≤ a ∧ a ≤ 9000000000000000000) (hb : 1 ≤ b ∧ b ≤ 9000000000000000000) (n d : Int) (hf : Hid (Fr (Rat.divInt a b) n d)) :
    Calls Try.prog 80 #[.int .i64 a, .int .i64 b] w fun e w' => e = .returned (.agg #[.int .i64 n, .int .i64 d]) ∧ Below w.heap.size w w' := by
  obtain ⟨a1, a2⟩ := ha
  obtain ⟨b1, b2⟩ := hb
  obtain ⟨g, hg⟩ : ∃ g : Int, ((Nat.gcd a.natAbs b.natAbs : Nat) : Int) = g := ⟨_, rfl⟩
  have hgp : 0 < g := by rw [← hg]; have := Nat.gcd_pos_of_pos_right a.natAbs (show 0 < b.natAbs by omega); omega
  have hgb : g ≤ 9000000000000000000 := by
    rw [← hg]; have := Nat.le_of_dvd (show 0 < b.natAbs by omega) (Nat.gcd_dvd_right a.natAbs b.natAbs); omega
  have HG := hide hg
  obtain ⟨W0, hW0⟩ : ∃ W0, W0 = w.alloc (.cells #[.int .i64 0, .int .i64 0] 47) := ⟨_, rfl⟩
  have HB0 := hide (show Below w.heap.size w W0 from by rw [hW0]; exact (Below.refl _ w).alloc (Nat.le_refl _) _)
  have hr := hide (show W0.heap[w.heap.size]? = some (.cells #[.int .i64 0, .int .i64 0] 47 (0, 0)) from by rw [hW0]; exact heap_new_ w _)
  have hn := (fr_of (a := a) (b := b) (by omega)).1.symm.trans hf.out.1
  have hd := (fr_of (a := a) (b := b) (by omega)).2.symm.trans hf.out.2
  rw [hg] at hn hd
  clear hg
  have hm0 : ¬ g = 0 := by omega
  have k1 := tdiv_bd (b := g) (M := 9000000000000000000) ⟨by omega, a2⟩
  have k2 := tdiv_bd (a := b) (b := g) (M := 9000000000000000000) ⟨by omega, b2⟩
  rw [hn] at k1; rw [hd] at k2
  obtain ⟨k11, k12⟩ := k1; obtain ⟨k21, k22⟩ := k2
  go_enter Try.func80, Try.ntmps80
  go_wp2_with fail
  rw [← hW0]
  refine (gcd_is a b W0 ⟨a1, a2⟩ ⟨by omega, b2⟩ g HG).mono ?_
  rintro e w1 ⟨rfl, q, rfl⟩
  have hr1 : (W0.drewN q).heap[w.heap.size]? = some (.cells #[.int .i64 0, .int .i64 0] 47 (0, 0)) := unhide hr
  have HB1 := hide (below_dN (unhide HB0) q)
  clear hW0
  generalize W0.drewN q = W1 at hr1 HB1 ⊢
  have f0 := free_at hr1 0; have f1 := free_at hr1 1
  obtain ⟨q0, q1⟩ := two_at hr1
  have HPq := hide (put2 hr1 (.int .i64 n) (.int .i64 d))
  have HBq := hide (below_put2 (unhide HB1) (b := w.heap.size) (Nat.le_refl _) (.int .i64 n) (.int .i64 d))
  clear hr1
  go_wp2_with fail
  go_region
  all_goals (go_wp2_with fail)
  all_goals (obtain ⟨s0, s1⟩ := two_at (unhide HPq); exact bodyPost_ret (v := .agg #[.int .i64 n, .int .i64 d]) (by simp [results, Try.results80, go_sem, s0, s1]) rfl ⟨rfl, (unhide HBq).drew⟩)

end Go.Proofs.Ytabgifpenegofaa
