/-
  Frac of the reference.
-/
import Derived.Test.YtabgifpenegofaaF1
namespace Go.Proofs.Ytabgifpenegofaa
open Go.RowKit

set_option maxRecDepth 100000 in
set_option maxHeartbeats 6400000 in
theorem RFrac_any (a b : Int) (w : World) (ha : -9000000000000000000 ≤ a ∧ a ≤ 9000000000000000000) (hb : 1 ≤ b ∧ b ≤ 9000000000000000000) (n d : Int) (hf : Hid (Fr (Rat.divInt a b) n d)) :
    Calls Try.prog 64 #[.int .i64 a, .int .i64 b] w fun e w' => e = .returned (.agg #[.int .i64 n, .int .i64 d]) ∧ Below w.heap.size w w' := by
  obtain ⟨a1, a2⟩ := ha
  obtain ⟨b1, b2⟩ := hb
  obtain ⟨g, hg⟩ : ∃ g : Int, ((Nat.gcd a.natAbs b.natAbs : Nat) : Int) = g := ⟨_, rfl⟩
  have hgp : 0 < g := by rw [← hg]; have := Nat.gcd_pos_of_pos_right a.natAbs (show 0 < b.natAbs by omega); omega
  have hgb : g ≤ 9000000000000000000 := by
    rw [← hg]; have := Nat.le_of_dvd (show 0 < b.natAbs by omega) (Nat.gcd_dvd_right a.natAbs b.natAbs); omega
  have hn := (fr_of (a := a) (b := b) (by omega)).1.symm.trans hf.out.1
  have hd := (fr_of (a := a) (b := b) (by omega)).2.symm.trans hf.out.2
  rw [hg] at hn hd
  have HN := hide hn
  have HD := hide hd
  clear hn hd
  obtain ⟨m, hm⟩ : ∃ m : Int, (m = a ∨ m = -a) ∧ m.natAbs = a.natAbs ∧ (if -a > a then -a else a) = m := ⟨_, by split <;> simp, by split <;> omega, rfl⟩
  obtain ⟨hm0, hmn, hmx⟩ := hm
  have HG := hide (show ((Nat.gcd m.natAbs b.natAbs : Nat) : Int) = g from by rw [hmn]; exact hg)
  have hm2 : m ≤ 9000000000000000000 := by omega
  have hm3 : 0 ≤ m := by rw [← hmx]; split <;> omega
  have hmax : ∀ w : World, (Builtin.max_ #[3, 3] 3 #[.int .i64 a, .int .i64 (-a)]).run Try.prog w = .ok (.int .i64 m) w := fun w => by rw [← hmx]; exact run_max_int2 _ _ _ _ _ _ _
  clear hmx hm0 hmn hg
  obtain ⟨W0, hW0⟩ : ∃ W0, W0 = w.alloc (.cells #[.int .i64 0, .int .i64 0] 47) := ⟨_, rfl⟩
  have HB0 := hide (show Below w.heap.size w W0 from by rw [hW0]; exact (Below.refl _ w).alloc (Nat.le_refl _) _)
  have hr := hide (show W0.heap[w.heap.size]? = some (.cells #[.int .i64 0, .int .i64 0] 47 (0, 0)) from by rw [hW0]; exact heap_new_ w _)
  have hW : w.alloc (.cells #[.int .i64 0, .int .i64 0] 47) = W0 := hW0.symm
  clear hW0
  have hbn : ¬ b < 0 := by omega
  go_enter Try.func64, Try.ntmps64
  go_wp2_with fail
  clear hmax hW
  go_loopw [5, 6] (fun u v wr => ∃ x y : Int, u = .int .i64 x ∧ v = .int .i64 y ∧ Hid (Nat.gcd x.natAbs y.natAbs = g.natAbs) ∧ (0 ≤ x ∧ x ≤ 9000000000000000000) ∧ (0 ≤ y ∧ y ≤ 9000000000000000000) ∧ Hid (∃ q, wr = W0.drewN q)) (fun _ v _ => (intOf v).natAbs)
  case atStart => exact ⟨m, b, rfl, rfl, hide (by rw [← HG.out]; simp), ⟨hm3, hm2⟩, ⟨by omega, b2⟩, hide ⟨0, rfl⟩⟩
  case round =>
    obtain ⟨x, y, rfl, rfl, hg, ⟨hx1, hx2⟩, ⟨hy1, hy2⟩, HQ⟩ := hrel
    by_cases h0 : y = 0
    · subst h0
      have hz : x = g := by have := hg.out; simp at this; omega
      subst hz
      have hd : ((0 : Int) != 0) = false := by decide
      obtain ⟨q, hq⟩ := HQ.out
      have hr1 : wr.heap[w.heap.size]? = some (.cells #[.int .i64 0, .int .i64 0] 47 (0, 0)) := by rw [hq]; exact unhide hr
      have HB1 := hide (show Below w.heap.size w wr from by rw [hq]; exact below_dN (unhide HB0) q)
      clear hq HQ
      have hn := HN.out; have hdd := HD.out
      have k1 := tdiv_bd (b := x) (M := 9000000000000000000) ⟨a1, a2⟩
      have k2 := tdiv_bd (a := b) (b := x) (M := 9000000000000000000) ⟨by omega, b2⟩
      rw [hn] at k1; rw [hdd] at k2
      obtain ⟨k11, k12⟩ := k1; obtain ⟨k21, k22⟩ := k2
      have hg0 : ¬ x = 0 := by omega
      have f0 := free_at hr1 0; have f1 := free_at hr1 1
      obtain ⟨q0, q1⟩ := two_at hr1
      have HPq := hide (put2 hr1 (.int .i64 n) (.int .i64 d))
      have HBq := hide (below_put2 (unhide HB1) (b := w.heap.size) (Nat.le_refl _) (.int .i64 n) (.int .i64 d))
      clear hr1
      go_wp2_with fail
      go_region
      all_goals (go_wp2_with fail)
      all_goals (obtain ⟨s0, s1⟩ := two_at (unhide HPq); exact bodyPost_ret (v := .agg #[.int .i64 n, .int .i64 d]) (by simp [results, Try.results64, go_sem, s0, s1]) rfl ⟨rfl, (unhide HBq).drew⟩)
    · have hd : ((y : Int) != 0) = true := by simp; omega
      obtain ⟨r, hr⟩ : ∃ r : Int, x.tmod y = r := ⟨_, rfl⟩
      have hna : r.natAbs = x.natAbs % y.natAbs := by rw [← hr, Int.natAbs_tmod]
      have hlt : r.natAbs < y.natAbs := by rw [hna]; exact Nat.mod_lt _ (by omega)
      have hr0 : 0 ≤ r := by rw [← hr]; exact Int.tmod_nonneg _ hx1
      have hg2 := hide (show Nat.gcd y.natAbs r.natAbs = g.natAbs from by rw [← hg.out, hna, Nat.gcd_comm x.natAbs, Nat.gcd_rec y.natAbs x.natAbs, Nat.gcd_comm])
      clear hna
      have hr2 : r ≤ 9000000000000000000 := by omega
      obtain ⟨q, rfl⟩ := HQ.out
      clear HQ
      go_wp2_with fail
      go_big_quiet (fail)
      go_wp2_with fail
      go_roundw
      case rel => exact ⟨y, r, by go_num, by go_num, hg2, by omega, by omega, hide (by first | exact ⟨_, rfl⟩ | exact quiet_q _ _ _)⟩
      case measure => simp [intOf]; omega
end Go.Proofs.Ytabgifpenegofaa
