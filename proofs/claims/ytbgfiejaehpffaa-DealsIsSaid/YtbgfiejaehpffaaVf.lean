/-
  IsPoint of the reference.
-/
import Derived.Test.YtbgfiejaehpffaaVa
import Derived.Test.YtbgfiejaehpffaaF1b
import Derived.Test.YtbgfiejaehpffaaW5
import Derived.Deep.CutRange
import Derived.Deep.RegionHeld3
namespace Go.Proofs.Ytbgfiejaehpffaa
open Go.RowKit

theorem fs_two32 (w : World) (a b c d : Int) : Fs (w.alloc (.cells #[.int .i64 a, .int .i64 b, .int .i64 c, .int .i64 d] 32)) (w.heap.size + 1) (some ⟨w.heap.size, 0, none⟩) 2 2 [(a, b), (c, d)] := by
  obtain ⟨c0, c1, c2, c3⟩ := four_at (heap_new_ w (.cells #[.int .i64 a, .int .i64 b, .int .i64 c, .int .i64 d] 32))
  refine ⟨rfl, Nat.le_refl _, by omega, (fun e => by cases e), fun j hj => ?_⟩
  have : j = 0 ∨ j = 1 := by omega
  rcases this with rfl | rfl
  · exact ⟨_, _, rfl, by omega, c0, c1⟩
  · exact ⟨_, _, rfl, by omega, c2, c3⟩
theorem fr_low {x d n m : Int} (hd : 1 ≤ d) (hf : Fr (Rat.divInt x d) n m) : ((n, m) : F) = (x, d) ↔ ((Nat.gcd x.natAbs d.natAbs : Nat) : Int) = 1 := by
  have h := fr_of (a := x) (b := d) (by omega)
  have hn := h.1.symm.trans hf.1
  have hm := h.2.symm.trans hf.2
  have hgp : 0 < (Nat.gcd x.natAbs d.natAbs) := Nat.gcd_pos_of_pos_right x.natAbs (show 0 < d.natAbs by omega)
  constructor
  · intro e
    cases e
    by_cases hg : Nat.gcd x.natAbs d.natAbs = 1
    · rw [hg]; rfl
    · have h2 : 1 < Nat.gcd x.natAbs d.natAbs := by omega
      generalize Nat.gcd x.natAbs d.natAbs = g at hm h2
      exfalso
      have h3 : d.tdiv (g : Int) = d / (g : Int) := Int.tdiv_eq_ediv_of_nonneg (by omega)
      have h4 : d / (g : Int) < d := Int.ediv_lt_self_of_pos_of_ne_one (by omega) (by omega)
      omega
  · intro hg
    rw [hg] at hn hm
    rw [Int.tdiv_one] at hn hm
    rw [hn, hm]

set_option maxRecDepth 100000 in
set_option maxHeartbeats 16000000 in
theorem RIsPoint_any (xn xd yn yd : Int) (w : World) (b : Bool) (hb : Hid ((plB xn xd && plB yn yd) = b)) :
    Calls Try.prog 23 #[.agg #[.int .i64 xn, .int .i64 xd, .int .i64 yn, .int .i64 yd]] w fun e w' => e = .returned (.bool b) ∧ Below w.heap.size w w' := by
  obtain ⟨W0, hW0⟩ : ∃ W0, W0 = w.alloc (.cells #[.int .i64 xn, .int .i64 xd, .int .i64 yn, .int .i64 yd] 34) := ⟨_, rfl⟩
  have HB0 := hide (show Below w.heap.size w W0 from by rw [hW0]; exact (Below.refl _ w).alloc (Nat.le_refl _) _)
  obtain ⟨v0, v1, v2, v3⟩ := four_at (show W0.heap[w.heap.size]? = some (.cells #[.int .i64 xn, .int .i64 xd, .int .i64 yn, .int .i64 yd] 34 (0, 0)) from by rw [hW0]; exact heap_new_ w _)
  have HI := hide (fs_two32 W0 xn xd yn yd)
  have hW : w.alloc (.cells #[.int .i64 xn, .int .i64 xd, .int .i64 yn, .int .i64 yd] 34) = W0 := hW0.symm
  clear hW0
  obtain ⟨WA, hWA⟩ : ∃ WA, WA = W0.alloc (.cells #[.int .i64 xn, .int .i64 xd, .int .i64 yn, .int .i64 yd] 32) := ⟨_, rfl⟩
  have HBA := hide (show Below w.heap.size w WA from by rw [hWA]; exact (unhide HB0).alloc (unhide HB0).size _)
  have HIA := hide (show Fs WA WA.heap.size (some ⟨W0.heap.size, 0, none⟩) 2 2 [(xn, xd), (yn, yd)] from by rw [hWA]; simpa using unhide HI)
  have hWB : W0.alloc (.cells #[.int .i64 xn, .int .i64 xd, .int .i64 yn, .int .i64 yd] 32) = WA := hWA.symm
  clear hWA HI
  have HNO := hide (show ∀ k, k < 2 → plB (fth [(xn, xd), (yn, yd)] k).1 (fth [(xn, xd), (yn, yd)] k).2 = false → b = false from fun k hk h => by
    rw [← hb.out]
    have : k = 0 ∨ k = 1 := by omega
    rcases this with rfl | rfl
    · rw [show plB xn xd = false from h]; rfl
    · rw [show plB yn yd = false from h, Bool.and_false])
  have HYES := hide (show (∀ i, i < 2 → plB (fth [(xn, xd), (yn, yd)] i).1 (fth [(xn, xd), (yn, yd)] i).2 = true) → true = b from fun h => by
    rw [← hb.out, show plB xn xd = true from h 0 (by omega), show plB yn yd = true from h 1 (by omega)]; rfl)
  generalize [((xn, xd) : F), (yn, yd)] = L at HIA HNO HYES
  go_enter Try.func23, Try.ntmps23
  go_upto_region 1 with fail
  clear hW
  go_wp2_with fail
  clear hWB v0 v1 v2 v3
  go_loopw [4, 11] (fun _ i wr => ∃ k : Nat, k ≤ 2 ∧ i = .int .i64 k ∧ Hid (∀ i, i < k → plB (fth L i).1 (fth L i).2 = true) ∧ Hid (Below WA.heap.size WA wr)) (fun _ i _ => 2 - (intOf i).toNat)
  case atStart => exact ⟨0, Nat.zero_le _, rfl, hide (fun i hi => absurd hi (by omega)), hide (Below.refl _ _)⟩
  case round =>
    obtain ⟨k, hk, rfl, HK, HB⟩ := hrel
    by_cases hlt : k < 2
    · obtain ⟨bb, off, e2, _, hc1, hc2⟩ := ((unhide HIA).below (unhide HB)).at_ k hlt
      simp only [Option.some.injEq, Addr.mk.injEq, and_true] at e2
      obtain ⟨rfl, rfl⟩ := e2
      rw [Nat.zero_add] at hc1 hc2
      have HNk := HNO.out k hlt
      obtain ⟨p, hpk⟩ : ∃ p, fth L k = p := ⟨_, rfl⟩
      rw [hpk] at hc1 hc2 HNk
      have HFK := hide hpk
      clear hpk HNO
      obtain ⟨x, d⟩ := p
      simp only at hc1 hc2 HNk
      have HNO := hide HNk
      clear HNk
      obtain ⟨W1, hW1⟩ : ∃ W1, W1 = wr.alloc (.cells #[.int .i64 x, .int .i64 d] 32) := ⟨_, rfl⟩
      have hB1 : Below wr.heap.size wr W1 := by rw [hW1]; exact (Below.refl _ _).alloc (Nat.le_refl _) _
      have HX1 := hide (show W1.heap[wr.heap.size]? = some (.cells #[.int .i64 x, .int .i64 d] 32 (0, 0)) from by rw [hW1]; exact heap_new_ _ _)
      obtain ⟨x0, x1⟩ := two_at (unhide HX1)
      have HB1 := hide ((unhide HB).trans (hB1.mono (unhide HB).size))
      have HBw := hide ((unhide HBA).trans ((unhide HB1).mono (unhide HBA).size))
      have hW : wr.alloc (.cells #[.int .i64 x, .int .i64 d] 32) = W1 := hW1.symm
      clear hW1 hB1
      by_cases g1 : d < 1
      · have HF := hide (show plB x d = false from by
          unfold plB; rw [show allIn 1 1000000 [d] = false from by rw [allIn_1]; simp; omega]; rfl)
        have HZ := hide (show false = b from (HNO.out HF.out).symm)
        go_upto_region 4 with fail
        clear hW hc1 hc2
        go_quiet (fail)
        have HBq := hide (below_dN (unhide HBw) nq)
        go_wp2_with fail
        go_ret
        exact ⟨ret_bool HZ.out, unhide HBq⟩
      by_cases g2 : 1000000 < d
      · have HF := hide (show plB x d = false from by
          unfold plB; rw [show allIn 1 1000000 [d] = false from by rw [allIn_1]; simp; omega]; rfl)
        have HZ := hide (show false = b from (HNO.out HF.out).symm)
        go_upto_region 4 with fail
        clear hW hc1 hc2
        go_quiet (fail)
        have HBq := hide (below_dN (unhide HBw) nq)
        go_wp2_with fail
        go_ret
        exact ⟨ret_bool HZ.out, unhide HBq⟩
      by_cases g3 : x < 0
      · have HF := hide (show plB x d = false from by
          unfold plB; rw [show allIn 0 (30 * d) [x] = false from by rw [allIn_1]; simp; omega]; simp)
        have HZ := hide (show false = b from (HNO.out HF.out).symm)
        go_upto_region 4 with fail
        clear hW hc1 hc2
        go_quiet (fail)
        have HBq := hide (below_dN (unhide HBw) nq)
        go_wp2_with fail
        go_ret
        exact ⟨ret_bool HZ.out, unhide HBq⟩
      by_cases g4 : 30 * d < x
      · have HF := hide (show plB x d = false from by
          unfold plB; rw [show allIn 0 (30 * d) [x] = false from by rw [allIn_1]; simp; omega]; simp)
        have HZ := hide (show false = b from (HNO.out HF.out).symm)
        go_upto_region 4 with fail
        clear hW hc1 hc2
        go_quiet (fail)
        have HBq := hide (below_dN (unhide HBw) nq)
        go_wp2_with fail
        go_ret
        exact ⟨ret_bool HZ.out, unhide HBq⟩
      obtain ⟨n', m', hf⟩ := exists_fr (Rat.divInt x d)
      have HFr := hide hf
      have HLow := hide (fr_low (by omega) hf)
      have HPl := hide (show plB x d = decide (((n', m') : F) = (x, d)) from by
        unfold plB
        rw [show allIn 1 1000000 [d] = true from by rw [allIn_1]; simp; omega, show allIn 0 (30 * d) [x] = true from by rw [allIn_1]; simp; omega, Bool.true_and, Bool.true_and]
        exact decide_eq_decide.2 HLow.out.symm)
      clear hf
      have heq := neq32 n' m' x d
      obtain ⟨q, hq⟩ : ∃ q, decide (((n', m') : F) = (x, d)) = q := ⟨_, rfl⟩
      rw [hq] at heq
      have HPq := hide (HPl.out.trans hq)
      clear hq HPl HLow
      have k1 : decide (d < 1) = false := by simp; omega
      have k2 : decide (1000000 < d) = false := by simp; omega
      have k3 : decide (x < 0) = false := by simp; omega
      have hw30 : IntKind.i64.wrap (30 * d) = 30 * d := wrap_in' (by omega)
      have k4 : decide (IntKind.i64.wrap (30 * d) < x) = false := by rw [hw30]; simp; omega
      have HC := hide (fun W => RFrac_any x d W (by omega) (by omega) n' m' HFr)
      go_upto_region 4 with fail
      clear hW hc1 hc2
      go_cut [11, 44] from 11 to 45 (fun i z wx => i = .int .i64 k ∧ z = .bool (!q) ∧ Hid (Below W1.heap.size W1 wx))
      case first =>
        have HWd := hide (show Below W1.heap.size W1 W1.drew from (Below.refl _ _).drew)
        have HSS := hide (show ∀ W', Below W1.heap.size W1 W' → (W'.cell? ⟨wr.heap.size, 0, none⟩ = some (.int .i64 x) ∧ W'.cell? ⟨wr.heap.size, 1, none⟩ = some (.int .i64 d)) from fun W' hb' => two_at ((hb'.block _ (Array.getElem?_eq_some_iff.1 (unhide HX1)).1).trans (unhide HX1)))
        go_region_held3 (fun W' => (W'.cell? ⟨wr.heap.size, 0, none⟩ = some (.int .i64 x) ∧ W'.cell? ⟨wr.heap.size, 1, none⟩ = some (.int .i64 d))) (first | exact ⟨x0, x1⟩ | exact (unhide HSS) _ (unhide HWn)) (
          (go_at_call 38; refine ((unhide HC) _).mono ?_; rintro e wn ⟨rfl, bn⟩; have HWn := hide ((unhide HWd).trans (bn.mono (unhide HWd).size)); clear bn))
        all_goals (go_wp2_with fail; go_meet; exact ⟨rfl, rfl, HWn⟩)
      case rest =>
        obtain ⟨rfl, rfl, HBc⟩ := hcut
        have HBd := hide ((unhide HB1).trans ((unhide HBc).mono (unhide HB1).size))
        have HBe := hide ((unhide HBA).trans ((unhide HBd).mono (unhide HBA).size))
        cases q with
        | false =>
          have HZ := hide (show false = b from (HNO.out HPq.out).symm)
          go_wp2_with fail
          go_ret
          exact ⟨ret_bool HZ.out, unhide HBe⟩
        | true =>
          have HK1 := hide (show ∀ i, i < k + 1 → plB (fth L i).1 (fth L i).2 = true from fun i hi => by
            by_cases e : i = k
            · rw [e, HFK.out]; exact HPq.out
            · exact HK.out i (by omega))
          go_wp2_with fail
          go_roundw
          case rel => exact ⟨k + 1, by omega, by go_num, HK1, HBd⟩
          case measure => simp [intOf]; omega
    · have HZ := hide (HYES.out (fun i hi => HK.out i (by omega)))
      have HBz := hide ((unhide HBA).trans ((unhide HB).mono (unhide HBA).size))
      go_wp2_with fail
      go_ret
      exact ⟨ret_bool HZ.out, unhide HBz⟩
end Go.Proofs.Ytbgfiejaehpffaa
