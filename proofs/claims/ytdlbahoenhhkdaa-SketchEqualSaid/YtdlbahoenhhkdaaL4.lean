import Derived.Test.YtdlbahoenhhkdaaO3
/-
  The law SketchEqual walked.
-/
namespace Go.Proofs.Ytdlbahoenhhkdaa
open Go.RowKit

set_option maxRecDepth 100000 in
set_option maxHeartbeats 2000000 in
theorem LEqual_at (k n : Int) (K N M : Nat) (w : World) (hK : wrap64 (1 + wrap64 ((IntKind.u64.wrap k).tmod 8)) = K) (K1 : 1 ≤ K) (K2 : K ≤ 8) (hN : wrap64 ((IntKind.u64.wrap n).tmod 7) = N) (N2 : N ≤ 6)
    (hM : Hid (M = min K N)) (hM2 : (M : Int) ≤ 6)
    (hmin : ∀ W : World, (Builtin.min_ #[3, 3] 3 #[.int .i64 (K : Int), .int .i64 (N : Int)]).run Try.prog W = .ok (.int .i64 (M : Int)) W) :
    Calls Try.prog 14 #[.int .i64 k, .int .i64 n] w fun e w' => e = .returned (.bool true) ∧ Below w.heap.size w w' := by
  obtain ⟨Z, hZ1, hZ2, hmk⟩ := make_zeros N (by omega)
  have HZ1 := hide hZ1; clear hZ1
  have HZ2 := hide hZ2; clear hZ2
  obtain ⟨f1, f2⟩ := facI_bd N N2
  have HC : Hid (cntB (K : Int) = true) := by unfold Hid; simp [cntB]; omega
  have HS : Hid (isStr (iota N) = true) := iota_str N2
  have HI := hide (iota_len N)
  go_enter Try.func14, Try.ntmps14
  go_wp2
  rw [hK, hN]
  clear hK hN
  go_loopw [5, 6, 7, 29] (fun v a _ i wr => ∃ j : Nat, j ≤ N ∧ i = .int .i64 j ∧ a = .int .i64 (facI j) ∧ Owned wr w.heap.size v (iota j) ∧ Below w.heap.size w wr) (fun _ _ _ i _ => N - (intOf i).toNat)
  case atStart => exact ⟨0, Nat.zero_le _, rfl, rfl, World.ownsRow_nil _ _ _ _, Below.refl _ _⟩
  case round =>
    obtain ⟨j, hj, rfl, rfl, ho, hb⟩ := hrel
    by_cases hlt : j < N
    · obtain ⟨g1, g2⟩ := facI_bd j (by omega)
      obtain ⟨g3, g4⟩ := facI_bd (j + 1) (by omega)
      simp only [facI] at g3 g4
      have hll : (iota j).length ≤ 100000 := by rw [iota_len]; omega
      have hbase := hb.size
      go_wp2_with (at_builtin; refine wpList_app1 rfl _ _ rfl rfl rfl ho hll hbase ?_; intro v' w2 ho2 hb2)
      go_roundw
      case rel => exact ⟨j + 1, by omega, by go_num, rfl, ho2, hb.trans hb2⟩
      case measure => simp [intOf]; omega
    · obtain rfl : N = j := by omega
      obtain ⟨A5, c5, rfl, i5⟩ := ho.ints
      rw [HI.out] at i5 ⊢
      obtain ⟨w1, rfl⟩ : ∃ w1 : World, w1 = wr := ⟨_, rfl⟩
      clear ho
      have oz : Owned (w1.alloc (.cells Z 3)) w1.heap.size (.slice (some ⟨w1.heap.size, 0, none⟩) N N) (total K N 0) := by
        rw [zeros_total]
        exact owned_zeros (Nat.le_refl _) (by omega) HZ1.out HZ2.out
      go_wp2
      go_loopw [9, 10, 11, 12, 13, 14, 16, 44] (fun _ _ _ _ _ _ _ i wa => ∃ a : Nat, a ≤ facN N ∧ i = .int .i64 a ∧ Owned wa w1.heap.size (.slice (some ⟨w1.heap.size, 0, none⟩) N N) (total K N a) ∧ Below w1.heap.size w1 wa ∧ w1.heap.size < wa.heap.size) (fun _ _ _ _ _ _ _ i _ => facN N - (intOf i).toNat)
      case atStart => exact ⟨0, Nat.zero_le _, rfl, oz, (Below.refl _ _).alloc (Nat.le_refl _) _, by simp⟩
      case round =>
        obtain ⟨wa, rfl⟩ : ∃ wa : World, wa = wr := ⟨_, rfl⟩
        obtain ⟨a, ha, rfl, hoa, hba, hsa⟩ := hrel
        clear oz hmk
        have hfa := facI_eq N
        have hfn := facN_bd N N2
        by_cases hlt2 : (a : Int) < facI N
        · have ha720 : a ≤ 720 := by omega
          have halt : a < facN N := by omega
          clear hfa hfn
          go_wp2
          go_loopw [10, 11, 12, 49] (fun v x _ i wd => ∃ j : Nat, j ≤ N ∧ i = .int .i64 j ∧ x = .int .i64 (dig (a : Int) j) ∧ Owned wd wa.heap.size v (dice (a : Int) j) ∧ Below wa.heap.size wa wd) (fun _ _ _ i _ => N - (intOf i).toNat)
          case atStart => exact ⟨0, Nat.zero_le _, rfl, rfl, World.ownsRow_nil _ _ _ _, Below.refl _ _⟩
          case round =>
            obtain ⟨j, hj, rfl, rfl, hod, hbd⟩ := hrel
            by_cases hlt3 : j < N
            · have d1 := dig_nonneg (a : Int) (by omega) j
              have d2 := dig_le (a : Int) (by omega) j
              have hll : (dice (a : Int) j).length ≤ 100000 := by rw [dice_len]; omega
              have hbase := hbd.size
              have d3 := Int.emod_nonneg (dig (a : Int) j) (show ((j : Int) + 1) ≠ 0 by omega)
              have d4 := Int.emod_lt_of_pos (dig (a : Int) j) (show 0 < (j : Int) + 1 by omega)
              have d5 := Int.ediv_nonneg d1 (show 0 ≤ (j : Int) + 1 by omega)
              have d6 := Int.ediv_le_self (a := dig (a : Int) j) ((j : Int) + 1) d1
              go_wp2_with (at_builtin; refine wpList_app1 rfl _ _ rfl rfl rfl hod hll hbase ?_; intro v' w2 ho2 hb2)
              go_roundw
              case rel => exact ⟨j + 1, by omega, by go_num, rfl, ho2, hbd.trans hb2⟩
              case measure => simp [intOf]; omega
            · obtain rfl : N = j := by omega
              obtain ⟨w2, rfl⟩ : ∃ w2 : World, w2 = wr := ⟨_, rfl⟩
              have hb2 := hba.trans (hbd.mono hba.size)
              have h2s := hb2.size
              have HD : Hid (diceB (dice (a : Int) N) (iota N).length = true) := dice_ok N2 _
              have HDL := hide (dice_len (a : Int) N)
              obtain ⟨A10, c10, rfl, i10⟩ := hod.ints
              rw [HDL.out] at i10 ⊢
              have hka := hoa.below hbd (Nat.le_refl _)
              clear hod
              go_wp2_with fail
              refine (clone_any _ _ _ _ _ _ (i5.below hb2) (by omega) h2s).mono ?_
              rintro e w3 ⟨v3, rfl, o3, b3⟩
              obtain ⟨A3, c3, rfl, i3⟩ := o3.ints
              rw [HI.out] at i3 ⊢
              go_wp2_with fail
              refine (Keep_ok _ _ _ _ _ _ _ _ _ _ i3 ((i10.below b3).more b3.size) HC HS HD).mono ?_
              rintro e w4 ⟨v4, rfl, o4, b4⟩
              have hlk : (keep K (iota N) (dice (a : Int) N)).length = M := by rw [hM.out]; exact keepA_len K N a
              have HLK := hide hlk; clear hlk
              have hb4 := b3.trans (b4.mono b3.size)
              have hka4 := (hka.below hb4 (Nat.le_refl _))
              have hba4 := hb2.trans (hb4.mono h2s)
              have h4s : w1.heap.size < w4.heap.size := by have := hbd.size; have := hb4.size; omega
              have h3s : w1.heap.size < w3.heap.size := by have := hbd.size; have := b3.size; omega
              obtain ⟨A4, c4, rfl, i4⟩ := o4.ints
              have o4' : Owned w4 w3.heap.size (.slice A4 M c4) (keepA K N a) := by
                have := o4
                rw [HLK.out] at this
                exact this
              rw [HLK.out] at ⊢
              clear o4 i4 o3 i3 i10 hka b3 b4
              have e1 : (((M : Int)) != (M : Int)) = false := by simp
              go_wp2
              have hMl : (keepA K N a).length = M := HLK.out
              have HML := hide hMl; clear hMl
              go_loopw [16, 84] (fun _ i wi => ∃ m : Nat, m ≤ M ∧ i = .int .i64 m ∧ Owned wi w1.heap.size (.slice (some ⟨w1.heap.size, 0, none⟩) N N) (addTo (total K N a) (keepA K N a) m) ∧ Owned wi w3.heap.size (.slice A4 M c4) (keepA K N a) ∧ Below w1.heap.size w1 wi ∧ w1.heap.size < wi.heap.size) (fun _ i _ => M - (intOf i).toNat)
              case atStart => exact ⟨0, Nat.zero_le _, rfl, hka4, o4', hba4, h4s⟩
              case round =>
                obtain ⟨m, hm, rfl, hoi, hli, hbi, hsi⟩ := hrel
                by_cases hlt4 : m < M
                · obtain ⟨g, rfl, g1, g2, _, g4, g5, hcell⟩ := hli.open_ (by omega)
                  obtain ⟨c1, c2, _⟩ := hcell m hlt4
                  obtain ⟨q1, q2⟩ := keepA_bd K N a m (by rw [HML.out]; exact hlt4)
                  obtain ⟨p, hp⟩ : ∃ p : Nat, nth (keepA K N a) m = p := ⟨(nth (keepA K N a) m).toNat, by omega⟩
                  rw [hp] at q1 q2 c1
                  have hp0 : (nth (keepA K N a) m).toNat = p := by omega
                  have hset : addTo (total K N a) (keepA K N a) (m + 1) = (addTo (total K N a) (keepA K N a) m).set p (nth (addTo (total K N a) (keepA K N a) m) p + 1) := by
                    rw [addTo, addKey, hp0]
                  have HSET := hide hset; clear hset
                  clear hp0 hp
                  obtain ⟨b1, b2⟩ := addTo_bd K N a p m N2 ha720 (by rw [HML.out]; exact hm)
                  obtain ⟨g', hg', _, _, _, _, _, hcell'⟩ := hoi.open_ (by omega)
                  cases hg'
                  obtain ⟨c1', c2', c3'⟩ := hcell' p (by omega)
                  have C3 := hide c3'; clear c3' hcell' hcell
                  go_wp2
                  go_roundw
                  case rel => exact ⟨m + 1, by omega, by go_num, by rw [HSET.out]; exact C3.out _, hli.far (by simpa using h3s) _, hbi.setCell (by simp) _, by simpa [World.setCell] using hsi⟩
                  case measure => simp [intOf]; omega
                · obtain rfl : M = m := by omega
                  have hnext : addTo (total K N a) (keepA K N a) M = total K N (a + 1) := by rw [total, HML.out]
                  rw [hnext] at hoi
                  clear hnext
                  go_wp2
                  go_roundw
                  case rel => exact ⟨a + 1, by omega, by go_num, hoi, hbi, hsi⟩
                  case measure => simp [intOf]; omega
        · have hae : a = facN N := by omega
          rw [hae] at hoa
          have HTL := hide (total_len K N (facN N))
          have hx2 : ¬ (a : Int) < facI N := hlt2
          clear hae hfa hfn hlt2
          go_wp2
          go_loopw [18, 105] (fun _ i wi => ∃ m : Nat, m ≤ N ∧ i = .int .i64 m ∧ wa = wi) (fun _ i _ => N - (intOf i).toNat)
          case atStart => exact ⟨0, Nat.zero_le _, rfl, rfl⟩
          case round =>
            obtain ⟨m, hm, rfl, rfl⟩ := hrel
            by_cases hlt5 : m < N
            · obtain ⟨g', hg', _, _, _, _, _, hcell'⟩ := hoa.open_ (by omega)
              cases hg'
              obtain ⟨c1, c2, _⟩ := hcell' m hlt5
              clear hcell'
              have hq := total_ok K1 K2 N2 hlt5
              have hMM := hM.out
              rw [← hMM] at hq
              obtain ⟨p1, p2⟩ := total_bd K N (facN N) m N2 (facN_bd N N2).2
              obtain ⟨p3, p4⟩ := mul_bd (nth (total K N (facN N)) m) N p1 (by omega) N2
              have p5 : 0 ≤ facI N * (M : Int) ∧ facI N * (M : Int) ≤ 30000 := mul_bd (facI N) M (by omega) (by omega) (by omega)
              obtain ⟨p5, p6⟩ := p5
              have hne : (nth (total K N (facN N)) m * (N : Int) != facI N * (M : Int)) = false := by simp [hq]
              clear hq hMM
              go_wp2
              go_roundw
              case rel => exact ⟨m + 1, by omega, by go_num, trivial⟩
              case measure => simp [intOf]; omega
            · have hb5 := hb.trans (hba.mono hb.size)
              go_wp2_with (go_at_call 21; refine (awake_any _).mono ?_; rintro e w6 ⟨rfl, b6⟩)
              go_ret
              exact ⟨rfl, hb5.trans (b6.mono hb5.size)⟩

theorem LEqual_any (k n : Int) (w : World) : Calls Try.prog 14 #[.int .i64 k, .int .i64 n] w fun e w' => e = .returned (.bool true) ∧ Below w.heap.size w w' := by
  obtain ⟨K, hK, K1, K2⟩ := pick_k k
  obtain ⟨N, hN, N2⟩ := pick_n n
  refine LEqual_at k n K N (min K N) w hK K1 K2 hN N2 (hide rfl) (by omega) fun W => ?_
  rw [run_min_int2 (P := Try.prog)]
  congr 2
  split <;> omega
end Go.Proofs.Ytdlbahoenhhkdaa
