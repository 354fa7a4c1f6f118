import Derived.Test.YtdlbahoenhhkdaaC6
/-
  Merge of the reference.
-/
namespace Go.Proofs.Ytdlbahoenhhkdaa
open Go.RowKit Go.Sort

theorem info84 : (Try.prog.info? 84).map (·.size) = some 16 := by kernel_rfl
theorem info84' (f : Nat → Int) : (Try.prog.info? 84).map (·.size) = some (tarr f).size := by rw [tarr_size]; exact info84
theorem run_index_tarr84 (f : Nat → Int) (k : Nat) (hk : k < 16) (w : World) : (Instr.index 84 (.agg (tarr f)) (.int .i64 (k : Int))).run Try.prog w = .ok (.int .i64 (f k)) w := by
  have h1 : (k : Int) < 16 := by omega
  have hp : (part 3 (tarr f) k).run Try.prog w = .ok (.int .i64 (f k)) w := run_part_plain w plain3 (tarr_at f k hk)
  simp [Instr.index, run_underlying Try.underlying84, asIntOf, h1, Try.sizeOf3, hp]
  omega
/-- What is counted once k of the two lists are. -/
def sofar (xs ys : List G) (k : Nat) : Nat → Int := if k = 0 then fun _ => 0 else if k = 1 then kF xs else kF (xs ++ ys)

set_option maxRecDepth 100000 in
set_option maxHeartbeats 4000000 in
theorem RMerge_any (A A' : Option Addr) (n c n' c' : Nat) (xs ys : List G) (K : Nat) (w : World) (h : Gs w w.heap.size A n c xs) (h' : Gs w w.heap.size A' n' c' ys) (H1 : Hid (cntB (K : Int) = true)) (H2 : Hid (lstOk (K : Int) xs = true)) (H3 : Hid (lstOk (K : Int) ys = true)) :
    Calls Try.prog 34 #[.int .i64 (K : Int), .slice A n c, .slice A' n' c'] w fun e w' => ∃ v, e = .returned v ∧ OwnedG w' w.heap.size 34 v (mergeTo (kF (xs ++ ys)) (lessTo (kF (xs ++ ys)) K 80) 16) ∧ Below w.heap.size w w' := by
  have hl := hide h.len; have hl' := hide h'.len
  obtain ⟨k1, k2⟩ := cntB_bd H1.out
  have hx : lstB xs = true ∧ n ≤ K := by have := H2.out; simp only [lstOk, Bool.and_eq_true, decide_eq_true_eq] at this; rw [hl.out] at this; exact ⟨this.2, by have := this.1; omega⟩
  have hy : lstB ys = true ∧ n' ≤ K := by have := H3.out; simp only [lstOk, Bool.and_eq_true, decide_eq_true_eq] at this; rw [hl'.out] at this; exact ⟨this.2, by have := this.1; omega⟩
  obtain ⟨hx1, hx2⟩ := hx
  obtain ⟨hy1, hy2⟩ := hy
  have HF := hide (fun j : Nat => show 0 ≤ kF (xs ++ ys) j ∧ kF (xs ++ ys) j ≤ 80 from by rw [kF_app]; have := kF_bd hx1 j; have := kF_bd hy1 j; omega)
  have hx1 := hide hx1; have hy1 := hide hy1
  have hz0 := hide zeros_eq
  go_enter Try.func34, Try.ntmps34
  go_wp2
  rw [hz0.out]
  have hb0 : Below w.heap.size w ((w.alloc (.cells (tarr fun _ => 0) 84)).alloc (.cells #[.slice A n c, .slice A' n' c'] 32)) := ((Below.refl _ _).alloc (Nat.le_refl _) _).alloc (by simp) _
  have b70 : Blk ((w.alloc (.cells (tarr fun _ => 0) 84)).alloc (.cells #[.slice A n c, .slice A' n' c'] 32)) w.heap.size 84 (tarr (sofar xs ys 0)) := (Blk.new _ _ _).alloc _
  have b90 : Blk ((w.alloc (.cells (tarr fun _ => 0) 84)).alloc (.cells #[.slice A n c, .slice A' n' c'] 32)) (w.heap.size + 1) 32 #[.slice A n c, .slice A' n' c'] := by
    have := Blk.new (w.alloc (.cells (tarr fun _ => 0) 84)) 32 #[.slice A n c, .slice A' n' c']
    simpa using this
  go_loopw [9, 11, 24] (fun _ _ i wr => ∃ k : Nat, k ≤ 2 ∧ i = .int .i64 k ∧ Blk wr w.heap.size 84 (tarr (sofar xs ys k)) ∧ Blk wr (w.heap.size + 1) 32 #[.slice A n c, .slice A' n' c'] ∧ Below w.heap.size w wr) (fun _ _ i _ => 2 - (intOf i).toNat)
  case atStart => exact ⟨0, by omega, rfl, b70, b90, hb0⟩
  case round =>
    obtain ⟨wo, rfl⟩ : ∃ wo : World, wo = wr := ⟨_, rfl⟩
    obtain ⟨k, hk, rfl, b7, b9, hb⟩ := hrel
    clear b70 b90
    have c90 := b9.cell 0
    have c91 := b9.cell 1
    have c90' : wo.cell? ⟨w.heap.size + 1, 0, none⟩ = some (.slice A n c) := c90
    have c91' : wo.cell? ⟨w.heap.size + 1, 1, none⟩ = some (.slice A' n' c') := c91
    clear c90 c91
    by_cases hlt : k < 2
    · have hk2 : k = 0 ∨ k = 1 := by omega
      rcases hk2 with rfl | rfl
      · have hlen : True := trivial
        have b7 : Blk wo w.heap.size 84 (tarr fun _ => 0) := b7
        have HP := hide (show ∀ key : Nat, 0 ≤ (fun _ : Nat => (0 : Int)) key ∧ (fun _ : Nat => (0 : Int)) key ≤ 40 from by intro key; simp)
        have hi := (h.below hb)
        have HLs := hide hl.out
        clear hb0
        go_wp2
        go_loopw [11, 30] (fun _ i wr => ∃ j : Nat, j ≤ n ∧ i = .int .i64 j ∧ Blk wr w.heap.size 84 (tarr fun key => (fun _ : Nat => (0 : Int)) key + kS xs key j) ∧ Blk wr (w.heap.size + 1) 32 #[.slice A n c, .slice A' n' c'] ∧ Below w.heap.size w wr) (fun _ i _ => n - (intOf i).toNat)
        case atStart => exact ⟨0, Nat.zero_le _, rfl, by simpa [kS] using b7, b9, hb⟩
        case round =>
          obtain ⟨j, hj, rfl, bj, bk, hbj⟩ := hrel
          clear b7 b9 hi
          by_cases hlt : j < n
          · have hjl : j < xs.length := by rw [hl.out]; exact hlt
            obtain ⟨b, off, rfl, hbb, e1, e2, e3⟩ := (h.below hbj).at_ j hlt
            obtain ⟨q1, q2, q3, q4⟩ := lst_all hx1.out j hjl
            obtain ⟨p1, p2⟩ := kS_le (fun i hi => ⟨(lst_all hx1.out i hi).2.2.1, (lst_all hx1.out i hi).2.2.2⟩) (gth xs j).1.toNat j (by omega)
            have hkS : ∀ key : Nat, kS xs key (j + 1) = kS xs key j + if (gth xs j).1 = key then (gth xs j).2.1 else 0 := fun _ => rfl
            have HKS := hide hkS; clear hkS
            revert HKS
            obtain ⟨⟨f, d, m⟩, hgk⟩ : ∃ q, gth xs j = q := ⟨_, rfl⟩
            rw [hgk] at e1 e2 e3 q1 q2 q3 q4 p1 p2 ⊢
            simp only at e1 e2 e3 q1 q2 q3 q4 p1 p2 ⊢
            clear hgk
            intro HKS
            obtain ⟨x, rfl⟩ : ∃ x : Nat, f = x := ⟨f.toNat, by omega⟩
            rw [Int.toNat_natCast] at p1 p2
            have hpx : 0 ≤ (0 : Int) ∧ (0 : Int) ≤ 40 := HP.out x
            obtain ⟨s, hs⟩ : ∃ s : Int, (0 : Int) + kS xs x j = s := ⟨_, rfl⟩
            have hs1 : 0 ≤ s := by omega
            have hs2 : s ≤ 1000 := by omega
            have c1 : (wr.alloc (.cells #[.int .i64 (x : Int), .int .i64 d, .int .i64 m] 34)).cell? ⟨w.heap.size, x, none⟩ = some (.int .i64 s) := by
              have hc := (bj.alloc (.cells #[.int .i64 (x : Int), .int .i64 d, .int .i64 m] 34)).cell x
              rw [tarr_at _ _ (by omega)] at hc
              rw [← hs]
              exact hc
            have c2 := (bj.alloc (.cells #[.int .i64 (x : Int), .int .i64 d, .int .i64 m] 34)).frozen x
            have hne : ¬ wr.heap.size = w.heap.size := by have := bj.lt; omega
            have hne2 : ¬ w.heap.size = wr.heap.size := by have := bj.lt; omega
            have HE := hide (tarr_set (fun key => (fun _ : Nat => (0 : Int)) key + kS xs key j) (fun key => (fun _ : Nat => (0 : Int)) key + kS xs key (j + 1)) x (s + d) (by omega) (by rw [← hs]; simp [HKS.out]; try omega) (by
              intro i hi
              have : ¬ (x : Int) = (i : Int) := by omega
              simp [HKS.out, this]))
            have HBJ := hide bj; have HBK := hide bk; clear bj bk hs hpx p1 p2
            have hx15 : (x : Int) < 16 := by omega
            go_wp2
            go_region
            go_wp2
            go_roundw
            case rel =>
              refine ⟨j + 1, by omega, by go_num, ?_, ?_, ?_⟩
              · rw [← HE.out]
                exact ((HBJ.out.alloc _).set_ _ _).drewN 1
              · exact ((HBK.out.alloc _).far (by show w.heap.size + 1 ≠ w.heap.size; omega) _).drewN 1
              · exact Below.drewN' ((hbj.alloc hbj.size _).setCell (by simp) _) 1
            case measure => simp [intOf]; omega
          · obtain rfl : n = j := by omega
            have bn : Blk wr w.heap.size 84 (tarr (kF xs)) := by
              have e : (fun key => (fun _ : Nat => (0 : Int)) key + kS xs key n) = kF xs := by funext key; rw [← hl.out]; simp [kF]
              rw [e] at bj
              exact bj
            clear bj
            go_wp2
            go_roundw
            case rel => exact ⟨1, by omega, by go_num, bn, bk, hbj⟩
            case measure => simp [intOf]
      · have hlen : True := trivial
        have b7 : Blk wo w.heap.size 84 (tarr (kF xs)) := b7
        have HP := hide (show ∀ key : Nat, 0 ≤ (kF xs) key ∧ (kF xs) key ≤ 40 from fun key => by have := kF_bd hx1.out key; omega)
        have hi := (h'.below hb)
        have HLs := hide hl'.out
        clear hb0
        go_wp2
        go_loopw [11, 30] (fun _ i wr => ∃ j : Nat, j ≤ n' ∧ i = .int .i64 j ∧ Blk wr w.heap.size 84 (tarr fun key => (kF xs) key + kS ys key j) ∧ Blk wr (w.heap.size + 1) 32 #[.slice A n c, .slice A' n' c'] ∧ Below w.heap.size w wr) (fun _ i _ => n' - (intOf i).toNat)
        case atStart => exact ⟨0, Nat.zero_le _, rfl, by simpa [kS] using b7, b9, hb⟩
        case round =>
          obtain ⟨j, hj, rfl, bj, bk, hbj⟩ := hrel
          clear b7 b9 hi
          by_cases hlt : j < n'
          · have hjl : j < ys.length := by rw [hl'.out]; exact hlt
            obtain ⟨b, off, rfl, hbb, e1, e2, e3⟩ := (h'.below hbj).at_ j hlt
            obtain ⟨q1, q2, q3, q4⟩ := lst_all hy1.out j hjl
            obtain ⟨p1, p2⟩ := kS_le (fun i hi => ⟨(lst_all hy1.out i hi).2.2.1, (lst_all hy1.out i hi).2.2.2⟩) (gth ys j).1.toNat j (by omega)
            have hkS : ∀ key : Nat, kS ys key (j + 1) = kS ys key j + if (gth ys j).1 = key then (gth ys j).2.1 else 0 := fun _ => rfl
            have HKS := hide hkS; clear hkS
            revert HKS
            obtain ⟨⟨f, d, m⟩, hgk⟩ : ∃ q, gth ys j = q := ⟨_, rfl⟩
            rw [hgk] at e1 e2 e3 q1 q2 q3 q4 p1 p2 ⊢
            simp only at e1 e2 e3 q1 q2 q3 q4 p1 p2 ⊢
            clear hgk
            intro HKS
            obtain ⟨x, rfl⟩ : ∃ x : Nat, f = x := ⟨f.toNat, by omega⟩
            rw [Int.toNat_natCast] at p1 p2
            have hpx : 0 ≤ kF xs x ∧ kF xs x ≤ 40 := HP.out x
            obtain ⟨s, hs⟩ : ∃ s : Int, kF xs x + kS ys x j = s := ⟨_, rfl⟩
            have hs1 : 0 ≤ s := by omega
            have hs2 : s ≤ 1000 := by omega
            have c1 : (wr.alloc (.cells #[.int .i64 (x : Int), .int .i64 d, .int .i64 m] 34)).cell? ⟨w.heap.size, x, none⟩ = some (.int .i64 s) := by
              have hc := (bj.alloc (.cells #[.int .i64 (x : Int), .int .i64 d, .int .i64 m] 34)).cell x
              rw [tarr_at _ _ (by omega)] at hc
              rw [← hs]
              exact hc
            have c2 := (bj.alloc (.cells #[.int .i64 (x : Int), .int .i64 d, .int .i64 m] 34)).frozen x
            have hne : ¬ wr.heap.size = w.heap.size := by have := bj.lt; omega
            have hne2 : ¬ w.heap.size = wr.heap.size := by have := bj.lt; omega
            have HE := hide (tarr_set (fun key => (kF xs) key + kS ys key j) (fun key => (kF xs) key + kS ys key (j + 1)) x (s + d) (by omega) (by rw [← hs]; simp [HKS.out]; try omega) (by
              intro i hi
              have : ¬ (x : Int) = (i : Int) := by omega
              simp [HKS.out, this]))
            have HBJ := hide bj; have HBK := hide bk; clear bj bk hs hpx p1 p2
            have hx15 : (x : Int) < 16 := by omega
            go_wp2
            go_region
            go_wp2
            go_roundw
            case rel =>
              refine ⟨j + 1, by omega, by go_num, ?_, ?_, ?_⟩
              · rw [← HE.out]
                exact ((HBJ.out.alloc _).set_ _ _).drewN 1
              · exact ((HBK.out.alloc _).far (by show w.heap.size + 1 ≠ w.heap.size; omega) _).drewN 1
              · exact Below.drewN' ((hbj.alloc hbj.size _).setCell (by simp) _) 1
            case measure => simp [intOf]; omega
          · obtain rfl : n' = j := by omega
            have bn : Blk wr w.heap.size 84 (tarr (kF (xs ++ ys))) := by
              have e : (fun key => (kF xs) key + kS ys key n') = kF (xs ++ ys) := by funext key; rw [← hl'.out]; rw [kF_app]; rfl
              rw [e] at bj
              exact bj
            clear bj
            go_wp2
            go_roundw
            case rel => exact ⟨2, by omega, by go_num, bn, bk, hbj⟩
            case measure => simp [intOf]
    · obtain rfl : k = 2 := by omega
      rw [show ((2 : Nat) : Int) = 2 from rfl]
      have b7 : Blk wo w.heap.size 84 (tarr (kF (xs ++ ys))) := b7
      obtain ⟨F, hF⟩ : ∃ F, kF (xs ++ ys) = F := ⟨_, rfl⟩
      rw [hF] at b7 HF
      have HFF := hide hF; clear hF
      have H84 := hide (info84' F)
      clear c90' c91' b9 hb0
      go_wp2
      go_loopw [12, 13, 14, 16, 48, 49] (fun a i _ _ _ _ wr => ∃ j : Nat, j ≤ 80 ∧ i = .int .i64 ((j : Int) + 1) ∧ a = .int .i64 (lessTo F K j) ∧ wo = wr) (fun _ i _ _ _ _ _ => 81 - (intOf i).toNat)
      case atStart => exact ⟨0, by omega, rfl, rfl, rfl⟩
      case round =>
        obtain ⟨j, hj, rfl, rfl, rfl⟩ := hrel
        have hlb : 0 ≤ lessTo F K j ∧ lessTo F K j ≤ 80 := by
          have : ∀ j : Nat, j ≤ 80 → 0 ≤ lessTo F K j ∧ lessTo F K j ≤ j := by
            intro j; induction j with
            | zero => intro _; simp [lessTo]
            | succ j ih => intro h; have := ih (by omega); simp only [lessTo]; split <;> omega
          have := this j hj; omega
        obtain ⟨hlb1, hlb2⟩ := hlb
        by_cases hlt8 : j < 80
        · have hlj : (j : Int) + 1 ≤ 80 := by omega
          go_wp2_with (refine wpList_load_row rfl 84 _ rfl w.heap.size rfl 84 (tarr F) (0, 0) _ b7 Try.underlying84 rfl H84.out ?_)
          go_loopw [14, 16, 49] (fun a _ i wr => ∃ x : Nat, x ≤ 16 ∧ i = .int .i64 x ∧ a = .int .i64 (many F ((j : Int) + 1) x) ∧ wo = wr) (fun _ _ i _ => 16 - (intOf i).toNat)
          case atStart => exact ⟨0, by omega, rfl, rfl, rfl⟩
          case round =>
            obtain ⟨x, hx, rfl, rfl, rfl⟩ := hrel
            obtain ⟨m1, m2⟩ := many_bd F ((j : Int) + 1) x
            have HM := hide (show many F ((j : Int) + 1) (x + 1) = many F ((j : Int) + 1) x + if (j : Int) + 1 ≤ F x then 1 else 0 from rfl)
            by_cases hlx : x < 16
            · have hix := fun W => run_index_tarr84 F x hlx W
              by_cases hge : (j : Int) + 1 ≤ F x
              · go_wp2
                go_roundw
                case rel => exact ⟨x + 1, by omega, by go_num, by rw [HM.out, if_pos hge], trivial⟩
                case measure => simp [intOf]; omega
              · have hge' : decide ((j : Int) + 1 ≤ F x) = false := by simpa using hge
                go_wp2
                go_roundw
                case rel => exact ⟨x + 1, by omega, by go_num, by rw [HM.out, if_neg hge]; simp, trivial⟩
                case measure => simp [intOf]; omega
            · obtain rfl : x = 16 := by omega
              have HLT := hide (show lessTo F K (j + 1) = if (K : Int) < many F ((j : Int) + 1) 16 then (j : Int) + 1 else lessTo F K j from rfl)
              by_cases hmk : (K : Int) < many F ((j : Int) + 1) 16
              · go_wp2
                go_roundw
                case rel => exact ⟨j + 1, by omega, by go_num, by rw [HLT.out, if_pos hmk], trivial⟩
                case measure => simp [intOf]; omega
              · have hmk' : decide ((K : Int) < many F ((j : Int) + 1) 16) = false := by simpa using hmk
                go_wp2
                go_roundw
                case rel => exact ⟨j + 1, by omega, by go_num, by rw [HLT.out, if_neg hmk], trivial⟩
                case measure => simp [intOf]; omega
        · obtain rfl : j = 80 := by omega
          obtain ⟨L, hL⟩ : ∃ L, lessTo F K 80 = L := ⟨_, rfl⟩
          rw [hL] at hlb1 hlb2 ⊢
          have HL := hide hL; clear hL
          go_wp2_with (refine wpList_load_row rfl 84 _ rfl w.heap.size rfl 84 (tarr F) (0, 0) _ b7 Try.underlying84 rfl H84.out ?_)
          go_loopw [17, 18, 19, 63] (fun v _ _ i wr => ∃ j : Nat, j ≤ 16 ∧ i = .int .i64 j ∧ OwnedG wr w.heap.size 34 v (mergeTo F L j) ∧ Below w.heap.size w wr) (fun _ _ _ i _ => 16 - (intOf i).toNat)
          case atStart => exact ⟨0, by omega, rfl, World.ownsRow_nil _ _ _ _, hb⟩
          case round =>
            obtain ⟨j, hj, rfl, ho, hb⟩ := hrel
            by_cases hlt : j < 16
            · have hix := fun W => run_index_tarr84 F j hlt W
              obtain ⟨f1, f2⟩ := HF.out j
              have HS := hide (show mergeTo F L (j + 1) = mergeTo F L j ++ if L < F j then [((j : Int), F j - L, 0)] else [] from rfl)
              have hll : (mergeTo F L j).length ≤ 1000000 := by have := mergeTo_len F L j; omega
              have hbs := hb.size
              by_cases hgt : L < F j
              · go_wp2_with (at_builtin; refine wpList_appG (by rfl) _ _ 32 34 (by rfl) Try.underlying32 info34 (by rfl) (by rfl) ho hll hbs ?_; intro v1 w5 ho1 hb1 _)
                go_roundw
                case rel => exact ⟨j + 1, by omega, by go_num, by rw [HS.out, if_pos hgt]; exact ho1, hb.trans hb1⟩
                case measure => simp [intOf]; omega
              · go_wp2
                go_roundw
                case rel => exact ⟨j + 1, by omega, by go_num, by rw [HS.out, if_neg hgt, List.append_nil]; exact ho, hb⟩
                case measure => simp [intOf]; omega
            · obtain rfl : j = 16 := by omega
              go_wp2
              go_ret
              exact ⟨_, rfl, by rw [HFF.out, HL.out]; exact ho, hb⟩
end Go.Proofs.Ytdlbahoenhhkdaa
