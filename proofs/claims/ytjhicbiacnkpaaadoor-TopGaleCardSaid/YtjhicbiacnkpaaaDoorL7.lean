/-
  The law TopGale.
-/
import Derived.Test.YtjhicbiacnkpaaaDoorX5
import Derived.Test.YtjhicbiacnkpaaaDoorWh
namespace Go.Proofs.YtjhicbiacnkpaaaDoor
open Go.RowKit

theorem clues_puz {m : Nat} (h1 : 1 ≤ m) (h2 : m ≤ 5) {xs : List Int} (hx1 : 1 ≤ xs.length) (hx5 : xs.length ≤ 5) (h : ars m xs = true) : puzB (rowsP xs) (colsP m xs) = true := by
  have hl1 : (rowsP xs).length = xs.length := by simp [rowsP]
  have hl2 : (colsP m xs).length = m := by simp [colsP]
  have hzm : sz (m : Int) = true := sz_iff.2 ⟨by omega, by omega⟩
  have hzn : sz (xs.length : Int) = true := sz_iff.2 ⟨by omega, by omega⟩
  unfold puzB acB
  rw [hl1, hl2, hzm, hzn, Bool.true_and, Bool.true_and, Bool.and_eq_true, List.all_eq_true, List.all_eq_true]
  refine ⟨fun r hr => ?_, fun c hc => ?_⟩
  · unfold rowsP at hr
    rw [List.mem_map] at hr
    obtain ⟨z, hz, rfl⟩ := hr
    obtain ⟨k, hk, rfl⟩ := List.mem_iff_getElem.1 hz
    obtain ⟨y, e, hy⟩ := ars_at h1 h2 h hk
    have e2 : xs[k] = (y : Int) := by rw [← e]; simp [nth, List.getD, hk]
    unfold clB
    rw [hzm, Bool.true_and, blI, e2]
    exact bl_cl m (by omega) y hy
  · unfold colsP at hc
    rw [List.mem_map] at hc
    obtain ⟨j, _, rfl⟩ := hc
    unfold clB
    rw [hzn, Bool.true_and]
    exact bl_cl xs.length (by omega) _ (colT_lt xs j _)
/-- How long a slice is. -/
def slen : Value → Nat
  | .slice _ n _ => n
  | _ => 0

set_option maxRecDepth 100000 in
set_option maxHeartbeats 1000000 in
theorem LGale_no (x : Int) (A : Option Addr) (n c : Nat) (xs : List Int) (w : World) (i0 : Ints w w.heap.size A n c xs) (ht : Tab w) (HP : Hid (picB x xs = false)) (HP8 : Hid (picB x (xs.take 8) = false)) :
    Calls Tryd.prog 17 #[.int .i64 x, .slice A n c] w fun e w' => e = .returned (.bool true) ∧ Below w.heap.size w w' := by
  have hm := i0.most; have hcap := i0.cap
  have HL := hide i0.len
  replace i0 := hide i0
  have HB := hide (Below.refl w.heap.size w)
  have HT := hide ht
  clear ht
  by_cases h1 : n ≤ 8
  · have HX := hide (show xs.take 8 = xs from List.take_of_length_le (by have := HL.out; omega))
    rw [HX.out] at HP8
    have hmin : min (n : Int) 8 = (n : Int) := by omega
    go_enter Tryd.func17, Tryd.ntmps17
    go_wp2_with fail
    refine (clone_any _ _ _ _ _ _ (unhide i0) (by omega) (Nat.le_refl _)).mono ?_
    rintro e w1 ⟨v2, rfl, o2, b1⟩
    replace i0 := hide ((unhide i0).on b1)
    obtain ⟨A2, n2, c2, rfl, i2⟩ := o2.to
    replace i2 := hide i2
    replace HB := hide ((unhide HB).trans (b1.mono (unhide HB).size))
    replace HT := hide ((unhide HT).on b1)
    clear b1
    go_wp2_with fail
    refine (Clues_no x _ _ _ _ _ (unhide i2) HP8).mono ?_
    rintro e w2 ⟨rfl, b2⟩
    replace i0 := hide ((unhide i0).on b2)
    replace i2 := hide ((unhide i2).on b2)
    replace HB := hide ((unhide HB).trans (b2.mono (unhide HB).size))
    replace HT := hide ((unhide HT).on b2)
    clear b2
    go_wp2_with fail
    have b9 := (Below.refl w2.heap.size w2).alloc (Nat.le_refl _) (.cells #[.slice none 0 0, .slice none 0 0] 40)
    replace HB := hide ((unhide HB).trans (b9.mono (unhide HB).size))
    replace HT := hide ((unhide HT).on b9)
    clear b9
    refine (blocksT_any _ (unhide HT)).mono ?_
    rintro e w3 ⟨rfl, b3⟩
    replace HB := hide ((unhide HB).trans (b3.mono (unhide HB).size))
    replace HT := hide ((unhide HT).on b3)
    clear b3
    go_wp2_with fail
    go_ret
    exact ⟨rfl, unhide HB⟩
  · have hcut := hide ((unhide i0).cut (k := 8) (by omega))
    have h2 : 8 ≤ n := by omega
    have hmin : min (n : Int) 8 = (8 : Int) := by omega
    go_enter Tryd.func17, Tryd.ntmps17
    go_wp2_with fail
    refine (clone_any _ _ _ _ _ _ (unhide hcut) (by omega) (Nat.le_refl _)).mono ?_
    rintro e w1 ⟨v2, rfl, o2, b1⟩
    replace i0 := hide ((unhide i0).on b1)
    obtain ⟨A2, n2, c2, rfl, i2⟩ := o2.to
    replace i2 := hide i2
    replace HB := hide ((unhide HB).trans (b1.mono (unhide HB).size))
    replace HT := hide ((unhide HT).on b1)
    clear b1
    go_wp2_with fail
    refine (Clues_no x _ _ _ _ _ (unhide i2) HP8).mono ?_
    rintro e w2 ⟨rfl, b2⟩
    replace i0 := hide ((unhide i0).on b2)
    replace i2 := hide ((unhide i2).on b2)
    replace HB := hide ((unhide HB).trans (b2.mono (unhide HB).size))
    replace HT := hide ((unhide HT).on b2)
    clear b2
    go_wp2_with fail
    have b9 := (Below.refl w2.heap.size w2).alloc (Nat.le_refl _) (.cells #[.slice none 0 0, .slice none 0 0] 40)
    replace HB := hide ((unhide HB).trans (b9.mono (unhide HB).size))
    replace HT := hide ((unhide HT).on b9)
    clear b9
    refine (blocksT_any _ (unhide HT)).mono ?_
    rintro e w3 ⟨rfl, b3⟩
    replace HB := hide ((unhide HB).trans (b3.mono (unhide HB).size))
    replace HT := hide ((unhide HT).on b3)
    clear b3
    go_wp2_with fail
    go_ret
    exact ⟨rfl, unhide HB⟩

set_option maxRecDepth 100000 in
set_option maxHeartbeats 4000000 in
theorem LGale_yes (m : Nat) (h1 : 1 ≤ m) (h2 : m ≤ 5) (A : Option Addr) (n c : Nat) (xs : List Int) (w : World) (i0 : Ints w w.heap.size A n c xs) (ht : Tab w) (hn : 1 ≤ n ∧ n ≤ 5) (HP : Hid (picB m xs = true)) (HA : Hid (ars m xs = true))
    (HPZ : Hid (puzB (rowsP xs) (colsP m xs) = true)) (N : Int) (HN : Hid (smR (rowsP xs) = N)) (HNC : Hid (smR (colsP m xs) = N)) (HPI : Hid (Pic m xs)) (HN0 : 0 ≤ N) (HN30 : N ≤ 30) :
    Calls Tryd.prog 17 #[.int .i64 m, .slice A n c] w fun e w' => e = .returned (.bool true) ∧ Below w.heap.size w w' := by
  have hm := i0.most; have hcap := i0.cap
  have HL := hide i0.len
  replace i0 := hide i0
  have HB := hide (Below.refl w.heap.size w)
  have HT := hide ht
  clear ht
  have h8 : n ≤ 8 := by omega
  have hnf := hide hn
  obtain ⟨hn1, hn5⟩ := hn
  obtain ⟨q1, q2⟩ := puz_parts HPZ.out
  have V1 := hide q1
  have V2 := hide q2
  clear q1 q2
  have hmin : min (n : Int) 8 = (n : Int) := by omega
  go_enter Tryd.func17, Tryd.ntmps17
  go_wp2_with fail
  refine (clone_any _ _ _ _ _ _ (unhide i0) (by omega) (Nat.le_refl _)).mono ?_
  rintro e w1 ⟨v2, rfl, o2, b1⟩
  replace i0 := hide ((unhide i0).on b1)
  obtain ⟨A2, n2, c2, rfl, i2⟩ := o2.to
  replace i2 := hide i2
  replace HB := hide ((unhide HB).trans (b1.mono (unhide HB).size))
  replace HT := hide ((unhide HT).on b1)
  clear b1
  have hn2 := hide (show 1 ≤ n2 ∧ n2 ≤ 5 from by have := i2.out.len; rw [HL.out] at this; omega)
  go_wp2_with fail
  refine (Clues_ok m h1 h2 _ _ _ _ _ (unhide i2) (unhide HT) hn2.out HA).mono ?_
  rintro e w2 ⟨A3, n3, c3, A4, n4, c4, rfl, r3, r4, b2⟩
  replace i0 := hide ((unhide i0).on b2)
  replace i2 := hide ((unhide i2).on b2)
  replace r3 := hide r3
  replace r4 := hide r4
  replace HB := hide ((unhide HB).trans (b2.mono (unhide HB).size))
  replace HT := hide ((unhide HT).on b2)
  clear b2
  have b3 := (Below.refl w2.heap.size w2).alloc (Nat.le_refl _) (.cells #[.slice A3 n3 c3, .slice A4 n4 c4] 40)
  replace i0 := hide ((unhide i0).on b3)
  replace i2 := hide ((unhide i2).on b3)
  replace r3 := hide ((unhide r3).on b3)
  replace r4 := hide ((unhide r4).on b3)
  replace HB := hide ((unhide HB).trans (b3.mono (unhide HB).size))
  replace HT := hide ((unhide HT).on b3)
  clear b3
  go_wp2_with fail
  refine (RPicture_any _ _ _ _ _ _ _ (unhide i0) _ HP).mono ?_
  rintro e w4 ⟨rfl, rfl⟩
  go_wp2_with fail
  refine (Filled_any _ _ _ _ _ _ _ _ _ (unhide r3) (unhide r4) N 0 (hide (by rw [if_pos HPZ.out, if_pos (by rw [HNC.out, HN.out]), HN.out]))).mono ?_
  rintro e w4 ⟨rfl, b4⟩
  replace i0 := hide ((unhide i0).on b4)
  replace i2 := hide ((unhide i2).on b4)
  replace r3 := hide ((unhide r3).on b4)
  replace r4 := hide ((unhide r4).on b4)
  replace HB := hide ((unhide HB).trans (b4.mono (unhide HB).size))
  replace HT := hide ((unhide HT).on b4)
  clear b4
  clear r3 r4 i2
  go_wp2_with fail
  refine (clone_any _ _ _ _ _ _ (unhide i0) (by omega) (Nat.le_refl _)).mono ?_
  rintro e w5 ⟨v5, rfl, o5, b5⟩
  replace i0 := hide ((unhide i0).on b5)
  obtain ⟨A5, n5, c5, rfl, i5⟩ := o5.to
  replace i5 := hide i5
  replace HB := hide ((unhide HB).trans (b5.mono (unhide HB).size))
  replace HT := hide ((unhide HT).on b5)
  clear b5
  have hn5b := hide (show 1 ≤ n5 ∧ n5 ≤ 5 from by have := i5.out.len; rw [HL.out] at this; omega)
  go_wp2_with fail
  refine (Clues_ok m h1 h2 _ _ _ _ _ (unhide i5) (unhide HT) hn5b.out HA).mono ?_
  rintro e w6 ⟨A6, n6, c6, A7, n7, c7, rfl, r6, r7, b6⟩
  replace i0 := hide ((unhide i0).on b6)
  replace i5 := hide ((unhide i5).on b6)
  replace r6 := hide r6
  replace r7 := hide r7
  replace HB := hide ((unhide HB).trans (b6.mono (unhide HB).size))
  replace HT := hide ((unhide HT).on b6)
  clear b6
  have e6 : n6 = n := by rw [← r6.out.len, ← HL.out]; simp [rowsP]
  have e7 : n7 = m := by rw [← r7.out.len]; simp [colsP]
  subst e6 e7
  have K8 := hide (Blk.new w6 40 #[.slice A6 n6 c6, .slice A7 n7 c7])
  have HG := hide (show w6.heap.size < (w6.alloc (.cells #[.slice A6 n6 c6, .slice A7 n7 c7] 40)).heap.size by simp)
  have b7 := (Below.refl w6.heap.size w6).alloc (Nat.le_refl _) (.cells #[.slice A6 n6 c6, .slice A7 n7 c7] 40)
  replace i0 := hide ((unhide i0).on b7)
  replace i5 := hide ((unhide i5).on b7)
  replace r6 := hide ((unhide r6).on b7)
  replace r7 := hide ((unhide r7).on b7)
  replace HB := hide ((unhide HB).trans (b7.mono (unhide HB).size))
  replace HT := hide ((unhide HT).on b7)
  clear b7
  obtain ⟨g8, hg8⟩ : ∃ g8, g8 = w6.heap.size := ⟨_, rfl⟩
  obtain ⟨wz, hwz⟩ : ∃ wz : World, wz = w6.alloc (.cells #[.slice A6 n6 c6, .slice A7 n7 c7] 40) := ⟨_, rfl⟩
  have b8 : (n6 != n6) = false := by simp
  clear b8
  go_wp2_with fail
  rw [← hg8, ← hwz]
  rw [← hwz] at i0 i5 r6 r7 HB HT K8 HG
  rw [← hg8] at K8 HG
  clear hwz hg8 i5 i0
  have K8d := hide (show Blk wz.drew g8 40 #[.slice A6 n6 c6, .slice A7 n7 c7] from unhide K8)
  obtain ⟨p0, p1, _, _⟩ := cell_two (unhide K8d)
  have r6d := hide (show Rows_ wz.drew wz.drew.heap.size A6 n6 c6 (rowsP xs) from (unhide r6).on (Below.refl _ _).drew)
  have r7d := hide (show Rows_ wz.drew wz.drew.heap.size A7 n7 c7 (colsP n7 xs) from (unhide r7).on (Below.refl _ _).drew)
  have HBd := hide (unhide HB).drew
  have HTd := hide (show Tab wz.drew from unhide HT)
  have HGd := hide (show g8 < wz.drew.heap.size from HG.out)
  clear r6 r7 HB HT K8 HG
  go_region_with (first
    | (go_at_call 57; (with_reducible refine (sums_any A6 n6 c6 (rowsP xs) _ (unhide r6d) V1).mono ?_)
       rintro e wa ⟨va, rfl, oa, ba⟩
       obtain ⟨Aa, na, ca, rfl, ia⟩ := oa.to
       have Ia := hide (show Ints wa wa.heap.size Aa na ca (fR xs) from ia)
       have r7a := hide ((unhide r7d).on ba)
       obtain ⟨pa0, pa1, _, _⟩ := cell_two ((unhide K8d).below ba HGd.out)
       have HBa := hide ((unhide HBd).trans (ba.mono (unhide HBd).size))
       have HTa := hide ((unhide HTd).on ba)
       clear oa ia ba)
    | (go_at_call 57; (with_reducible refine (sums_any A7 n7 c7 (colsP n7 xs) _ (unhide r7a) V2).mono ?_)
       rintro e wb ⟨vb, rfl, ob, bb⟩
       obtain ⟨Ab, nb, cb, rfl, ib⟩ := ob.to
       have Ib := hide (show Ints wb wb.heap.size Ab nb cb (fC n7 xs) from ib)
       have Iab := hide ((unhide Ia).on bb)
       have HBb := hide ((unhide HBa).trans (bb.mono (unhide HBa).size))
       have HTb := hide ((unhide HTa).on bb)
       clear ob ib bb))
  all_goals
    obtain rfl : na = 6 := by rw [← Iab.out.len]; exact fR_len HPI.out.x5
    obtain rfl : nb = 6 := by rw [← Ib.out.len]; exact fC_len xs h2
    by_cases hlo : N < 1
    · have d1 : decide (N < 1) = true := by simpa using hlo
      go_wp2_with fail
      refine (blocksT_any _ (unhide HTb)).mono ?_
      rintro e wc ⟨rfl, bc⟩
      go_wp2_with fail
      go_ret
      exact ⟨rfl, (unhide HBb).trans (bc.mono (unhide HBb).size)⟩
    · have d1 : decide (N < 1) = false := by simpa using hlo
      by_cases hhi : 12 < N
      · have d2 : decide (12 < N) = true := by simpa using hhi
        go_wp2_with fail
        refine (blocksT_any _ (unhide HTb)).mono ?_
        rintro e wc ⟨rfl, bc⟩
        go_wp2_with fail
        go_ret
        exact ⟨rfl, (unhide HBb).trans (bc.mono (unhide HBb).size)⟩
      · have d2 : decide (12 < N) = false := by simpa using hhi
        go_wp2_with fail
        refine (clone_any _ _ _ _ _ _ (unhide Iab) (by omega) (Nat.le_refl _)).mono ?_
        rintro e wc ⟨vc, rfl, oc, bc⟩
        obtain ⟨Ac, nc, cc, rfl, ic⟩ := oc.to
        obtain rfl : nc = 6 := by rw [← ic.len]; exact fR_len HPI.out.x5
        have Ic := hide ic
        have mc := ic.most; have kc := ic.cap
        have Ibc := hide ((unhide Ib).on bc)
        have HBc := hide ((unhide HBb).trans (bc.mono (unhide HBb).size))
        have HTc := hide ((unhide HTb).on bc)
        clear oc ic bc
        go_wp2_with fail
        go_loop [11] (fun v => ∃ k : Nat, k ≤ 6 ∧ v = .slice Ac k cc ∧ Hid (∀ j, k ≤ j → j < 6 → nth (fR xs) j = 0)) (fun v => slen v)
        case atStart => exact ⟨6, Nat.le_refl _, rfl, hide (fun j a b => absurd b (by omega))⟩
        case round =>
          obtain ⟨k, hk, rfl, HK⟩ := hrel
          by_cases h0 : k = 0
          · subst h0
            have HCK := hide (show Cutk xs 0 from ⟨by omega, HK.out, .inl rfl⟩)
            obtain ⟨_, hp1, _⟩ := HPI.out.parts_ok HCK.out (by rw [HN.out]; omega) (by rw [HN.out]; omega)
            omega
          · obtain ⟨j, hj⟩ : ∃ j, k = j + 1 := ⟨k - 1, by omega⟩
            obtain ⟨bb, off, rfl, hb0, hcell⟩ := Ic.out.at_ j (by omega)
            have d3 : decide (0 < (k : Int)) = true := by simp; omega
            have z1 : (k : Int) - 1 = (j : Int) := by omega
            have z2 : j < k := by omega
            have z3 : j ≤ cc := by omega
            have hkc : k ≤ cc := by omega
            by_cases hz : nth (fR xs) j = 0
            · have d4 : (nth (fR xs) j == 0) = true := by simpa using hz
              have HK2 := hide (show ∀ i, j ≤ i → i < 6 → nth (fR xs) i = 0 from fun i a b => by
                rcases Nat.lt_or_ge i k with h3 | h3
                · obtain rfl : i = j := by omega
                  exact hz
                · exact HK.out i h3 b)
              have HZ := hide hz; clear hz
              have HJ := hide hj; clear hj h0
              go_wp2_with fail
              go_round
              case rel => exact ⟨j, by have := HJ.out; omega, rfl, HK2⟩
              case measure => have := HJ.out; simp [slen]; omega
            · have d4 : (nth (fR xs) j == 0) = false := by simpa using hz
              have HCK := hide (show Cutk xs k from ⟨hk, HK.out, .inr (by rw [hj]; exact hz)⟩)
              have HZ := hide hz; clear hz
              have HJ := hide hj; clear hj h0
              obtain ⟨g1, g2, g3⟩ := HPI.out.gale HCK.out (by rw [HN.out]; omega) (by rw [HN.out]; omega) (by rw [HNC.out, HN.out])
              obtain ⟨g4, g5, g6⟩ := HPI.out.parts_ok HCK.out (by rw [HN.out]; omega) (by rw [HN.out]; omega)
              have G1 := hide g1; have G2 := hide g2; have G3 := hide (show unevS (pad6 (turnF ((fR xs).take k))) (fC n7 xs) = true from g3); have G4 := hide g4; have G6 := hide (g6.trans HN.out)
              have G5 := hide g5
              clear g1 g2 g3 g4 g5 g6
              have icut := hide ((unhide Ic).cut (k := k) hk)
              go_wp2_with fail
              refine (Turn_ok _ _ _ _ _ (unhide icut) G4 G5.out N G6 (by omega)).mono ?_
              rintro e wd ⟨vd, rfl, od, bd⟩
              obtain ⟨Ad, nd, cd, rfl, id_⟩ := od.to
              have hnd := hide id_.len
              have md := id_.most
              have hnd6 : nd ≤ 6 := by rw [← hnd.out]; exact G1.out
              have Od := hide od
              have Ibd := hide ((unhide Ibc).on bd)
              have HBd2 := hide ((unhide HBc).trans (bd.mono (unhide HBc).size))
              have HTd2 := hide ((unhide HTc).on bd)
              have hcd := hide bd.size
              have HCD := hide bd
              have d5 : decide (6 < (nd : Int)) = false := by simp; omega
              clear od id_ bd
              go_wp2_with fail
              go_loopw [12] (fun v wr => ∃ (i : Nat) (A1 : Option Addr) (n1 c1 : Nat), v = .slice A1 n1 c1 ∧ n1 = nd + i ∧ n1 ≤ 6 ∧ c1 ≤ 9223372036854775807 ∧ Owned wr wc.heap.size (.slice A1 n1 c1) (turnF ((fR xs).take k) ++ List.replicate i 0) ∧ Below wc.heap.size wd wr) (fun v _ => lack v)
              case atStart => exact ⟨0, Ad, nd, cd, rfl, by omega, by omega, md, by simpa using unhide Od, Below.refl _ _⟩
              case round =>
                obtain ⟨i, A1, n1, c1, rfl, hn1, hn6, hc1, ho, hb⟩ := hrel
                have HO1 := hide ho; have HB1 := hide hb; clear ho hb
                have HN1 := hide hn1; clear hn1
                by_cases hlt6 : n1 < 6
                · have d : decide ((n1 : Int) < 6) = true := by simp; omega
                  have hlen := hide (show (turnF ((fR xs).take k) ++ List.replicate i 0).length ≤ 100000 from by rw [List.length_append, hnd.out, List.length_replicate]; have := HN1.out; omega)
                  have hbase := Nat.le_trans hcd.out (unhide HB1).size
                  go_wp2_with (at_builtin; refine wpList_app1 rfl _ _ rfl rfl rfl (unhide HO1) (unhide hlen) hbase ?_; intro v' w3 ho3 hb3)
                  obtain ⟨A2', n2', c2', e2, i2'⟩ := ho3.to
                  subst e2
                  have l2 := i2'.len
                  rw [List.length_append, List.length_append, hnd.out, List.length_replicate] at l2
                  have e3 := hide (show n2' = n1 + 1 from by have := HN1.out; simp at l2; omega)
                  have m2 := i2'.most
                  clear i2' l2
                  go_roundw
                  case rel => exact ⟨i + 1, A2', n2', c2', rfl, by rw [e3.out, HN1.out]; omega, by rw [e3.out]; omega, m2, by rw [List.replicate_succ', ← List.append_assoc]; exact ho3, (unhide HB1).trans hb3⟩
                  case measure => have := e3.out; simp [lack]; omega
                · have d : decide ((n1 : Int) < 6) = false := by simp; omega
                  have HP6 := hide (show turnF ((fR xs).take k) ++ List.replicate i 0 = pad6 (turnF ((fR xs).take k)) from by
                    unfold pad6; rw [hnd.out]; congr 2; have := HN1.out; omega)
                  have ho := unhide HO1
                  rw [HP6.out] at ho
                  have i6 := hide (show Ints wr wr.heap.size A1 n1 c1 (pad6 (turnF ((fR xs).take k))) from by
                    obtain ⟨A9, n9, c9, e9, i9⟩ := ho.to
                    simp only [Value.slice.injEq] at e9
                    obtain ⟨rfl, rfl, rfl⟩ := e9
                    exact i9)
                  have ibr := hide (((unhide Ibc).below ((show Below wc.heap.size wc wd from unhide HCD).trans (unhide HB1))).more (Nat.le_trans hcd.out (unhide HB1).size))
                  have HBr := hide ((unhide HBc).trans (((unhide HCD).trans (unhide HB1)).mono (unhide HBc).size))
                  have HTr := hide ((unhide HTc).on ((unhide HCD).trans (unhide HB1)))
                  clear ho
                  go_wp2_with fail
                  refine (Uneven_ok _ _ _ _ _ _ _ _ _ (unhide i6) (unhide ibr) G2).mono ?_
                  rintro e we ⟨rfl, be⟩
                  rw [G3.out]
                  go_wp2_with fail
                  refine (blocksT_any _ ((unhide HTr).on be)).mono ?_
                  rintro e wf ⟨rfl, bf⟩
                  go_wp2_with fail
                  go_ret
                  exact ⟨rfl, ((unhide HBr).trans (be.mono (unhide HBr).size)).trans (bf.mono (Nat.le_trans (unhide HBr).size be.size))⟩

theorem LGale_any (x : Int) {A : Option Addr} {n c : Nat} {xs : List Int} {w : World} (i0 : Ints w w.heap.size A n c xs) (ht : Tab w) :
    Calls Tryd.prog 17 #[.int .i64 x, .slice A n c] w fun e w' => e = .returned (.bool true) ∧ Below w.heap.size w w' := by
  have h8 := picB_take x xs
  cases hp : picB x xs with
  | false => exact LGale_no x A n c xs w i0 ht (hide hp) (hide (h8.trans hp))
  | true =>
    have hp' := hp
    unfold picB at hp
    rw [Bool.and_eq_true] at hp
    have hz : sz x = true := by have := hp.2; unfold ars at this; rw [Bool.and_eq_true] at this; exact this.1
    obtain ⟨m, rfl, h1, h2⟩ := sz_nat hz
    have hn := sz_iff.1 hp.1
    have hl := i0.len
    have hx5 : xs.length ≤ 5 := by omega
    have hpz := clues_puz h1 h2 (by omega) hx5 hp.2
    have hpic : Pic m xs := ⟨h1, h2, hx5, fun k hk => by
      obtain ⟨y, e, hy⟩ := ars_at h1 h2 hp.2 hk
      rw [e]; simpa using hy⟩
    have hb := both_sums h1 h2 hx5 hp.2
    have hbd := smT_bd (by have := (puz_parts hpz).1; unfold acB at this; rw [Bool.and_eq_true] at this; exact this.2) (rowsP xs).length (Nat.le_refl _)
    have e : smT (rowsP xs) (rowsP xs).length = smR (rowsP xs) := by unfold smT smR; rw [List.take_length]
    rw [e] at hbd
    have hlr : (rowsP xs).length = xs.length := by simp [rowsP]
    exact LGale_yes m h1 h2 A n c xs w i0 ht (by omega) (hide hp') (hide hp.2) (hide hpz) _ (hide rfl) (hide hb) (hide hpic) hbd.1 (by omega)
end Go.Proofs.YtjhicbiacnkpaaaDoor
