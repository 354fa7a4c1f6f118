/-
  Cut of the reference.
-/
import Derived.Test.YtccfhcoioakmpaaR2
namespace Go.Proofs.Ytccfhcoioakmpaa
open Go.RowKit

theorem to_put {K : Act → World → Prop} {a a' : Act} {w : World} (e : a = a') (h : K a' w) : K a w := e ▸ h
theorem three_other {W : World} {b R : Nat} {X : Option Obj} (h : b ≠ R) (v0 v1 v2 : Value) (hs : W.heap[b]? = X) : (((W.setCell ⟨R, 0, none⟩ v0).setCell ⟨R, 1, none⟩ v1).setCell ⟨R, 2, none⟩ v2).heap[b]? = X :=
  (Below.heap_setCell _ ⟨R, 2, none⟩ v2 b h).trans ((Below.heap_setCell _ ⟨R, 1, none⟩ v1 b h).trans ((Below.heap_setCell _ ⟨R, 0, none⟩ v0 b h).trans hs))
theorem fr_pos {c d : Int} (hd : 0 < d) : 0 < frD c d ∧ frN c d / frD c d = c / d := by
  have hp : 0 < frG c d := Nat.gcd_pos_of_pos_right _ (by omega)
  have h1 : (frG c d : Int) ∣ c := Int.ofNat_dvd_left.2 (Nat.gcd_dvd_left _ _)
  have h2 : (frG c d : Int) ∣ d := Int.ofNat_dvd_left.2 (Nat.gcd_dvd_right _ _)
  unfold frN frD
  revert hp h1 h2
  generalize frG c d = g
  intro hp ⟨x, hx⟩ ⟨y, hy⟩
  have hg : (0 : Int) < (g : Int) := by omega
  have e1 : c.tdiv (g : Int) = x := by rw [hx]; exact Int.mul_tdiv_cancel_left _ (by omega)
  have e2 : d.tdiv (g : Int) = y := by rw [hy]; exact Int.mul_tdiv_cancel_left _ (by omega)
  rw [e1, e2]
  have hy0 : 0 < y := by
    rw [hy, Int.mul_comm] at hd
    exact Int.pos_of_mul_pos_left hd hg
  refine ⟨hy0, ?_⟩
  rw [hx, hy, Int.mul_ediv_mul_of_pos _ _ hg]

set_option maxRecDepth 4000 in
set_option maxHeartbeats 6400000 in
theorem RCut_any (A A' : Option Addr) (n c n' c' : Nat) (gs : List G) (fs : List F) (w : World) (hg : Gs w w.heap.size A n c gs) (h : Fs w w.heap.size A' n' c' fs) (hok : Hid (OkAll gs)) (hmu : Hid (mulOk fs = true)) (hn : n' = n) (hn6 : n ≤ 6) (x y z r : Int)
    (hr : Hid ((match cutF gs fs with | some g => (g, (0 : Int)) | none => ((0, 0, 0), 4)) = (((x, y, z) : G), r))) :
    Calls Try.prog 37 #[.slice A n c, .slice A' n' c'] w fun e w' => e = .returned (.tuple #[.agg #[.int .i64 x, .int .i64 y, .int .i64 z], .int .i64 r]) ∧ Below w.heap.size w w' := by
  subst hn
  have hm := h.most; have hcap := h.cap
  have hmg := hg.most; have hcapg := hg.cap
  have hl := hide h.len; have hlg := hide hg.len
  have H := hide h; have HG := hide hg; clear h hg
  obtain ⟨W0, hW0⟩ : ∃ W0, W0 = w.alloc (.cells #[.int .i64 0, .int .i64 0, .int .i64 0] 56) := ⟨_, rfl⟩
  have HB0 := hide (show Below w.heap.size w W0 from by rw [hW0]; exact (Below.refl _ w).alloc (Nat.le_refl _) _)
  have HR0 := hide (show W0.heap[w.heap.size]? = some (.cells #[.int .i64 0, .int .i64 0, .int .i64 0] 56 (0, 0)) from by rw [hW0]; exact heap_new_ w _)
  have hs0 : W0.heap.size = w.heap.size + 1 := by rw [hW0]; simp
  go_enter Try.func37, Try.ntmps37
  go_wp2_with fail
  rw [← hW0]
  clear hW0
  go_loopw [15, 6] (fun i v wr => ∃ (k d : Nat), k ≤ n' ∧ i = .int .i64 k ∧ v = .int .i64 d ∧ Hid (dF (fs.take k) = d) ∧ Below W0.heap.size W0 wr) (fun i _ _ => n' - (intOf i).toNat)
  case atStart => exact ⟨0, 1, Nat.zero_le _, rfl, rfl, rfl, Below.refl _ _⟩
  case round =>
    obtain ⟨k, d, hk, rfl, rfl, HD, hbl⟩ := hrel
    have HB := hide hbl; clear hbl
    have HBW := hide ((unhide HB0).trans ((unhide HB).mono (by omega)))
    by_cases hlt : k < n'
    · have hkl : k < fs.length := by rw [hl.out]; exact hlt
      obtain ⟨b1, off, rfl, hbb, e1, e2⟩ := ((unhide H).below (unhide HBW)).at_ k hlt
      have hp := mul_parts hmu.out _ (fth_mem hkl)
      have hst := hide (dF_take hkl)
      have hbd := dF_bd hmu.out k (by omega)
      have hdk : d ≤ 1000000000000 := by
        rw [← HD.out]
        exact Nat.le_trans hbd.2 (Nat.le_trans (Nat.pow_le_pow_right (by omega) (show k ≤ 6 by omega)) (by decide))
      have hd1 : 1 ≤ d := by rw [← HD.out]; exact hbd.1
      rw [HD.out] at hst
      clear hbd
      revert hst
      obtain ⟨⟨u, v⟩, hgk⟩ : ∃ f, fth fs k = f := ⟨_, rfl⟩
      rw [hgk] at e1 e2 hp ⊢
      clear hgk
      simp only at e1 e2 hp ⊢
      intro hst
      obtain ⟨⟨v1, v2⟩, u1, u2⟩ := hp
      obtain ⟨v, rfl⟩ : ∃ vn : Nat, v = vn := ⟨v.toNat, by omega⟩
      have hdv : dStep d (u, (v : Int)) = d * (v / Nat.gcd d v) := by simp [dStep]
      rw [hdv] at hst
      have hfn : frN (v : Int) (d : Int) = ((v / Nat.gcd d v : Nat) : Int) := by
        have e : frG (v : Int) (d : Int) = Nat.gcd d v := by simp only [frG, Int.natAbs_natCast]; exact Nat.gcd_comm _ _
        rw [frN, e]; exact Int.ofNat_tdiv _ _
      have hq100 : v / Nat.gcd d v ≤ 100 := Nat.le_trans (Nat.div_le_self _ _) (by omega)
      revert hst hq100 hfn
      clear hdv
      obtain ⟨q, hq⟩ : ∃ q, v / Nat.gcd d v = q := ⟨_, rfl⟩
      rw [hq]
      clear hq
      intro hst hfn hq100
      have HFN := hide hfn; clear hfn
      obtain ⟨q2, hq2⟩ : ∃ q2, frD (v : Int) (d : Int) = q2 := ⟨_, rfl⟩
      have HFD := hide hq2; clear hq2
      have hprod : d * q ≤ 100000000000000 := Nat.le_trans (Nat.mul_le_mul hdk hq100) (by decide)
      have hprodI : (d : Int) * (q : Int) ≤ 100000000000000 := by rw [← Int.natCast_mul]; omega
      have hprod0 : 0 ≤ (d : Int) * (q : Int) := by rw [← Int.natCast_mul]; omega
      have hcast := hide (show (d : Int) * (q : Int) = ((d * q : Nat) : Int) from (Int.natCast_mul d q).symm)
      have HB1 := hide ((unhide HB).alloc (unhide HB).size (.cells #[.int .i64 u, .int .i64 (v : Int)] 37))
      clear hprod
      go_wp2_with fail
      refine (RFrac_any (v : Int) (d : Int) _ (by omega) (by omega) _ _ HFN HFD).mono ?_
      rintro e w2 ⟨rfl, b2⟩
      have HB2 := hide ((unhide HB1).trans (b2.mono (unhide HB1).size))
      clear b2
      go_wp2_with fail
      refine to_put (a' := Act.put _ (some 24) (.int .i64 (q : Int))) rfl ?_
      go_wp2_with fail
      go_roundw
      case rel => exact ⟨k + 1, d * q, by omega, by go_num, by rw [← hcast.out], hst, unhide HB2⟩
      case measure => simp [intOf]; omega
    · obtain rfl : k = n' := by omega
      have HDD := hide (show dF fs = d from by rw [← HD.out, List.take_of_length_le (by rw [hl.out]; exact Nat.le_refl _)])
      have hdm := dF_max hmu.out (by rw [hl.out]; exact hn6)
      rw [HDD.out] at hdm
      obtain ⟨hd1, hd2⟩ := hdm
      obtain ⟨W1, hW1⟩ : ∃ W1, W1 = wr.alloc (.cells #[.int .i64 0, .int .i64 0, .int .i64 0] 56) := ⟨_, rfl⟩
      have hs1 : W1.heap.size = wr.heap.size + 1 := by rw [hW1]; simp
      have hwr := (unhide HB).size
      have HB1 := hide (show Below w.heap.size w W1 from by rw [hW1]; exact (unhide HBW).alloc (unhide HBW).size _)
      have HR1 := hide (show W1.heap[w.heap.size]? = some (.cells #[.int .i64 0, .int .i64 0, .int .i64 0] 56 (0, 0)) from by
        rw [hW1]; exact (Below.heap_alloc _ _ _ (by omega)).trans (((unhide HB).block _ (by omega)).trans (unhide HR0)))
      have HS1 := hide (show W1.heap[wr.heap.size]? = some (.cells #[.int .i64 0, .int .i64 0, .int .i64 0] 56 (0, 0)) from by rw [hW1]; exact heap_new_ wr _)
      obtain ⟨bS, hbS⟩ : ∃ bS, bS = wr.heap.size := ⟨_, rfl⟩
      rw [← hbS] at HS1 hs1
      have hbSlt : w.heap.size < bS := by omega
      go_wp2_with fail
      rw [← hW1, ← hbS]
      clear hW1 HD HB HBW HB0 HR0 hs0
      have hbS2 := hide hbS
      clear hbS
      go_loopw [29] (fun i wr2 => ∃ (j : Nat) (p q r : Int), j ≤ k ∧ i = .int .i64 j ∧ Hid (sK d gs fs j = (p, q, r)) ∧ Hid (wr2.heap[bS]? = some (.cells #[.int .i64 p, .int .i64 q, .int .i64 r] 56 (0, 0))) ∧ Hid (wr2.heap[w.heap.size]? = some (.cells #[.int .i64 0, .int .i64 0, .int .i64 0] 56 (0, 0))) ∧ bS < wr2.heap.size ∧ Below w.heap.size w wr2) (fun i _ => k - (intOf i).toNat)
      case atStart => exact ⟨0, 0, 0, 0, Nat.zero_le _, rfl, rfl, HS1, HR1, by omega, unhide HB1⟩
      case round =>
        obtain ⟨j, p, q, r0, hj, rfl, HK, HS, HR, hbw, hbl⟩ := hrel
        have HB := hide hbl; clear hbl
        by_cases hjt : j < k
        · have hjf : j < fs.length := by rw [hl.out]; exact hjt
          have hjg : j < gs.length := by rw [hlg.out]; exact hjt
          obtain ⟨b1, off, rfl, hbb, e1, e2⟩ := ((unhide H).below (unhide HB)).at_ j hjt
          obtain ⟨b2, off2, rfl, hbb2, y0, y1, y2⟩ := ((unhide HG).below (unhide HB)).at_ j hjt
          have hp := mul_parts hmu.out _ (fth_mem hjf)
          have hgb := (okS_iff _).1 (hok.out _ (gth_mem hjg))
          have hkb := sK_bd (D := d) hd2 hok.out hmu.out (by rw [hl.out, hlg.out]) j (by rw [hlg.out]; omega)
          have hst := hide (sK_succ (D := d) hjg hjf)
          rw [HK.out] at hkb hst
          revert hst
          obtain ⟨⟨u, v⟩, hgk⟩ : ∃ f, fth fs j = f := ⟨_, rfl⟩
          obtain ⟨⟨f, g, m⟩, hgg⟩ : ∃ f, gth gs j = f := ⟨_, rfl⟩
          rw [hgk] at e1 e2 hp ⊢
          rw [hgg] at y0 y1 y2 hgb ⊢
          clear hgk hgg
          simp only at e1 e2 hp y0 y1 y2 hgb ⊢
          intro hst
          obtain ⟨⟨v1, v2⟩, u1, u2⟩ := hp
          obtain ⟨g1, g2, _, g4, g5⟩ := hgb
          have hfb := fac_bd (D := d) (f := (u, v)) hd2 v1 u1 u2
          simp only at hfb
          have htd : (d : Int).tdiv v = (d : Int) / v := Int.tdiv_eq_ediv_of_nonneg (by omega)
          have hst2 := hst.out
          simp only [sStep, plusG] at hst2
          have ht0 : 0 ≤ (d : Int) / v := Int.ediv_nonneg (by omega) (by omega)
          have ht1 : (d : Int) / v ≤ d := Int.ediv_le_self _ (by omega)
          revert hst2 hfb htd ht0 ht1
          clear hst
          obtain ⟨t, ht⟩ : ∃ t, (d : Int) / v = t := ⟨_, rfl⟩
          rw [ht]
          clear ht
          rw [Int.mul_comm u t]
          intro hfb htd hst2 ht0 ht1
          obtain ⟨kk, hkk⟩ : ∃ kk, t * u = kk := ⟨_, rfl⟩
          rw [hkk] at hfb hst2
          obtain ⟨k1, k2⟩ := hfb
          have HST := hide hst2
          clear hst2
          have q1 := mul_bd (a := kk) (M := 100000000000000) (N := 40) (by omega) (show -40 ≤ f ∧ f ≤ 40 by omega)
          have q2 := mul_bd (a := kk) (M := 100000000000000) (N := 40) (by omega) (show -40 ≤ g ∧ g ≤ 40 by omega)
          have q3 := mul_bd (a := kk) (M := 100000000000000) (N := 40) (by omega) (show -40 ≤ m ∧ m ≤ 40 by omega)
          obtain ⟨q11, q12⟩ := q1; obtain ⟨q21, q22⟩ := q2; obtain ⟨q31, q32⟩ := q3
          have hx := hkb
          obtain ⟨⟨x11, x12⟩, ⟨x21, x22⟩, x31, x32⟩ := hx
          simp only at x11 x12 x21 x22 x31 x32
          have hj6 : (j : Int) * 4000000000000000 ≤ 24000000000000000 := by omega
          clear hkb
          have hv0 : ¬ v = 0 := by omega
          obtain ⟨W2, hW2⟩ : ∃ W2, W2 = wr.alloc (.cells #[.int .i64 u, .int .i64 v] 37) := ⟨_, rfl⟩
          have hs2 : W2.heap.size = wr.heap.size + 1 := by rw [hW2]; simp
          have HF2 := hide (show W2.heap[wr.heap.size]? = some (.cells #[.int .i64 u, .int .i64 v] 37 (0, 0)) from by rw [hW2]; exact heap_new_ wr _)
          have HS2 := hide (show W2.heap[bS]? = some (.cells #[.int .i64 p, .int .i64 q, .int .i64 r0] 56 (0, 0)) from by rw [hW2]; exact (Below.heap_alloc _ _ _ hbw).trans (unhide HS))
          have HR2 := hide (show W2.heap[w.heap.size]? = some (.cells #[.int .i64 0, .int .i64 0, .int .i64 0] 56 (0, 0)) from by rw [hW2]; exact (Below.heap_alloc _ _ _ (by omega)).trans (unhide HR))
          have HB2 := hide (show Below w.heap.size w W2 from by rw [hW2]; exact (unhide HB).alloc (unhide HB).size _)
          have HBS2 := hide (show Below bS wr W2 from by rw [hW2]; exact (Below.refl _ _).alloc (by omega) _)
          obtain ⟨l0, l1⟩ := two_at (unhide HF2)
          obtain ⟨z0, z1, z2⟩ := three_at (unhide HS2)
          have f0 := free_at (unhide HS2) 0; have f1 := free_at (unhide HS2) 1; have f2 := free_at (unhide HS2) 2
          have Y0 := (Below.heap_alloc wr (.cells #[.int .i64 u, .int .i64 v] 37))
          have c0 : W2.cell? ⟨b2, off2 + j * 3, none⟩ = some (.int .i64 f) := by rw [hW2]; exact (((Below.refl wr.heap.size wr).alloc (Nat.le_refl _) _).cell (p := ⟨b2, off2 + j * 3, none⟩) (by have := (unhide HB).size; simp only; omega)).trans y0
          have c1 : W2.cell? ⟨b2, off2 + j * 3 + 1, none⟩ = some (.int .i64 g) := by rw [hW2]; exact (((Below.refl wr.heap.size wr).alloc (Nat.le_refl _) _).cell (p := ⟨b2, off2 + j * 3 + 1, none⟩) (by have := (unhide HB).size; simp only; omega)).trans y1
          have c2 : W2.cell? ⟨b2, off2 + j * 3 + 2, none⟩ = some (.int .i64 m) := by rw [hW2]; exact (((Below.refl wr.heap.size wr).alloc (Nat.le_refl _) _).cell (p := ⟨b2, off2 + j * 3 + 2, none⟩) (by have := (unhide HB).size; simp only; omega)).trans y2
          have hbb : b2 ≠ bS := by omega
          clear y0 y1 y2
          go_wp2_with fail
          rw [← hW2]
          clear hW2
          go_big_quiet (fail)
          go_wp2_with fail
          go_region
          generalize hW3 : World.setCell _ _ _ = W3
          have HS3 := hide (show W3.heap[bS]? = some (.cells #[.int .i64 (p + kk * f), .int .i64 q, .int .i64 r0] 56 (0, 0)) from by rw [← hW3]; exact set_at (show _ = some (Obj.cells _ 56 (0, 0)) from unhide HS2) _)
          have HR3 := hide (show W3.heap[w.heap.size]? = some (.cells #[.int .i64 0, .int .i64 0, .int .i64 0] 56 (0, 0)) from by rw [← hW3]; exact (((Below.refl bS W2).setCell (p := ⟨bS, 0, none⟩) (Nat.le_refl _) _).block _ hbSlt).trans (unhide HR2))
          have HB3 := hide (show Below w.heap.size w W3 from by rw [← hW3]; exact (show Below w.heap.size w (W2.drewN _) from ⟨(unhide HB2).os, (unhide HB2).tape, (unhide HB2).output, (unhide HB2).size, (unhide HB2).block⟩).setCell (p := ⟨bS, 0, none⟩) (by simp only; omega) _)
          have hs3 : W3.heap.size = W2.heap.size := by rw [← hW3]; simp [World.setCell]
          have c13 : W3.cell? ⟨b2, off2 + j * 3 + 1, none⟩ = some (.int .i64 g) := by rw [← hW3]; exact (((Below.refl bS W2).setCell (p := ⟨bS, 0, none⟩) (Nat.le_refl _) _).cell (p := ⟨b2, off2 + j * 3 + 1, none⟩) (by simp only; omega)).trans c1
          have c23 : W3.cell? ⟨b2, off2 + j * 3 + 2, none⟩ = some (.int .i64 m) := by rw [← hW3]; exact (((Below.refl bS W2).setCell (p := ⟨bS, 0, none⟩) (Nat.le_refl _) _).cell (p := ⟨b2, off2 + j * 3 + 2, none⟩) (by simp only; omega)).trans c2
          clear hW3 z0 z1 z2 f0 f1 f2 c0 c1 c2 l0 l1
          obtain ⟨z0, z1, z2⟩ := three_at (unhide HS3)
          have f0 := free_at (unhide HS3) 0; have f1 := free_at (unhide HS3) 1; have f2 := free_at (unhide HS3) 2
          go_wp2_with fail
          go_region
          generalize hW4 : World.drew _ = W4
          have HS4 := hide (show W4.heap[bS]? = some (.cells #[.int .i64 (p + kk * f), .int .i64 (q + kk * g), .int .i64 r0] 56 (0, 0)) from by rw [← hW4]; exact set_at (unhide HS3) _)
          have HR4 := hide (show W4.heap[w.heap.size]? = some (.cells #[.int .i64 0, .int .i64 0, .int .i64 0] 56 (0, 0)) from by rw [← hW4]; exact (((Below.refl bS W3).setCell (p := ⟨bS, 1, none⟩) (Nat.le_refl _) _).block _ hbSlt).trans (unhide HR3))
          have HB4 := hide (show Below w.heap.size w W4 from by rw [← hW4]; exact ((unhide HB3).setCell (p := ⟨bS, 1, none⟩) (by simp only; omega) _).drew)
          have hs4 : W4.heap.size = W3.heap.size := by rw [← hW4]; simp [World.setCell, World.drew]
          have c24 : W4.cell? ⟨b2, off2 + j * 3 + 2, none⟩ = some (.int .i64 m) := by rw [← hW4]; exact (((Below.refl bS W3).setCell (p := ⟨bS, 1, none⟩) (Nat.le_refl _) _).cell (p := ⟨b2, off2 + j * 3 + 2, none⟩) (by simp only; omega)).trans c23
          clear hW4 z0 z1 z2 f0 f1 f2 c13 c23
          obtain ⟨z0, z1, z2⟩ := three_at (unhide HS4)
          have f0 := free_at (unhide HS4) 0; have f1 := free_at (unhide HS4) 1; have f2 := free_at (unhide HS4) 2
          go_wp2_with fail
          go_region
          generalize hW5 : World.drew _ = W5
          have HS5 := hide (show W5.heap[bS]? = some (.cells #[.int .i64 (p + kk * f), .int .i64 (q + kk * g), .int .i64 (r0 + kk * m)] 56 (0, 0)) from by rw [← hW5]; exact set_at (unhide HS4) _)
          have HR5 := hide (show W5.heap[w.heap.size]? = some (.cells #[.int .i64 0, .int .i64 0, .int .i64 0] 56 (0, 0)) from by rw [← hW5]; exact (((Below.refl bS W4).setCell (p := ⟨bS, 2, none⟩) (Nat.le_refl _) _).block _ hbSlt).trans (unhide HR4))
          have HB5 := hide (show Below w.heap.size w W5 from by rw [← hW5]; exact ((unhide HB4).setCell (p := ⟨bS, 2, none⟩) (by simp only; omega) _).drew)
          have hs5 : W5.heap.size = W4.heap.size := by rw [← hW5]; simp [World.setCell, World.drew]
          clear hW5 z0 z1 z2 f0 f1 f2 c24
          go_wp2_with fail
          go_roundw
          case rel => exact ⟨j + 1, _, _, _, by omega, by go_num, HST, HS5, HR5, by omega, unhide HB5⟩
          case measure => simp [intOf]; omega
        · obtain rfl : j = k := by omega
          have hkb := sK_bd (D := d) hd2 hok.out hmu.out (by rw [hl.out, hlg.out]) j (by rw [hlg.out]; exact Nat.le_refl _)
          have hall := sK_all (D := d) (gs := gs) (fs := fs) (by rw [hl.out, hlg.out])
          rw [hlg.out, HK.out] at hall
          rw [HK.out] at hkb
          have hbd : Bd 100000000000000000 (p, q, r0) := by obtain ⟨x1, x2, x3⟩ := hkb; simp only at x1 x2 x3; exact ⟨by simp only; omega, by simp only; omega, by simp only; omega⟩
          have hcut : cutF gs fs = divG d (p, q, r0) := by rw [cutF, HDD.out, ← hall]
          clear hkb hall
          obtain ⟨⟨x11, x12⟩, ⟨x21, x22⟩, x31, x32⟩ := hbd
          simp only at x11 x12 x21 x22 x31 x32
          have hh := hr.out
          rw [hcut] at hh
          clear hcut
          obtain ⟨z0, z1, z2⟩ := three_at (unhide HS)
          have hd0 : ¬ (d : Int) = 0 := by omega
          have hd00 : ((d : Int) == 0) = false := by simp; omega
          rcases hdg : divG d (p, q, r0) with _ | ⟨⟨a1, a2, a3⟩⟩
          · rw [hdg] at hh
            simp only [Prod.mk.injEq] at hh
            obtain ⟨⟨rfl, rfl, rfl⟩, rfl⟩ := hh
            have hcase : p.tmod d ≠ 0 ∨ (p.tmod d = 0 ∧ q.tmod d ≠ 0) ∨ (p = 0 ∧ q = 0) := by
              unfold divG at hdg
              simp only at hdg
              by_cases hc : (p = 0 ∧ q = 0) ∨ p.tmod d ≠ 0 ∨ q.tmod d ≠ 0
              · by_cases h3 : p.tmod d = 0
                · rcases hc with h | h | h
                  · exact .inr (.inr h)
                  · exact .inl h
                  · exact .inr (.inl ⟨h3, h⟩)
                · exact .inl h3
              · rw [if_neg hc] at hdg; cases hdg
            rcases hcase with h | ⟨h, h2⟩ | ⟨rfl, rfl⟩
            · obtain ⟨t, ht⟩ : ∃ t, p.tmod d = t := ⟨_, rfl⟩
              rw [ht] at h
              have e2 : (t != 0) = true := by simp [h]
              clear hdg
              have f0 := free_at (unhide HR) 0; have f1 := free_at (unhide HR) 1; have f2 := free_at (unhide HR) 2
              obtain ⟨q0, q1, q2⟩ := three_at (unhide HR)
              go_wp2_with fail
              have HPq := hide (put3 (unhide HR) (.int .i64 0) (.int .i64 0) (.int .i64 0))
              have HBq := hide (below_put3 (unhide HB) (b := w.heap.size) (Nat.le_refl _) (.int .i64 0) (.int .i64 0) (.int .i64 0))
              obtain ⟨s0, s1, s2⟩ := three_at (unhide HPq)
              exact bodyPost_ret (v := .tuple #[.agg #[.int .i64 0, .int .i64 0, .int .i64 0], .int .i64 4]) (by simp [results, Try.results37, go_sem, s0, s1, s2]) rfl ⟨rfl, unhide HBq⟩
            · obtain ⟨t, ht⟩ : ∃ t, q.tmod d = t := ⟨_, rfl⟩
              rw [ht] at h2
              have e2 : (t != 0) = true := by simp [h2]
              clear hdg
              have f0 := free_at (unhide HR) 0; have f1 := free_at (unhide HR) 1; have f2 := free_at (unhide HR) 2
              obtain ⟨q0, q1, q2⟩ := three_at (unhide HR)
              go_wp2_with fail
              have HPq := hide (put3 (unhide HR) (.int .i64 0) (.int .i64 0) (.int .i64 0))
              have HBq := hide (below_put3 (unhide HB) (b := w.heap.size) (Nat.le_refl _) (.int .i64 0) (.int .i64 0) (.int .i64 0))
              obtain ⟨s0, s1, s2⟩ := three_at (unhide HPq)
              exact bodyPost_ret (v := .tuple #[.agg #[.int .i64 0, .int .i64 0, .int .i64 0], .int .i64 4]) (by simp [results, Try.results37, go_sem, s0, s1, s2]) rfl ⟨rfl, unhide HBq⟩
            · have e2 : (0 : Int).tmod d = 0 := by simp
              clear hdg
              have f0 := free_at (unhide HR) 0; have f1 := free_at (unhide HR) 1; have f2 := free_at (unhide HR) 2
              obtain ⟨q0, q1, q2⟩ := three_at (unhide HR)
              go_wp2_with fail
              have HPq := hide (put3 (unhide HR) (.int .i64 0) (.int .i64 0) (.int .i64 0))
              have HBq := hide (below_put3 (unhide HB) (b := w.heap.size) (Nat.le_refl _) (.int .i64 0) (.int .i64 0) (.int .i64 0))
              obtain ⟨s0, s1, s2⟩ := three_at (unhide HPq)
              exact bodyPost_ret (v := .tuple #[.agg #[.int .i64 0, .int .i64 0, .int .i64 0], .int .i64 4]) (by simp [results, Try.results37, go_sem, s0, s1, s2]) rfl ⟨rfl, unhide HBq⟩
          · rw [hdg] at hh
            simp only [Prod.mk.injEq] at hh
            obtain ⟨⟨rfl, rfl, rfl⟩, rfl⟩ := hh
            unfold divG at hdg
            simp only at hdg
            by_cases hc : (p = 0 ∧ q = 0) ∨ p.tmod d ≠ 0 ∨ q.tmod d ≠ 0
            · rw [if_pos hc] at hdg; cases hdg
            rw [if_neg hc] at hdg
            simp only [Option.some.injEq, Prod.mk.injEq] at hdg
            obtain ⟨ex, ey, ez⟩ := hdg
            have ha0 : p.tmod d = 0 := Decidable.byContradiction fun e => hc (.inr (.inl e))
            have hb0 : q.tmod d = 0 := Decidable.byContradiction fun e => hc (.inr (.inr e))
            have HN := hide (show ¬ (p = 0 ∧ q = 0) from fun e => hc (.inl e))
            clear hc
            have tx := tdiv_bd (a := p) (b := (d : Int)) (M := 100000000000000000) (by omega)
            have ty := tdiv_bd (a := q) (b := (d : Int)) (M := 100000000000000000) (by omega)
            rw [ex] at tx; rw [ey] at ty
            obtain ⟨tx1, tx2⟩ := tx; obtain ⟨ty1, ty2⟩ := ty
            obtain ⟨fp1, fp2⟩ := fr_pos (c := r0) (d := (d : Int)) (by omega)
            have bP := tdiv_bd (a := r0) (b := (frG r0 d : Int)) (M := 100000000000000000) (by omega)
            have bQ := tdiv_bd (a := (d : Int)) (b := (frG r0 d : Int)) (M := 1000000000000) (by omega)
            obtain ⟨P, hP⟩ : ∃ P, frN r0 d = P := ⟨_, rfl⟩
            obtain ⟨Q, hQ⟩ : ∃ Q, frD r0 d = Q := ⟨_, rfl⟩
            have HFN := hide hP; have HFD := hide hQ
            change -_ ≤ frN r0 d ∧ frN r0 d ≤ _ at bP
            change -_ ≤ frD r0 d ∧ frD r0 d ≤ _ at bQ
            rw [hP] at bP fp2; rw [hQ] at bQ fp1 fp2
            have HFL := hide (fp2.trans ez)
            clear hP hQ fp2 ez
            obtain ⟨bP1, bP2⟩ := bP; obtain ⟨bQ1, bQ2⟩ := bQ
            have hneS : bS ≠ w.heap.size := by omega
            have wx : IntKind.i64.wrap a1 = a1 := IntWalk.i64_in _ (by omega)
            have wy : IntKind.i64.wrap a2 = a2 := IntWalk.i64_in _ (by omega)
            have hdn : ¬ d = 0 := by omega
            have hqy : ∀ w : World, (binOp .quo 3 (.int .i64 q) (.int .i64 d)).run Try.prog w = .ok (.int .i64 a2) w := fun w => by simp [go_sem, hdn, ey, wy]
            have hqx : ∀ w : World, (binOp .quo 3 (.int .i64 p) (.int .i64 d)).run Try.prog w = .ok (.int .i64 a1) w := fun w => by simp [go_sem, hdn, ex, wx]
            by_cases hp0 : p = 0
            · have hq0 : ¬ q = 0 := fun e => HN.out ⟨hp0, e⟩
              have e1 : (q == 0) = false := by simp [hq0]
              subst hp0
              have ea : a1 = 0 := by rw [← ex]; simp
              subst ea
              have Z := hide (show wr.drew.heap[bS]? = some (.cells #[.int .i64 0, .int .i64 q, .int .i64 r0] 56 (0, 0)) from unhide HS)
              have hz := hide (show wr.drew.cell? ⟨bS, 0, none⟩ = some (.int .i64 0) ∧ wr.drew.cell? ⟨bS, 1, none⟩ = some (.int .i64 q) ∧ wr.drew.cell? ⟨bS, 2, none⟩ = some (.int .i64 r0) from ⟨z0, z1, z2⟩)
              have HBd := hide (unhide HB).drew
              go_wp2_with fail
              go_region_held3 (fun W => W.cell? ⟨bS, 0, none⟩ = some (.int .i64 0) ∧ W.cell? ⟨bS, 1, none⟩ = some (.int .i64 q) ∧ W.cell? ⟨bS, 2, none⟩ = some (.int .i64 r0)) (first | exact unhide hz | exact ⟨y0, y1, y2⟩ | exact ⟨w0, w1', w2'⟩ | exact three_at (three_other hneS _ _ _ (unhide HS4))) (first | (go_at_call 53; refine (RFrac_any r0 d wr.drew (by omega) (by omega) P Q HFN HFD).mono ?_; rintro e w3 ⟨rfl, b3⟩; have HS3 := hide ((b3.block _ hbw).trans (unhide Z)); obtain ⟨y0, y1, y2⟩ := three_at (unhide HS3); have HR3 := hide ((b3.block _ (show w.heap.size < wr.heap.size from by omega)).trans (unhide HR)); have HB3 := hide ((unhide HBd).trans (b3.mono (unhide HBd).size)); have hw3 := Nat.lt_of_lt_of_le hbw b3.size; clear b3) | (go_at_call 52; refine (RFloor_any P Q w3 (by omega) (by omega) (by omega) a3 HFL).mono ?_; rintro e w4 ⟨rfl, b4⟩; have HS4 := hide ((b4.block _ hw3).trans (unhide HS3)); obtain ⟨w0, w1', w2'⟩ := three_at (unhide HS4); have HR4 := hide ((b4.block _ (Nat.lt_trans hbSlt hw3)).trans (unhide HR3)); obtain ⟨g0, g1, g2⟩ := three_at (unhide HR4); have f0 := free_at (unhide HR4) 0; have f1 := free_at (unhide HR4) 1; have f2 := free_at (unhide HR4) 2; have HB4 := hide ((unhide HB3).trans (b4.mono (unhide HB3).size)); clear b4))
              all_goals go_wp2_with fail
              all_goals
                have HPq := hide (put3 (unhide HR4) (.int .i64 0) (.int .i64 a2) (.int .i64 a3))
                have HBq := hide (below_put3 (unhide HB4) (b := w.heap.size) (Nat.le_refl _) (.int .i64 0) (.int .i64 a2) (.int .i64 a3))
                obtain ⟨s0, s1, s2⟩ := three_at (unhide HPq)
                exact bodyPost_ret (v := .tuple #[.agg #[.int .i64 0, .int .i64 a2, .int .i64 a3], .int .i64 0]) (by simp [results, Try.results37, go_sem, s0, s1, s2]) rfl ⟨rfl, unhide HBq⟩
            · have e1 : (p == 0) = false := by simp [hp0]
              have Z := hide (show wr.drew.heap[bS]? = some (.cells #[.int .i64 p, .int .i64 q, .int .i64 r0] 56 (0, 0)) from unhide HS)
              have hz := hide (show wr.drew.cell? ⟨bS, 0, none⟩ = some (.int .i64 p) ∧ wr.drew.cell? ⟨bS, 1, none⟩ = some (.int .i64 q) ∧ wr.drew.cell? ⟨bS, 2, none⟩ = some (.int .i64 r0) from ⟨z0, z1, z2⟩)
              have HBd := hide (unhide HB).drew
              go_wp2_with fail
              go_region_held3 (fun W => W.cell? ⟨bS, 0, none⟩ = some (.int .i64 p) ∧ W.cell? ⟨bS, 1, none⟩ = some (.int .i64 q) ∧ W.cell? ⟨bS, 2, none⟩ = some (.int .i64 r0)) (first | exact unhide hz | exact ⟨y0, y1, y2⟩ | exact ⟨w0, w1', w2'⟩ | exact three_at (three_other hneS _ _ _ (unhide HS4))) (first | (go_at_call 53; refine (RFrac_any r0 d wr.drew (by omega) (by omega) P Q HFN HFD).mono ?_; rintro e w3 ⟨rfl, b3⟩; have HS3 := hide ((b3.block _ hbw).trans (unhide Z)); obtain ⟨y0, y1, y2⟩ := three_at (unhide HS3); have HR3 := hide ((b3.block _ (show w.heap.size < wr.heap.size from by omega)).trans (unhide HR)); have HB3 := hide ((unhide HBd).trans (b3.mono (unhide HBd).size)); have hw3 := Nat.lt_of_lt_of_le hbw b3.size; clear b3) | (go_at_call 52; refine (RFloor_any P Q w3 (by omega) (by omega) (by omega) a3 HFL).mono ?_; rintro e w4 ⟨rfl, b4⟩; have HS4 := hide ((b4.block _ hw3).trans (unhide HS3)); obtain ⟨w0, w1', w2'⟩ := three_at (unhide HS4); have HR4 := hide ((b4.block _ (Nat.lt_trans hbSlt hw3)).trans (unhide HR3)); obtain ⟨g0, g1, g2⟩ := three_at (unhide HR4); have f0 := free_at (unhide HR4) 0; have f1 := free_at (unhide HR4) 1; have f2 := free_at (unhide HR4) 2; have HB4 := hide ((unhide HB3).trans (b4.mono (unhide HB3).size)); clear b4))
              all_goals go_wp2_with fail
              all_goals
                have HPq := hide (put3 (unhide HR4) (.int .i64 a1) (.int .i64 a2) (.int .i64 a3))
                have HBq := hide (below_put3 (unhide HB4) (b := w.heap.size) (Nat.le_refl _) (.int .i64 a1) (.int .i64 a2) (.int .i64 a3))
                obtain ⟨s0, s1, s2⟩ := three_at (unhide HPq)
                exact bodyPost_ret (v := .tuple #[.agg #[.int .i64 a1, .int .i64 a2, .int .i64 a3], .int .i64 0]) (by simp [results, Try.results37, go_sem, s0, s1, s2]) rfl ⟨rfl, unhide HBq⟩
end Go.Proofs.Ytccfhcoioakmpaa
