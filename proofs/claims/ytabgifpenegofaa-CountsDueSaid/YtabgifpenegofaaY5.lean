/-
  Off of the program.
-/
import Derived.Test.YtabgifpenegofaaY4
import Derived.Test.YtabgifpenegofaaL1
namespace Go.Proofs.Ytabgifpenegofaa
open Go.RowKit

theorem new_res (w : World) : ∃ W0, w.alloc (.cells #[.int .i64 0, .int .i64 0] 47) = W0 ∧ Hid (Below w.heap.size w W0) ∧ Hid (W0.heap[w.heap.size]? = some (.cells #[.int .i64 0, .int .i64 0] 47 (0, 0))) :=
  ⟨_, rfl, hide ((Below.refl _ w).alloc (Nat.le_refl _) _), hide (heap_new_ w _)⟩
set_option maxRecDepth 100000 in
set_option maxHeartbeats 4000000 in
theorem Off_no (A : Option Addr) (n c : Nat) (t : List (List Int)) (w : World) (h : Rows_ w w.heap.size A n c t) (hr : Hid (isT t = false)) :
    Calls Try.prog 40 #[.slice A n c] w fun e w' => e = .returned (.tuple #[.agg #[.int .i64 0, .int .i64 0], .int .i64 2]) ∧ Below w.heap.size w w' := by
  obtain ⟨W0, hW0, HB0, HR0⟩ := new_res w
  have HH := hide ((h.below (unhide HB0)).more (unhide HB0).size)
  clear h
  go_enter Try.func40, Try.ntmps40
  go_upto_region 1 with fail
  clear hW0
  go_wp2_with fail
  refine (Sums_no _ _ _ _ _ (unhide HH) hr).mono ?_
  rintro e W1 ⟨rfl, b1⟩
  have HB1 := hide ((unhide HB0).trans (b1.mono (unhide HB0).size))
  have HR1 := hide ((b1.block _ (Array.getElem?_eq_some_iff.1 (unhide HR0)).1).trans (unhide HR0))
  clear b1
  have f0 := free_at (unhide HR1) 0; have f1 := free_at (unhide HR1) 1
  obtain ⟨q0, q1⟩ := two_at (unhide HR1)
  have HPq := hide (put2 (unhide HR1) (.int .i64 0) (.int .i64 0))
  have HBq := hide (below_put2 (unhide HB1) (b := w.heap.size) (Nat.le_refl _) (.int .i64 0) (.int .i64 0))
  go_wp2_with fail
  obtain ⟨s0, s1⟩ := two_at (unhide HPq)
  exact bodyPost_ret (v := .tuple #[.agg #[.int .i64 0, .int .i64 0], .int .i64 2]) (by simp [results, Try.results40, go_sem, s0, s1]) rfl ⟨rfl, unhide HBq⟩

set_option maxRecDepth 100000 in
set_option maxHeartbeats 4000000 in
theorem Off_zero (A : Option Addr) (n c m : Nat) (t : List (List Int)) (w : World) (h : Rows_ w w.heap.size A n c t) (ht : Hid (Tb t n m)) (hz : Hid ((zrB t || zcB t) = true)) :
    Calls Try.prog 40 #[.slice A n c] w fun e w' => e = .returned (.tuple #[.agg #[.int .i64 0, .int .i64 0], .int .i64 5]) ∧ Below w.heap.size w w' := by
  obtain ⟨W0, hW0, HB0, HR0⟩ := new_res w
  have HH := hide ((h.below (unhide HB0)).more (unhide HB0).size)
  clear h
  go_enter Try.func40, Try.ntmps40
  go_upto_region 1 with fail
  clear hW0
  go_wp2_with fail
  refine (Sums_ok _ _ _ _ _ _ (unhide HH) ht).mono ?_
  rintro e W1 ⟨A1, A2, rfl, j1, j2, b1⟩
  have HB1 := hide ((unhide HB0).trans (b1.mono (unhide HB0).size))
  have HR1 := hide ((b1.block _ (Array.getElem?_eq_some_iff.1 (unhide HR0)).1).trans (unhide HR0))
  have J1 := hide j1; have J2 := hide j2
  clear b1 j1 j2
  have f0 := free_at (unhide HR1) 0; have f1 := free_at (unhide HR1) 1
  obtain ⟨q0, q1⟩ := two_at (unhide HR1)
  have HPq := hide (put2 (unhide HR1) (.int .i64 0) (.int .i64 0))
  have HBq := hide (below_put2 (unhide HB1) (b := w.heap.size) (Nat.le_refl _) (.int .i64 0) (.int .i64 0))
  cases z1 : zrB t with
  | true =>
    have Z1 := hide (show decide ((0 : Int) ∈ rowsL t) = true from z1)
    clear z1
    go_wp2_with (go_at_call 65; refine (contains_is _ _ _ _ _ _ _ (unhide J1) _ Z1).mono ?_; rintro e w' ⟨rfl, rfl⟩)
    obtain ⟨s0, s1⟩ := two_at (unhide HPq)
    exact bodyPost_ret (v := .tuple #[.agg #[.int .i64 0, .int .i64 0], .int .i64 5]) (by simp [results, Try.results40, go_sem, s0, s1]) rfl ⟨rfl, unhide HBq⟩
  | false =>
    have Z1 := hide (show decide ((0 : Int) ∈ rowsL t) = false from z1)
    have Z2 := hide (show decide ((0 : Int) ∈ colsL t) = true from by have := hz.out; rw [z1] at this; exact this)
    clear z1
    go_wp2_with (first
      | (go_at_call 65; (with_reducible refine (contains_is A1 _ _ _ _ _ _ (unhide J1) _ Z1).mono ?_); rintro e w' ⟨rfl, rfl⟩)
      | (go_at_call 65; (with_reducible refine (contains_is A2 _ _ _ _ _ _ (unhide J2) _ Z2).mono ?_); rintro e w' ⟨rfl, rfl⟩))
    obtain ⟨s0, s1⟩ := two_at (unhide HPq)
    exact bodyPost_ret (v := .tuple #[.agg #[.int .i64 0, .int .i64 0], .int .i64 5]) (by simp [results, Try.results40, go_sem, s0, s1]) rfl ⟨rfl, unhide HBq⟩

theorem frac0 : Fr (Rat.divInt 0 1) 0 1 := by
  have e : Rat.divInt 0 1 = ((0 : Int) : Rat) := by decide +kernel
  exact ⟨by rw [e, Rat.num_intCast], by rw [e, Rat.den_intCast]; rfl⟩

set_option maxRecDepth 100000 in
set_option maxHeartbeats 16000000 in
theorem Off_ok (b off n c m : Nat) (t : List (List Int)) (w : World) (h : Rows_ w w.heap.size (some ⟨b, off, none⟩) n c t) (ht : Hid (Tb t n m)) (h1 : Hid (zrB t = false)) (h2 : Hid (zcB t = false)) (fn fd : Int) (hf : Hid (Fr (Rat.divInt (zT (at2 t) n m n) (dD (at2 t) n m)) fn fd)) :
    Calls Try.prog 40 #[.slice (some ⟨b, off, none⟩) n c] w fun e w' => e = .returned (.tuple #[.agg #[.int .i64 fn, .int .i64 fd], .int .i64 0]) ∧ Below w.heap.size w w' := by
  have hm := h.most; have hcap := h.cap
  have HPz := hide (pz_of ht.out h1.out h2.out)
  have h1 := hide (show decide ((0 : Int) ∈ rowsL t) = false from h1.out)
  have h2 := hide (show decide ((0 : Int) ∈ colsL t) = false from h2.out)
  have n1 := ht.out.n1; have n3 := ht.out.n3; have m1 := ht.out.m1; have m3 := ht.out.m3
  obtain ⟨bx, ox, _, _, _, ex, hbl, _⟩ := h.at_ 0 (show 0 < n by omega)
  cases ex
  obtain ⟨W0, hW0, HB0, HR0⟩ := new_res w
  have HH := hide ((h.below (unhide HB0)).more (unhide HB0).size)
  go_enter Try.func40, Try.ntmps40
  go_upto_region 1 with fail
  clear hW0
  go_wp2_with fail
  refine (Sums_ok _ _ _ _ _ _ (unhide HH) ht).mono ?_
  rintro e W1 ⟨A1, A2, rfl, j1, j2, b1⟩
  have HB1 := hide ((unhide HB0).trans (b1.mono (unhide HB0).size))
  have HR1 := hide ((b1.block _ (Array.getElem?_eq_some_iff.1 (unhide HR0)).1).trans (unhide HR0))
  have J1 := hide j1; have J2 := hide j2
  clear b1 j1 j2 HB0 HR0 HH
  go_upto_region 6 with (first
    | (go_at_call 65; (with_reducible refine (contains_is A1 _ _ _ _ _ _ (unhide J1) _ h1).mono ?_); rintro e w' ⟨rfl, rfl⟩)
    | (go_at_call 65; (with_reducible refine (contains_is A2 _ _ _ _ _ _ (unhide J2) _ h2).mono ?_); rintro e w' ⟨rfl, rfl⟩))
  go_wp2_with fail
  refine (lineOf_any _ _ _ _ _ (unhide J1) n3).mono ?_
  rintro e W2 ⟨rfl, b2⟩
  have HB2 := hide ((unhide HB1).trans (b2.mono (unhide HB1).size))
  have HR2 := hide ((b2.block _ (Array.getElem?_eq_some_iff.1 (unhide HR1)).1).trans (unhide HR1))
  have J1b := hide (((unhide J1).below b2).more b2.size); have J2b := hide (((unhide J2).below b2).more b2.size)
  clear b2 J1 J2 HB1 HR1
  have HRb := hide (show ∀ i, i < 3 → -1000000 ≤ nth (rowsL t) i ∧ nth (rowsL t) i ≤ 1000000 from fun i hi => by
    rw [rowsL_nth ht.out]
    have := ht.out.sml i 0 hi (by omega); have := ht.out.sml i 1 hi (by omega); have := ht.out.sml i 2 hi (by omega)
    unfold rS; omega)
  go_wp2_with fail
  refine (sum_any _ _ HRb.out).mono ?_
  rintro e W3 ⟨rfl, b3⟩
  have HB3 := hide ((unhide HB2).trans (b3.mono (unhide HB2).size))
  have HR3 := hide ((b3.block _ (Array.getElem?_eq_some_iff.1 (unhide HR2)).1).trans (unhide HR2))
  have J1c := hide (((unhide J1b).below b3).more b3.size); have J2c := hide (((unhide J2b).below b3).more b3.size)
  clear b3 J1b J2b HB2 HR2 HRb
  rw [show nth (rowsL t) 0 + nth (rowsL t) 1 + nth (rowsL t) 2 = tot (at2 t) from by rw [rowsL_nth ht.out, rowsL_nth ht.out, rowsL_nth ht.out]; rfl]
  obtain ⟨s1, s2⟩ := HPz.out.s
  obtain ⟨S, hS⟩ : ∃ S, tot (at2 t) = S := ⟨_, rfl⟩
  have HS := hide hS
  rw [hS] at s1 s2 ⊢
  clear hS
  go_wp2_with fail
  refine (quotient_any 0 1 _ (by omega) (by omega) 0 1 (hide frac0)).mono ?_
  rintro e W4 ⟨rfl, b4⟩
  have HB4 := hide ((unhide HB3).trans (b4.mono (unhide HB3).size))
  have HR4 := hide ((b4.block _ (Array.getElem?_eq_some_iff.1 (unhide HR3)).1).trans (unhide HR3))
  have J1d := hide (((unhide J1c).below b4).more b4.size); have J2d := hide (((unhide J2c).below b4).more b4.size)
  clear b4 J1c J2c HB3 HR3
  obtain ⟨W5, hW5, hF5, hB5⟩ := new_frac W4 0 1
  obtain ⟨g, hg⟩ : ∃ g, W4.heap.size = g := ⟨_, rfl⟩
  rw [hg] at hF5 hB5
  have HB5 := hide ((unhide HB4).trans (hB5.mono (by rw [← hg]; exact (unhide HB4).size)))
  have hgr : w.heap.size < g := by rw [← hg]; exact (Array.getElem?_eq_some_iff.1 (unhide HR4)).1
  have HR5 := hide ((hB5.block _ hgr).trans (unhide HR4))
  have F5 := hide hF5
  have J1e := hide (show Ints W5 g A1 n 3 (rowsL t) from by have := (unhide J1d).below (by rw [hg]; exact hB5); rw [hg] at this; exact this)
  have J2e := hide (show Ints W5 g A2 m 3 (colsL t) from by have := (unhide J2d).below (by rw [hg]; exact hB5); rw [hg] at this; exact this)
  have HGE := hide hg
  have HGR := hide hgr
  clear hF5 hB5 hg hgr J1d J2d HB4 HR4
  go_upto_region 8 with fail
  simp only [HGE.out]
  clear hW5 HGE
  obtain ⟨bR, oR, rfl, hbR, _⟩ := (unhide J1e).cells (show 0 < n by omega)
  obtain ⟨bC, oC, rfl, hbC, _⟩ := (unhide J2e).cells (show 0 < m by omega)
  have BB0 := hide (Below.refl g W5)
  go_wp2_with fail
  go_loopw [9, 10, 11, 12, 13, 14, 38] (fun _ _ _ _ _ _ q wr => ∃ i : Nat, ∃ x y : Int, i ≤ n ∧ q = .int .i64 i ∧ Hid (Below g W5 wr) ∧ Hid (wr.heap[g]? = some (.cells #[.int .i64 x, .int .i64 y] 47 (0, 0))) ∧ Hid (Fr (Rat.divInt (zT (at2 t) n m i) (dD (at2 t) n m)) x y)) (fun _ _ _ _ _ _ q _ => n - (intOf q).toNat)
  case atStart => exact ⟨0, 0, 1, Nat.zero_le _, rfl, BB0, F5, hide (by
    have hd := HPz.out.d_bd
    have e : Rat.divInt (zT (at2 t) n m 0) (dD (at2 t) n m) = Rat.divInt 0 1 := by
      rw [Rat.divInt_eq_divInt_iff (by omega) (by omega)]; simp [zT]
    rw [e]; exact frac0)⟩
  case round =>
    obtain ⟨wo, rfl⟩ : ∃ wo : World, wo = wr := ⟨_, rfl⟩
    obtain ⟨i, x0, y0, hi, rfl, HB, HF, HQ⟩ := hrel
    by_cases hlt : i < n
    · obtain ⟨A3, c3, hcw, hi1⟩ := ht.out.get h hlt
      have HBw := hide ((unhide HB5).trans ((unhide HB).mono (by have := HGR.out; omega)))
      have hc1 := ((unhide HBw).cell (p := ⟨b, off + i, none⟩) hbl).trans hcw
      have hm1 := hi1.most; have hcap1 := hi1.cap
      obtain ⟨b1, o1, rfl, hb1, _⟩ := hi1.cells (show 0 < m by omega)
      have HI1 := hide hi1
      clear hi1 hcw
      go_wp2_with fail
      clear hc1
      go_loopw [11, 12, 13, 14, 45] (fun _ _ _ _ q wr => ∃ k : Nat, ∃ x y : Int, k ≤ m ∧ q = .int .i64 k ∧ Hid (Below g W5 wr) ∧ Hid (wr.heap[g]? = some (.cells #[.int .i64 x, .int .i64 y] 47 (0, 0))) ∧ Hid (Fr (Rat.divInt (zT (at2 t) n m i + zR (at2 t) n m i k) (dD (at2 t) n m)) x y)) (fun _ _ _ _ q _ => m - (intOf q).toNat)
      case atStart => exact ⟨0, x0, y0, Nat.zero_le _, rfl, HB, HF, hide (by rw [zR, Int.add_zero]; exact HQ.out)⟩
      case round =>
        obtain ⟨k, fx, fy, hk, rfl, HBk, HFk, HQk⟩ := hrel
        by_cases hkt : k < m
        · have HBwk := hide ((unhide HB5).trans ((unhide HBk).mono (by have := HGR.out; omega)))
          have hx := ((unhide HI1).below (unhide HBwk)).cells (show 0 < m by omega)
          obtain ⟨b1', o1', e1, _, hx⟩ := hx
          cases e1
          have hx := hx k (by rw [ht.out.rows i hlt]; exact hkt)
          rw [show (row t i).getD k 0 = at2 t i k from rfl] at hx
          have hr1 := ((unhide J1e).below (unhide HBk)).cells (show 0 < n by omega)
          obtain ⟨bR', oR', e1, _, hr1⟩ := hr1
          cases e1
          have hr1 := hr1 i (by rw [(unhide J1e).len]; exact hlt)
          rw [show (rowsL t).getD i 0 = nth (rowsL t) i from rfl, rowsL_nth ht.out] at hr1
          have hr2 := ((unhide J2e).below (unhide HBk)).cells (show 0 < m by omega)
          obtain ⟨bC', oC', e1, _, hr2⟩ := hr2
          cases e1
          have hr2 := hr2 k (by rw [(unhide J2e).len]; exact hkt)
          rw [show (colsL t).getD k 0 = nth (colsL t) k from rfl, colsL_nth ht.out] at hr2
          obtain ⟨p1, p2⟩ := HPz.out.rc_bd hlt hkt
          obtain ⟨u1, u2⟩ := HPz.out.sk_bd i k
          obtain ⟨l1, l2⟩ := HPz.out.l_bd hlt hkt
          obtain ⟨v1, v2⟩ := HPz.out.l2_bd hlt hkt
          obtain ⟨w1, w2⟩ := HPz.out.e_bd hlt hkt
          have HST := hide (HPz.out.step hlt hkt (zT (at2 t) n m i + zR (at2 t) n m i k))
          obtain ⟨z1, z2⟩ := HPz.out.z_bd hlt hk
          obtain ⟨d1, d2⟩ := HPz.out.d_bd
          obtain ⟨⟨x1, x2⟩, y1, y2⟩ := fr_bd HQk.out z1 (by omega)
          have HZs := hide (show zT (at2 t) n m i + zR (at2 t) n m i (k + 1) = zT (at2 t) n m i + zR (at2 t) n m i k + tT (at2 t) n m i k from by rw [zR]; omega)
          have hlk : lk (at2 t) i k = S * at2 t i k - rS (at2 t) i * cS (at2 t) k := by unfold lk; rw [HS.out]
          have hee : eE (at2 t) i k = S * (rS (at2 t) i * cS (at2 t) k) := by unfold eE; rw [HS.out]
          rw [HS.out] at u1 u2
          obtain ⟨du, hdu⟩ : ∃ y, rS (at2 t) i * cS (at2 t) k = y := ⟨_, rfl⟩
          obtain ⟨sk, hsk⟩ : ∃ y, S * at2 t i k = y := ⟨_, rfl⟩
          rw [hdu] at p1 p2 hlk hee
          rw [hsk] at u1 u2 hlk
          obtain ⟨la, hla⟩ : ∃ y, lk (at2 t) i k = y := ⟨_, rfl⟩
          obtain ⟨ee, heE⟩ : ∃ y, eE (at2 t) i k = y := ⟨_, rfl⟩
          rw [hla] at l1 l2 v1 v2 hlk HST
          rw [heE] at w1 w2 hee HST
          obtain ⟨ll, hll⟩ : ∃ y, la * la = y := ⟨_, rfl⟩
          rw [hll] at v1 v2 HST
          have hla2 : sk - du = la := hlk.symm
          have hee2 : S * du = ee := hee.symm
          obtain ⟨gn, gd, hgf⟩ := exists_fr (Rat.divInt ll ee)
          obtain ⟨⟨a1, a2⟩, c1, c2⟩ := fr_bd hgf v1 (by omega)
          obtain ⟨on, od, hof⟩ := exists_fr (Rat.divInt (zT (at2 t) n m i + zR (at2 t) n m i (k + 1)) (dD (at2 t) n m))
          have HGf := hide hgf
          have HOf := hide hof
          have HOf2 := hide (show Fr (Rat.divInt (fx * gd + gn * fy) (fy * gd)) on od from by
            have e := divInt_add (p := Rat.divInt (zT (at2 t) n m i + zR (at2 t) n m i k) (dD (at2 t) n m)) (q := Rat.divInt ll ee)
            rw [HQk.out.1, HQk.out.2, hgf.1, hgf.2] at e
            rw [e, HST.out, ← HZs.out]; exact hof)
          have k1 := mul_bd (M := 158329674399744) (N := 4096) (a := fx) (b := gd) ⟨by omega, by omega⟩ ⟨by omega, by omega⟩
          have k2 := mul_bd (M := 65536) (N := 268435456) (a := gn) (b := fy) ⟨by omega, by omega⟩ ⟨by omega, by omega⟩
          have k3 := mul_bd (M := 268435456) (N := 4096) (a := fy) (b := gd) ⟨by omega, by omega⟩ ⟨by omega, by omega⟩
          have k4 : 0 ≤ fx * gd := Int.mul_nonneg x1 (by omega)
          have k5 : 0 ≤ gn * fy := Int.mul_nonneg a1 (by omega)
          have k6 : 0 < fy * gd := Int.mul_pos (by omega) (by omega)
          have HP1 := hide (fun W => quotient_any ll ee W ⟨v1, by omega⟩ ⟨w1, by omega⟩ gn gd HGf)
          have HP2 := hide (fun W => plus_any fx fy gn gd W ⟨k4, by omega⟩ ⟨k5, by omega⟩ ⟨by omega, by omega⟩ on od HOf2)
          have wdu : IntKind.i64.wrap du = du := by rw [IntKind.wrap_i64]; omega
          have wll : IntKind.i64.wrap ll = ll := by rw [IntKind.wrap_i64]; omega
          have wee : IntKind.i64.wrap ee = ee := by rw [IntKind.wrap_i64]; omega
          generalize at2 t i k = kv at hx hsk
          generalize rS (at2 t) i = rv at hr1 hdu
          generalize cS (at2 t) k = cv at hr2 hdu
          clear hlk hee hla heE HST z1 z2 d1 d2 x1 x2 y1 y2 a1 a2 c1 c2 k1 k2 k3 k4 k5 k6 hgf hof HQk HZs
          go_upto_region 14 with fail
          go_big_quiet (fail)
          have HBq := hide (show Below g W5 (wr.drewN nq) from Below.drewN' (unhide HBk) nq)
          have HFq := hide (show (wr.drewN nq).heap[g]? = some (.cells #[.int .i64 fx, .int .i64 fy] 47 (0, 0)) from unhide HFk)
          clear hx hr1 hr2 HBwk
          generalize wr.drewN nq = Wq at HBq HFq ⊢
          go_upto_region 16 with fail
          have HWd := hide (show Below Wq.heap.size Wq Wq.drew from (Below.refl _ _).drew)
          have HSA := hide (show ∀ W, Below Wq.heap.size Wq W → (W.cell? ⟨g, 0, none⟩ = some (.int .i64 fx) ∧ W.cell? ⟨g, 1, none⟩ = some (.int .i64 fy)) from fun W hW => two_at ((hW.block _ (Array.getElem?_eq_some_iff.1 (unhide HFq)).1).trans (unhide HFq)))
          refine wp_region_quietT 9 (fun W' => Below Wq.heap.size Wq W') (by kernel_rfl) (by kernel_rfl) (unhide HWd) ?_
          simp only [List.take_succ_cons, List.take_zero, List.drop_succ_cons, List.drop_zero]
          repeat (first
            | go_big_quiet_skip
            | (go_big_quiet_want
               apply Exists.intro
               refine ⟨fun W hW => ?_, ?_⟩
               · obtain ⟨s0, s1⟩ := (unhide HSA) W hW
                 go_simp
                 first | rfl | ((with_reducible refine ((unhide HP1) W).mono ?_); exact fun _ _ h => ⟨h.1, hW.trans (h.2.mono hW.size)⟩) | ((with_reducible refine ((unhide HP2) W).mono ?_); exact fun _ _ h => ⟨h.1, hW.trans (h.2.mono hW.size)⟩)
               go_big_quiet_on
               simp only [Act.put, List.setIfInBounds_toArray, List.set_cons_zero, List.set_cons_succ]))
          refine wpQuiet_nil ?_
          intro wc hWc
          have hgl := (Array.getElem?_eq_some_iff.1 (unhide HFq)).1
          have HFc := hide ((hWc.block _ hgl).trans (unhide HFq))
          have HBc := hide ((unhide HBq).trans (hWc.mono (show g ≤ Wq.heap.size by omega)))
          clear hWc hgl
          have f0 := free_at (unhide HFc) 0; have f1 := free_at (unhide HFc) 1
          obtain ⟨q0, q1⟩ := two_at (unhide HFc)
          have HFn := hide (put2 (unhide HFc) (.int .i64 on) (.int .i64 od))
          have HBn := hide (below_put2 (unhide HBc) (b := g) (Nat.le_refl _) (.int .i64 on) (.int .i64 od))
          go_wp2_with fail
          go_roundw
          case rel => exact ⟨k + 1, on, od, by omega, by go_num, HBn, HFn, HOf⟩
          case measure => simp [intOf]; omega
        · obtain rfl : m = k := by omega
          go_wp2_with fail
          go_roundw
          case rel => exact ⟨i + 1, fx, fy, by omega, by go_num, HBk, HFk, hide (by rw [zT]; exact HQk.out)⟩
          case measure => simp [intOf]; omega
    · obtain rfl : n = i := by omega
      obtain ⟨rfl, rfl⟩ : x0 = fn ∧ y0 = fd := ⟨HQ.out.1.symm.trans hf.out.1, HQ.out.2.symm.trans hf.out.2⟩
      have HBw := hide ((unhide HB5).trans ((unhide HB).mono (by have := HGR.out; omega)))
      have HRw := hide (((unhide HB).block _ HGR.out).trans (unhide HR5))
      obtain ⟨p0, p1⟩ := two_at (unhide HF)
      have f0 := free_at (unhide HRw) 0; have f1 := free_at (unhide HRw) 1
      obtain ⟨q0, q1⟩ := two_at (unhide HRw)
      have HPq := hide (put2 (unhide HRw) (.int .i64 x0) (.int .i64 y0))
      have HBq := hide (below_put2 (unhide HBw) (b := w.heap.size) (Nat.le_refl _) (.int .i64 x0) (.int .i64 y0))
      go_wp2_with fail
      obtain ⟨s0, s1⟩ := two_at (unhide HPq)
      exact bodyPost_ret (v := .tuple #[.agg #[.int .i64 x0, .int .i64 y0], .int .i64 0]) (by simp [results, Try.results40, go_sem, s0, s1]) rfl ⟨rfl, unhide HBq⟩
end Go.Proofs.Ytabgifpenegofaa
