/-
  Mirror of the program.
-/
import Derived.Deep.DeepCutAuto
import Derived.Test.YtjhicbiacnkpaaaDoorY3
import Derived.Test.YtjhicbiacnkpaaaDoorWb
namespace Go.Proofs.YtjhicbiacnkpaaaDoor
open Go.RowKit

theorem Fil.but {w w' : World} {g n : Nat} {F : Nat → Value} {X : Nat → List Int} {o : Option Nat} (h : Fil w g n n F X) (hb : But w w' o) (hg : some g ≠ o) (ho : ∀ r, r < n → ∀ b, (F r).ownBlock = some b → some b ≠ o) : Fil w' g n n F X :=
  ⟨(hb.at_ g h.outer.lt hg).trans h.outer, fun s hs => (h.rows s hs).but hb (ho s hs), h.apart⟩
theorem Fil.ext {w : World} {g n : Nat} {F : Nat → Value} {X Y : Nat → List Int} (h : Fil w g n n F X) (he : ∀ r, r < n → X r = Y r) : Fil w g n n F Y :=
  ⟨h.outer, fun s hs => he s hs ▸ h.rows s hs, h.apart⟩
theorem Fil.turned {w w' : World} {g n : Nat} {F : Nat → Value} {X : Nat → List Int} (h : Fil w g n n F X) (hb : But w w' (some g)) (hk : Blk w' g 22 (outF n (fun i => F (n - 1 - i)) n)) : Fil w' g n n (fun i => F (n - 1 - i)) (fun i => X (n - 1 - i)) :=
  ⟨hk, fun s hs => (h.rows (n - 1 - s) (by omega)).but hb fun b e e2 => by
    have := ((h.rows (n - 1 - s) (by omega)).blk b e).1
    have e3 : b = g := Option.some.inj e2
    omega, fun r s hr hs hrs => h.apart _ _ (by omega) (by omega) (by omega)⟩
theorem Fil.slices {w : World} {g n : Nat} {F : Nat → Value} {X : Nat → List Int} (h : Fil w g n n F X) : ∀ i, i < n → ∃ A m c, F i = .slice A m c := fun i hi => by
  obtain ⟨A, c, e, _⟩ := (h.rows i hi).ints
  exact ⟨A, _, c, e⟩
theorem Fil.bound {w : World} {g n : Nat} {F : Nat → Value} {X : Nat → List Int} (h : Fil w g n n F X) : ∀ i, i < n → ∀ b, (F i).ownBlock = some b → g < b ∧ b < w.heap.size := fun i hi b e => by
  have := (h.rows i hi).blk b e
  omega
theorem row_rev (C : List (List Int)) {i n : Nat} (hl : C.length = n) (h : i < n) : row C (n - 1 - i) = row C.reverse i := by
  unfold row
  rw [List.getD_eq_getElem?_getD, List.getD_eq_getElem?_getD, List.getElem?_reverse (by omega), hl]
theorem row_mapR (R : List (List Int)) (i : Nat) : row (R.map List.reverse) i = (row R i).reverse := by
  unfold row
  rw [List.getD_eq_getElem?_getD, List.getD_eq_getElem?_getD, List.getElem?_map]
  cases R[i]? <;> simp

/-- A puzzle that is being mirrored: the two copies, and where they stand. -/
structure Mir (w W : World) (q ga gb n1 n2 : Nat) (Fa Fb : Nat → Value) (X Y : Nat → List Int) (u v : Value) : Prop where
  fa : Fil W ga n1 n1 Fa X
  fb : Fil W gb n2 n2 Fb Y
  km : Blk W q 40 #[u, v]
  k2 : Blk W (w.heap.size + 1) 40 #[.slice none 0 0, .slice none 0 0]
  ga1 : w.heap.size + 1 + 1 ≤ ga
  ab : ga < gb
  q1 : w.heap.size + 1 + 1 ≤ q
  qa : q ≠ ga
  qb : q ≠ gb
  xa : ∀ r, r < n1 → ∀ b, (Fa r).ownBlock = some b → b < gb ∧ b ≠ q
  xb : ∀ r, r < n2 → ∀ b, (Fb r).ownBlock = some b → b ≠ q
  bel : Below w.heap.size w W
theorem Mir.put {w W : World} {q ga gb n1 n2 : Nat} {Fa Fb : Nat → Value} {X Y : Nat → List Int} {u v : Value} (h : Mir w W q ga gb n1 n2 Fa Fb X Y u v) (u' v' : Value) :
    Mir w ((W.setCell ⟨q, 0, none⟩ u').setCell ⟨q, 1, none⟩ v') q ga gb n1 n2 Fa Fb X Y u' v' := by
  have hb := (But.set W q 0 u').trans (But.set _ q 1 v')
  have h1 := h.q1; have h2 := h.qa; have h3 := h.qb
  refine ⟨h.fa.but hb (fun e => h2 (Option.some.inj e).symm) fun r hr b e e2 => (h.xa r hr b e).2 (Option.some.inj e2),
    h.fb.but hb (fun e => h3 (Option.some.inj e).symm) fun r hr b e e2 => (h.xb r hr b e) (Option.some.inj e2),
    put2 h.km u' v', (put2_far W (by omega) u' v').trans h.k2, h.ga1, h.ab, h1, h2, h3, h.xa, h.xb, below_put2 h.bel (by omega) u' v'⟩
theorem Mir.turn {w W W' : World} {q ga gb n1 n2 : Nat} {Fa Fb : Nat → Value} {X Y : Nat → List Int} {u v : Value} (h : Mir w W q ga gb n1 n2 Fa Fb X Y u v)
    (hk : Blk W' gb 22 (outF n2 (fun i => Fb (n2 - 1 - i)) n2)) (hl : Below gb W W') (hb : But W W' (some gb)) :
    Mir w W' q ga gb n1 n2 Fa (fun i => Fb (n2 - 1 - i)) X (fun i => Y (n2 - 1 - i)) u v := by
  have h1 := h.q1; have h2 := h.ga1; have h3 := h.ab
  have h4 : w.heap.size ≤ gb := by omega
  refine ⟨h.fa.but hb (fun e => by have := Option.some.inj e; omega) fun r hr b e e2 => by have := (h.xa r hr b e).1; have := Option.some.inj e2; omega,
    h.fb.turned hb hk, (hb.at_ q h.km.lt fun e => h.qb (Option.some.inj e)).trans h.km, h.k2.below hl (by omega), h2, h3, h1, h.qa, h.qb, h.xa, fun r hr b e => h.xb _ (by omega) b e, h.bel.trans (hl.mono h4)⟩
theorem Mir.rev {w W W' : World} {q ga gb n1 n2 r : Nat} {Fa Fb : Nat → Value} {X Y : Nat → List Int} {u v : Value} {ys : List Int} (h : Mir w W q ga gb n1 n2 Fa Fb X Y u v) (hr : r < n1)
    (ho : Owned W' (ga + 1) (Fa r) ys) (hl : Below (ga + 1) W W') (hb : But W W' (Fa r).ownBlock) :
    Mir w W' q ga gb n1 n2 Fa Fb (fun s => if s = r then ys else X s) Y u v := by
  have h1 := h.q1; have h2 := h.ga1; have h3 := h.ab
  refine ⟨h.fa.rev hr hb ho, h.fb.but hb (fun e => by have := (h.xa r hr gb e.symm).1; omega) fun s hs b e e2 => by
      have := (h.fb.bound s hs b e).1
      have := (h.xa r hr b e2.symm).1
      omega, (hb.at_ q h.km.lt fun e => (h.xa r hr q e.symm).2 rfl).trans h.km, h.k2.below hl (by omega), h2, h3, h1, h.qa, h.qb, h.xa, h.xb, h.bel.trans (hl.mono (by omega))⟩

theorem Mir.ext {w W : World} {q ga gb n1 n2 : Nat} {Fa Fb : Nat → Value} {X Y X' Y' : Nat → List Int} {u v : Value} (h : Mir w W q ga gb n1 n2 Fa Fb X Y u v) (hx : ∀ r, r < n1 → X r = X' r) (hy : ∀ r, r < n2 → Y r = Y' r) :
    Mir w W q ga gb n1 n2 Fa Fb X' Y' u v :=
  ⟨h.fa.ext hx, h.fb.ext hy, h.km, h.k2, h.ga1, h.ab, h.q1, h.qa, h.qb, h.xa, h.xb, h.bel⟩

set_option maxRecDepth 100000 in
set_option maxHeartbeats 2000000 in
theorem MirrorP_ok (A1 A2 : Option Addr) (n1 n2 c1 c2 : Nat) (R C : List (List Int)) (w : World) (r1 : Rows_ w w.heap.size A1 n1 c1 R) (r2 : Rows_ w w.heap.size A2 n2 c2 C) (HP : Hid (puzB R C = true)) :
    Calls Tryd.prog 46 #[.agg #[.slice A1 n1 c1, .slice A2 n2 c2]] w fun e w' => ∃ B1 m1 d1 B2 m2 d2, e = .returned (.tuple #[.agg #[.slice B1 m1 d1, .slice B2 m2 d2], .int .i64 0]) ∧ Rows_ w' w'.heap.size B1 m1 d1 (R.map List.reverse) ∧ Rows_ w' w'.heap.size B2 m2 d2 C.reverse ∧ Below w.heap.size w w' := by
  obtain ⟨v1, v2⟩ := puz_parts HP.out
  obtain ⟨a1, a2⟩ := cl_rows v1
  obtain ⟨a3, a4⟩ := cl_rows v2
  rw [r1.len] at a1 a2
  rw [r2.len] at a3 a4
  have HRL := hide a2; have HCL := hide a4
  have l1 := hide r1.len; have l2 := hide r2.len
  have hn2 := hide (show 1 ≤ n2 from by
    have h2 := v2; unfold acB at h2; rw [Bool.and_eq_true] at h2
    have := (sz_iff.1 h2.1).1; have := r2.len; omega)
  clear v1 v2 a2 a4
  obtain ⟨W0, hW0⟩ : ∃ W0 : World, W0 = (w.alloc (.cells #[.slice A1 n1 c1, .slice A2 n2 c2] 40)).alloc (.cells #[.slice none 0 0, .slice none 0 0] 40) := ⟨_, rfl⟩
  have HB0 := hide (show Below w.heap.size w W0 from by rw [hW0]; exact ((Below.refl _ w).alloc (Nat.le_refl _) _).alloc (by simp) _)
  have K1 := hide (show Blk W0 w.heap.size 40 #[.slice A1 n1 c1, .slice A2 n2 c2] from by rw [hW0]; exact (Blk.new w _ _).alloc _)
  have K2 := hide (show Blk W0 (w.heap.size + 1) 40 #[.slice none 0 0, .slice none 0 0] from by
    rw [hW0]
    have := Blk.new (w.alloc (.cells #[.slice A1 n1 c1, .slice A2 n2 c2] 40)) 40 #[.slice none 0 0, .slice none 0 0]
    rwa [alloc_sz] at this)
  have HZ := hide (show W0.heap.size = w.heap.size + 1 + 1 from by rw [hW0]; simp)
  have R1 := hide ((r1.below (unhide HB0)).more (show w.heap.size ≤ W0.heap.size by rw [HZ.out]; omega))
  have R2 := hide ((r2.below (unhide HB0)).more (show w.heap.size ≤ W0.heap.size by rw [HZ.out]; omega))
  obtain ⟨p0, p1, _, _⟩ := cell_two (unhide K1)
  clear r1 r2
  go_enter Tryd.func46, Tryd.ntmps46
  go_upto_region 1 with fail
  rw [← hW0]; clear hW0
  go_wp2_with fail
  refine (isPuzzle_any _ _ _ _ _ _ _ _ _ (unhide R1) (unhide R2) _ HP).mono ?_
  rintro e wi ⟨rfl, b1⟩
  have bd := b1.drew
  have K1d := hide (show Blk wi.drew w.heap.size 40 #[.slice A1 n1 c1, .slice A2 n2 c2] from (unhide K1).below bd (by rw [HZ.out]; omega))
  have K2d := hide (show Blk wi.drew (w.heap.size + 1) 40 #[.slice none 0 0, .slice none 0 0] from (unhide K2).below bd (by rw [HZ.out]; omega))
  obtain ⟨pd0, pd1, _, _⟩ := cell_two (unhide K1d)
  have R1d := hide (show Rows_ wi.drew wi.drew.heap.size A1 n1 c1 R from (unhide R1).on bd)
  have R2d := hide (show Rows_ wi.drew wi.drew.heap.size A2 n2 c2 C from (unhide R2).on bd)
  have HBd := hide ((unhide HB0).trans (bd.mono (by rw [HZ.out]; omega)))
  have HSd := hide (show w.heap.size + 1 + 1 ≤ wi.heap.size from by rw [← HZ.out]; exact bd.size)
  have hdr : wi.drew.heap.size = wi.heap.size := rfl
  have hdn : (wi.alloc (.cells #[.slice none 0 0, .slice none 0 0] 40)).drew.heap.size = (wi.alloc (.cells #[.slice none 0 0, .slice none 0 0] 40)).heap.size := rfl
  have bn : Below wi.drew.heap.size wi.drew (wi.alloc (.cells #[.slice none 0 0, .slice none 0 0] 40)).drew := ((Below.refl _ _).alloc (Nat.le_refl _) _ : Below wi.drew.heap.size wi.drew (wi.drew.alloc (.cells #[.slice none 0 0, .slice none 0 0] 40)))
  have R1n := hide (show Rows_ (wi.alloc (.cells #[.slice none 0 0, .slice none 0 0] 40)).drew (wi.alloc (.cells #[.slice none 0 0, .slice none 0 0] 40)).drew.heap.size A1 n1 c1 R from (unhide R1d).on bn)
  obtain ⟨pn0, pn1, _, _⟩ := cell_two (show Blk (wi.alloc (.cells #[.slice none 0 0, .slice none 0 0] 40)).drew w.heap.size 40 #[.slice A1 n1 c1, .slice A2 n2 c2] from (unhide K1d).below bn (by have := HSd.out; omega))
  have HSn := hide (show (wi.alloc (.cells #[.slice none 0 0, .slice none 0 0] 40)).drew.heap.size = wi.heap.size + 1 from by rw [hdn]; simp)
  have HBn := hide bn
  clear b1 bd bn p0 p1
  go_upto_region 3 with fail
  go_cut [4] (fun m wx => ∃ (q ga gb : Nat) (Fa Fb : Nat → Value), m = .pointer (some ⟨q, 0, none⟩) ∧ Hid (Mir w wx q ga gb n1 n2 Fa Fb (row R) (row C) (.slice (some ⟨ga, 0, none⟩) n1 n1) (.slice (some ⟨gb, 0, none⟩) n2 n2)))
  case first =>
     go_region_with (first
       | (go_at_call 83; (with_reducible refine (copyOf_any A1 n1 c1 R _ (unhide R1d) a1 HRL).mono ?_)
          rintro e wa ⟨ga, Fa, rfl, fa, ha, ba⟩
          have FA := hide fa; have GA := hide (show w.heap.size + 1 + 1 ≤ ga from Nat.le_trans HSd.out ha)
          have R2a := hide ((unhide R2d).on ba)
          have K1a := hide ((unhide K1d).below ba (by have := HSd.out; omega)); have K2a := hide ((unhide K2d).below ba (by have := HSd.out; omega))
          obtain ⟨pa0, pa1, _, _⟩ := cell_two (unhide K1a)
          have Ba := hide ((unhide HBd).trans (ba.mono (unhide HBd).size))
          have Sa := hide (Nat.le_trans HSd.out ba.size)
          have bm : Below wa.heap.size wa (wa.alloc (.cells #[.slice none 0 0, .slice none 0 0] 40)) := (Below.refl _ _).alloc (Nat.le_refl _) _
          have BM := hide bm
          have R2m := hide (show Rows_ (wa.alloc (.cells #[.slice none 0 0, .slice none 0 0] 40)) (wa.alloc (.cells #[.slice none 0 0, .slice none 0 0] 40)).heap.size A2 n2 c2 C from (unhide R2a).on bm)
          obtain ⟨pm0, pm1, _, _⟩ := cell_two (show Blk (wa.alloc (.cells #[.slice none 0 0, .slice none 0 0] 40)) w.heap.size 40 #[.slice A1 n1 c1, .slice A2 n2 c2] from (unhide K1a).below bm (by have := Sa.out; omega))
          have HSm := hide (show (wa.alloc (.cells #[.slice none 0 0, .slice none 0 0] 40)).heap.size = wa.heap.size + 1 from by simp)
          clear fa ha ba bm)
       | (go_at_call 83; (with_reducible refine (copyOf_any A1 n1 c1 R _ (unhide R1n) a1 HRL).mono ?_)
          rintro e wa ⟨ga, Fa, rfl, fa, ha, ba⟩
          have FA := hide fa
          have GQ := hide (show wi.heap.size < ga from by have := HSn.out; omega)
          have GA := hide (show w.heap.size + 1 + 1 ≤ ga from by have := GQ.out; have := HSd.out; omega)
          have bw := (unhide HBn).trans (ba.mono (unhide HBn).size)
          have KM1 := hide (show Blk wa wi.heap.size 40 #[.slice none 0 0, .slice none 0 0] from (show Blk (wi.alloc (.cells #[.slice none 0 0, .slice none 0 0] 40)).drew wi.heap.size 40 #[.slice none 0 0, .slice none 0 0] from Blk.new wi _ _).below ba (by have := HSn.out; omega))
          have R2a := hide ((unhide R2d).on bw)
          have K1a := hide ((unhide K1d).below bw (by have := HSd.out; omega)); have K2a := hide ((unhide K2d).below bw (by have := HSd.out; omega))
          obtain ⟨pa0, pa1, _, _⟩ := cell_two (unhide K1a)
          have Ba := hide ((unhide HBd).trans (bw.mono (unhide HBd).size))
          have Sa := hide (Nat.le_trans HSd.out bw.size)
          clear fa ha ba bw)
       | (go_at_call 83; have KM5 := KM1; (with_reducible refine (copyOf_any A2 n2 c2 C _ (unhide R2a) a3 HCL).mono ?_)
          rintro e wb ⟨gb, Fb, rfl, fb, hb, bb⟩
          have MZ := hide (show Mir w wb wi.heap.size ga gb n1 n2 Fa Fb (row R) (row C) (.slice none 0 0) (.slice none 0 0) from by
            have z1 := (unhide FA).outer.lt; have z2 := GQ.out; have z3 := HSd.out; have z4 := Sa.out
            refine ⟨(unhide FA).on bb, fb, (unhide KM5).below bb (unhide KM5).lt, (unhide K2a).below bb (by omega), GA.out, by omega, z3, by omega, by omega, fun r hr b e => ?_, fun r hr b e => ?_, (unhide Ba).trans (bb.mono (unhide Ba).size)⟩
            · have := (unhide FA).bound r hr b e; omega
            · have := fb.bound r hr b e; omega)
          have MY := hide ((unhide MZ).put (.slice (some ⟨ga, 0, none⟩) n1 n1) (.slice (some ⟨gb, 0, none⟩) n2 n2))
          obtain ⟨m0, m1, m2, m3⟩ := cell_two (unhide MZ).km
          clear fb hb bb)
       | (go_at_call 83; (with_reducible refine (copyOf_any A2 n2 c2 C _ (unhide R2a) a3 HCL).mono ?_)
          rintro e wb ⟨gb, Fb, rfl, fb, hb, bb⟩
          have MZ := hide (show Mir w (wb.alloc (.cells #[.slice none 0 0, .slice none 0 0] 40)) wb.heap.size ga gb n1 n2 Fa Fb (row R) (row C) (.slice none 0 0) (.slice none 0 0) from by
            have z1 := (unhide FA).outer.lt; have z4 := Sa.out; have z5 := bb.size; have z6 := fb.outer.lt; have z7 := GA.out
            have bq : Below wb.heap.size wb (wb.alloc (.cells #[.slice none 0 0, .slice none 0 0] 40)) := (Below.refl _ _).alloc (Nat.le_refl _) _
            have bbq := bb.trans (bq.mono bb.size)
            refine ⟨(unhide FA).on bbq, fb.on bq, Blk.new _ _ _, (unhide K2a).below bbq (by omega), z7, by omega, by omega, by omega, by omega, fun r hr b e => ?_, fun r hr b e => ?_, (unhide Ba).trans (bbq.mono (unhide Ba).size)⟩
            · have := (unhide FA).bound r hr b e; omega
            · have := fb.bound r hr b e; omega)
          have MY := hide (show Mir w (wb.alloc (.cells #[.slice (some ⟨ga, 0, none⟩) n1 n1, .slice (some ⟨gb, 0, none⟩) n2 n2] 40)) wb.heap.size ga gb n1 n2 Fa Fb (row R) (row C) (.slice (some ⟨ga, 0, none⟩) n1 n1) (.slice (some ⟨gb, 0, none⟩) n2 n2) from by
            have z1 := (unhide FA).outer.lt; have z4 := Sa.out; have z5 := bb.size; have z6 := fb.outer.lt; have z7 := GA.out
            have bq : Below wb.heap.size wb (wb.alloc (.cells #[.slice (some ⟨ga, 0, none⟩) n1 n1, .slice (some ⟨gb, 0, none⟩) n2 n2] 40)) := (Below.refl _ _).alloc (Nat.le_refl _) _
            have bbq := bb.trans (bq.mono bb.size)
            refine ⟨(unhide FA).on bbq, fb.on bq, Blk.new _ _ _, (unhide K2a).below bbq (by omega), z7, by omega, by omega, by omega, by omega, fun r hr b e => ?_, fun r hr b e => ?_, (unhide Ba).trans (bbq.mono (unhide Ba).size)⟩
            · have := (unhide FA).bound r hr b e; omega
            · have := fb.bound r hr b e; omega)
          obtain ⟨m0, m1, m2, m3⟩ := cell_two (unhide MZ).km
          clear fb hb bb)
       | (go_at_call 83; (with_reducible refine (copyOf_any A2 n2 c2 C _ (unhide R2m) a3 HCL).mono ?_)
          rintro e wb ⟨gb, Fb, rfl, fb, hb, bb⟩
          have MZ := hide (show Mir w wb wa.heap.size ga gb n1 n2 Fa Fb (row R) (row C) (.slice none 0 0) (.slice none 0 0) from by
            have z1 := (unhide FA).outer.lt; have z4 := Sa.out; have z5 := HSm.out; have z6 := fb.outer.lt; have z7 := GA.out
            have bbq := (unhide BM).trans (bb.mono (unhide BM).size)
            refine ⟨(unhide FA).on bbq, fb, (Blk.new wa _ _).below bb (by omega), (unhide K2a).below bbq (by omega), z7, by omega, by omega, by omega, by omega, fun r hr b e => ?_, fun r hr b e => ?_, (unhide Ba).trans (bbq.mono (unhide Ba).size)⟩
            · have := (unhide FA).bound r hr b e; omega
            · have := fb.bound r hr b e; omega)
          have MY := hide ((unhide MZ).put (.slice (some ⟨ga, 0, none⟩) n1 n1) (.slice (some ⟨gb, 0, none⟩) n2 n2))
          obtain ⟨m0, m1, m2, m3⟩ := cell_two (unhide MZ).km
          clear fb hb bb))
     all_goals
       go_wp2_with fail
       go_meet
       exact ⟨_, _, _, _, _, rfl, MY⟩
  case rest =>
    obtain ⟨q, ga, gb, Fa, Fb, rfl, HM⟩ := hcut
    obtain ⟨m0, m1, m2, m3⟩ := cell_two (unhide HM).km
    go_wp2_with fail
    refine (reverseR_any gb n2 Fb _ (unhide HM).fb.outer (hide (unhide HM).fb.slices) hn2.out a3).mono ?_
    rintro e w4 ⟨rfl, hk, hl, hb⟩
    have HM4 := hide ((unhide HM).turn hk hl hb)
    clear hk hl hb m0 m1 m2 m3
    obtain ⟨m0, m1, m2, m3⟩ := cell_two (unhide HM4).km
    go_wp2_with fail
    go_loopw [6, 24] (fun _ i wr => ∃ k : Nat, k ≤ n1 ∧ i = .int .i64 k ∧ Hid (Mir w wr q ga gb n1 n2 Fa (fun i => Fb (n2 - 1 - i)) (fun s => if s < k then (row R s).reverse else row R s) (fun i => row C (n2 - 1 - i)) (.slice (some ⟨ga, 0, none⟩) n1 n1) (.slice (some ⟨gb, 0, none⟩) n2 n2))) (fun _ i _ => n1 - (intOf i).toNat)
    case atStart => exact ⟨0, Nat.zero_le _, rfl, hide ((unhide HM4).ext (fun r _ => by simp) fun _ _ => rfl)⟩
    case round =>
      obtain ⟨k, hk, rfl, HW⟩ := hrel
      by_cases hlt : k < n1
      · have ho := (unhide HW).fa.rows k hlt
        obtain ⟨A', m', c', e'⟩ := (unhide HW).fa.slices k hlt
        have x1 : wr.cell? ⟨ga, k, none⟩ = some (.slice A' m' c') := by rw [(unhide HW).fa.outer.cell, outF_at _ _ _ _ hlt, if_pos hlt, ← e']
        have HO := hide ho
        simp only [Nat.lt_irrefl, if_false] at HO
        have HE := hide e'
        clear ho e'
        go_wp2_with fail
        have hoo := unhide HO
        rw [HE.out] at hoo
        refine (reverse_but hoo (HRL.out k hlt) (by have := (unhide HW).fa.outer.lt; omega)).mono ?_
        rintro e w5 ⟨rfl, o5, b5, t5⟩
        rw [← HE.out] at o5 t5
        have HW5 := hide (((unhide HW).rev hlt o5 b5 t5).ext (X' := fun s => if s < k + 1 then (row R s).reverse else row R s) (fun r _ => by
          by_cases h1 : r = k
          · subst h1; simp
          · simp only [h1, if_false]
            by_cases h2 : r < k
            · rw [if_pos h2, if_pos (by omega)]
            · rw [if_neg h2, if_neg (by omega)]) fun _ _ => rfl)
        clear o5 b5 t5 hoo
        go_wp2_with fail
        go_roundw
        case rel => exact ⟨k + 1, by omega, by go_num, HW5⟩
        case measure => simp [intOf]; omega
      · obtain rfl : n1 = k := by omega
        obtain ⟨y0, y1, y2, y3⟩ := cell_two (unhide HW).km
        obtain ⟨s0, s1, s2, s3⟩ := cell_two (unhide HW).k2
        have hz := put2 (unhide HW).k2 (.slice (some ⟨ga, 0, none⟩) n1 n1) (.slice (some ⟨gb, 0, none⟩) n2 n2)
        obtain ⟨z1, z2⟩ := two_at hz
        have hga := (unhide HW).ga1; have hab := (unhide HW).ab
        have F1 := hide ((((unhide HW).fa.far (p := w.heap.size + 1) (by omega) 0 (.slice (some ⟨ga, 0, none⟩) n1 n1)).far (p := w.heap.size + 1) (by omega) 1 (.slice (some ⟨gb, 0, none⟩) n2 n2)).ext (Y := row (R.map List.reverse)) (fun r hr => by rw [row_mapR, if_pos hr]) |>.rowsF (by rw [List.length_map]; exact l1.out) (by omega))
        have F2 := hide ((((unhide HW).fb.far (p := w.heap.size + 1) (by omega) 0 (.slice (some ⟨ga, 0, none⟩) n1 n1)).far (p := w.heap.size + 1) (by omega) 1 (.slice (some ⟨gb, 0, none⟩) n2 n2)).ext (Y := row C.reverse) (fun r hr => row_rev C l2.out hr) |>.rowsF (by rw [List.length_reverse]; exact l2.out) (by omega))
        have FB := hide (below_put2 (unhide HW).bel (show w.heap.size ≤ w.heap.size + 1 by omega) (.slice (some ⟨ga, 0, none⟩) n1 n1) (.slice (some ⟨gb, 0, none⟩) n2 n2))
        clear hz
        go_wp2_with fail
        exact bodyPost_ret (v := .tuple #[.agg #[.slice (some ⟨ga, 0, none⟩) n1 n1, .slice (some ⟨gb, 0, none⟩) n2 n2], .int .i64 0]) (by simp [results, Tryd.results46, go_sem, z1, z2]) rfl ⟨_, _, _, _, _, _, rfl, (unhide F1).rows, (unhide F2).rows, unhide FB⟩
end Go.Proofs.YtjhicbiacnkpaaaDoor
