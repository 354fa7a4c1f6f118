/-
  The law CountsExchanged walked.
-/
import Derived.Test.YtabgifpenegofaaLv
import Derived.Deep.RegionHeld3
namespace Go.Proofs.Ytabgifpenegofaa
open Go.RowKit

set_option maxRecDepth 100000 in
set_option maxHeartbeats 16000000 in
theorem LExchanged_any {A : Option Addr} {n c : Nat} {t : List (List Int)} {w : World} (h : Rows_ w w.heap.size A n c t) :
    Calls Try.prog 16 #[.slice A n c] w fun e w' => e = .returned (.bool true) ∧ Below w.heap.size w w' := by
  have HC := hide (odN_cut t)
  obtain ⟨x, hx⟩ : ∃ x, odN t = x := ⟨_, rfl⟩
  obtain ⟨y, hy⟩ : ∃ y, odD t = y := ⟨_, rfl⟩
  obtain ⟨z, hz⟩ : ∃ z, odE t = z := ⟨_, rfl⟩
  have HA := hide hx; have HBB := hide hy; have HZ := hide hz
  rw [hx, hy, hz] at HC
  clear hx hy hz
  have hln := hide h.len
  go_enter Try.func16, Try.ntmps16
  go_wp2_with fail
  refine (table_any _ _ _ _ _ h).mono ?_
  rintro e w1 ⟨v1, rfl, o1, b1⟩
  obtain ⟨A1, n1, c1, rfl, i1⟩ := o1.to
  go_wp2_with fail
  refine (Odds_all _ _ _ _ _ i1).mono ?_
  rintro e w2 ⟨rfl, b2⟩
  rw [HC.out.1, HC.out.2.1, HC.out.2.2]
  have b2' := b1.trans (b2.mono b1.size)
  clear o1 i1 b1 b2
  obtain ⟨W, hW, hF, hBW⟩ := new_frac w2 x y
  have HB := hide (b2'.trans (hBW.mono b2'.size))
  have HF := hide hF
  clear hBW hF b2'
  have HR := hide ((h.below (unhide HB)).more (unhide HB).size)
  go_upto_region 2 with fail
  clear hW
  cases hr : isTwo t with
  | false =>
    have HT := hide hr
    obtain rfl : 2 = z := by rw [← HZ.out]; unfold odE; rw [hr]; simp
    clear hr
    go_wp2_with fail
    refine (RTwo_any _ _ _ _ _ (unhide HR) _ HT).mono ?_
    rintro e w3 ⟨rfl, b3⟩
    have HB3 := hide ((unhide HB).trans (b3.mono (unhide HB).size))
    clear b3
    go_wp2_with fail
    refine (awake_any _).mono ?_
    rintro e w5 ⟨rfl, b5⟩
    have HB5 := hide ((unhide HB3).trans (b5.mono (unhide HB3).size))
    go_wp2_with fail
    go_ret
    exact ⟨rfl, unhide HB5⟩
  | true =>
    have HT := hide hr
    have HTB := hide (two_tb hr)
    obtain rfl : n = 2 := by rw [← hln.out]; exact HTB.out.len
    clear hr
    obtain ⟨bb, off, rfl⟩ := h.addr (show 0 < 2 by omega)
    have hbb : bb < w.heap.size := by
      obtain ⟨bx, ox, _, _, _, ex, hbl, _⟩ := h.at_ 0 (show 0 < 2 by omega)
      cases ex; exact hbl
    obtain ⟨A0, c0, q0, i0⟩ := HTB.out.get h (show 0 < 2 by omega)
    obtain ⟨A1, c1, q1, i1⟩ := HTB.out.get h (show 1 < 2 by omega)
    rw [Nat.add_zero] at q0
    obtain ⟨b0, o0, rfl, hb0, r0⟩ := i0.cells (show 0 < 2 by omega)
    obtain ⟨b1, o1, rfl, hb1, r1⟩ := i1.cells (show 0 < 2 by omega)
    have m0 := i0.most; have m1 := i1.most; have p0 := i0.cap; have p1 := i1.cap
    have mt := h.most; have pt := h.cap
    have r00 := r0 0 (by rw [HTB.out.rows 0 (by omega)]; omega)
    have r01 := r0 1 (by rw [HTB.out.rows 0 (by omega)]; omega)
    have r10 := r1 0 (by rw [HTB.out.rows 1 (by omega)]; omega)
    have r11 := r1 1 (by rw [HTB.out.rows 1 (by omega)]; omega)
    rw [show (row t 0).getD 0 0 = at2 t 0 0 from rfl, Nat.add_zero] at r00
    rw [show (row t 0).getD 1 0 = at2 t 0 1 from rfl] at r01
    rw [show (row t 1).getD 0 0 = at2 t 1 0 from rfl, Nat.add_zero] at r10
    rw [show (row t 1).getD 1 0 = at2 t 1 1 from rfl] at r11
    clear r0 r1 i0 i1
    obtain ⟨a, hae⟩ : ∃ a, at2 t 0 0 = a := ⟨_, rfl⟩
    obtain ⟨b, hbe⟩ : ∃ b, at2 t 0 1 = b := ⟨_, rfl⟩
    obtain ⟨d, hde⟩ : ∃ d, at2 t 1 0 = d := ⟨_, rfl⟩
    obtain ⟨f, hfe⟩ : ∃ f, at2 t 1 1 = f := ⟨_, rfl⟩
    have HE := hide (show at2 t 0 0 = a ∧ at2 t 0 1 = b ∧ at2 t 1 0 = d ∧ at2 t 1 1 = f from ⟨hae, hbe, hde, hfe⟩)
    rw [hae] at r00; rw [hbe] at r01; rw [hde] at r10; rw [hfe] at r11
    clear hae hbe hde hfe
    have HS := hide (show ∀ W', Below w.heap.size w W' → (W'.cell? ⟨bb, off, none⟩ = some (.slice (some ⟨b0, o0, none⟩) 2 c0) ∧ W'.cell? ⟨bb, off + 1, none⟩ = some (.slice (some ⟨b1, o1, none⟩) 2 c1) ∧ W'.cell? ⟨b0, o0, none⟩ = some (.int .i64 a) ∧ W'.cell? ⟨b0, o0 + 1, none⟩ = some (.int .i64 b) ∧ W'.cell? ⟨b1, o1, none⟩ = some (.int .i64 d) ∧ W'.cell? ⟨b1, o1 + 1, none⟩ = some (.int .i64 f)) from fun W' hW' =>
      ⟨(hW'.cell (p := ⟨bb, off, none⟩) hbb).trans q0, (hW'.cell (p := ⟨bb, off + 1, none⟩) hbb).trans q1, (hW'.cell (p := ⟨b0, o0, none⟩) hb0).trans r00, (hW'.cell (p := ⟨b0, o0 + 1, none⟩) hb0).trans r01, (hW'.cell (p := ⟨b1, o1, none⟩) hb1).trans r10, (hW'.cell (p := ⟨b1, o1 + 1, none⟩) hb1).trans r11⟩)
    clear q0 q1 r00 r01 r10 r11
    go_wp2_with fail
    refine (RTwo_any _ _ _ _ _ (unhide HR) _ HT).mono ?_
    rintro e w3 ⟨rfl, b3⟩
    have HF3 := hide ((b3.block _ (Array.getElem?_eq_some_iff.1 (unhide HF)).1).trans (unhide HF))
    have HB3 := hide ((unhide HB).trans (b3.mono (unhide HB).size))
    clear b3
    go_upto_region 4 with fail
    have HWd := hide (show Below w3.heap.size w3 w3.drew from (Below.refl w3.heap.size w3).drew)
    have hsz : w.heap.size ≤ w3.heap.size := (unhide HB3).size
    go_cut [5, 6] (fun sx se wq => ∃ R : Nat, sx = .pointer (some ⟨R, 0, none⟩) ∧ se = .int .i64 (odE [[f, d], [b, a]]) ∧ w3.heap.size ≤ R ∧ Hid (wq.heap[R]? = some (.cells #[.int .i64 (odN [[f, d], [b, a]]), .int .i64 (odD [[f, d], [b, a]])] 47 (0, 0))) ∧ Hid (Below w3.heap.size w3 wq))
    case first =>
      as_aux_lemma =>
        obtain ⟨x1, x2, x3, x4, x5, x6⟩ := (unhide HS) _ ((unhide HB3).trans ((unhide HWd).mono hsz))
        go_region_held3 (fun W' => W'.cell? ⟨bb, off, none⟩ = some (.slice (some ⟨b0, o0, none⟩) 2 c0) ∧ W'.cell? ⟨bb, off + 1, none⟩ = some (.slice (some ⟨b1, o1, none⟩) 2 c1) ∧ W'.cell? ⟨b0, o0, none⟩ = some (.int .i64 a) ∧ W'.cell? ⟨b0, o0 + 1, none⟩ = some (.int .i64 b) ∧ W'.cell? ⟨b1, o1, none⟩ = some (.int .i64 d) ∧ W'.cell? ⟨b1, o1 + 1, none⟩ = some (.int .i64 f)) (first | exact ⟨x1, x2, x3, x4, x5, x6⟩ | (refine (unhide HS) _ ((unhide HB3).trans (Below.mono ?_ hsz)); ((repeat (first | (refine Below.drew ?_) | (refine below_al ?_ _))); first | exact Below.refl _ _ | exact unhide HWa | exact below_put2 (unhide HWa) HRl _ _))) (first
          | (go_at_call 51; (with_reducible refine (odds_s0 w3 f d b a).mono ?_); rintro e wa ⟨rfl, hwa⟩; have HWa := hide hwa; clear hwa)
          | (go_at_call 51; (with_reducible refine (odds_s1 w3 f d b a).mono ?_); rintro e wa ⟨rfl, hwa⟩; have HWa := hide hwa; clear hwa)
          | (go_at_call 51; (with_reducible refine (odds_s2 w3 f d b a).mono ?_); rintro e wa ⟨rfl, hwa, HRl, hq⟩; have HWa := hide hwa; have HR := hide hq; have f0 := free_at (unhide HR) 0; have f1 := free_at (unhide HR) 1; obtain ⟨g0, g1⟩ := two_at (unhide HR); clear hwa hq)
          | (go_at_call 51; (with_reducible refine (odds_s3 w3 f d b a).mono ?_); rintro e wa ⟨rfl, hwa, HRl, hq⟩; have HWa := hide hwa; have HR := hide hq; have f0 := free_at (unhide HR) 0; have f1 := free_at (unhide HR) 1; obtain ⟨g0, g1⟩ := two_at (unhide HR); clear hwa hq)
          | (go_at_call 51; (with_reducible refine (odds_s4 w3 f d b a).mono ?_); rintro e wa ⟨rfl, hwa, HRl, hq⟩; have HWa := hide hwa; have HR := hide hq; have f0 := free_at (unhide HR) 0; have f1 := free_at (unhide HR) 1; obtain ⟨g0, g1⟩ := two_at (unhide HR); clear hwa hq)
          | (go_at_call 51; (with_reducible refine (odds_s5 w3 f d b a).mono ?_); rintro e wa ⟨rfl, hwa, HRl, hq⟩; have HWa := hide hwa; have HR := hide hq; have f0 := free_at (unhide HR) 0; have f1 := free_at (unhide HR) 1; obtain ⟨g0, g1⟩ := two_at (unhide HR); clear hwa hq)
          | (go_at_call 51; (with_reducible refine (odds_s6 w3 f d b a).mono ?_); rintro e wa ⟨rfl, hwa, HRl, hq⟩; have HWa := hide hwa; have HR := hide hq; have f0 := free_at (unhide HR) 0; have f1 := free_at (unhide HR) 1; obtain ⟨g0, g1⟩ := two_at (unhide HR); clear hwa hq)
          | (go_at_call 51; (with_reducible refine (odds_s7 w3 f d b a).mono ?_); rintro e wa ⟨rfl, hwa, HRl, hq⟩; have HWa := hide hwa; have HR := hide hq; have f0 := free_at (unhide HR) 0; have f1 := free_at (unhide HR) 1; obtain ⟨g0, g1⟩ := two_at (unhide HR); clear hwa hq)
          | (go_at_call 51; (with_reducible refine (odds_s8 w3 f d b a).mono ?_); rintro e wa ⟨rfl, hwa, HRl, hq⟩; have HWa := hide hwa; have HR := hide hq; have f0 := free_at (unhide HR) 0; have f1 := free_at (unhide HR) 1; obtain ⟨g0, g1⟩ := two_at (unhide HR); clear hwa hq)
          | (go_at_call 51; (with_reducible refine (odds_s9 w3 f d b a).mono ?_); rintro e wa ⟨rfl, hwa, HRl, hq⟩; have HWa := hide hwa; have HR := hide hq; have f0 := free_at (unhide HR) 0; have f1 := free_at (unhide HR) 1; obtain ⟨g0, g1⟩ := two_at (unhide HR); clear hwa hq))
        all_goals (go_wp2_with fail; go_meet; first
          | exact ⟨_, rfl, rfl, (unhide HWa).size, heap_new_ _ _, (unhide HWa).alloc (unhide HWa).size _⟩
          | exact ⟨_, rfl, rfl, HRl, put2 (unhide HR) _ _, below_put2 (unhide HWa) HRl _ _⟩)
    case rest =>
      obtain ⟨R1, rfl, rfl, HRl1, HR1, hbz1⟩ := hcut
      obtain ⟨wz, ewz⟩ : ∃ x, x = wc := ⟨_, rfl⟩
      subst ewz
      have HB4 := hide ((unhide HB3).trans ((unhide hbz1).mono hsz))
      have HF4 := hide (((unhide hbz1).block _ (Array.getElem?_eq_some_iff.1 (unhide HF3)).1).trans (unhide HF3))
      have HN := hide (show 0 ≤ a ∧ 0 ≤ b ∧ 0 ≤ d ∧ 0 ≤ f ∧ a + b + d + f ≤ 16 from by
        have := two_facts HTB.out
        rw [HE.out.1, HE.out.2.1, HE.out.2.2.1, HE.out.2.2.2] at this
        exact this)
      have HX := hide (show if b ≠ 0 ∧ d ≠ 0 then Fr (Rat.divInt (a * f) (b * d)) x y ∧ z = 0 else x = 0 ∧ y = 0 ∧ z = 5 from by
        have := od_parts HT.out
        rw [HE.out.1, HE.out.2.1, HE.out.2.2.1, HE.out.2.2.2, HA.out, HBB.out, HZ.out] at this
        exact this)
      obtain ⟨u1, u2, u3⟩ := od_turn HT.out HE.out.1 HE.out.2.1 HE.out.2.2.1 HE.out.2.2.2 HN.out.1 HN.out.2.1 HN.out.2.2.1 HN.out.2.2.2.1 HN.out.2.2.2.2
      rw [HA.out] at u1; rw [HBB.out] at u2; rw [HZ.out] at u3
      rw [u1, u2] at HR1
      rw [u3]
      clear u1 u2 u3 hbz1 HRl1 hsz HWd HF3
      go_upto_region 5 with fail
      have HWd := hide (show Below wz.heap.size wz wz.drew from (Below.refl wz.heap.size wz).drew)
      have hsz : w.heap.size ≤ wz.heap.size := (unhide HB4).size
      go_cut [7, 8] (fun sx se wq => ∃ R : Nat, sx = .pointer (some ⟨R, 0, none⟩) ∧ se = .int .i64 (odE [[d, f], [a, b]]) ∧ wz.heap.size ≤ R ∧ Hid (wq.heap[R]? = some (.cells #[.int .i64 (odN [[d, f], [a, b]]), .int .i64 (odD [[d, f], [a, b]])] 47 (0, 0))) ∧ Hid (Below wz.heap.size wz wq))
      case first =>
        as_aux_lemma =>
          obtain ⟨x1, x2, x3, x4, x5, x6⟩ := (unhide HS) _ ((unhide HB4).trans ((unhide HWd).mono hsz))
          go_region_held3 (fun W' => W'.cell? ⟨bb, off, none⟩ = some (.slice (some ⟨b0, o0, none⟩) 2 c0) ∧ W'.cell? ⟨bb, off + 1, none⟩ = some (.slice (some ⟨b1, o1, none⟩) 2 c1) ∧ W'.cell? ⟨b0, o0, none⟩ = some (.int .i64 a) ∧ W'.cell? ⟨b0, o0 + 1, none⟩ = some (.int .i64 b) ∧ W'.cell? ⟨b1, o1, none⟩ = some (.int .i64 d) ∧ W'.cell? ⟨b1, o1 + 1, none⟩ = some (.int .i64 f)) (first | exact ⟨x1, x2, x3, x4, x5, x6⟩ | (refine (unhide HS) _ ((unhide HB4).trans (Below.mono ?_ hsz)); ((repeat (first | (refine Below.drew ?_) | (refine below_al ?_ _))); first | exact Below.refl _ _ | exact unhide HWa | exact below_put2 (unhide HWa) HRl _ _))) (first
            | (go_at_call 51; (with_reducible refine (odds_s0 wz d f a b).mono ?_); rintro e wa ⟨rfl, hwa⟩; have HWa := hide hwa; clear hwa)
            | (go_at_call 51; (with_reducible refine (odds_s1 wz d f a b).mono ?_); rintro e wa ⟨rfl, hwa⟩; have HWa := hide hwa; clear hwa)
            | (go_at_call 51; (with_reducible refine (odds_s2 wz d f a b).mono ?_); rintro e wa ⟨rfl, hwa, HRl, hq⟩; have HWa := hide hwa; have HR := hide hq; have f0 := free_at (unhide HR) 0; have f1 := free_at (unhide HR) 1; obtain ⟨g0, g1⟩ := two_at (unhide HR); clear hwa hq)
            | (go_at_call 51; (with_reducible refine (odds_s3 wz d f a b).mono ?_); rintro e wa ⟨rfl, hwa, HRl, hq⟩; have HWa := hide hwa; have HR := hide hq; have f0 := free_at (unhide HR) 0; have f1 := free_at (unhide HR) 1; obtain ⟨g0, g1⟩ := two_at (unhide HR); clear hwa hq)
            | (go_at_call 51; (with_reducible refine (odds_s4 wz d f a b).mono ?_); rintro e wa ⟨rfl, hwa, HRl, hq⟩; have HWa := hide hwa; have HR := hide hq; have f0 := free_at (unhide HR) 0; have f1 := free_at (unhide HR) 1; obtain ⟨g0, g1⟩ := two_at (unhide HR); clear hwa hq)
            | (go_at_call 51; (with_reducible refine (odds_s5 wz d f a b).mono ?_); rintro e wa ⟨rfl, hwa, HRl, hq⟩; have HWa := hide hwa; have HR := hide hq; have f0 := free_at (unhide HR) 0; have f1 := free_at (unhide HR) 1; obtain ⟨g0, g1⟩ := two_at (unhide HR); clear hwa hq)
            | (go_at_call 51; (with_reducible refine (odds_s6 wz d f a b).mono ?_); rintro e wa ⟨rfl, hwa, HRl, hq⟩; have HWa := hide hwa; have HR := hide hq; have f0 := free_at (unhide HR) 0; have f1 := free_at (unhide HR) 1; obtain ⟨g0, g1⟩ := two_at (unhide HR); clear hwa hq)
            | (go_at_call 51; (with_reducible refine (odds_s7 wz d f a b).mono ?_); rintro e wa ⟨rfl, hwa, HRl, hq⟩; have HWa := hide hwa; have HR := hide hq; have f0 := free_at (unhide HR) 0; have f1 := free_at (unhide HR) 1; obtain ⟨g0, g1⟩ := two_at (unhide HR); clear hwa hq)
            | (go_at_call 51; (with_reducible refine (odds_s8 wz d f a b).mono ?_); rintro e wa ⟨rfl, hwa, HRl, hq⟩; have HWa := hide hwa; have HR := hide hq; have f0 := free_at (unhide HR) 0; have f1 := free_at (unhide HR) 1; obtain ⟨g0, g1⟩ := two_at (unhide HR); clear hwa hq)
            | (go_at_call 51; (with_reducible refine (odds_s9 wz d f a b).mono ?_); rintro e wa ⟨rfl, hwa, HRl, hq⟩; have HWa := hide hwa; have HR := hide hq; have f0 := free_at (unhide HR) 0; have f1 := free_at (unhide HR) 1; obtain ⟨g0, g1⟩ := two_at (unhide HR); clear hwa hq))
          all_goals (go_wp2_with fail; go_meet; first
            | exact ⟨_, rfl, rfl, (unhide HWa).size, heap_new_ _ _, (unhide HWa).alloc (unhide HWa).size _⟩
            | exact ⟨_, rfl, rfl, HRl, put2 (unhide HR) _ _, below_put2 (unhide HWa) HRl _ _⟩)
      case rest =>
        obtain ⟨R2, rfl, rfl, HRl2, HR2, hbz2⟩ := hcut
        obtain ⟨wy, ewy⟩ : ∃ x, x = wc := ⟨_, rfl⟩
        subst ewy
        have HBy := hide ((unhide HB4).trans ((unhide hbz2).mono hsz))
        have HFy := hide (((unhide hbz2).block _ (Array.getElem?_eq_some_iff.1 (unhide HF4)).1).trans (unhide HF4))
        have HR1y := hide (((unhide hbz2).block _ (Array.getElem?_eq_some_iff.1 (unhide HR1)).1).trans (unhide HR1))
        have HV := hide (od_lit HN.out.2.2.1 HN.out.2.2.2.1 HN.out.1 HN.out.2.1 (by have := HN.out; omega))
        obtain ⟨p, hp⟩ : ∃ p, odN [[d, f], [a, b]] = p := ⟨_, rfl⟩
        obtain ⟨q, hq⟩ : ∃ q, odD [[d, f], [a, b]] = q := ⟨_, rfl⟩
        obtain ⟨r, hr⟩ : ∃ r, odE [[d, f], [a, b]] = r := ⟨_, rfl⟩
        rw [hp, hq, hr] at HV
        rw [hp, hq] at HR2
        rw [hr]
        clear hp hq hr hbz2 HRl2 HF4 HR1 HB4
        obtain ⟨x1, x2, x3, x4, x5, x6⟩ := (unhide HS) _ (unhide HBy)
        obtain ⟨k0, k1⟩ := two_at (unhide HFy)
        obtain ⟨l0, l1⟩ := two_at (unhide HR1y)
        obtain ⟨n0, n1⟩ := two_at (unhide HR2)
        have hneq := neq47 x y x y
        rw [show decide (((x, y) : F) = (x, y)) = true from by simp] at hneq
        obtain ⟨na, nb, nd, nf, _⟩ := HN.out
        have HBD : b = 0 ∨ (0 < b ∧ d = 0) ∨ (0 < b ∧ 0 < d) := by omega
        have HFA : a = 0 ∨ (0 < a ∧ f = 0) ∨ (0 < a ∧ 0 < f) := by omega
        rcases HBD with rfl | ⟨hb, rfl⟩ | ⟨hb, hd⟩
        · obtain ⟨rfl, rfl, rfl⟩ : x = 0 ∧ y = 0 ∧ z = 5 := by have := HX.out; rwa [if_neg (by simp)] at this
          rcases HFA with rfl | ⟨ha, rfl⟩ | ⟨ha, hf⟩
          · obtain ⟨rfl, rfl, rfl⟩ : p = 0 ∧ q = 0 ∧ r = 5 := by have := HV.out; rwa [if_neg (by simp)] at this
            as_aux_lemma =>
              go_wp2_with fail
              refine (awake_any _).mono ?_
              rintro e w9 ⟨rfl, b9⟩
              have HB9 := hide ((unhide HBy).trans (b9.mono (unhide HBy).size))
              go_wp2_with fail
              go_ret
              exact ⟨rfl, unhide HB9⟩
          · obtain ⟨rfl, rfl, rfl⟩ : p = 0 ∧ q = 0 ∧ r = 5 := by have := HV.out; rwa [if_neg (by simp)] at this
            as_aux_lemma =>
              go_wp2_with fail
              refine (awake_any _).mono ?_
              rintro e w9 ⟨rfl, b9⟩
              have HB9 := hide ((unhide HBy).trans (b9.mono (unhide HBy).size))
              go_wp2_with fail
              go_ret
              exact ⟨rfl, unhide HB9⟩
          · obtain ⟨hv, rfl⟩ : Fr (Rat.divInt (d * 0) (f * a)) p q ∧ r = 0 := by have := HV.out; rwa [if_pos ⟨by omega, by omega⟩] at this
            as_aux_lemma =>
              go_wp2_with fail
              refine (awake_any _).mono ?_
              rintro e w9 ⟨rfl, b9⟩
              have HB9 := hide ((unhide HBy).trans (b9.mono (unhide HBy).size))
              go_wp2_with fail
              go_ret
              exact ⟨rfl, unhide HB9⟩
        · obtain ⟨rfl, rfl, rfl⟩ : x = 0 ∧ y = 0 ∧ z = 5 := by have := HX.out; rwa [if_neg (by simp)] at this
          rcases HFA with rfl | ⟨ha, rfl⟩ | ⟨ha, hf⟩
          · obtain ⟨rfl, rfl, rfl⟩ : p = 0 ∧ q = 0 ∧ r = 5 := by have := HV.out; rwa [if_neg (by simp)] at this
            as_aux_lemma =>
              go_wp2_with fail
              refine (awake_any _).mono ?_
              rintro e w9 ⟨rfl, b9⟩
              have HB9 := hide ((unhide HBy).trans (b9.mono (unhide HBy).size))
              go_wp2_with fail
              go_ret
              exact ⟨rfl, unhide HB9⟩
          · obtain ⟨rfl, rfl, rfl⟩ : p = 0 ∧ q = 0 ∧ r = 5 := by have := HV.out; rwa [if_neg (by simp)] at this
            as_aux_lemma =>
              go_wp2_with fail
              refine (awake_any _).mono ?_
              rintro e w9 ⟨rfl, b9⟩
              have HB9 := hide ((unhide HBy).trans (b9.mono (unhide HBy).size))
              go_wp2_with fail
              go_ret
              exact ⟨rfl, unhide HB9⟩
          · obtain ⟨hv, rfl⟩ : Fr (Rat.divInt (0 * b) (f * a)) p q ∧ r = 0 := by have := HV.out; rwa [if_pos ⟨by omega, by omega⟩] at this
            as_aux_lemma =>
              go_wp2_with fail
              refine (awake_any _).mono ?_
              rintro e w9 ⟨rfl, b9⟩
              have HB9 := hide ((unhide HBy).trans (b9.mono (unhide HBy).size))
              go_wp2_with fail
              go_ret
              exact ⟨rfl, unhide HB9⟩
        · obtain ⟨hx, rfl⟩ : Fr (Rat.divInt (a * f) (b * d)) x y ∧ z = 0 := by have := HX.out; rwa [if_pos ⟨by omega, by omega⟩] at this
          rcases HFA with rfl | ⟨ha, rfl⟩ | ⟨ha, hf⟩
          · obtain ⟨rfl, rfl, rfl⟩ : p = 0 ∧ q = 0 ∧ r = 5 := by have := HV.out; rwa [if_neg (by simp)] at this
            as_aux_lemma =>
              go_wp2_with fail
              refine (awake_any _).mono ?_
              rintro e w9 ⟨rfl, b9⟩
              have HB9 := hide ((unhide HBy).trans (b9.mono (unhide HBy).size))
              go_wp2_with fail
              go_ret
              exact ⟨rfl, unhide HB9⟩
          · obtain ⟨rfl, rfl, rfl⟩ : p = 0 ∧ q = 0 ∧ r = 5 := by have := HV.out; rwa [if_neg (by simp)] at this
            as_aux_lemma =>
              go_wp2_with fail
              refine (awake_any _).mono ?_
              rintro e w9 ⟨rfl, b9⟩
              have HB9 := hide ((unhide HBy).trans (b9.mono (unhide HBy).size))
              go_wp2_with fail
              go_ret
              exact ⟨rfl, unhide HB9⟩
          · obtain ⟨hv, rfl⟩ : Fr (Rat.divInt (d * b) (f * a)) p q ∧ r = 0 := by have := HV.out; rwa [if_pos ⟨by omega, by omega⟩] at this
            obtain ⟨rfl, rfl⟩ : x = q ∧ y = p := by
              rw [Int.mul_comm d b, Int.mul_comm f a] at hv
              exact Fr.inv (Int.mul_pos ha hf) (Int.mul_pos hb hd) hx hv
            as_aux_lemma =>
              go_wp2_with fail
              refine (awake_any _).mono ?_
              rintro e w9 ⟨rfl, b9⟩
              have HB9 := hide ((unhide HBy).trans (b9.mono (unhide HBy).size))
              go_wp2_with fail
              go_ret
              exact ⟨rfl, unhide HB9⟩
end Go.Proofs.Ytabgifpenegofaa
