/-
  DealsScales.
-/
import Derived.Test.YtbgfiejaehpffaaL5a
import Derived.Deep.CutBlock
import Derived.Deep.CutRange
namespace Go.Proofs.Ytbgfiejaehpffaa
open Go.RowKit

set_option maxRecDepth 100000 in
set_option maxHeartbeats 16000000 in
theorem LScales_ok (A : Option Addr) (n c : Nat) (fs : List F) (a b d : Int) (w : World) (h : Fs w w.heap.size A n c fs) (HO : Hid (offB fs = true)) :
    Calls Try.prog 6 #[.slice A n c, .int .i64 a, .int .i64 b, .int .i64 d] w fun e w' => e = .returned (.bool true) ∧ Below w.heap.size w w' := by
  have hm := h.most; have hcap := h.cap
  have HI := hide h
  have HL := hide h.len
  have HT := hide (tak_self HO.out)
  have HOff := hide ((offB_iff fs).1 HO.out)
  have hn8 : n ≤ 8 := by have := HOff.out.most; have := h.len; omega
  have hn1 : 1 ≤ n := by have := HOff.out.pos; have := h.len; omega
  have HLi := hide (fun W (hb : Below w.heap.size w W) => by
    have := list_any A n c fs W ((h.below hb).more hb.size)
    rw [HT.out] at this; exact this)
  clear h
  go_enter Try.func6, Try.ntmps6
  go_wp2_with fail
  refine ((unhide HLi) w (Below.refl _ _)).mono ?_
  rintro e w1 ⟨v1, rfl, ho1, b1⟩
  obtain ⟨A1, n1, c1, rfl, hf1⟩ := ho1.to
  have HB1 := hide b1
  have HF1 := hide hf1
  clear hf1 b1 ho1
  go_wp2_with fail
  refine (Scale_all _ _ _ fs a b w1 (unhide HF1) HO).mono ?_
  rintro e w2 ⟨Ax, nx, cx, zx, Lx, rfl, hx, HSx, b2⟩
  have HB2 := hide ((unhide HB1).trans (b2.mono (unhide HB1).size))
  have HX2 := hide hx
  clear b2 hx
  go_wp2_with fail
  refine ((unhide HLi) w2 (unhide HB2)).mono ?_
  rintro e w3 ⟨v3, rfl, ho3, b3⟩
  obtain ⟨A3, n3, c3, rfl, hf3⟩ := ho3.to
  have HB3 := hide ((unhide HB2).trans (b3.mono (unhide HB2).size))
  have HX3 := hide (((unhide HX2).below b3).more b3.size)
  have HF3 := hide hf3
  clear hf3 b3 ho3
  go_wp2_with fail
  refine (Swap_ok _ _ _ fs w3 (unhide HF3) HO).mono ?_
  rintro e w4 ⟨by4, rfl, hy, b4⟩
  have HB4 := hide ((unhide HB3).trans (b4.mono (unhide HB3).size))
  have HX4 := hide (((unhide HX3).below b4).more b4.size)
  have HY4 := hide hy
  clear b4 hy
  go_wp2_with fail
  refine ((unhide HLi) w4 (unhide HB4)).mono ?_
  rintro e w5 ⟨v5, rfl, ho5, b5⟩
  obtain ⟨A5, n5, c5, rfl, hf5⟩ := ho5.to
  have HB5 := hide ((unhide HB4).trans (b5.mono (unhide HB4).size))
  have HX5 := hide (((unhide HX4).below b5).more b5.size)
  have HY5 := hide (((unhide HY4).below b5).more b5.size)
  have HF5 := hide hf5
  clear hf5 b5 ho5
  go_wp2_with fail
  refine (Less_all _ _ _ fs d w5 (unhide HF5) HO).mono ?_
  rintro e w6 ⟨Az, nz, cz, zz, Lz, rfl, hz, HSz, b6⟩
  have HB6 := hide ((unhide HB5).trans (b6.mono (unhide HB5).size))
  have HX6 := hide (((unhide HX5).below b6).more b6.size)
  have HY6 := hide (((unhide HY5).below b6).more b6.size)
  have HZ6 := hide hz
  clear b6 hz
  go_wp2_with fail
  refine (ROffers_any A n c fs w6 (((unhide HI).below (unhide HB6)).more (unhide HB6).size) true HO).mono ?_
  rintro e w7 ⟨rfl, b7⟩
  have HB7 := hide ((unhide HB6).trans (b7.mono (unhide HB6).size))
  have HX7 := hide (((unhide HX6).below b7).more b7.size)
  have HY7 := hide (((unhide HY6).below b7).more b7.size)
  have HZ7 := hide (((unhide HZ6).below b7).more b7.size)
  clear b7
  go_wp2_with fail
  refine (RSwap_any A n c fs w7 (((unhide HI).below (unhide HB7)).more (unhide HB7).size) (by omega)).mono ?_
  rintro e w8 ⟨v8, rfl, ho8, b8⟩
  obtain ⟨A8, n8, c8, rfl, hf8⟩ := ho8.to
  have HB8 := hide ((unhide HB7).trans (b8.mono (unhide HB7).size))
  have HX8 := hide (((unhide HX7).below b8).more b8.size)
  have HY8 := hide (((unhide HY7).below b8).more b8.size)
  have HZ8 := hide (((unhide HZ7).below b8).more b8.size)
  have HF8 := hide hf8
  clear hf8 b8 ho8
  go_wp2_with fail
  refine (equal_any _ _ _ (fs.map swF) _ _ _ (fs.map swF) w8 (unhide HY8) (unhide HF8) true (hide (by simp))).mono ?_
  rintro e w9 ⟨rfl, b9⟩
  have HB9 := hide ((unhide HB8).trans (b9.mono (unhide HB8).size))
  have HX9 := hide (((unhide HX8).below b9).more b9.size)
  have HZ9 := hide (((unhide HZ8).below b9).more b9.size)
  clear b9
  go_wp2_with fail
  refine (awake_any w9).mono ?_
  rintro e wa ⟨rfl, ba⟩
  have HBa := hide ((unhide HB9).trans (ba.mono (unhide HB9).size))
  have HXa := hide (((unhide HX9).below ba).more ba.size)
  have HZa := hide (((unhide HZ9).below ba).more ba.size)
  clear ba HX2 HX3 HX4 HX5 HX6 HX7 HX8 HX9 HY4 HY5 HY6 HY7 HY8 HZ6 HZ7 HZ8 HZ9 HF1 HF3 HF5 HF8
  go_upto_block 0 with fail
  go_cut [12] from 78 to 117 (fun z wx => z = .int .i64 0 ∧ Hid (Below wa.heap.size wa wx))
  case first =>
    have hznm := (unhide HZa).most
    have HZl := hide (unhide HZa).len
    by_cases h0 : d < 0
    · have hin := HSz.out.1 (by rw [allIn_1]; simp; omega)
      have hq1 : ((nz : Int) != 0) = false := by rw [← HZl.out, hin.1]; rfl
      have hq2 : (zz != 2) = false := by rw [hin.2]; rfl
      clear hin
      go_wp2_with fail
      go_meet
      exact ⟨rfl, hide (Below.refl _ _)⟩
    by_cases h1 : (n : Int) ≤ d
    · have hin := HSz.out.1 (by rw [allIn_1, HL.out]; simp; omega)
      have hq1 : ((nz : Int) != 0) = false := by rw [← HZl.out, hin.1]; rfl
      have hq2 : (zz != 2) = false := by rw [hin.2]; rfl
      clear hin
      go_wp2_with fail
      go_meet
      exact ⟨rfl, hide (Below.refl _ _)⟩
    have hall := HSz.out.2 (by rw [allIn_1, HL.out]; simp; omega)
    by_cases h2 : n = 1
    · have hin := hall.1 (by rw [HL.out]; exact h2)
      have hq0 : ((n : Int) == 1) = true := by rw [h2]; rfl
      have hq1 : ((nz : Int) != 0) = false := by rw [← HZl.out, hin.1]; rfl
      have hq2 : (zz != 4) = false := by rw [hin.2]; rfl
      clear hin hall h2
      go_wp2_with fail
      go_meet
      exact ⟨rfl, hide (Below.refl _ _)⟩
    · have hin := hall.2 (by rw [HL.out]; exact h2)
      have HLz := hide hin.1
      have hq0 : ((n : Int) == 1) = false := by simp; omega
      have hq2 : (zz != 0) = false := by rw [hin.2]; rfl
      have hw1 : IntKind.i64.wrap (d + 1) = d + 1 := wrap_in' (by omega)
      clear hin hall h2
      go_wp2_with fail
      refine ((unhide HLi) wa (unhide HBa)).mono ?_
      rintro e wb ⟨vb, rfl, hob, bb⟩
      obtain ⟨Ab, nb, cb, rfl, hfb⟩ := hob.to
      have hnb : nb = n := by rw [← hfb.len, HL.out]
      have HBb := hide bb
      have HOb := hide hob
      have HNB := hide hnb
      have HZb := hide (((unhide HZa).below bb).more bb.size)
      clear bb hob hfb hnb
      go_wp2_with fail
      refine (Delete_at Ab nb cb d fs wa.heap.size wb (unhide HOb) (by have := HNB.out; omega) (by omega) (by have := HNB.out; omega)).mono ?_
      rintro e wd ⟨vd, rfl, hod, bd⟩
      obtain ⟨Ad, nd, cd, rfl, hfd⟩ := hod.to
      have HBd := hide ((unhide HBb).trans bd)
      have HZd := hide (((unhide HZa).below (unhide HBd)).more (unhide HBd).size)
      have HFd := hide hfd
      clear bd hod hfd
      go_wp2_with fail
      refine (equal_any _ _ _ Lz _ _ _ _ wd (unhide HZd) (unhide HFd) true (hide (by rw [HLz.out]; simp))).mono ?_
      rintro e we ⟨rfl, be⟩
      have HBe := hide ((unhide HBd).trans (be.mono (unhide HBd).size))
      clear be
      go_wp2_with fail
      go_meet
      exact ⟨rfl, HBe⟩
  case rest =>
    obtain ⟨rfl, HBc0⟩ := hcut
    have HBc := hide ((unhide HBa).trans ((unhide HBc0).mono (unhide HBa).size))
    have HXc := hide (((unhide HXa).below (unhide HBc0)).more (unhide HBc0).size)
    have HXl := hide (unhide HXc).len
    have hxm := (unhide HXc).most
    clear HZa HXa HSz HBc0
    cases hai : allIn 1 30 [a, b] with
    | false =>
      have hin := HSx.out.1 hai
      have hq1 : ((nx : Int) == 0) = true := by rw [← HXl.out, hin.1]; rfl
      have hq2 : (zx == 2) = true := by rw [hin.2]; rfl
      have hno : ¬ ((1 ≤ a ∧ a ≤ 30) ∧ (1 ≤ b ∧ b ≤ 30)) := fun h => by
        have := (allIn_2 1 30 a b).2 h
        rw [hai] at this; cases this
      clear hin hai
      by_cases k0 : a < 1
      · clear hno
        go_wp2_with fail
        go_ret
        exact ⟨rfl, unhide HBc⟩
      by_cases k1 : 30 < a
      · clear hno
        go_wp2_with fail
        go_ret
        exact ⟨rfl, unhide HBc⟩
      by_cases k2 : b < 1
      · clear hno
        go_wp2_with fail
        go_ret
        exact ⟨rfl, unhide HBc⟩
      have k3 : 30 < b := by omega
      clear hno
      go_wp2_with fail
      go_ret
      exact ⟨rfl, unhide HBc⟩
    | true =>
      have hab := (allIn_2 1 30 a b).1 hai
      obtain ⟨⟨a1, a2⟩, b1, b2⟩ := hab
      have HAI := hide hai
      have HIN := hide (HSx.out.2 hai)
      clear hai
      go_wp2_with fail
      refine (RScale_any A n c fs a b wc (((unhide HI).below (unhide HBc)).more (unhide HBc).size) HOff HAI).mono ?_
      rintro e wd ⟨hr, bd⟩
      have HBd := hide ((unhide HBc).trans (bd.mono (unhide HBc).size))
      have HXd := hide (((unhide HXc).below bd).more bd.size)
      clear bd
      rcases hr with ⟨hp, v, rfl, ho⟩ | ⟨hp, rfl⟩
      · obtain ⟨hLx, hzx⟩ := HIN.out.1 hp
        have HLx := hide hLx
        have hq2 : (zx == 0) = true := by rw [hzx]; rfl
        obtain ⟨Ad, nd, cd, rfl, hfd⟩ := ho.to
        have HFd := hide hfd
        clear hLx hzx hp ho hfd
        go_wp2_with fail
        refine (equal_any _ _ _ Lx _ _ _ _ wd (unhide HXd) (unhide HFd) true (hide (by rw [HLx.out]; simp))).mono ?_
        rintro e we ⟨rfl, be⟩
        have HBe := hide ((unhide HBd).trans (be.mono (unhide HBd).size))
        clear be
        go_wp2_with fail
        go_ret
        exact ⟨rfl, unhide HBe⟩
      · obtain ⟨hLx, hzx⟩ := HIN.out.2 hp
        have HLx := hide hLx
        have hq2 : (zx == 4) = true := by rw [hzx]; rfl
        clear hLx hzx hp
        go_wp2_with fail
        refine (equal_any _ _ _ Lx _ _ _ [] wd (unhide HXd) (Fs.none_ _ _) true (hide (by rw [HLx.out]; simp))).mono ?_
        rintro e we ⟨rfl, be⟩
        have HBe := hide ((unhide HBd).trans (be.mono (unhide HBd).size))
        clear be
        go_wp2_with fail
        go_ret
        exact ⟨rfl, unhide HBe⟩

theorem LScales_any (A : Option Addr) (n c : Nat) (fs : List F) (a b d : Int) (w : World) (h : Fs w w.heap.size A n c fs) :
    Calls Try.prog 6 #[.slice A n c, .int .i64 a, .int .i64 b, .int .i64 d] w fun e w' => e = .returned (.bool true) ∧ Below w.heap.size w w' := by
  cases hb : offB fs with
  | false => exact LScales_no A n c fs a b d w h (hide hb)
  | true => exact LScales_ok A n c fs a b d w h (hide hb)
end Go.Proofs.Ytbgfiejaehpffaa
