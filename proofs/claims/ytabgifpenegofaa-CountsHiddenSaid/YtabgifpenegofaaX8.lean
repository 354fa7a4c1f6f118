/-
  Plus of the program and of the reference.
-/
import Derived.Test.YtabgifpenegofaaX7
namespace Go.Proofs.Ytabgifpenegofaa
open Go.RowKit

/-- What Plus answers. -/
def okP (s t : List (List Int)) : Bool := isT s && (isT t && likeB s t)
def plK (s t : List (List Int)) : Nat → Nat → Int := addK (at2 s) (at2 t)
def plE (s t : List (List Int)) : Int := if okP s t then (if tot (plK s t) ≤ 16 then 0 else 4) else 2
def plO (s t : List (List Int)) : List (List Int) := if okP s t && decide (tot (plK s t) ≤ 16) then tabL s.length (row s 0).length (plK s t) else []
theorem okP_parts {s t : List (List Int)} {n m : Nat} (h : okP s t = true) (hs : Tb s n m) : Tb t n m := by
  simp only [okP, likeB, Bool.and_eq_true, decide_eq_true_eq] at h
  have := tb_of h.2.1
  rw [← h.2.2.1, ← h.2.2.2, hs.len, hs.rows 0 hs.n1] at this
  exact this
/-- The first i rows, and k numbers of the next one, are added. -/
def pMid (K L : Nat → Nat → Int) (i k a b : Nat) : Int := if a < i ∨ (a = i ∧ b < k) then K a b + L a b else K a b

set_option maxRecDepth 100000 in
set_option maxHeartbeats 4000000 in
theorem Plus_no (A A' : Option Addr) (n c n' c' : Nat) (s t : List (List Int)) (w : World) (h : Rows_ w w.heap.size A n c s) (h' : Rows_ w w.heap.size A' n' c' t) (hr : Hid (okP s t = false)) :
    Calls Try.prog 54 #[.slice A n c, .slice A' n' c'] w fun e w' => e = .returned (.tuple #[.slice none 0 0, .int .i64 2]) ∧ Below w.heap.size w w' := by
  cases h0 : isT s with
  | false =>
    have H0 := hide h0
    clear h0
    go_enter Try.func54, Try.ntmps54
    go_wp2_with fail
    refine (isTable_is _ _ _ _ _ h _ H0).mono ?_
    rintro e w1 ⟨rfl, b1⟩
    go_wp2_with fail
    go_ret2
    exact ⟨rfl, b1⟩
  | true =>
    cases h1 : isT t with
    | false =>
      have H0 := hide h0
      have H1 := hide h1
      clear h0 h1
      go_enter Try.func54, Try.ntmps54
      go_wp2_with fail
      refine (isTable_is _ _ _ _ _ h _ H0).mono ?_
      rintro e w1 ⟨rfl, b1⟩
      have HB1 := hide b1
      have h1' := (h'.below b1).more b1.size
      clear b1
      go_wp2_with fail
      refine (isTable_is _ _ _ _ _ h1' _ H1).mono ?_
      rintro e w2 ⟨rfl, b2⟩
      have HB2 := hide ((unhide HB1).trans (b2.mono (unhide HB1).size))
      go_wp2_with fail
      go_ret2
      exact ⟨rfl, unhide HB2⟩
    | true =>
      have H0 := hide h0
      have H1 := hide h1
      have hl : likeB s t = false := by have := hr.out; unfold okP at this; rw [h0, h1] at this; simpa using this
      have HL := hide hl
      have hs := tb_of h0; have ht := tb_of h1
      rw [h.len] at hs
      rw [h'.len] at ht
      have HS := hide hs; have HT := hide ht
      obtain ⟨b, off, rfl⟩ := h.addr (show 0 < n by have := hs.n1; omega)
      obtain ⟨b', off', rfl⟩ := h'.addr (show 0 < n' by have := ht.n1; omega)
      clear h0 h1 hl hs ht
      go_enter Try.func54, Try.ntmps54
      go_wp2_with fail
      refine (isTable_is _ _ _ _ _ h _ H0).mono ?_
      rintro e w1 ⟨rfl, b1⟩
      have HB1 := hide b1
      have h1' := (h'.below b1).more b1.size
      clear b1
      go_wp2_with fail
      refine (isTable_is _ _ _ _ _ h1' _ H1).mono ?_
      rintro e w2 ⟨rfl, b2⟩
      have HB2 := hide ((unhide HB1).trans (b2.mono (unhide HB1).size))
      clear b2
      have j1 := hide ((h.below (unhide HB2)).more (unhide HB2).size)
      have j2 := hide ((h'.below (unhide HB2)).more (unhide HB2).size)
      go_wp2_with fail
      refine (isLike_any _ _ _ _ _ _ _ _ _ _ _ _ _ (unhide j1) (unhide j2) HS HT _ HL).mono ?_
      rintro e w3 ⟨rfl, q, rfl⟩
      go_wp2_with fail
      go_ret2
      exact ⟨rfl, Below.drewN' (unhide HB2) q⟩

set_option maxRecDepth 100000 in
set_option maxHeartbeats 8000000 in
theorem Plus_ok (b off n c m b' off' c' : Nat) (s t : List (List Int)) (w : World) (h : Rows_ w w.heap.size (some ⟨b, off, none⟩) n c s) (h' : Rows_ w w.heap.size (some ⟨b', off', none⟩) n c' t) (hs : Hid (Tb s n m)) (ht : Hid (Tb t n m)) (r : Bool) (hr : Hid (decide (tot (plK s t) ≤ 16) = r)) :
    Calls Try.prog 54 #[.slice (some ⟨b, off, none⟩) n c, .slice (some ⟨b', off', none⟩) n c'] w fun e w' => ∃ A3 n3 c3, e = .returned (.tuple #[.slice A3 n3 c3, .int .i64 (if r then 0 else 4)]) ∧ Rows_ w' w'.heap.size A3 n3 c3 (if r then tabL n m (plK s t) else []) ∧ Below w.heap.size w w' := by
  have hm := h.most; have hcap := h.cap; have hm' := h'.most; have hcap' := h'.cap
  have n1 := hs.out.n1; have n3 := hs.out.n3; have m1 := hs.out.m1; have m3 := hs.out.m3
  have H0 := hide (isT_of hs.out); have H1 := hide (isT_of ht.out)
  have HL := hide (show likeB s t = true from by unfold likeB; rw [hs.out.len, ht.out.len, hs.out.rows 0 (by omega), ht.out.rows 0 (by omega)]; simp)
  obtain ⟨bx, ox, _, _, _, ex, hbl, _⟩ := h'.at_ 0 (show 0 < n by omega)
  cases ex
  go_enter Try.func54, Try.ntmps54
  go_wp2_with fail
  refine (isTable_is _ _ _ _ _ h _ H0).mono ?_
  rintro e w1 ⟨rfl, b1⟩
  have HB1 := hide b1
  have h1' := (h'.below b1).more b1.size
  clear b1
  go_wp2_with fail
  refine (isTable_is _ _ _ _ _ h1' _ H1).mono ?_
  rintro e w2 ⟨rfl, b2⟩
  have HB2 := hide ((unhide HB1).trans (b2.mono (unhide HB1).size))
  clear b2
  have j1 := hide ((h.below (unhide HB2)).more (unhide HB2).size)
  have j2 := hide ((h'.below (unhide HB2)).more (unhide HB2).size)
  go_wp2_with fail
  refine (isLike_any _ _ _ _ _ _ _ _ _ _ _ _ _ (unhide j1) (unhide j2) hs ht _ HL).mono ?_
  rintro e w3 ⟨rfl, q, hq⟩
  have HB3 := hide (show Below w.heap.size w w3 from by rw [hq]; exact Below.drewN' (unhide HB2) q)
  have j3 := hide (show Rows_ w3 w3.heap.size (some ⟨b, off, none⟩) n c s from by rw [hq]; exact (unhide j1).drewN q)
  clear hq j1 j2 h1'
  go_wp2_with fail
  refine (keyOf_any _ _ _ _ _ _ (unhide j3) hs).mono ?_
  rintro e w4 ⟨rfl, b4⟩
  have HB4 := hide ((unhide HB3).trans (b4.mono (unhide HB3).size))
  clear b4 j3
  obtain ⟨W, hW, k1, k2, k3⟩ := new_key w4 (at2 s)
  obtain ⟨g, hg⟩ : ∃ g, w4.heap.size = g := ⟨_, rfl⟩
  have HG := hide (show w.heap.size ≤ g from by rw [← hg]; exact (unhide HB4).size)
  have K1 := hide k1
  have HBW := hide ((unhide HB4).trans (k3.mono (unhide HB4).size))
  have HW := hide hW
  have K2 := hide (show Blk W g 79 (kyA (pMid (at2 s) (at2 t) 0 0)) from by
    rw [kyA_ext (L := at2 s) (fun i j _ _ => by unfold pMid; rw [if_neg (by omega)]), ← hg]; exact k2)
  have HGE := hide hg
  clear k1 k2 k3 hW hg
  have I79 := hide (info79 (at2 s))
  have A79 := hide (kyA_all (at2 s))
  go_upto_region 4 with (refine wpList_store_row rfl 79 _ _ rfl w4.heap.size (kyA (at2 s)) rfl rfl 79 _ (unhide K1) I79.out rfl A79.out ?_)
  rw [HW.out]
  simp only [HGE.out]
  clear HW K1 I79 A79 HGE
  have HSs := hide hs.out.sml; have HSt := hide ht.out.sml
  go_wp2_with fail
  go_loopw [7, 8, 9, 10, 31] (fun _ _ _ _ q wr => ∃ i : Nat, i ≤ n ∧ q = .int .i64 i ∧ Hid (Blk wr g 79 (kyA (pMid (at2 s) (at2 t) i 0))) ∧ Hid (Below w.heap.size w wr)) (fun _ _ _ _ q _ => n - (intOf q).toNat)
  case atStart => exact ⟨0, Nat.zero_le _, rfl, K2, HBW⟩
  case round =>
    obtain ⟨wo, rfl⟩ : ∃ wo : World, wo = wr := ⟨_, rfl⟩
    obtain ⟨i, hi, rfl, HK, HB⟩ := hrel
    by_cases hlt : i < n
    · obtain ⟨A1, c1, hcw, hi1⟩ := ht.out.get h' hlt
      have hc1 := ((unhide HB).cell (p := ⟨b', off' + i, none⟩) hbl).trans hcw
      have hm1 := hi1.most; have hcap1 := hi1.cap
      obtain ⟨b1, o1, rfl, hb1, _⟩ := hi1.cells (show 0 < m by omega)
      have HI1 := hide hi1
      clear hi1 hcw
      go_wp2_with fail
      clear hc1
      go_loopw [9, 10, 38] (fun _ _ q wr => ∃ k : Nat, k ≤ m ∧ q = .int .i64 k ∧ Hid (Blk wr g 79 (kyA (pMid (at2 s) (at2 t) i k))) ∧ Hid (Below w.heap.size w wr)) (fun _ _ q _ => m - (intOf q).toNat)
      case atStart => exact ⟨0, Nat.zero_le _, rfl, HK, HB⟩
      case round =>
        obtain ⟨k, hk, rfl, HKk, HBk⟩ := hrel
        by_cases hkt : k < m
        · have hx := ((unhide HI1).below (unhide HBk)).cells (show 0 < m by omega)
          obtain ⟨b1', o1', e1, _, hx⟩ := hx
          cases e1
          have hx := hx k (by rw [ht.out.rows i hlt]; exact hkt)
          rw [show (row t i).getD k 0 = at2 t i k from rfl] at hx
          have c0 := (unhide HKk).cell (i * 3 + k)
          rw [kyA_at _ _ _ (by omega) (by omega), show pMid (at2 s) (at2 t) i k i k = at2 s i k from by unfold pMid; rw [if_neg (by omega)]] at c0
          have f0 := (unhide HKk).frozen (i * 3 + k)
          obtain ⟨s1, s2⟩ := HSs.out i k (by omega) (by omega)
          obtain ⟨x1, x2⟩ := HSt.out i k (by omega) (by omega)
          have hi3 : (i : Int) < 3 := by omega
          have hk3 : (k : Int) < 3 := by omega
          have HPK := hide (kyA_set (pMid (at2 s) (at2 t) i k) (pMid (at2 s) (at2 t) i (k + 1)) i k (at2 s i k + at2 t i k) (by omega) (by omega) (by simp [pMid]) (fun a b' hab => by
            unfold pMid
            by_cases e : a < i ∨ (a = i ∧ b' < k)
            · rw [if_pos e, if_pos (by omega)]
            · rw [if_neg e, if_neg (by omega)]))
          generalize at2 s i k = y at c0 s1 s2 HPK
          generalize at2 t i k = x at hx x1 x2 HPK
          go_wp2_with fail
          go_region
          have HKn := hide (show Blk ((wr.setCell ⟨g, i * 3 + k, none⟩ (.int .i64 (y + x))).drewN 1) g 79 (kyA (pMid (at2 s) (at2 t) i (k + 1))) from by rw [← HPK.out]; exact ((unhide HKk).set_ _ _).drewN 1)
          have HBn := hide (show Below w.heap.size w ((wr.setCell ⟨g, i * 3 + k, none⟩ (.int .i64 (y + x))).drewN 1) from Below.drewN' ((unhide HBk).setCell HG.out _) 1)
          go_wp2_with fail
          go_roundw
          case rel => exact ⟨k + 1, by omega, by go_num, HKn, HBn⟩
          case measure => simp [intOf]; omega
        · obtain rfl : m = k := by omega
          have HKe := hide (show Blk wr g 79 (kyA (pMid (at2 s) (at2 t) (i + 1) 0)) from by
            rw [kyA_ext (L := pMid (at2 s) (at2 t) i m) (fun a b' ha hb => by
              unfold pMid
              by_cases e : a < i ∨ (a = i ∧ b' < m)
              · rw [if_pos e, if_pos (by omega)]
              · rw [if_neg e]
                by_cases e2 : a < i + 1 ∨ (a = i + 1 ∧ b' < 0)
                · rw [if_pos e2, ht.out.zero_col a b' (by omega)]; omega
                · rw [if_neg e2])]
            exact unhide HKk)
          go_wp2_with fail
          go_roundw
          case rel => exact ⟨i + 1, by omega, by go_num, HKe, HBk⟩
          case measure => simp [intOf]; omega
    · obtain rfl : n = i := by omega
      have HKe := hide (show Blk wo g 79 (kyA (plK s t)) from by
        rw [kyA_ext (L := pMid (at2 s) (at2 t) n 0) (fun a b' ha hb => by
          unfold pMid plK addK
          by_cases e : a < n ∨ (a = n ∧ b' < 0)
          · rw [if_pos e]
          · rw [if_neg e, ht.out.zero_row a b' (by omega)]; omega)]
        exact unhide HK)
      have I79 := hide (info79 (plK s t))
      have HSm := hide (show Sml (plK s t) from fun a b' _ _ => ⟨(hs.out.kb.add ht.out.kb).nn a b', by
        unfold plK addK
        have := hs.out.le a b'; have := ht.out.le a b'; omega⟩)
      go_wp2_with (refine wpList_load_row rfl 79 _ rfl g rfl 79 (kyA (plK s t)) (0, 0) _ (unhide HKe) Try.underlying79 rfl I79.out ?_)
      refine (sums_any _ _ HSm).mono ?_
      rintro e w5 ⟨rfl, b5⟩
      have HB5 := hide ((unhide HB).trans (b5.mono (unhide HB).size))
      have HK5 := hide ((unhide HKe).below b5 (unhide HKe).lt)
      clear b5
      obtain ⟨W6, hW6, k1, k2, k3, k4, k5⟩ := two_lines w5 (rS (plK s t)) (cS (plK s t))
      have K1 := hide k1; have K2' := hide k2; have K3 := hide k3; have HW := hide hW6
      have HB6 := hide ((unhide HB5).trans (k5.mono (unhide HB5).size))
      have HK6 := hide ((unhide HK5).below k5 (unhide HK5).lt)
      clear k1 k2 k3 k4 k5 hW6
      have IR := hide (info75 (rS (plK s t))); have IC := hide (info75 (cS (plK s t)))
      have AR := hide (lnA_all (rS (plK s t))); have AC := hide (lnA_all (cS (plK s t)))
      go_upto_region 14 with (first
        | (refine wpList_store_row rfl 75 _ _ rfl w5.heap.size (lnA (rS (plK s t))) rfl rfl 75 _ (unhide K1) IR.out rfl AR.out ?_)
        | (refine wpList_store_row rfl 75 _ _ rfl (w5.heap.size + 1) (lnA (cS (plK s t))) rfl rfl 75 _ (unhide K2') IC.out rfl AC.out ?_))
      rw [HW.out]
      have HRb := hide (show ∀ i, i < 3 → -1000000 ≤ rS (plK s t) i ∧ rS (plK s t) i ≤ 1000000 from fun i hi => by
        have h0 := HSm.out i 0 hi (by omega); have h1 := HSm.out i 1 hi (by omega); have h2 := HSm.out i 2 hi (by omega)
        unfold rS; omega)
      clear K1 K2' HW AR AC IC
      go_wp2_with (refine wpList_load_row rfl 75 _ rfl w5.heap.size rfl 75 (lnA (rS (plK s t))) (0, 0) _ (unhide K3) Try.underlying75 rfl IR.out ?_)
      refine (sum_any _ _ HRb.out).mono ?_
      rintro e w7 ⟨rfl, b7⟩
      have HB7 := hide ((unhide HB6).trans (b7.mono (unhide HB6).size))
      have HK7 := hide ((unhide HK6).below b7 (unhide HK6).lt)
      clear b7
      rw [show rS (plK s t) 0 + rS (plK s t) 1 + rS (plK s t) 2 = tot (plK s t) from rfl]
      have hrr := hr.out
      cases r with
      | false =>
        have h16 : decide (16 < tot (plK s t)) = true := by simp at hrr ⊢; omega
        clear hrr
        go_wp2_with fail
        go_ret2
        exact ⟨none, 0, 0, rfl, Rows_.none_ _ _, unhide HB7⟩
      | true =>
        have h16 : decide (16 < tot (plK s t)) = false := by simp at hrr ⊢; omega
        clear hrr
        have hR := hide ((h.below (unhide HB7)).more (unhide HB7).size)
        go_wp2_with (refine wpList_load_row rfl 79 _ rfl g rfl 79 (kyA (plK s t)) (0, 0) _ (unhide HK7) Try.underlying79 rfl I79.out ?_)
        refine (tableOf_any _ _ _ _ _ _ _ (unhide hR) hs).mono ?_
        rintro e w8 ⟨g8, rfl, r8, _, b8⟩
        have HB8 := hide ((unhide HB7).trans (b8.mono (unhide HB7).size))
        have R8 := hide r8
        clear b8 r8
        go_wp2_with fail
        go_ret2
        exact ⟨_, _, _, rfl, unhide R8, unhide HB8⟩
end Go.Proofs.Ytabgifpenegofaa
