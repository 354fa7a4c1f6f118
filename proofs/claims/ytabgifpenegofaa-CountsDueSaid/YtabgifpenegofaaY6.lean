/-
  Off of the reference.
-/
import Derived.Test.YtabgifpenegofaaY5
namespace Go.Proofs.Ytabgifpenegofaa
open Go.RowKit

theorem owned_one (w : World) (base : Nat) (x : Int) (h : base ≤ w.heap.size) : Owned (w.alloc (.cells #[.int .i64 x] 3)) base (.slice (some ⟨w.heap.size, 0, none⟩) 1 1) [x] :=
  ⟨rfl, .inr ⟨w.heap.size, 1, #[.int .i64 x], rfl, h, heap_new_ w _, Nat.le_refl _, by unfold maxLen; omega, by simp, by simp⟩⟩
theorem prF_add (f : Nat → Int) (a : Nat) : ∀ b, prF f (a + b) = prF f a * prF (fun j => f (a + j)) b
  | 0 => by simp [prF]
  | b + 1 => by rw [← Nat.add_assoc, prF, prF, prF_add f a b, Int.mul_assoc]
theorem prF_congr {f g : Nat → Int} : ∀ n, (∀ i, i < n → f i = g i) → prF f n = prF g n
  | 0, _ => rfl
  | n + 1, h => by rw [prF, prF, prF_congr n (fun i hi => h i (by omega)), h n (by omega)]
theorem prF_bd0 {f : Nat → Int} (h : ∀ i, 0 ≤ f i ∧ f i ≤ 16) : ∀ k, 0 ≤ prF f k ∧ prF f k ≤ 16 ^ k
  | 0 => by simp [prF]
  | k + 1 => by
    obtain ⟨h1, h2⟩ := prF_bd0 h k
    obtain ⟨h3, h4⟩ := h k
    have e1 := Int.mul_le_mul h2 h4 h3 (by have : (0 : Int) < 16 ^ k := Int.pow_pos (by omega); omega)
    have e2 := Int.mul_nonneg h1 h3
    simp only [prF, Int.pow_succ]
    exact ⟨e2, e1⟩
theorem prF_bd7 {f : Nat → Int} (h : ∀ i, 0 ≤ f i ∧ f i ≤ 16) {k : Nat} (hk : k ≤ 7) : 0 ≤ prF f k ∧ prF f k ≤ 268435456 := by
  have := prF_bd0 h k
  rcases (show k = 0 ∨ k = 1 ∨ k = 2 ∨ k = 3 ∨ k = 4 ∨ k = 5 ∨ k = 6 ∨ k = 7 by omega) with rfl | rfl | rfl | rfl | rfl | rfl | rfl | rfl <;> omega
/-- The sum of all numbers, those of the rows, those of the columns. -/
def allL (t : List (List Int)) : List Int := [tot (at2 t)] ++ rowsL t ++ colsL t
section
variable {t : List (List Int)} {n m : Nat}
theorem rowsL_len (ht : Tb t n m) : (rowsL t).length = n := by unfold rowsL; rw [ht.len]; simp
theorem colsL_len (ht : Tb t n m) : (colsL t).length = m := by unfold colsL; rw [ht.rows 0 ht.n1]; simp
theorem allL_len (ht : Tb t n m) : (allL t).length = 1 + n + m := by unfold allL; simp [rowsL_len ht, colsL_len ht]; omega
theorem allL_0 : nth (allL t) 0 = tot (at2 t) := by simp [allL, nth]
theorem allL_r (ht : Tb t n m) {i : Nat} (hi : i < n) : nth (allL t) (1 + i) = rS (at2 t) i := by
  have h := rowsL_len ht
  rw [← rowsL_nth ht]
  unfold allL nth
  simp only [List.getD]
  rw [List.getElem?_append_left (by simp; omega), List.getElem?_append_right (by simp)]
  simp
theorem allL_c (ht : Tb t n m) {j : Nat} (_ : j < m) : nth (allL t) (1 + n + j) = cS (at2 t) j := by
  have h := rowsL_len ht
  rw [← colsL_nth ht]
  unfold allL nth
  simp only [List.getD]
  rw [List.getElem?_append_right (by simp; omega)]
  congr 2
  simp; omega
theorem rS_bd (ht : Tb t n m) (i : Nat) : 0 ≤ rS (at2 t) i ∧ rS (at2 t) i ≤ 16 := by
  have h16 : tot (at2 t) ≤ 16 := ht.total
  have hr : ∀ i, 0 ≤ rS (at2 t) i := fun i => by have := ht.nn i 0; have := ht.nn i 1; have := ht.nn i 2; unfold rS; omega
  have a0 := hr 0; have a1 := hr 1; have a2 := hr 2
  refine ⟨hr i, ?_⟩
  unfold tot at h16
  rcases (show i = 0 ∨ i = 1 ∨ i = 2 ∨ 3 ≤ i by omega) with rfl | rfl | rfl | hi
  · omega
  · omega
  · omega
  · unfold rS; rw [ht.zero_row i 0 (by have := ht.n3; omega), ht.zero_row i 1 (by have := ht.n3; omega), ht.zero_row i 2 (by have := ht.n3; omega)]; omega
theorem cS_bd (ht : Tb t n m) (j : Nat) : 0 ≤ cS (at2 t) j ∧ cS (at2 t) j ≤ 16 := by
  have h16 : tot (at2 t) ≤ 16 := ht.total
  have e := ht.nn
  have x00 := e 0 0; have x01 := e 0 1; have x02 := e 0 2; have x10 := e 1 0; have x11 := e 1 1; have x12 := e 1 2; have x20 := e 2 0; have x21 := e 2 1; have x22 := e 2 2
  have y0 := e 0 j; have y1 := e 1 j; have y2 := e 2 j
  refine ⟨by unfold cS; omega, ?_⟩
  unfold tot rS at h16
  unfold cS
  rcases (show j = 0 ∨ j = 1 ∨ j = 2 ∨ 3 ≤ j by omega) with rfl | rfl | rfl | hj
  · omega
  · omega
  · omega
  · rw [ht.zero_col 0 j (by have := ht.m3; omega), ht.zero_col 1 j (by have := ht.m3; omega), ht.zero_col 2 j (by have := ht.m3; omega)]; omega
theorem tot_bd (ht : Tb t n m) : 0 ≤ tot (at2 t) ∧ tot (at2 t) ≤ 16 := by
  have h16 : tot (at2 t) ≤ 16 := ht.total
  have := (rS_bd ht 0).1; have := (rS_bd ht 1).1; have := (rS_bd ht 2).1
  unfold tot at *; omega
theorem allL_bd (ht : Tb t n m) (k : Nat) : 0 ≤ nth (allL t) k ∧ nth (allL t) k ≤ 16 := by
  rcases Nat.lt_or_ge k (1 + n + m) with h | h
  · rcases (show k = 0 ∨ (∃ i, i < n ∧ k = 1 + i) ∨ (∃ j, j < m ∧ k = 1 + n + j) by
      by_cases e : k = 0
      · exact .inl e
      · by_cases e2 : k < 1 + n
        · exact .inr (.inl ⟨k - 1, by omega, by omega⟩)
        · exact .inr (.inr ⟨k - (1 + n), by omega, by omega⟩)) with rfl | ⟨i, hi, rfl⟩ | ⟨j, hj, rfl⟩
    · rw [allL_0]; exact tot_bd ht
    · rw [allL_r ht hi]; exact rS_bd ht i
    · rw [allL_c ht hj]; exact cS_bd ht j
  · rw [nth_out (by rw [allL_len ht]; exact h)]; omega
theorem allL_prod (ht : Tb t n m) : prF (nth (allL t)) (1 + n + m) = dD (at2 t) n m := by
  rw [prF_add, prF_add, prF_congr n (fun i hi => allL_r ht hi), prF_congr m (fun j hj => allL_c ht hj)]
  unfold dD
  simp only [prF, allL_0, Int.one_mul]
theorem allL_zero (ht : Tb t n m) {k : Nat} (hk : k < 1 + n + m) (h : nth (allL t) k = 0) : (zrB t || zcB t) = true := by
  have zr : ∀ i, i < n → rS (at2 t) i = 0 → zrB t = true := fun i hi e => by
    unfold zrB; rw [decide_eq_true_eq, ← e, ← rowsL_nth ht]; exact nth_mem (by rw [rowsL_len ht]; exact hi)
  rcases (show k = 0 ∨ (∃ i, i < n ∧ k = 1 + i) ∨ (∃ j, j < m ∧ k = 1 + n + j) by
    by_cases e : k = 0
    · exact .inl e
    · by_cases e2 : k < 1 + n
      · exact .inr (.inl ⟨k - 1, by omega, by omega⟩)
      · exact .inr (.inr ⟨k - (1 + n), by omega, by omega⟩)) with rfl | ⟨i, hi, rfl⟩ | ⟨j, hj, rfl⟩
  · rw [allL_0] at h
    have e0 : rS (at2 t) 0 = 0 := by
      have := (rS_bd ht 0).1; have := (rS_bd ht 1).1; have := (rS_bd ht 2).1
      unfold tot at h; omega
    rw [zr 0 ht.n1 e0]; rfl
  · rw [allL_r ht hi] at h; rw [zr i hi h]; rfl
  · rw [allL_c ht hj] at h
    have : zcB t = true := by unfold zcB; rw [decide_eq_true_eq, ← h, ← colsL_nth ht]; exact nth_mem (by rw [colsL_len ht]; exact hj)
    rw [this]; simp
theorem allL_pos (ht : Tb t n m) (h : ∀ k, k < 1 + n + m → nth (allL t) k ≠ 0) : (zrB t || zcB t) = false := by
  rw [Bool.or_eq_false_iff]
  constructor
  · unfold zrB
    rw [decide_eq_false_iff_not]
    intro hc
    obtain ⟨i, hi, e⟩ := mem_nth hc
    rw [rowsL_len ht] at hi
    rw [rowsL_nth ht] at e
    exact h (1 + i) (by omega) (by rw [allL_r ht hi]; exact e)
  · unfold zcB
    rw [decide_eq_false_iff_not]
    intro hc
    obtain ⟨j, hj, e⟩ := mem_nth hc
    rw [colsL_len ht] at hj
    rw [colsL_nth ht] at e
    exact h (1 + n + j) (by omega) (by rw [allL_c ht hj]; exact e)
theorem rowsL_sum (ht : Tb t n m) : (rowsL t).sum = tot (at2 t) := by
  rw [sum3 (by rw [rowsL_len ht]; exact ht.n3), rowsL_nth ht, rowsL_nth ht, rowsL_nth ht]; rfl
end

set_option maxRecDepth 100000 in
set_option maxHeartbeats 16000000 in
theorem ROff_any (b off n c m : Nat) (t : List (List Int)) (w : World) (h : Rows_ w w.heap.size (some ⟨b, off, none⟩) n c t) (ht : Hid (Tb t n m)) (zz : Bool) (hzz : Hid ((zrB t || zcB t) = zz)) (fn fd fe : Int)
    (hf : Hid (if zz = true then fn = 0 ∧ fd = 0 ∧ fe = 5 else Fr (Rat.divInt (zT (at2 t) n m n) (dD (at2 t) n m)) fn fd ∧ fe = 0)) :
    Calls Try.prog 41 #[.slice (some ⟨b, off, none⟩) n c] w fun e w' => e = .returned (.tuple #[.agg #[.int .i64 fn, .int .i64 fd], .int .i64 fe]) ∧ Below w.heap.size w w' := by
  have hm := h.most; have hcap := h.cap
  have n1 := ht.out.n1; have n3 := ht.out.n3; have m1 := ht.out.m1; have m3 := ht.out.m3
  obtain ⟨W0, hW0, HB0, HR0⟩ := new_res w
  have HH := hide ((h.below (unhide HB0)).more (unhide HB0).size)
  have HRL := hide (show (List.range n).map (rS (at2 t)) = rowsL t from by unfold rowsL; rw [ht.out.len])
  have HCL := hide (show (List.range m).map (cS (at2 t)) = colsL t from by unfold colsL; rw [ht.out.rows 0 (by omega)])
  go_enter Try.func41, Try.ntmps41
  go_upto_region 1 with fail
  clear hW0
  go_wp2_with fail
  refine (RSums_any _ _ _ _ _ _ _ (unhide HH) ht).mono ?_
  rintro e W1 ⟨g1, g2, rfl, k1, k2, _, _, _, b1⟩
  have HB1 := hide ((unhide HB0).trans (b1.mono (unhide HB0).size))
  have HR1 := hide ((b1.block _ (Array.getElem?_eq_some_iff.1 (unhide HR0)).1).trans (unhide HR0))
  have J1 := ints_rowC k1 (by omega); have J2 := ints_rowC k2 (by omega)
  rw [HRL.out] at J1; rw [HCL.out] at J2
  have J1 := hide J1; have J2 := hide J2
  clear b1 k1 k2 HB0 HR0 HH HRL HCL
  go_upto_region 4 with (go_at_call 78; refine (total_any _ _ _ _ _ _ (unhide J1) (by omega) (fun k => by rw [rowsL_nth ht.out]; have := rS_bd ht.out k; omega)).mono ?_; rintro e w' ⟨rfl, rfl⟩; rw [rowsL_sum ht.out])
  have hsb := tot_bd ht.out
  obtain ⟨S, hS⟩ : ∃ S, tot (at2 t) = S := ⟨_, rfl⟩
  have HS := hide hS
  rw [hS] at hsb ⊢
  clear hS
  obtain ⟨s1, s2⟩ := hsb
  have HL1 := rowsL_len ht.out; have HL2 := colsL_len ht.out
  have HL1 := hide HL1; have HL2 := hide HL2
  obtain ⟨N, hN⟩ : ∃ N, 1 + n + m = N := ⟨_, rfl⟩
  have HN := hide hN
  have HLN := hide (show (allL t).length = N from by rw [allL_len ht.out]; exact hN)
  have hN7 : N ≤ 7 := by omega
  clear hN
  have O1 := hide (owned_one W1 W1.heap.size S (Nat.le_refl _))
  have I1 := hide ((unhide J1).alloc (Nat.le_refl _) (.cells #[.int .i64 S] 3))
  have I2 := hide ((unhide J2).alloc (Nat.le_refl _) (.cells #[.int .i64 S] 3))
  go_wp2_with (first
    | (at_builtin; refine wpList_app rfl _ _ rfl rfl rfl (unhide O1) (unhide I1) (by rw [HL1.out]; simp; omega) (by simp) ?_; intro v2 w2 ho2 hg2 hv2
       have b2 := ((Below.refl W1.heap.size W1).alloc (Nat.le_refl _) (.cells #[.int .i64 S] 3)).grown hg2 (by simp) (fun k hk => by cases hk; exact Nat.le_refl _)
       obtain ⟨A3, c3, e3, _⟩ := ho2.ints
       rw [show ([S] ++ rowsL t : List Int).length = 1 + n from by simp [HL1.out]; omega] at e3
       subst e3
       have O2 := hide ho2
       have I3 := hide ((unhide J2).below b2)
       have HB2 := hide b2
       clear ho2 hg2 hv2 b2)
    | (at_builtin; refine wpList_app rfl _ _ rfl rfl rfl (unhide O2) (unhide I3) (by rw [HL2.out]; simp [HL1.out]; omega) (unhide HB2).size ?_; intro v4 w4 ho4 hg4 hv4
       have b4 := (unhide HB2).grown hg4 (unhide HB2).size (fun k hk => ((unhide O2).blk_lt k hk).1)
       obtain ⟨A5, c5, e5, i5⟩ := ho4.ints
       rw [show ([S] ++ rowsL t ++ colsL t : List Int) = allL t from by unfold allL; rw [HS.out]] at e5 i5
       rw [HLN.out] at e5 i5
       subst e5
       have I5 := hide i5
       have HB4 := hide b4
       clear ho4 hg4 hv4 i5 b4))
  have HB5 := hide ((unhide HB1).trans ((unhide HB4).mono (unhide HB1).size))
  have HR5 := hide (((unhide HB4).block _ (Array.getElem?_eq_some_iff.1 (unhide HR1)).1).trans (unhide HR1))
  have K1 := hide ((unhide J1).below (unhide HB4)); have K2 := hide ((unhide J2).below (unhide HB4))
  clear HB1 HR1 J1 J2 O1 I1 I2 O2 I3 HB2
  have hm5 := (unhide I5).most; have hcap5 := (unhide I5).cap
  go_loopw [7, 9, 30] (fun y _ q wr => ∃ k : Nat, k ≤ N ∧ q = .int .i64 k ∧ y = .int .i64 (prF (nth (allL t)) k) ∧ Hid (∀ a, a < k → nth (allL t) a ≠ 0) ∧ w4 = wr) (fun _ _ q _ => N - (intOf q).toNat)
  case atStart => exact ⟨0, Nat.zero_le _, rfl, rfl, hide (fun a ha => absurd ha (by omega)), rfl⟩
  case round =>
    obtain ⟨k, hk, rfl, rfl, HA, rfl⟩ := hrel
    by_cases hlt : k < N
    · obtain ⟨b5, o5, rfl, hb5, hx⟩ := (unhide I5).at_ k hlt
      by_cases h0 : nth (allL t) k = 0
      · have hzt : zz = true := by rw [← hzz.out]; exact allL_zero ht.out (by rw [HN.out]; exact hlt) h0
        subst hzt
        obtain ⟨rfl, rfl, rfl⟩ : fn = 0 ∧ fd = 0 ∧ fe = 5 := by have := hf.out; simpa using this
        rw [h0] at hx
        have f0 := free_at (unhide HR5) 0; have f1 := free_at (unhide HR5) 1
        obtain ⟨q0, q1⟩ := two_at (unhide HR5)
        have HPq := hide (put2 (unhide HR5) (.int .i64 0) (.int .i64 0))
        have HBq := hide (below_put2 (unhide HB5) (b := w.heap.size) (Nat.le_refl _) (.int .i64 0) (.int .i64 0))
        clear h0
        go_wp2_with fail
        obtain ⟨x0, x1⟩ := two_at (unhide HPq)
        exact bodyPost_ret (v := .tuple #[.agg #[.int .i64 0, .int .i64 0], .int .i64 5]) (by simp [results, Try.results41, go_sem, x0, x1]) rfl ⟨rfl, unhide HBq⟩
      · have h0' : (nth (allL t) k == 0) = false := by simpa using h0
        have HAn := hide (show ∀ a, a < k + 1 → nth (allL t) a ≠ 0 from fun a ha => by
          rcases Nat.lt_or_ge a k with h1 | h1
          · exact HA.out a h1
          · obtain rfl : a = k := by omega
            exact h0)
        obtain ⟨p1, p2⟩ := prF_bd7 (fun i => allL_bd ht.out i) (k := k) (by omega)
        obtain ⟨x1, x2⟩ := allL_bd ht.out k
        have hpp : prF (nth (allL t)) (k + 1) = prF (nth (allL t)) k * nth (allL t) k := rfl
        obtain ⟨r1, r2⟩ := prF_bd7 (fun i => allL_bd ht.out i) (k := k + 1) (by omega)
        rw [hpp] at r1 r2
        have HPP := hide hpp
        clear hpp h0
        obtain ⟨pp, hpp⟩ : ∃ y, prF (nth (allL t)) k * nth (allL t) k = y := ⟨_, rfl⟩
        rw [hpp] at HPP r1 r2
        go_wp2_with fail
        go_roundw
        case rel => exact ⟨k + 1, by omega, by go_num, by rw [HPP.out], HAn, trivial⟩
        case measure => simp [intOf]; omega
    · obtain rfl : k = N := by omega
      have hz0 : zz = false := by rw [← hzz.out]; exact allL_pos ht.out (fun a ha => HA.out a (by rw [← HN.out]; exact ha))
      subst hz0
      have hfo := hf.out
      rw [if_neg (by simp)] at hfo
      obtain ⟨hff, rfl⟩ := hfo
      have HFF := hide hff
      have hzz2 := hzz.out
      rw [Bool.or_eq_false_iff] at hzz2
      have HPz := hide (pz_of ht.out hzz2.1 hzz2.2)
      rw [show prF (nth (allL t)) k = dD (at2 t) n m from by rw [← HN.out]; exact allL_prod ht.out]
      obtain ⟨d1, d2⟩ := HPz.out.d_bd
      have HZt := hide (HPz.out.zT_bd n (Nat.le_refl _))
      obtain ⟨D, hD⟩ : ∃ D, dD (at2 t) n m = D := ⟨_, rfl⟩
      have HD := hide hD
      rw [hD] at d1 d2 HFF ⊢
      have s1' := HPz.out.s
      rw [HS.out] at s1'
      obtain ⟨t1, t2⟩ := s1'
      clear hD hff hzz2 HA
      obtain ⟨bx, ox, _, _, _, ex, hbl, _⟩ := h.at_ 0 (show 0 < n by omega)
      cases ex
      have HW0 := hide (show ∃ q, w4 = w4.drewN q from ⟨0, rfl⟩)
      go_wp2_with fail
      go_loopw [10, 11, 12, 13, 14, 15, 43] (fun y _ _ _ _ _ q wr => ∃ i : Nat, i ≤ n ∧ q = .int .i64 i ∧ y = .int .i64 (zT (at2 t) n m i) ∧ Hid (∃ q, wr = w4.drewN q)) (fun _ _ _ _ _ _ q _ => n - (intOf q).toNat)
      case atStart => exact ⟨0, Nat.zero_le _, rfl, rfl, HW0⟩
      case round =>
        obtain ⟨wo, rfl⟩ : ∃ wo : World, wo = wr := ⟨_, rfl⟩
        obtain ⟨i, hi, rfl, rfl, HQ⟩ := hrel
        by_cases hit : i < n
        · obtain ⟨A3, c3, hcw, hi1⟩ := ht.out.get h hit
          have HBo := hide (show Below w.heap.size w wo from by obtain ⟨q, e⟩ := HQ.out; rw [e]; exact Below.drewN' (unhide HB5) q)
          have hc1 := ((unhide HBo).cell (p := ⟨b, off + i, none⟩) hbl).trans hcw
          have hm1 := hi1.most; have hcap1 := hi1.cap
          obtain ⟨b1, o1, rfl, hb1, _⟩ := hi1.cells (show 0 < m by omega)
          have HI1 := hide hi1
          clear hi1 hcw
          go_wp2_with fail
          clear hc1
          go_loopw [10, 13, 14, 15, 50] (fun y _ _ _ q wr => ∃ k : Nat, k ≤ m ∧ q = .int .i64 k ∧ y = .int .i64 (zT (at2 t) n m i + zR (at2 t) n m i k) ∧ Hid (∃ q, wr = w4.drewN q)) (fun _ _ _ _ q _ => m - (intOf q).toNat)
          case atStart => exact ⟨0, Nat.zero_le _, rfl, by rw [zR, Int.add_zero], HQ⟩
          case round =>
            obtain ⟨a, ha, rfl, rfl, HQa⟩ := hrel
            by_cases hat : a < m
            · have HBk := hide (show Below w.heap.size w wr from by obtain ⟨q, e⟩ := HQa.out; rw [e]; exact Below.drewN' (unhide HB5) q)
              have hx := ((unhide HI1).below (unhide HBk)).cells (show 0 < m by omega)
              obtain ⟨b1', o1', e1, _, hx⟩ := hx
              cases e1
              have hx := hx a (by rw [ht.out.rows i hit]; exact hat)
              rw [show (row t i).getD a 0 = at2 t i a from rfl] at hx
              have M1 : Ints wr w4.heap.size (some ⟨g1, 0, none⟩) n n (rowsL t) := by obtain ⟨q, e⟩ := HQa.out; rw [e]; exact ((unhide K1).drewN q).more (unhide HB4).size
              have M2 : Ints wr w4.heap.size (some ⟨g2, 0, none⟩) m m (colsL t) := by obtain ⟨q, e⟩ := HQa.out; rw [e]; exact ((unhide K2).drewN q).more (unhide HB4).size
              obtain ⟨bR', oR', e1, _, hr1⟩ := M1.cells (show 0 < n by omega)
              cases e1
              have hr1 := hr1 i (by rw [HL1.out]; exact hit)
              rw [show (rowsL t).getD i 0 = nth (rowsL t) i from rfl, rowsL_nth ht.out, Nat.zero_add] at hr1
              obtain ⟨bC', oC', e1, _, hr2⟩ := M2.cells (show 0 < m by omega)
              cases e1
              have hr2 := hr2 a (by rw [HL2.out]; exact hat)
              rw [show (colsL t).getD a 0 = nth (colsL t) a from rfl, colsL_nth ht.out, Nat.zero_add] at hr2
              clear M1 M2
              obtain ⟨p1, p2⟩ := HPz.out.rc_bd hit hat
              obtain ⟨u1, u2⟩ := HPz.out.sk_bd i a
              obtain ⟨l1, l2⟩ := HPz.out.l_bd hit hat
              obtain ⟨w1, w2⟩ := HPz.out.e_bd hit hat
              obtain ⟨⟨y1, y2⟩, _⟩ := HPz.out.q_bd hit hat
              obtain ⟨z1, z2⟩ := HPz.out.z_bd hit ha
              obtain ⟨x1, x2⟩ := HPz.out.t_bd hit hat
              obtain ⟨rr1, rr2⟩ := HPz.out.r i hit
              have HZs := hide (show zT (at2 t) n m i + zR (at2 t) n m i (a + 1) = zT (at2 t) n m i + zR (at2 t) n m i a + tT (at2 t) n m i a from by rw [zR]; omega)
              have hlk : lk (at2 t) i a = at2 t i a * S - rS (at2 t) i * cS (at2 t) a := by unfold lk; rw [HS.out, Int.mul_comm]
              have hee : eE (at2 t) i a = S * rS (at2 t) i * cS (at2 t) a := by unfold eE; rw [HS.out, Int.mul_assoc]
              have htt : tT (at2 t) n m i a = D.tdiv (eE (at2 t) i a) * lk (at2 t) i a * lk (at2 t) i a := by unfold tT; rw [HD.out]
              rw [HS.out, Int.mul_comm] at u1 u2
              rw [HD.out] at y1 y2
              have k1 := mul_bd (M := 16) (N := 16) (a := S) (b := rS (at2 t) i) ⟨by omega, by omega⟩ ⟨by omega, by omega⟩
              have k2 : 0 < S * rS (at2 t) i := Int.mul_pos (by omega) (by omega)
              obtain ⟨du, hdu⟩ : ∃ y, rS (at2 t) i * cS (at2 t) a = y := ⟨_, rfl⟩
              obtain ⟨sk, hsk⟩ : ∃ y, at2 t i a * S = y := ⟨_, rfl⟩
              obtain ⟨sr, hsr⟩ : ∃ y, S * rS (at2 t) i = y := ⟨_, rfl⟩
              rw [hdu] at p1 p2 hlk
              rw [hsk] at u1 u2 hlk
              rw [hsr] at k1 k2 hee
              obtain ⟨la, hla⟩ : ∃ y, lk (at2 t) i a = y := ⟨_, rfl⟩
              obtain ⟨ee, heE⟩ : ∃ y, eE (at2 t) i a = y := ⟨_, rfl⟩
              rw [hla] at l1 l2 hlk htt
              rw [heE] at w1 w2 hee htt y1 y2
              obtain ⟨qq, hqq⟩ : ∃ y, D.tdiv ee = y := ⟨_, rfl⟩
              rw [hqq] at y1 y2 htt
              have k3 := mul_bd (M := 268435456) (N := 256) (a := qq) (b := la) ⟨by omega, by omega⟩ ⟨l1, l2⟩
              obtain ⟨ql, hql⟩ : ∃ y, qq * la = y := ⟨_, rfl⟩
              rw [hql] at k3 htt
              obtain ⟨tt, hte⟩ : ∃ y, tT (at2 t) n m i a = y := ⟨_, rfl⟩
              rw [hte] at x1 x2 htt HZs
              have hla2 : sk - du = la := hlk.symm
              have hee2 : sr * cS (at2 t) a = ee := hee.symm
              have htt2 : ql * la = tt := htt.symm
              have wdu : IntKind.i64.wrap du = du := by rw [IntKind.wrap_i64]; omega
              have wsk : IntKind.i64.wrap sk = sk := by rw [IntKind.wrap_i64]; omega
              have wla : IntKind.i64.wrap la = la := by rw [IntKind.wrap_i64]; omega
              have wsr : IntKind.i64.wrap sr = sr := by rw [IntKind.wrap_i64]; omega
              have wee : IntKind.i64.wrap ee = ee := by rw [IntKind.wrap_i64]; omega
              have wqq : IntKind.i64.wrap qq = qq := by rw [IntKind.wrap_i64]; omega
              have wql : IntKind.i64.wrap ql = ql := by rw [IntKind.wrap_i64]; omega
              have wtt : IntKind.i64.wrap tt = tt := by rw [IntKind.wrap_i64]; omega
              obtain ⟨zz, hzz3⟩ : ∃ y, zT (at2 t) n m i + zR (at2 t) n m i a = y := ⟨_, rfl⟩
              rw [hzz3] at z1 z2 HZs ⊢
              have wzz : IntKind.i64.wrap (zz + tt) = zz + tt := by rw [IntKind.wrap_i64]; omega
              have he0 : ¬ ee = 0 := by omega
              have he1 : (ee == 0) = false := by simpa using he0
              generalize at2 t i a = kv at hx hsk
              generalize rS (at2 t) i = rv at hr1 hdu hsr
              generalize cS (at2 t) a = cv at hr2 hdu hee2
              clear hlk hee hla heE htt hte hzz3 rr1 rr2
              go_upto_region 18 with fail
              go_big_quiet (fail)
              obtain ⟨nx, rfl⟩ : ∃ x, x = nq := ⟨_, rfl⟩
              go_upto_region 19 with fail
              go_big_quiet (fail)
              have HQn := hide (show ∃ q, wr.drewN (nx + nq) = w4.drewN q from by
                obtain ⟨q, e⟩ := HQa.out
                rw [e]
                exact quiet_q w4 q (nx + nq))
              go_wp2_with fail
              go_roundw
              case rel => exact ⟨a + 1, by omega, by go_num, by rw [HZs.out], HQn⟩
              case measure => simp [intOf]; omega
            · obtain rfl : m = a := by omega
              go_wp2_with fail
              go_roundw
              case rel => exact ⟨i + 1, by omega, by go_num, by rw [zT], HQa⟩
              case measure => simp [intOf]; omega
        · obtain rfl : n = i := by omega
          obtain ⟨z1, z2⟩ := HZt.out
          obtain ⟨Z, hZ⟩ : ∃ Z, zT (at2 t) n m n = Z := ⟨_, rfl⟩
          rw [hZ] at z1 z2 HFF ⊢
          clear hZ
          have HBo := hide (show Below w.heap.size w wo from by obtain ⟨q, e⟩ := HQ.out; rw [e]; exact Below.drewN' (unhide HB5) q)
          have HRo := hide (show wo.heap[w.heap.size]? = some (.cells #[.int .i64 0, .int .i64 0] 47 (0, 0)) from by obtain ⟨q, e⟩ := HQ.out; rw [e]; exact unhide HR5)
          go_wp2_with fail
          refine (RFrac_any Z D _ ⟨by omega, by omega⟩ ⟨by omega, by omega⟩ fn fd HFF).mono ?_
          rintro e W9 ⟨rfl, b9⟩
          have HB9 := hide ((unhide HBo).trans (b9.mono (unhide HBo).size))
          have HR9 := hide ((b9.block _ (Array.getElem?_eq_some_iff.1 (unhide HRo)).1).trans (unhide HRo))
          clear b9
          have f0 := free_at (unhide HR9) 0; have f1 := free_at (unhide HR9) 1
          obtain ⟨q0, q1⟩ := two_at (unhide HR9)
          have HPq := hide (put2 (unhide HR9) (.int .i64 fn) (.int .i64 fd))
          have HBq := hide (below_put2 (unhide HB9) (b := w.heap.size) (Nat.le_refl _) (.int .i64 fn) (.int .i64 fd))
          go_wp2_with fail
          obtain ⟨x0, x1⟩ := two_at (unhide HPq)
          exact bodyPost_ret (v := .tuple #[.agg #[.int .i64 fn, .int .i64 fd], .int .i64 0]) (by simp [results, Try.results41, go_sem, x0, x1]) rfl ⟨rfl, unhide HBq⟩
end Go.Proofs.Ytabgifpenegofaa
