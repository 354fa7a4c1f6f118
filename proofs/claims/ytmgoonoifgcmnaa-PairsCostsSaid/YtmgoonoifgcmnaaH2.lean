/-
  Pins of the reference; slices.EqualFunc of rows; equal.
-/
import Derived.Test.YtmgoonoifgcmnaaH1
import Derived.Test.YtmgoonoifgcmnaaO2
namespace Go.Proofs.Ytmgoonoifgcmnaa
open Go.RowKit

set_option maxRecDepth 1000000 in
theorem fil_1 : (ordL 1).filter pinB = pinsL 1 := by decide +kernel
set_option maxRecDepth 1000000 in
theorem fil_2 : (ordL 2).filter pinB = pinsL 2 := by decide +kernel
set_option maxRecDepth 1000000 in
theorem fil_3 : (ordL 3).filter pinB = pinsL 3 := by decide +kernel
set_option maxRecDepth 1000000 in
theorem fil_4 : (ordL 4).filter pinB = pinsL 4 := by decide +kernel
set_option maxRecDepth 1000000 in
theorem fil_5 : (ordL 5).filter pinB = pinsL 5 := by decide +kernel
set_option maxRecDepth 1000000 in
theorem fil_6 : (ordL 6).filter pinB = pinsL 6 := by decide +kernel
theorem fil_all {n : Nat} (hn : 1 ≤ n ∧ n ≤ 6) : (ordL n).filter pinB = pinsL n := by
  rcases (show n = 1 ∨ n = 2 ∨ n = 3 ∨ n = 4 ∨ n = 5 ∨ n = 6 by omega) with rfl | rfl | rfl | rfl | rfl | rfl
  · exact fil_1
  · exact fil_2
  · exact fil_3
  · exact fil_4
  · exact fil_5
  · exact fil_6
theorem ord_len {n : Nat} : ∀ (f : Nat) (xs ys : List Int), ys ∈ ordF n f xs → ys.length = n
  | 0, xs, ys, h => by simp [ordF] at h
  | f + 1, xs, ys, h => by
    by_cases he : xs.length = n
    · rw [ordF_end he] at h; simp at h; rw [h]; exact he
    · rw [ordF_on he] at h
      unfold ordT at h
      obtain ⟨p, _, hp⟩ := List.mem_flatMap.1 h
      unfold ordS at hp
      split at hp
      · cases hp
      · exact ord_len f _ _ hp
theorem fil_step {P : List Int → Bool} {xss : List (List Int)} {k : Nat} (hk : k < xss.length) : (xss.take (k + 1)).filter P = (xss.take k).filter P ++ (if P (row xss k) = true then [row xss k] else []) := by
  rw [show row xss k = xss[k] by simp [row, List.getD, hk], List.take_succ_eq_append_getElem hk, List.filter_append]
  congr 1
  by_cases h : P xss[k] = true <;> simp [h]

set_option maxRecDepth 100000 in
set_option maxHeartbeats 2000000 in
theorem RPins_any (n : Nat) (hn : 1 ≤ n ∧ n ≤ 6) (w : World) : Calls Try.prog 35 #[.int .i64 n] w fun e w' => ∃ A' n' c', e = .returned (.slice A' n' c') ∧ Rows_ w' w'.heap.size A' n' c' (pinsL n) ∧ Below w.heap.size w w' := by
  have HLL := hide (show (ordL n).length ≤ 1000000 from by
    have h1 := ordF_len n hn.2 (n + 1) []
    have h3 : (6 : Nat) ^ (n + 1) ≤ 6 ^ 7 := Nat.pow_le_pow_right (by omega) (by omega)
    unfold ordL; omega)
  obtain ⟨R, hR⟩ : ∃ R, pinsL n = R := ⟨_, rfl⟩
  have HR0 := hide ((fil_all hn).trans hR)
  rw [hR]
  clear hR
  go_enter Try.func35, Try.ntmps35
  go_wp2_with fail
  refine (orders_any n hn (n + 1) [] 0 none 0 w.heap.size w (by omega) (by omega) (by omega) rfl (Ints.none_ _ _) (Nat.le_refl _) (fun b off e => by cases e) (.inl ⟨rfl, rfl, rfl⟩)).mono ?_
  rintro e w1 ⟨v, rfl, ho, hb⟩
  rw [show ordF n (n + 1) [] = ordL n from rfl] at ho
  have HOL := hide (fun ys (h : ys ∈ ordL n) => (ord_len (n + 1) [] ys h : ys.length = n))
  obtain ⟨O, hO⟩ : ∃ O, ordL n = O := ⟨_, rfl⟩
  rw [hO] at ho HR0 HLL HOL
  clear hO
  obtain ⟨A, L, c, rfl, hr⟩ := ho.to
  have hm := hr.most; have hcap := hr.cap
  have HL := hide hr.len
  have HR := hide hr
  have HB1 := hide hb
  clear ho hr hb
  go_wp2_with fail
  go_loopw [3, 5, 9] (fun v _ i wr => ∃ k : Nat, k ≤ L ∧ i = .int .i64 (k : Nat) ∧ Hid (OwnedR wr w1.heap.size v ((O.take k).filter pinB)) ∧ Hid (Below w1.heap.size w1 wr)) (fun _ _ i _ => L - (intOf i).toNat)
  case atStart => exact ⟨0, Nat.zero_le _, rfl, hide (by simpa using ownedR_nil w1 w1.heap.size), hide (Below.refl _ _)⟩
  case round =>
    obtain ⟨k, hk, rfl, HO, HB⟩ := hrel
    by_cases hlt : k < L
    · obtain ⟨b0, off0, A2, n2, c2, rfl, hbb, hc, hi⟩ := ((unhide HR).below (unhide HB)).at_ k hlt
      have HKL := hide (show k < O.length from by rw [HL.out]; exact hlt)
      have hlen2 := HOL.out _ (row_mem (xss := O) HKL.out)
      rw [hi.len] at hlen2
      subst hlen2
      have HI := hide (hi.more (unhide HB).size)
      have HNE := hide (fun b off (e : A2 = some ⟨b, off, none⟩) => (show b < w1.heap.size from by subst e; exact hi.block_lt (by omega)))
      obtain ⟨r, hrow⟩ : ∃ r, row O k = r := ⟨_, rfl⟩
      obtain ⟨p, hp⟩ : ∃ p, pinB r = p := ⟨_, rfl⟩
      have HP := hide hp
      have HS := hide (fil_step (P := pinB) HKL.out)
      rw [hrow, hp] at HS
      rw [hrow] at hi HI
      obtain ⟨F, hF⟩ : ∃ F, (O.take k).filter pinB = F := ⟨_, rfl⟩
      have hfl : ((O.take k).filter pinB).length ≤ 1000000 := Nat.le_trans (List.length_filter_le _ _) (Nat.le_trans (by simp; omega) HLL.out)
      rw [hF] at HS hfl HO
      clear hi hp hrow hF
      go_wp2_with fail
      refine (RIsPins_any _ _ _ _ _ (unhide HI) hn p HP).mono ?_
      rintro e w3 ⟨rfl, hb3⟩
      have HB3 := hide ((unhide HB).trans (hb3.mono (unhide HB).size))
      have HO3 := hide ((unhide HO).below hb3)
      have HI3 := hide ((unhide HI).on hb3)
      have hbase := (unhide HB3).size
      clear hb3
      cases p with
      | false =>
        rw [if_neg (by simp), List.append_nil] at HS
        go_wp2_with fail
        go_roundw
        case rel => exact ⟨k + 1, by omega, by go_num, hide (by rw [HS.out]; exact unhide HO3), HB3⟩
        case measure => simp [intOf]; omega
      | true =>
        rw [if_pos rfl] at HS
        have HN3 := hide (fun b off (e : A2 = some ⟨b, off, none⟩) => (show some b ≠ u3.ownBlock ∧ b < w3.heap.size from ⟨fun e2 => by have := HNE.out b off e; have := ((unhide HO).lt b e2.symm).1; omega, by have := HNE.out b off e; omega⟩))
        go_wp2_with (at_builtin; refine wpList_appR (v := u3) rfl _ _ rfl rfl rfl (unhide HO3) (unhide HI3) HN3.out hfl hbase ?_; intro v6 w6 ho6 hb6)
        go_roundw
        case rel => exact ⟨k + 1, by omega, by go_num, hide (by rw [HS.out]; exact ho6), hide ((unhide HB3).trans hb6)⟩
        case measure => simp [intOf]; omega
    · have ho := unhide HO
      rw [show O.take k = O from List.take_of_length_le (by rw [HL.out]; omega), HR0.out] at ho
      obtain ⟨A2, n2, c2, rfl, hr2⟩ := ho.to
      have HR2 := hide hr2
      clear ho hr2
      go_wp2_with fail
      go_ret
      exact ⟨A2, n2, c2, rfl, unhide HR2, (unhide HB1).trans ((unhide HB).mono (unhide HB1).size)⟩

def EqToR (xss yss : List (List Int)) (k : Nat) : Prop := ∀ j, j < k → row xss j = row yss j
theorem eqR_of_to {xss yss : List (List Int)} (hl : xss.length = yss.length) (h : EqToR xss yss xss.length) : xss = yss := by
  apply List.ext_getElem hl
  intro i h1 h2
  have := h i h1
  simpa [row, List.getD, h1, h2] using this

set_option maxHeartbeats 800000 in
theorem equalFuncR_any (A A' : Option Addr) (n c n' c' : Nat) (xss yss : List (List Int)) (w : World) (B B' : Nat) (h : Rows_ w B A n c xss) (h' : Rows_ w B' A' n' c' yss) :
    Calls Try.prog 78 #[.slice A n c, .slice A' n' c', .func (Fn.func 24) #[] #[]] w fun e w' => e = .returned (.bool (decide (xss = yss))) ∧ ∃ q, w' = w.drewN q := by
  have hm := h.most; have hcap := h.cap; have hm' := h'.most; have hcap' := h'.cap
  have hl := hide h.len; have hl' := hide h'.len
  by_cases hn : n = n'
  · subst hn
    go_enter Try.func78, Try.ntmps78
    go_wp2_with fail
    go_loopw [7, 8, 9, 17] (fun _ _ _ i wr => ∃ k : Nat, k ≤ n ∧ i = .int .i64 k ∧ EqToR xss yss k ∧ ∃ q, wr = w.drewN q) (fun _ _ _ i _ => n - (intOf i).toNat)
    case atStart => exact ⟨0, Nat.zero_le _, rfl, (by intro j h1; omega), 0, rfl⟩
    case round =>
      obtain ⟨k, hk, rfl, hall, q, rfl⟩ := hrel
      have HA : Hid _ := hall
      clear hall
      by_cases hlt : k < n
      · obtain ⟨b, off, A1, n1, c1, rfl, hb, hc, hi⟩ := h.at_ k hlt
        obtain ⟨b', off', A2, n2, c2, rfl, hb', hc', hi'⟩ := h'.at_ k hlt
        have j1 := hi.drewN q
        have j2 := hi'.drewN q
        have hE := equal_any _ _ _ _ _ _ _ _ _ _ _ j1 j2
        by_cases he : row xss k = row yss k
        · have hd : decide (row xss k = row yss k) = true := by simp [he]
          rw [hd] at hE
          have HE := hide he; clear he hd
          have HC := hide hE; clear hE
          go_wp2_with fail
          refine (unhide HC).mono ?_
          rintro e w2 ⟨rfl, q2, rfl⟩
          go_wp2_with fail
          go_roundw
          case rel => exact ⟨k + 1, by omega, by go_num, (by
            intro j hj
            rcases Nat.lt_or_ge j k with h1 | h1
            · exact (unhide HA) j h1
            · obtain rfl : j = k := by omega
              exact HE.out), (by first | exact ⟨_, rfl⟩ | exact quiet_q _ _ _)⟩
          case measure => simp [intOf]; omega
        · have hd : decide (row xss k = row yss k) = false := by simp [he]
          rw [hd] at hE
          have HE := hide he; clear he hd
          have HC := hide hE; clear hE
          go_wp2_with fail
          refine (unhide HC).mono ?_
          rintro e w2 ⟨rfl, q2, rfl⟩
          go_wp2_with fail
          go_ret
          exact ⟨ret_bool (by
            symm; rw [decide_eq_false_iff_not]; intro e; exact HE.out (by rw [e])), (by first | exact ⟨_, rfl⟩ | exact quiet_q _ _ _)⟩
      · go_wp2_with fail
        go_ret
        obtain rfl : n = k := by omega
        exact ⟨ret_bool (by
          symm; rw [decide_eq_true_eq]; exact eqR_of_to (by rw [hl.out, hl'.out]) (by rw [hl.out]; exact unhide HA)), (by first | exact ⟨_, rfl⟩ | exact quiet_q _ _ _)⟩
  · have hn' : ((n : Int) != (n' : Int)) = true := by simp; omega
    go_enter Try.func78, Try.ntmps78
    go_wp2_with fail
    go_ret
    exact ⟨ret_bool (by
      symm; rw [decide_eq_false_iff_not]; intro e
      have e1 := hl.out; have e2 := hl'.out
      rw [e] at e1; omega), 0, rfl⟩

theorem equalR_any (A A' : Option Addr) (n c n' c' : Nat) (xss yss : List (List Int)) (w : World) (B B' : Nat) (h : Rows_ w B A n c xss) (h' : Rows_ w B' A' n' c' yss) :
    Calls Try.prog 34 #[.slice A n c, .slice A' n' c'] w fun e w' => e = .returned (.bool (decide (xss = yss))) ∧ ∃ q, w' = w.drewN q := by
  go_enter Try.func34, Try.ntmps34
  go_wp2_with fail
  refine (equalFuncR_any _ _ _ _ _ _ _ _ _ _ _ h h').mono ?_
  rintro e w' ⟨rfl, q, rfl⟩
  go_wp2_with fail
  go_ret
  exact ⟨rfl, q, rfl⟩
theorem equalR_is (A A' : Option Addr) (n c n' c' : Nat) (xss yss : List (List Int)) (w : World) (B B' : Nat) (h : Rows_ w B A n c xss) (h' : Rows_ w B' A' n' c' yss) (hb : Hid (xss = yss)) :
    Calls Try.prog 34 #[.slice A n c, .slice A' n' c'] w fun e w' => e = .returned (.bool true) ∧ ∃ q, w' = w.drewN q :=
  (equalR_any A A' n c n' c' xss yss w B B' h h').mono fun _ _ ⟨he, hw⟩ => ⟨by rw [he]; exact ret_bool (by rw [decide_eq_true_eq]; exact hb.out), hw⟩
end Go.Proofs.Ytmgoonoifgcmnaa
