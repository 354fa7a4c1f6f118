/-
  pinsFrom and Pins.
-/
import Derived.Test.YtmgoonoifgcmnaaF1
import Derived.Test.YtmgoonoifgcmnaaS4
import Derived.Test.YtmgoonoifgcmnaaW1
namespace Go.Proofs.Ytmgoonoifgcmnaa
open Go.RowKit

theorem pinsF_len (n : Nat) (hn : n ≤ 6) : ∀ (f : Nat) (xs : List Int), (pinsF n f xs).length ≤ 6 ^ f
  | 0, xs => by simp [pinsF]
  | f + 1, xs => by
    by_cases h : xs.length = n
    · rw [pinsF_end h]; simpa using Nat.one_le_pow _ _ (by omega)
    · rw [pinsF_on h]
      have key : ∀ k, (pinsT n f xs k).length ≤ k * 6 ^ f := by
        intro k
        induction k with
        | zero => simp [pinsT]
        | succ k ih =>
          rw [pinsT_succ, List.length_append, Nat.succ_mul]
          refine Nat.add_le_add ih ?_
          unfold pinsS
          split
          · simp
          · exact pinsF_len n hn f _
      refine Nat.le_trans (key n) ?_
      rw [Nat.pow_succ, Nat.mul_comm]
      exact Nat.mul_le_mul_left _ hn
theorem pinsT_len (n : Nat) (hn : n ≤ 6) (f : Nat) (xs : List Int) (k : Nat) : (pinsT n f xs k).length ≤ k * 6 ^ f := by
  induction k with
  | zero => simp [pinsT]
  | succ k ih =>
    rw [pinsT_succ, List.length_append, Nat.succ_mul]
    refine Nat.add_le_add ih ?_
    unfold pinsS
    split
    · simp
    · exact pinsF_len n hn f _
theorem smP_put {l k : Nat} {xs : List Int} (hl : xs.length = l) (h : SmP l xs) (hk : k ≤ 6) : SmP (l + 1) (xs ++ [(k : Int)]) := by
  intro j hj
  unfold nth List.getD
  rcases Nat.lt_or_ge j l with h1 | h1
  · rw [List.getElem?_append_left (by omega)]; exact h j h1
  · rw [List.getElem?_append_right (by omega), show j - xs.length = 0 by omega]
    simp; omega

set_option maxRecDepth 100000 in
set_option maxHeartbeats 4000000 in
theorem pinsFrom_any (n : Nat) (hn : 1 ≤ n ∧ n ≤ 6) : ∀ (f : Nat) (xs : List Int) (l : Nat) (A : Option Addr) (c : Nat) (base : Nat) (w : World), f ≤ 7 → n < f + l → l ≤ n → xs.length = l → Hid (SmP l xs) → Ints w w.heap.size A l c xs → base ≤ w.heap.size → (∀ b off, A = some ⟨b, off, none⟩ → base ≤ b) →
    Calls Try.prog 77 #[.int .i64 n, .slice A l c] w fun e w' => ∃ v, e = .returned v ∧ OwnF w' base v (pinsF n f xs) ∧ Below w.heap.size w w' := by
  intro f
  induction f with
  | zero => intro xs l A c base w _ h1 h2; omega
  | succ f IH =>
    intro xs l A c base w hf hnf hln hl HS h hbase hA
    have IHH := hide IH; clear IH
    have HL := hide hl
    have hm := h.most; have hcap := h.cap
    by_cases he : l = n
    · subst he
      obtain ⟨b0, off0, rfl, hb0, _⟩ := h.cells (by omega)
      have HE := hide (show pinsF l (f + 1) xs = [xs] from pinsF_end hl)
      have HF := hide (ownF_one hbase h (fun b off e => ⟨hA b off e, by cases e; exact hb0⟩))
      have HB2 := hide ((Below.refl w.heap.size w).alloc (Nat.le_refl _) (.cells #[.slice (some ⟨b0, off0, none⟩) l c] 22))
      clear hl h hA
      go_enter Try.func77, Try.ntmps77
      go_wp2_with fail
      go_ret
      exact ⟨_, rfl, by rw [HE.out]; exact unhide HF, unhide HB2⟩
    · have dl : ((l : Int) == (n : Int)) = false := by simp; omega
      have HE := hide (show pinsF n (f + 1) xs = pinsT n f xs n from pinsF_on (by rw [hl]; exact he))
      have H := hide h
      clear hl h hA
      go_enter Try.func77, Try.ntmps77
      go_wp2_with fail
      go_loopw [5, 6, 7, 15] (fun v _ _ i wr => ∃ k : Nat, k ≤ n ∧ i = .int .i64 (k : Nat) ∧ Hid (OwnF wr w.heap.size v (pinsT n f xs k)) ∧ Hid (Below w.heap.size w wr)) (fun _ _ _ i _ => n - (intOf i).toNat)
      case atStart => exact ⟨0, Nat.zero_le _, rfl, hide (by simpa [pinsT] using ownF_nil w w.heap.size), hide (Below.refl _ _)⟩
      case round =>
        obtain ⟨k, hk, rfl, HO, HB⟩ := hrel
        by_cases hlt : k < n
        · have HI := hide ((unhide H).on (unhide HB))
          go_wp2_with fail
          refine (clone_any _ _ _ _ _ _ (unhide HI) (by omega) (Nat.le_refl _)).mono ?_
          rintro e w2 ⟨v2, rfl, ho2, hb2⟩
          have HI2 := hide ((unhide HI).on hb2)
          have HO2 := hide ho2
          have HB2 := hide hb2
          have hpl : xs.length ≤ 100000 := by rw [HL.out]; omega
          have hbw : wr.heap.size ≤ w2.heap.size := hb2.size
          clear ho2 hb2
          have HB3a := hide ((unhide HB).trans ((unhide HB2).mono (unhide HB).size))
          by_cases hin : (k : Int) ∈ xs
          · have HK := hide (show pinsT n f xs (k + 1) = pinsT n f xs k from pinsT_skip (.inl hin))
            go_wp2_with (at_builtin; refine wpList_app1 rfl _ _ rfl rfl rfl (unhide HO2) hpl hbw ?_; intro v3 w3 ho3 hb3
                         obtain ⟨A3, c3, rfl, hi3⟩ := ho3.ints
                         rw [show (xs ++ [(k : Int)]).length = l + 1 by simp [HL.out]] at hi3 ⊢
                         have HB3 := hide ((unhide HB2).trans hb3)
                         have HI3 := hide ((unhide HI).on (unhide HB3))
                         have hm3 := hi3.most; have hcap3 := hi3.cap
                         clear ho3 hb3 hi3)
            refine (Contains_any _ _ _ _ _ _ _ (unhide HI3) true (hide (by simpa using hin))).mono ?_
            rintro e wq ⟨rfl, rfl⟩
            clear hin
            go_wp2_with fail
            go_roundw
            case rel => exact ⟨k + 1, by omega, by go_num, hide (by rw [HK.out]; exact (unhide HO).below (unhide HB3)), hide ((unhide HB).trans ((unhide HB3).mono (unhide HB).size))⟩
            case measure => simp [intOf]; omega
          · obtain ⟨ar, har⟩ : ∃ b, arB (xs ++ [(k : Int)]) = b := ⟨_, rfl⟩
            have HAR := hide har
            have HIN := hide (show decide ((k : Int) ∈ xs) = false by simpa using hin)
            have HSP := hide (smP_put HL.out HS.out (show k ≤ 6 by omega))
            have HLN := hide (show (xs ++ [(k : Int)]).length = l + 1 by simp [HL.out])
            go_wp2_with (at_builtin; refine wpList_app1 rfl _ _ rfl rfl rfl (unhide HO2) hpl hbw ?_; intro v3 w3 ho3 hb3
                         obtain ⟨A3, c3, rfl, hi3⟩ := ho3.ints
                         have hA3 := hide (ho3.elemF (g := none) (fun b e => by cases e) (Nat.le_refl _)).2
                         rw [HLN.out] at hi3 ⊢
                         have HB3 := hide ((unhide HB2).trans hb3)
                         have HI3 := hide ((unhide HI).on (unhide HB3))
                         have HJ3 := hide hi3
                         have hm3 := hi3.most; have hcap3 := hi3.cap
                         clear ho3 hb3 hi3)
            refine (Contains_any _ _ _ _ _ _ _ (unhide HI3) false HIN).mono ?_
            rintro e wq ⟨rfl, rfl⟩
            go_wp2_with fail
            refine (areArrows_any _ _ _ _ _ (unhide HJ3) (by omega) HSP ar HAR).mono ?_
            rintro e w4 ⟨rfl, hb4⟩
            have HB4 := hide ((unhide HB3).trans (hb4.mono (unhide HB3).size))
            have HJ4 := hide ((unhide HJ3).on hb4)
            clear hb4
            cases ar with
            | false =>
              have HK := hide (show pinsT n f xs (k + 1) = pinsT n f xs k from pinsT_skip (.inr har))
              clear har hin
              go_wp2_with fail
              go_roundw
              case rel => exact ⟨k + 1, by omega, by go_num, hide (by rw [HK.out]; exact (unhide HO).below (unhide HB4)), hide ((unhide HB).trans ((unhide HB4).mono (unhide HB).size))⟩
              case measure => simp [intOf]; omega
            | true =>
              have HK := hide (show pinsT n f xs (k + 1) = pinsT n f xs k ++ pinsF n f (xs ++ [(k : Int)]) from pinsT_go hin har)
              have HT1 := hide (pinsT_len n hn.2 f xs k)
              have HT2 := hide (pinsF_len n hn.2 f (xs ++ [(k : Int)]))
              clear har hin
              go_wp2_with fail
              refine (IHH.out _ (l + 1) _ _ wr.heap.size _ (by omega) (by omega) (by omega) HLN.out HSP (unhide HJ4) (unhide HB4).size hA3.out).mono ?_
              rintro e w5 ⟨v5, rfl, ho5, hb5⟩
              have HB5 := hide ((unhide HB4).trans (hb5.mono (unhide HB4).size))
              have HO5 := hide ho5
              have HOr := hide ((unhide HO).below (unhide HB5))
              have HLT := hide (fun b e => ((unhide HO).lt b e).2)
              have HBr := hide ((unhide HB).trans ((unhide HB5).mono (unhide HB).size))
              have hsum : (pinsT n f xs k).length + (pinsF n f (xs ++ [(k : Int)])).length ≤ 2000000000 := by
                have h1 := HT1.out; have h2 := HT2.out
                have h3 : (6 : Nat) ^ f ≤ 6 ^ 7 := Nat.pow_le_pow_right (by omega) (by omega)
                have h4 : k * 6 ^ f ≤ 6 * 6 ^ 7 := Nat.mul_le_mul (by omega) h3
                omega
              have hbase5 := (unhide HBr).size
              have hbb := (unhide HB).size
              clear ho5 hb5
              go_wp2_with (at_builtin; refine wpList_appFF rfl _ _ rfl rfl rfl (unhide HOr) (unhide HO5) HLT.out hbb hsum hbase5 ?_; intro v6 w6 ho6 hb6)
              go_roundw
              case rel => exact ⟨k + 1, by omega, by go_num, hide (by rw [HK.out]; exact ho6), hide ((unhide HBr).trans hb6)⟩
              case measure => simp [intOf]; omega
        · have e : n = k := by omega
          have HX := hide (show pinsF n (f + 1) xs = pinsT n f xs k from by rw [HE.out, e])
          clear e
          go_wp2_with fail
          go_ret
          exact ⟨_, rfl, by rw [HX.out]; exact (unhide HO).lower hbase, unhide HB⟩
set_option maxHeartbeats 1000000 in
theorem Pins_ok (n : Nat) (hn : 1 ≤ n ∧ n ≤ 6) (w : World) : Calls Try.prog 32 #[.int .i64 n] w fun e w' => ∃ v, e = .returned (.tuple #[v, .int .i64 0]) ∧ OwnF w' w.heap.size v (pinsL n) ∧ Below w.heap.size w w' := by
  go_enter Try.func32, Try.ntmps32
  go_wp2_with (go_at_call 75; refine (isPinCount_any _ _ true (hide (by unfold pcI; simp; omega))).mono ?_; rintro e w' ⟨rfl, rfl⟩)
  refine (pinsFrom_any n hn (n + 1) [] 0 none 0 w.heap.size w (by omega) (by omega) (by omega) rfl (hide (fun k hk => by omega)) (Ints.none_ _ _) (Nat.le_refl _) (fun b off e => by cases e)).mono ?_
  rintro e w1 ⟨v, rfl, ho, hb⟩
  have HO := hide ho; have HB := hide hb
  clear ho hb
  go_wp2_with fail
  go_ret2
  exact ⟨_, rfl, unhide HO, unhide HB⟩
theorem Pins_no (n : Int) (hn : pcI n = false) (w : World) : Calls Try.prog 32 #[.int .i64 n] w fun e w' => e = .returned (.tuple #[.slice none 0 0, .int .i64 2]) ∧ w = w' := by
  go_enter Try.func32, Try.ntmps32
  go_wp2_with (go_at_call 75; refine (isPinCount_any _ _ false (hide hn)).mono ?_; rintro e w' ⟨rfl, rfl⟩)
  go_ret2
  exact ⟨rfl, rfl⟩
end Go.Proofs.Ytmgoonoifgcmnaa
