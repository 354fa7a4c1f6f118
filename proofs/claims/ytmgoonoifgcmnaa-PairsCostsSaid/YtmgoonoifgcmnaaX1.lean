/-
  fill: it yields all rows that a row can become.
-/
import Derived.Test.YtmgoonoifgcmnaaX0
namespace Go.Proofs.Ytmgoonoifgcmnaa
open Go.RowKit Go.Shelf

attribute [local go_sem] Oper.semAt_some

/-- Block g holds just the numbers xs. -/
def RowAt (W : World) (g : Nat) (xs : List Int) : Prop := Blk W g 3 (xs.map (Value.int .i64)).toArray
theorem RowAt.cell {W : World} {g : Nat} {xs : List Int} (h : RowAt W g xs) {k : Nat} (hk : k < xs.length) : W.cell? ⟨g, k, none⟩ = some (.int .i64 (nth xs k)) := by
  rw [Blk.cell h k]; simp [nth, List.getD, hk]
theorem RowAt.ints {W : World} {g : Nat} {xs : List Int} (h : RowAt W g xs) {n : Nat} (hn : xs.length = n) (hb : n ≤ 1000000) : Ints W W.heap.size (some ⟨g, 0, none⟩) n n xs :=
  ⟨hn, Nat.le_refl _, by omega, (fun e => by cases e), fun k hk => ⟨g, 0, rfl, Blk.lt h, by rw [Nat.zero_add]; exact h.cell (by omega)⟩⟩
theorem RowAt.set {W : World} {g : Nat} {xs : List Int} (h : RowAt W g xs) (k : Nat) (z : Int) : RowAt (W.setCell ⟨g, k, none⟩ (.int .i64 z)) g (xs.set k z) := by
  have := Blk.set_ h k (.int .i64 z)
  unfold RowAt
  rw [List.map_set]
  simpa using this
theorem put_back {xs : List Int} {p q : Nat} {z : Int} (hp : nth xs p = 0) (hq : nth xs q = 0) (h1 : p < xs.length) (h2 : q < xs.length) : ((putR xs p q z).set p 0).set q 0 = xs := by
  apply List.ext_getElem?
  intro i
  have e1 : xs[p]? = some 0 := by rw [List.getElem?_eq_getElem h1]; simpa [nth, List.getD, h1] using hp
  have e2 : xs[q]? = some 0 := by rw [List.getElem?_eq_getElem h2]; simpa [nth, List.getD, h2] using hq
  unfold putR
  simp only [List.getElem?_set, List.length_set]
  by_cases c1 : q = i
  · subst c1; rw [if_pos rfl, if_pos (by omega)]; exact e2.symm
  · by_cases c2 : p = i
    · subst c2; simp only [c1, if_false, if_true]; rw [if_pos (by omega)]; exact e1.symm
    · simp [c1, c2]

theorem fillT_pre (f s : Nat) (xs : List Int) (p : Nat) {j k : Nat} (h : j ≤ k) : fillT f s xs p j <+: fillT f s xs p k := by
  obtain ⟨d, rfl⟩ : ∃ d, k = j + d := ⟨k - j, by omega⟩
  clear h
  induction d with
  | zero => exact List.prefix_refl _
  | succ d ih => rw [← Nat.add_assoc, fillT_succ]; exact ih.trans (List.prefix_append _ _)

set_option maxRecDepth 100000 in
set_option maxHeartbeats 4000000 in
theorem fill_any (l g s n D : Nat) (all : List (List Int)) (hs : 1 ≤ s ∧ s ≤ 2) (hn : n ≤ 16) (hg : D ≤ g) (J : List (List Int) → World → Prop) (Jx : World → Prop)
    (HJ : Hid (∀ pre A B, J pre A → D ≤ A.heap.size → Below D A B → J pre B))
    (HY : Hid (∀ pre x W1 A n c, pre ++ [x] <+: all → J pre W1 → D ≤ W1.heap.size → Ints W1 W1.heap.size A n c x →
      YieldAt Fence.wide 0 Try.prog l #[.slice A n c] W1 fun e W' => (e = .returned (.bool true) ∧ J (pre ++ [x]) W' ∧ Upper D W1 W') ∨ (e = .returned (.bool false) ∧ Jx W'))) :
    ∀ (f : Nat) (xs : List Int) (pre : List (List Int)) (W : World), zer xs < 2 * f → xs.length = n → RowAt W g xs → J pre W → Hid (pre ++ fillL f s xs <+: all) →
      CallsIn Fence.wide 0 Try.prog 100 #[.int .i64 s, .slice (some ⟨g, 0, none⟩) n n, .func (.yield l) #[] #[]] W fun e W' =>
        (e = .returned (.bool true) ∧ J (pre ++ fillL f s xs) W' ∧ RowAt W' g xs) ∨ (e = .returned (.bool false) ∧ Jx W') := by
  intro f
  induction f with
  | zero => intro xs pre W h; omega
  | succ f IH =>
    intro xs pre W hz hl hr hj HPR
    have IHH := hide IH; clear IH
    have HL := hide hl; have HR := hide hr; have HJ0 := hide hj; have HZ := hide hz
    have HI := hide (hr.ints hl (by omega))
    have hsz := Nat.le_trans hg (Nat.le_of_lt (Blk.lt hr))
    clear hl hr hj hz
    refine callsIn_of_wp Try.func100 rfl trivial ?_ rfl
    simp only [Try.ntmps100, List.size_toArray, List.length_cons, List.length_nil, Nat.reduceAdd, Nat.reduceSub, Array.replicate_succ, Array.replicate_zero, List.push_toArray, List.append_toArray, List.nil_append, List.cons_append]
    gi_wp2_with fail
    refine ⟨trivial, rfl, (callsIn_wide.2 (Index_any _ _ _ xs 0 _ _ (unhide HI))).mono ?_⟩
    rintro e w' ⟨rfl, rfl⟩
    rcases ix_cases xs 0 with ⟨e0, _⟩ | ⟨p, e0, hp, hp0, _⟩
    · have HE := hide (show fillL (f + 1) s xs = [xs] from fillL_end (by omega))
      rw [e0]
      clear e0
      obtain ⟨fn, tmps, assign, body, hy, hR⟩ := (unhide HY) pre xs W _ _ _ (by rw [← HE.out]; exact HPR.out) (unhide HJ0) hsz (unhide HI)
      have HRR := hide hR
      clear hR
      gi_wp2_with fail
      refine ⟨rfl, (unhide HRR).mono ?_⟩
      rintro e W3 (⟨rfl, hJ3, hu3⟩ | ⟨rfl, hJx3⟩)
      · have HJ3 := hide hJ3; have HU3 := hide hu3
        clear hJ3 hu3
        gi_wp2_with fail
        go_ret
        exact .inl ⟨rfl, by rw [HE.out]; exact unhide HJ3, (HU3.out.at_ g hg (Blk.lt (unhide HR))).trans (unhide HR)⟩
      · have HJ3 := hide hJx3
        clear hJx3
        gi_wp2_with fail
        go_ret
        exact .inr ⟨rfl, unhide HJ3⟩
    · have HE := hide (show fillL (f + 1) s xs = fillT f s xs p (xs.length / 2) from fillL_on e0)
      rw [e0]
      clear e0
      have HP := hide hp; have HP0 := hide hp0
      have hpn : p < n := by have := HL.out; omega
      clear hp hp0
      obtain ⟨m, hm⟩ : ∃ m, n / 2 = m := ⟨_, rfl⟩
      have hmm : ((n : Int)).tdiv 2 = (m : Int) := by rw [Int.tdiv_eq_ediv_of_nonneg (by omega)]; omega
      have hm8 : m ≤ 8 := by omega
      have HM := hide hm
      clear hm
      gi_wp2_with fail
      gi_loopw [8] (fun i wr => ∃ k : Nat, k ≤ m ∧ i = .int .i64 ((k : Int) + 1) ∧ Hid (J (pre ++ fillT f s xs p k) wr) ∧ Hid (RowAt wr g xs)) (fun i _ => (m + 1 - intOf i).toNat)
      case atStart => exact ⟨0, by omega, rfl, hide (by simpa [fillT] using unhide HJ0), HR⟩
      case round =>
        obtain ⟨k, hk, rfl, HJ1, HR1⟩ := hrel
        by_cases hlt : k < m
        · obtain ⟨q, hq⟩ : ∃ q, p + (k + 1) + s - 1 = q := ⟨_, rfl⟩
          have hq' : (p : Int) + ((k : Int) + 1) + (s : Int) - 1 = (q : Int) := by omega
          have HQ := hide hq
          have hpq : p < q := by omega
          clear hq
          have HI1 := hide ((unhide HR1).ints HL.out (by omega))
          by_cases hqn : q < n
          · have d1 : decide ((n : Int) ≤ (q : Int)) = false := by simp; omega
            have hcq := (unhide HR1).cell (k := q) (by rw [HL.out]; exact hqn)
            by_cases hz0 : nth xs q = 0
            · rw [hz0] at hcq
              have HZ0 := hide hz0; clear hz0
              have d2 : ((0 : Int) != 0) = false := rfl
              by_cases hin : ((k : Int) + 1) ∈ xs
              · have HS := hide (show fillT f s xs p (k + 1) = fillT f s xs p k from fillT_skip (.inr (.inr hin)))
                have HB := hide (show decide (((k : Int) + 1) ∈ xs) = true by simpa using hin)
                clear hin
                gi_wp2_with fail
                refine ⟨trivial, rfl, (callsIn_wide.2 (Contains_any _ _ _ xs _ _ _ (unhide HI1) true HB)).mono ?_⟩
                rintro e w' ⟨rfl, rfl⟩
                gi_wp2_with fail
                go_roundw
                case rel => exact ⟨k + 1, by omega, by go_num, hide (by rw [HS.out]; exact unhide HJ1), HR1⟩
                case measure => simp [intOf]; omega
              · have HS := hide (show fillT f s xs p (k + 1) = fillT f s xs p k ++ fillL f s (putR xs p q ((k : Int) + 1)) from by
                  have := fillT_go (f := f) (s := s) (xs := xs) (p := p) (k := k) (by rw [HL.out, HQ.out]; simp [HZ0.out, hin]; omega)
                  rw [HQ.out] at this; exact this)
                have HB := hide (show decide (((k : Int) + 1) ∈ xs) = false by simpa using hin)
                clear hin
                have hcp := (unhide HR1).cell (k := p) (by rw [HL.out]; exact hpn)
                rw [HP0.out] at hcp
                have hfp : wr.frozen? ⟨g, p, none⟩ = false := Blk.frozen (unhide HR1) p
                have hfq : wr.frozen? ⟨g, q, none⟩ = false := Blk.frozen (unhide HR1) q
                have hne : p ≠ q := by omega
                have HR2 := hide (show RowAt ((wr.setCell ⟨g, p, none⟩ (.int .i64 ((k : Int) + 1))).setCell ⟨g, q, none⟩ (.int .i64 ((k : Int) + 1))) g (putR xs p q ((k : Int) + 1)) from ((unhide HR1).set p _).set q _)
                have hDr := Nat.le_trans hg (Nat.le_of_lt (Blk.lt (unhide HR1)))
                have HJ2 := hide ((unhide HJ) _ _ ((wr.setCell ⟨g, p, none⟩ (.int .i64 ((k : Int) + 1))).setCell ⟨g, q, none⟩ (.int .i64 ((k : Int) + 1))) (unhide HJ1) hDr (((Below.refl D wr).setCell (p := ⟨g, p, none⟩) hg _).setCell (p := ⟨g, q, none⟩) hg _))
                have HZ2 := hide (show zer (putR xs p q ((k : Int) + 1)) < 2 * f from by
                  have := zer_put (xs := xs) (i := p) (j := q) (z := (k : Int) + 1) HP.out (by rw [HL.out]; exact hqn) hne HP0.out HZ0.out (by omega)
                  have := HZ.out; omega)
                have HL2 := hide (show (putR xs p q ((k : Int) + 1)).length = n from by rw [putR_len]; exact HL.out)
                have HK := hide (show ((putR xs p q ((k : Int) + 1)).set p 0).set q 0 = xs from put_back HP0.out HZ0.out HP.out (by rw [HL.out]; exact hqn))
                have HP2 := hide (show (pre ++ fillT f s xs p k) ++ fillL f s (putR xs p q ((k : Int) + 1)) <+: all from by
                  rw [List.append_assoc, ← HS.out]
                  refine List.IsPrefix.trans ?_ (HE.out ▸ HPR.out)
                  rw [HL.out, HM.out]
                  exact (List.prefix_append_right_inj _).2 (fillT_pre f s xs p (by omega)))
                have HI3 := hide ((unhide IHH) (putR xs p q ((k : Int) + 1)) (pre ++ fillT f s xs p k) _ HZ2.out HL2.out (unhide HR2) (unhide HJ2) HP2)
                clear hDr
                gi_wp2_with fail
                refine ⟨trivial, rfl, (callsIn_wide.2 (Contains_any _ _ _ xs _ _ _ (unhide HI1) false HB)).mono ?_⟩
                rintro e w' ⟨rfl, rfl⟩
                gi_wp2_with fail
                refine ⟨trivial, rfl, (unhide HI3).mono ?_⟩
                rintro e w3 (⟨rfl, hj3, hr3⟩ | ⟨rfl, hx3⟩)
                · have HJ3 := hide hj3; have HR3 := hide hr3
                  clear hj3 hr3
                  have hcp3 := (unhide HR3).cell (k := p) (by rw [putR_len, HL.out]; exact hpn)
                  have hcq3 := (unhide HR3).cell (k := q) (by rw [putR_len, HL.out]; exact hqn)
                  have hfp3 : w3.frozen? ⟨g, p, none⟩ = false := Blk.frozen (unhide HR3) p
                  have hfq3 : w3.frozen? ⟨g, q, none⟩ = false := Blk.frozen (unhide HR3) q
                  have HR4 := hide (show RowAt ((w3.setCell ⟨g, p, none⟩ (.int .i64 0)).setCell ⟨g, q, none⟩ (.int .i64 0)) g xs from by
                    have := ((unhide HR3).set p 0).set q 0; rw [HK.out] at this; exact this)
                  have HJ4 := hide ((unhide HJ) _ _ ((w3.setCell ⟨g, p, none⟩ (.int .i64 0)).setCell ⟨g, q, none⟩ (.int .i64 0)) (unhide HJ3) (Nat.le_trans hg (Nat.le_of_lt (Blk.lt (unhide HR3)))) (((Below.refl D w3).setCell (p := ⟨g, p, none⟩) hg _).setCell (p := ⟨g, q, none⟩) hg _))
                  gi_wp2_with fail
                  go_roundw
                  case rel => exact ⟨k + 1, by omega, by go_num, hide (by rw [HS.out, ← List.append_assoc]; exact unhide HJ4), HR4⟩
                  case measure => simp [intOf]; omega
                · have HX3 := hide hx3
                  clear hx3
                  gi_wp2_with fail
                  go_ret
                  exact .inr ⟨rfl, unhide HX3⟩
            · have d2 : (nth xs q != 0) = true := by simpa using hz0
              have HS := hide (show fillT f s xs p (k + 1) = fillT f s xs p k from fillT_skip (.inr (.inl (by rw [HQ.out]; exact hz0))))
              clear hz0
              gi_wp2_with (refine ⟨trivial, ?_⟩)
              go_roundw
              case rel => exact ⟨k + 1, by omega, by go_num, hide (by rw [HS.out]; exact unhide HJ1), HR1⟩
              case measure => simp [intOf]; omega
          · have d1 : decide ((n : Int) ≤ (q : Int)) = true := by simp; omega
            have HS := hide (show fillT f s xs p (k + 1) = fillT f s xs p k from fillT_skip (.inl (by rw [HL.out, HQ.out]; omega)))
            gi_wp2_with (refine ⟨trivial, ?_⟩)
            go_roundw
            case rel => exact ⟨k + 1, by omega, by go_num, hide (by rw [HS.out]; exact unhide HJ1), HR1⟩
            case measure => simp [intOf]; omega
        · have e : m = k := by omega
          have HX := hide (show fillL (f + 1) s xs = fillT f s xs p k from by rw [HE.out, HL.out, HM.out, e])
          clear e
          gi_wp2_with fail
          go_ret
          exact .inl ⟨rfl, by rw [HX.out]; exact unhide HJ1, unhide HR1⟩
end Go.Proofs.Ytmgoonoifgcmnaa
