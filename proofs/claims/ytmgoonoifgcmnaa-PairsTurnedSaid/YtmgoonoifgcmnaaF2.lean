/-
  The rows of the reference.
-/
import Derived.Test.YtmgoonoifgcmnaaF1
import Derived.Test.YtmgoonoifgcmnaaD1
import Derived.Test.YtmgoonoifgcmnaaN1
namespace Go.Proofs.Ytmgoonoifgcmnaa
open Go.RowKit

/-- The numbers that a row has, as a set. -/
def RelU (n : Nat) (xs : List Int) (used : Nat) : Prop := ∀ j : Nat, j < n → used.testBit (j + 1) = decide (((j : Int) + 1) ∈ xs)
theorem relU_put {n p q k used : Nat} {xs : List Int} (h : RelU n xs used) (hp : p < xs.length) (hq : q < xs.length) (hp0 : nth xs p = 0) (hq0 : nth xs q = 0) (hk : k < n) : RelU n (putR xs p q ((k : Int) + 1)) (used ||| 2 ^ (k + 1)) := by
  intro i hi
  rw [Nat.testBit_or, Nat.testBit_two_pow, h i hi]
  have key : ((i : Int) + 1) ∈ putR xs p q ((k : Int) + 1) ↔ ((i : Int) + 1) ∈ xs ∨ k = i := by
    rw [mem_nth, mem_nth]
    constructor
    · rintro ⟨a, ha, he⟩
      rw [putR_len] at ha
      rw [nth_put hp hq] at he
      split at he
      · right; omega
      · exact .inl ⟨a, ha, he⟩
    · rintro (⟨a, ha, he⟩ | rfl)
      · refine ⟨a, by rw [putR_len]; exact ha, ?_⟩
        rw [nth_put hp hq, if_neg]
        · exact he
        · rintro (rfl | rfl) <;> omega
      · exact ⟨q, by rw [putR_len]; exact hq, by rw [nth_put hp hq, if_pos (.inl rfl)]⟩
  rw [Bool.eq_iff_iff]
  simp only [Bool.or_eq_true, decide_eq_true_eq]
  rw [key]
  constructor
  · rintro (h1 | h1)
    · exact .inl h1
    · right; omega
  · rintro (h1 | h1)
    · exact .inl h1
    · right; omega
theorem relU_zero (n : Nat) : RelU n (List.replicate (2 * n) 0) 0 := fun j hj => by simp; omega
theorem owned_none {w : World} {base : Nat} {v : Value} {xs : List Int} (h : Owned w base v xs) {n : Nat} (hn : xs.length = n) (h1 : 0 < n) : ∃ g c, v = .slice (some ⟨g, 0, none⟩) n c ∧ base ≤ g ∧ g < w.heap.size := by
  subst hn
  rcases h.2 with ⟨_, h0⟩ | ⟨g, cap, cur, rfl, hg, hh, _⟩
  · omega
  · exact ⟨g, cap, rfl, hg, (Array.getElem?_eq_some_iff.1 hh).1⟩

set_option maxRecDepth 100000 in
set_option maxHeartbeats 4000000 in
theorem Rrows_any (n s N : Nat) (hn : 1 ≤ n ∧ n ≤ 8) (hs : 1 ≤ s ∧ s ≤ 2) (hN : 2 * n = N) : ∀ (f : Nat) (xs : List Int) (used : Nat) (A : Option Addr) (c : Nat) (w : World), f ≤ 9 → zer xs < 2 * f → xs.length = N → Hid (RelU n xs used) → used < 2097152 → Ints w w.heap.size A N c xs →
    Calls Try.prog 74 #[.int .i64 n, .int .i64 s, .slice A N c, .int .i64 used] w fun e w' => ∃ v, e = .returned v ∧ OwnF w' w.heap.size v (fillL f s xs) ∧ Below w.heap.size w w' := by
  have hN2 : (2 : Int) * (n : Int) = (N : Int) := by omega
  have HNN := hide hN
  have hN16 : N ≤ 16 := by omega
  clear hN
  intro f
  induction f with
  | zero => intro xs used A c w _ h; omega
  | succ f IH =>
    intro xs used A c w hf9 hz hl HU hub h
    have IHH := hide IH; clear IH
    have HL := hide hl; have HZ := hide hz
    have H := hide h
    have hm := h.most; have hcap := h.cap
    obtain ⟨b0, off0, rfl, hb0, _⟩ := h.cells (by omega)
    clear hl hz h
    go_enter Try.func74, Try.ntmps74
    go_wp2_with fail
    go_loop [9] (fun i => ∃ k : Nat, k ≤ N ∧ i = .int .i64 (k : Nat) ∧ Hid (∀ j, j < k → nth xs j ≠ 0)) (fun i => N - (intOf i).toNat)
    case atStart => exact ⟨0, Nat.zero_le _, rfl, hide (fun j hj => absurd hj (by omega))⟩
    case round =>
      obtain ⟨p, hp, rfl, HA⟩ := hrel
      by_cases hlt : p < N
      · obtain ⟨_, _, e, _, hc⟩ := (unhide H).at_ p hlt
        cases e
        by_cases hz0 : nth xs p = 0
        · have d0 : (nth xs p != 0) = false := by simpa using hz0
          have dn : ((p : Int) == (N : Int)) = false := by simp; omega
          have HE := hide (show fillL (f + 1) s xs = fillT f s xs p n from by
            rw [fillL_on (ixI_at HA.out (by rw [HL.out]; exact hlt) hz0), HL.out, show N / 2 = n by have := HNN.out; omega])
          have HP0 := hide hz0
          rw [hz0] at hc d0
          clear hz0
          go_wp2_with fail
          go_loopw [10, 11, 12, 13] (fun v i _ _ wr => ∃ k : Nat, k ≤ n ∧ i = .int .i64 ((k : Int) + 1) ∧ Hid (OwnF wr w.heap.size v (fillT f s xs p k)) ∧ Hid (Below w.heap.size w wr)) (fun _ i _ _ _ => (n + 1 - intOf i).toNat)
          case atStart => exact ⟨0, Nat.zero_le _, rfl, hide (ownF_nil _ _), hide (Below.refl _ _)⟩
          case round =>
            obtain ⟨k, hk, rfl, HO, HB⟩ := hrel
            by_cases hlt2 : k < n
            · obtain ⟨q, hq⟩ : ∃ q, p + (k + 1) + s - 1 = q := ⟨_, rfl⟩
              have hq' : (p : Int) + ((k : Int) + 1) + (s : Int) - 1 = (q : Int) := by omega
              have HQ := hide hq
              have hpq : p < q := by omega
              obtain ⟨e1, r1, q1, f1, f2, f3, f4, f5, f6, f7, f8, f9⟩ := bit_step used (k + 1) hub (by omega)
              have hr1 := hide (f3.out.trans (by rw [HU.out k hlt2]))
              have hk2 : ((k : Int) + 1).toNat = k + 1 := by omega
              rw [f4] at f1
              clear hq f3
              by_cases hin : ((k : Int) + 1) ∈ xs
              · have HS := hide (show fillT f s xs p (k + 1) = fillT f s xs p k from fillT_skip (.inr (.inr hin)))
                obtain rfl : r1 = 1 := by have := hr1.out; simpa [hin] using this
                clear hin
                go_wp2_with fail
                go_roundw
                case rel => exact ⟨k + 1, by omega, by go_num, hide (by rw [HS.out]; exact unhide HO), HB⟩
                case measure => simp [intOf]; omega
              · obtain rfl : r1 = 0 := by have := hr1.out; simpa [hin] using this
                by_cases hqn : q < N
                · have dq : decide ((N : Int) ≤ (q : Int)) = false := by simp; omega
                  obtain ⟨_, _, e, hbq, hcq⟩ := ((unhide H).below (unhide HB)).at_ q hqn
                  cases e
                  by_cases hq0 : nth xs q = 0
                  · have dq0 : (nth xs q != 0) = false := by simpa using hq0
                    rw [hq0] at dq0 hcq
                    have HS := hide (show fillT f s xs p (k + 1) = fillT f s xs p k ++ fillL f s (putR xs p q ((k : Int) + 1)) from by
                      have := fillT_go (f := f) (s := s) (xs := xs) (p := p) (k := k) (by rw [HL.out, HQ.out]; simp [hq0, hin]; omega)
                      rw [HQ.out] at this; exact this)
                    have HZ2 := hide (show zer (putR xs p q ((k : Int) + 1)) < 2 * f from by
                      have := zer_put (xs := xs) (i := p) (j := q) (z := (k : Int) + 1) (by rw [HL.out]; exact hlt) (by rw [HL.out]; exact hqn) (by omega) HP0.out hq0 (by omega)
                      have := HZ.out; omega)
                    have HU2 := hide (show RelU n (putR xs p q ((k : Int) + 1)) (used ||| q1) from by
                      rw [f7.out]; exact relU_put HU.out (by rw [HL.out]; exact hlt) (by rw [HL.out]; exact hqn) HP0.out hq0 hlt2)
                    have hub2 := or_small hub f5
                    obtain ⟨u2, hu2⟩ : ∃ u2, used ||| q1 = u2 := ⟨_, rfl⟩
                    rw [hu2] at HU2 hub2 f6
                    have HL2 := hide (show (putR xs p q ((k : Int) + 1)).length = N from by rw [putR_len]; exact HL.out)
                    have HT1 := hide (show (fillT f s xs p k).length ≤ 8 * 8 ^ f from Nat.le_trans (fillT_len (fun ys hy => fillL_len s f ys hy) (by rw [HL.out]; exact hN16) p k) (Nat.mul_le_mul_right _ (by omega)))
                    have HT2 := hide (fillL_len s f (putR xs p q ((k : Int) + 1)) (by rw [HL2.out]; exact hN16))
                    have HT3 := hide (show (8 : Nat) ^ f ≤ 134217728 from by
                      have : (8 : Nat) ^ f ≤ 8 ^ 9 := Nat.pow_le_pow_right (by omega) (by omega)
                      omega)
                    clear hq0 hin hu2 f7 hr1
                    have HIr := hide ((unhide H).on (unhide HB))
                    have hlen : ([] : List Int).length + xs.length ≤ 1000000 := by rw [HL.out]; simp; omega
                    have HNEW := hide (owned_new wr wr.heap.size (Nat.le_refl _))
                    have HIa := hide ((unhide HIr).alloc (Nat.le_refl _) (.cells #[] 3))
                    go_wp2_with (at_builtin; refine wpList_app rfl _ _ rfl rfl rfl (unhide HNEW) (unhide HIa) hlen (by simp) ?_; intro v2 w2 ho2 hg2 _
                                 have hb2 := ((Below.refl wr.heap.size wr).alloc (Nat.le_refl _) (.cells #[] 3)).grown hg2 (by simp) (fun k hk => by cases hk; exact Nat.le_refl _)
                                 rw [List.nil_append] at ho2
                                 obtain ⟨g2, c2, e2, hg2a, hg2b⟩ := owned_none ho2 HL.out (by omega)
                                 subst e2
                                 obtain ⟨s1, s2⟩ := ho2.slot (k := p) hlt
                                 have ho3 := ho2.set (k := p) hlt ((k : Int) + 1)
                                 obtain ⟨s3, s4⟩ := ho3.slot (k := q) hqn
                                 have HO4 := hide (show Owned ((w2.setCell ⟨g2, p, none⟩ (.int .i64 ((k : Int) + 1))).setCell ⟨g2, q, none⟩ (.int .i64 ((k : Int) + 1))) wr.heap.size (.slice (some ⟨g2, 0, none⟩) N c2) (putR xs p q ((k : Int) + 1)) from ho3.set (k := q) hqn _)
                                 have HB4 := hide ((hb2.setCell (p := ⟨g2, p, none⟩) hg2a (.int .i64 ((k : Int) + 1))).setCell (p := ⟨g2, q, none⟩) hg2a (.int .i64 ((k : Int) + 1)))
                                 have hcapc := ho2.reads.cap; have hmostc := ho2.reads.most
                                 clear ho2 ho3 hb2 hg2 hg2b)
                    refine (IHH.out _ u2 _ _ _ (by omega) HZ2.out HL2.out HU2 hub2 (unhide HO4).reads).mono ?_
                    rintro e w5 ⟨v5, rfl, ho5, hb5⟩
                    have hsz4 := (unhide HB4).size
                    have HO5 := hide (ho5.lower hsz4)
                    have HOr := hide ((unhide HO).below ((unhide HB4).trans (hb5.mono hsz4)))
                    have HLT := hide (fun b (e : u10.ownBlock = some b) => ((unhide HO).lt b e).2)
                    have HBr := hide ((unhide HB).trans (((unhide HB4).trans (hb5.mono hsz4)).mono (unhide HB).size))
                    have hsum : (fillT f s xs p k).length + (fillL f s (putR xs p q ((k : Int) + 1))).length ≤ 2000000000 := by
                      have := HT1.out; have := HT2.out; have := HT3.out; omega
                    have hbase5 := (unhide HBr).size
                    have hbb := (unhide HB).size
                    clear ho5 hb5 hsz4
                    go_wp2_with (at_builtin; refine wpList_appFF rfl _ _ rfl rfl rfl (unhide HOr) (unhide HO5) HLT.out hbb hsum hbase5 ?_; intro v6 w6 ho6 hb6)
                    go_roundw
                    case rel => exact ⟨k + 1, by omega, by go_num, hide (by rw [HS.out]; exact ho6), hide ((unhide HBr).trans hb6)⟩
                    case measure => simp [intOf]; omega
                  · have dq0 : (nth xs q != 0) = true := by simpa using hq0
                    have HS := hide (show fillT f s xs p (k + 1) = fillT f s xs p k from fillT_skip (.inr (.inl (by rw [HQ.out]; exact hq0))))
                    clear hq0 hin
                    go_wp2_with fail
                    go_roundw
                    case rel => exact ⟨k + 1, by omega, by go_num, hide (by rw [HS.out]; exact unhide HO), HB⟩
                    case measure => simp [intOf]; omega
                · have dq : decide ((N : Int) ≤ (q : Int)) = true := by simp; omega
                  have HS := hide (show fillT f s xs p (k + 1) = fillT f s xs p k from fillT_skip (.inl (by rw [HL.out, HQ.out]; omega)))
                  clear hin
                  go_wp2_with fail
                  go_roundw
                  case rel => exact ⟨k + 1, by omega, by go_num, hide (by rw [HS.out]; exact unhide HO), HB⟩
                  case measure => simp [intOf]; omega
            · have e : n = k := by omega
              have HX := hide (show fillL (f + 1) s xs = fillT f s xs p k from by rw [HE.out, e])
              clear e
              go_wp2_with fail
              go_ret
              exact ⟨_, rfl, by rw [HX.out]; exact unhide HO, unhide HB⟩
        · have d0 : (nth xs p != 0) = true := by simpa using hz0
          have HN2 := hide (show ∀ j, j < p + 1 → nth xs j ≠ 0 from fun j hj => by
            rcases Nat.lt_or_ge j p with h1 | h1
            · exact HA.out j h1
            · obtain rfl : j = p := by omega
              exact hz0)
          clear hz0
          go_wp2_with fail
          go_round
          case rel => exact ⟨p + 1, by omega, by go_num, HN2⟩
          case measure => simp [intOf]; omega
      · have hpN : p = N := by omega
        have dn : ((p : Int) == (N : Int)) = true := by simp; omega
        have HE := hide (show fillL (f + 1) s xs = [xs] from fillL_end (by
          rw [ixI_none fun j hj => HA.out j (by rw [HL.out] at hj; omega)]; omega))
        have hlen : ([] : List Int).length + xs.length ≤ 1000000 := by rw [HL.out]; simp; omega
        have HNEW := hide (owned_new w w.heap.size (Nat.le_refl _))
        have HIa := hide ((unhide H).alloc (Nat.le_refl _) (.cells #[] 3))
        clear hpN
        go_wp2_with (at_builtin; refine wpList_app rfl _ _ rfl rfl rfl (unhide HNEW) (unhide HIa) hlen (by simp) ?_; intro v2 w2 ho2 hg2 _
                     have hb2 := ((Below.refl w.heap.size w).alloc (Nat.le_refl _) (.cells #[] 3)).grown hg2 (by simp) (fun k hk => by cases hk; exact Nat.le_refl _)
                     rw [List.nil_append] at ho2
                     obtain ⟨g2, c2, e2, hg2a, hg2b⟩ := owned_none ho2 HL.out (by omega)
                     subst e2
                     have HF := hide (ownF_one (base := w.heap.size) hb2.size ho2.reads (fun b off e => by cases e; exact ⟨hg2a, hg2b⟩))
                     have HB2 := hide (hb2.alloc hb2.size (.cells #[.slice (some ⟨g2, 0, none⟩) N c2] 22))
                     clear ho2 hb2 hg2 hg2b)
        go_ret
        exact ⟨_, rfl, by rw [HE.out]; exact unhide HF, unhide HB2⟩
end Go.Proofs.Ytmgoonoifgcmnaa
