import Derived.Test.YtmpdalcdkibgpaaN1
namespace Go.Proofs.Ytmpdalcdkibgpaa
open Go.RowKit Go.Sort

/-- What the closure does: it appends all orders that begin with what stands in its slice. -/
def ExtAt (Bo Bn Bf Be n base B d : Nat) : Prop := ∀ (w : World) (vo vf : Value) (o fl : List Int), St Bo Bn Bf Be n base w vo vf o fl → o.length + d = n → fl.length + fz n d o ≤ 1000000 →
    Calls Try.prog 105 #[.pointer (some ⟨Bo, 0, none⟩), .pointer (some ⟨Bn, 0, none⟩), .pointer (some ⟨Bf, 0, none⟩), .pointer (some ⟨Be, 0, none⟩)] w fun e w' => e = .returned (.tuple #[]) ∧ ∃ vo' vf', St Bo Bn Bf Be n base w' vo' vf' o (fl ++ (ex n d o).flatten) ∧ Below B w w'

set_option maxRecDepth 4000 in
set_option maxHeartbeats 4000000 in
theorem ext_zero (Bo Bn Bf Be n base B : Nat) (hB1 : B ≤ Bf) (hB2 : B ≤ base) (hn : n ≤ 1000000) : ExtAt Bo Bn Bf Be n base B 0 := by
  intro w vo vf o fl hs hlen hfl
  obtain ⟨A, c, rfl, hi⟩ := hs.ho.ints
  obtain ⟨Af, cf, rfl, hif⟩ := hs.hf.ints
  have hk : o.length = n := by omega
  rw [hk] at hi hs
  have co := cell_of_one hs.ob.o; have cn := cell_of_one hs.ob.n; have cf' := cell_of_one hs.ob.f; have ff := free_of_one hs.ob.f
  have hbeq : ((n : Int) == (n : Int)) = true := by simp
  have hsz := hs.size
  have hf1 := hfl
  have hfz : fz n 0 o = o.length := by simp [fz, ex]
  have hex := hide (show fl ++ (ex n 0 o).flatten = fl ++ o from by simp [ex])
  have HS := hide hs; have HI := hide hi; clear hs hi hif
  go_enter Try.func105, Try.ntmps105
  go_wp2_with (at_builtin
               refine wpList_app (by rfl) (.tmp 9) (.tmp 10) (by rfl) (by rfl) (by rfl) (unhide HS).hf (unhide HI) (by omega) (unhide HS).size ?_
               intro v1 w1 ho1' hg1 hv1
               obtain ⟨A2, c2', rfl, ho1⟩ := ho1'.shape (n := fl.length + n) (by simp [hk]) rfl
               clear ho1'
               have g1 := (unhide HS).grown (unhide HS).hf hg1
               have c1 := cell_of_one g1.f; have f1 := free_of_one g1.f
               have fin := hide ((unhide HS).put_f hg1 ho1 hv1)
               have hbel := hide ((Below.refl B w).grown hg1 (Nat.le_trans hB2 hsz) (fun k hk => Nat.le_trans hB2 (St.own_lt (unhide HS).hf k hk).1) |>.setCell (p := ⟨Bf, 0, none⟩) hB1 (.slice A2 (fl.length + n) c2'))
               clear ho1 hg1 hv1 g1)
  refine bodyPost_ret (results_none rfl _ _ _) rfl ?_
  exact ⟨rfl, _, _, by rw [hex.out]; exact unhide fin, unhide hbel⟩

set_option maxRecDepth 4000 in
set_option maxHeartbeats 8000000 in
theorem ext_succ (Bo Bn Bf Be n base B d : Nat) (hB1 : B ≤ Bf) (hB2 : B ≤ base) (hB3 : B ≤ Bo) (hn : n ≤ 1000000) (ih : ExtAt Bo Bn Bf Be n base B d) : ExtAt Bo Bn Bf Be n base B (d + 1) := by
  intro w vo vf o fl hs hlen hfl
  obtain ⟨A, c, rfl, hi⟩ := hs.ho.ints
  obtain ⟨k, hk⟩ : ∃ k, o.length = k := ⟨_, rfl⟩
  rw [hk] at hi hs
  have co := cell_of_one hs.ob.o; have cn := cell_of_one hs.ob.n
  have hkn : k < n := by omega
  have hbeq : ((k : Int) == (n : Int)) = false := by simp; omega
  have hbeq2 : (k == n) = false := by simp; omega
  have hbeq3 : decide (k = n) = false := by simp; omega
  have HL := hide hlen
  have hfz : fz n (d + 1) o = fzTo n d o n := rfl
  have HF := hide (show fl.length + fzTo n d o n ≤ 1000000 from by omega)
  have HS := hide hs; have HK := hide hk; clear hs hi hlen hfz hfl hk
  go_enter Try.func105, Try.ntmps105
  go_wp2_with fail
  go_loopw [13] (fun i wr => ∃ (j : Nat) (A1 : Option Addr) (c1 : Nat) (vf1 : Value), j ≤ n ∧ i = .int .i64 j ∧ St Bo Bn Bf Be n base wr (.slice A1 k c1) vf1 o (fl ++ (exTo n d o j).flatten) ∧ Below B w wr) (fun i _ => n - (intOf i).toNat)
  case atStart => exact ⟨0, A, c, vf, Nat.zero_le _, rfl, by simpa [exTo] using unhide HS, Below.refl _ _⟩
  case round =>
    obtain ⟨j, A1, c1, vf1, hj, rfl, hst, hbl⟩ := hrel
    have HST := hide hst; have HB := hide hbl; clear hst hbl co cn
    by_cases hlt : j < n
    · have co := cell_of_one (unhide HST).ob.o
      have hmono := hide (fzTo_mono n d o (show j + 1 ≤ n from hlt))
      have hcap : k ≤ c1 := by have := (unhide HST).ho.asInts; exact this.cap
      rcases hc : o.contains (j : Int)
      · have HC := hide hc; clear hc
        have hsucc := hide (show exTo n d o (j + 1) = exTo n d o j ++ ex n d (o ++ [(j : Int)]) from by rw [exTo_succ, HC.out]; simp)
        have hzs := hide (show fzTo n d o (j + 1) = fzTo n d o j + fz n d (o ++ [(j : Int)]) from by rw [fzTo_succ, HC.out]; simp)
        go_wp2_with fail
        refine (Contains_own (unhide HST).ho _ false HC).mono ?_
        rintro e w1 ⟨rfl, rfl⟩
        have st1 := (unhide HST).alloc (.cells #[.int .i64 (j : Int)] 3)
        have co1 := cell_of_one st1.ob.o
        have ST1 := hide st1; clear st1
        go_wp2_with (at_builtin
                     refine wpList_app (w := w1.alloc (.cells #[.int .i64 (j : Int)] 3)) (by rfl) (.tmp 19) (.tmp 21) (by rfl) (by rfl) (by rfl) (unhide ST1).ho (ints_one w1 _) (by have := HK.out; simp; omega) (unhide ST1).size ?_
                     intro v1 w2 ho1' hg1 hv1
                     obtain ⟨A2, c2', rfl, ho1⟩ := ho1'.shape (n := k + 1) (by simpa using HK.out) rfl
                     clear ho1'
                     have g1 := (unhide ST1).grown (unhide ST1).ho hg1
                     have c2 := cell_of_one g1.o; have f2 := free_of_one g1.o
                     have st2 := (unhide ST1).put_o hg1 ho1 hv1
                     have ce := cell_of_one st2.ob.e
                     have hb2 := ((((unhide HB).alloc (Nat.le_trans hB2 (unhide HST).size) (.cells #[.int .i64 (j : Int)] 3)).grown hg1 (Nat.le_trans hB2 (unhide ST1).size) (fun k hk => Nat.le_trans hB2 (St.own_lt (unhide ST1).ho k hk).1)).setCell (p := ⟨Bo, 0, none⟩) hB3 (.slice A2 (k + 1) c2'))
                     have ST2 := hide st2; have HB2 := hide hb2
                     clear ho1 hg1 hv1 g1 st2 hb2)
        refine (ih _ _ _ _ _ (unhide ST2) (by have := HK.out; have := HL.out; simp; omega) (by have h1 := HF.out; have h2 := hzs.out; have h3 := hmono.out; simp only [List.length_append]; unfold fzTo at h1 h2 h3; omega)).mono ?_
        rintro e w3 ⟨rfl, vo3, vf3, st3, hb3⟩
        obtain ⟨A3, c3, rfl, _⟩ := st3.ho.shape (n := k + 1) (by simpa using HK.out) rfl
        have co3 := cell_of_one st3.ob.o; have f3 := free_of_one st3.ob.o
        have hc3 : k + 1 ≤ c3 := st3.ho.asInts.cap
        have hm3 : c3 ≤ 9223372036854775807 := st3.ho.asInts.most
        have ST4 := hide (st3.cut HK.out)
        have HB4 := hide (((unhide HB2).trans hb3).setCell (p := ⟨Bo, 0, none⟩) hB3 (.slice A3 k c3))
        clear st3 hb3
        go_wp2_with fail
        go_roundw
        case rel => exact ⟨j + 1, A3, c3, vf3, by omega, by go_num, by rw [hsucc.out, List.flatten_append, ← List.append_assoc]; exact unhide ST4, unhide HB4⟩
        case measure => simp [intOf]; omega
      · have HC := hide hc; clear hc
        have hsucc := hide (show exTo n d o (j + 1) = exTo n d o j from by rw [exTo_succ, HC.out]; simp)
        go_wp2_with fail
        refine (Contains_own (unhide HST).ho _ true HC).mono ?_
        rintro e w1 ⟨rfl, rfl⟩
        go_wp2_with fail
        go_roundw
        case rel => exact ⟨j + 1, A1, c1, vf1, by omega, by go_num, by rw [hsucc.out]; exact unhide HST, unhide HB⟩
        case measure => simp [intOf]; omega
    · obtain rfl : j = n := by omega
      go_wp2_with fail
      go_end0
      exact ⟨rfl, _, _, by rw [ex_succ]; exact unhide HST, unhide HB⟩

theorem ext_all (Bo Bn Bf Be n base B : Nat) (hB1 : B ≤ Bf) (hB2 : B ≤ base) (hB3 : B ≤ Bo) (hn : n ≤ 1000000) : ∀ d, ExtAt Bo Bn Bf Be n base B d
  | 0 => ext_zero Bo Bn Bf Be n base B hB1 hB2 hn
  | d + 1 => ext_succ Bo Bn Bf Be n base B d hB1 hB2 hB3 hn (ext_all Bo Bn Bf Be n base B hB1 hB2 hB3 hn d)
end Go.Proofs.Ytmpdalcdkibgpaa
