import Derived.Test.YtdlbahoenhhkdaaC5
/-
  Merge of the program.
-/
namespace Go.Proofs.Ytdlbahoenhhkdaa
open Go.RowKit Go.Sort

theorem isList_is (A : Option Addr) (n c : Nat) (xs : List G) (k : Int) (w : World) (h : Gs w w.heap.size A n c xs) (b : Bool) (hb : Hid (lstOk k xs = b)) :
    Calls Try.prog 63 #[.int .i64 k, .slice A n c] w fun e w' => e = .returned (.bool b) ∧ Below w.heap.size w w' := by
  by_cases hn : (n : Int) ≤ k
  · exact (isList_le A n c xs k w h (hide hn)).mono fun _ _ ⟨he, hw⟩ => ⟨by rw [he, hb.out], hw⟩
  · have hl := hide h.len
    have hk : b = false := by rw [← hb.out, lstOk, hl.out]; simp [hn]
    subst hk
    have hn' : k < (n : Int) := by omega
    clear hn
    go_enter Try.func63, Try.ntmps63
    go_wp2
    go_ret
    exact ⟨rfl, Below.refl _ _⟩

def okM (k : Int) (xs ys : List G) : Bool := cntB k && lstOk k xs && lstOk k ys

set_option maxHeartbeats 1000000 in
theorem Merge_no (A A' : Option Addr) (n c n' c' : Nat) (xs ys : List G) (k : Int) (w : World) (h : Gs w w.heap.size A n c xs) (h' : Gs w w.heap.size A' n' c' ys) (hv : Hid (okM k xs ys = false)) :
    Calls Try.prog 31 #[.int .i64 k, .slice A n c, .slice A' n' c'] w fun e w' => e = .returned (.tuple #[.slice none 0 0, .int .i64 2]) ∧ Below w.heap.size w w' := by
  rcases and_no hv.out with h0 | ⟨h0, h3⟩
  · rcases and_no h0 with h1 | ⟨h1, h2⟩
    · have H1 := hide h1; clear h1 h0
      go_enter Try.func31, Try.ntmps31
      go_wp2_with (go_at_call 62; refine (isCounters_is _ _ _ H1).mono ?_; rintro e w' ⟨rfl, rfl⟩)
      go_ret2
      exact ⟨rfl, Below.refl _ _⟩
    · have H1 := hide h1; have H2 := hide h2; clear h1 h2 h0
      go_enter Try.func31, Try.ntmps31
      go_wp2_with (go_at_call 62; refine (isCounters_is _ _ _ H1).mono ?_; rintro e w' ⟨rfl, rfl⟩)
      refine (isList_is _ _ _ _ _ _ h _ H2).mono ?_
      rintro e w1 ⟨rfl, b1⟩
      go_wp2_with fail
      go_ret2
      exact ⟨rfl, b1⟩
  · simp only [Bool.and_eq_true] at h0
    obtain ⟨h1, h2⟩ := h0
    have H1 := hide h1; have H2 := hide h2; have H3 := hide h3; clear h1 h2 h3
    go_enter Try.func31, Try.ntmps31
    go_wp2_with (go_at_call 62; refine (isCounters_is _ _ _ H1).mono ?_; rintro e w' ⟨rfl, rfl⟩)
    refine (isList_is _ _ _ _ _ _ h _ H2).mono ?_
    rintro e w1 ⟨rfl, b1⟩
    go_wp2_with fail
    refine (isList_is _ _ _ _ _ _ ((h'.below b1).more b1.size) _ H3).mono ?_
    rintro e w2 ⟨rfl, b2⟩
    go_wp2_with fail
    go_ret2
    exact ⟨rfl, b1.trans (b2.mono b1.size)⟩

theorem lst_all {xs : List G} (h : lstB xs = true) : ∀ j, j < xs.length → 0 ≤ (gth xs j).1 ∧ (gth xs j).1 ≤ 15 ∧ 1 ≤ (gth xs j).2.1 ∧ (gth xs j).2.1 ≤ 40 := fun j hj => by
  have := cOk_get (lstB_get h j hj).1; omega
theorem lst_app {xs ys : List G} (h1 : lstB xs = true) (h2 : lstB ys = true) : ∀ j, j < (xs ++ ys).length → 0 ≤ (gth (xs ++ ys) j).1 ∧ (gth (xs ++ ys) j).1 ≤ 15 ∧ 1 ≤ (gth (xs ++ ys) j).2.1 ∧ (gth (xs ++ ys) j).2.1 ≤ 40 := fun j hj => by
  rw [List.length_append] at hj
  rcases Nat.lt_or_ge j xs.length with h | h
  · rw [gth_left h]; exact lst_all h1 j h
  · obtain ⟨i, rfl⟩ : ∃ i, j = xs.length + i := ⟨j - xs.length, by omega⟩
    rw [gth_right]; exact lst_all h2 i (by omega)
theorem kS_le {gs : List G} (h : ∀ j, j < gs.length → 1 ≤ (gth gs j).2.1 ∧ (gth gs j).2.1 ≤ 40) (key : Nat) : ∀ j : Nat, j ≤ gs.length → 0 ≤ kS gs key j ∧ kS gs key j ≤ 40 * j := by
  intro j; induction j with
  | zero => intro _; simp [kS]
  | succ j ih => intro hj; have := ih (by omega); have := h j (by omega); rw [kS]; split <;> omega

theorem OwnedG.reads {w : World} {base n c : Nat} {e : TypeId} {A : Option Addr} {xs : List G} (h : OwnedG w base e (.slice A n c) xs) : Gs w w.heap.size A n c xs := by
  obtain ⟨A', c', e, hi⟩ := h.gs
  simp only [Value.slice.injEq] at e
  obtain ⟨rfl, rfl, rfl⟩ := e
  exact hi
theorem OwnedG.far {w : World} {base : Nat} {e : TypeId} {v : Value} {xs : List G} (h : OwnedG w base e v xs) {p : Addr} (hp : p.block < base) (u : Value) : OwnedG (w.setCell p u) base e v xs := by
  refine ⟨h.1, ?_⟩
  rcases h.2 with h0 | ⟨g, cap, cur, hv, hg, hh, r⟩
  · exact .inl h0
  · exact .inr ⟨g, cap, cur, hv, hg, (heap_setCell_other w p g u (by omega)).trans hh, r⟩
theorem OwnedG.drewN {w : World} {base : Nat} {e : TypeId} {v : Value} {xs : List G} (h : OwnedG w base e v xs) (q : Nat) : OwnedG (w.drewN q) base e v xs := h
theorem OwnedG.some_ {w : World} {base : Nat} {e : TypeId} {v : Value} {xs : List G} (h : OwnedG w base e v xs) : ∃ A n c, v = .slice A n c ∧ n = xs.length ∧ OwnedG w base e (.slice A n c) xs := by
  obtain ⟨A, c, rfl, hi⟩ := h.gs
  exact ⟨A, _, c, rfl, rfl, h⟩

set_option maxRecDepth 100000 in
set_option maxHeartbeats 2000000 in
theorem Merge_ok (A A' : Option Addr) (n c n' c' : Nat) (xs ys : List G) (K : Nat) (w : World) (h : Gs w w.heap.size A n c xs) (h' : Gs w w.heap.size A' n' c' ys) (H1 : Hid (cntB (K : Int) = true)) (H2 : Hid (lstOk (K : Int) xs = true)) (H3 : Hid (lstOk (K : Int) ys = true)) :
    Calls Try.prog 31 #[.int .i64 (K : Int), .slice A n c, .slice A' n' c'] w fun e w' => ∃ v, e = .returned (.tuple #[v, .int .i64 0]) ∧ OwnedG w' w.heap.size 68 v (mergeTo (kF (xs ++ ys)) (nth (srt (kF (xs ++ ys))) (15 - K)) 16) ∧ Below w.heap.size w w' := by
  have hl := hide h.len; have hl' := hide h'.len
  obtain ⟨k1, k2⟩ := cntB_bd H1.out
  have hx : lstB xs = true ∧ n ≤ K := by have := H2.out; simp only [lstOk, Bool.and_eq_true, decide_eq_true_eq] at this; rw [hl.out] at this; exact ⟨this.2, by have := this.1; omega⟩
  have hy : lstB ys = true ∧ n' ≤ K := by have := H3.out; simp only [lstOk, Bool.and_eq_true, decide_eq_true_eq] at this; rw [hl'.out] at this; exact ⟨this.2, by have := this.1; omega⟩
  obtain ⟨hx1, hx2⟩ := hx
  obtain ⟨hy1, hy2⟩ := hy
  have HZ := hide (lst_app hx1 hy1)
  have HF := hide (fun j : Nat => show 0 ≤ kF (xs ++ ys) j ∧ kF (xs ++ ys) j ≤ 80 from by rw [kF_app]; have := kF_bd hx1 j; have := kF_bd hy1 j; omega)
  obtain ⟨zs, hzs⟩ : ∃ zs, xs ++ ys = zs := ⟨_, rfl⟩
  have hzl : zs.length = n + n' := by rw [← hzs, List.length_append, hl.out, hl'.out]
  have HZL := hide hzl; clear hzl
  rw [hzs] at HZ HF ⊢
  have HZS := hide hzs; clear hzs hx1 hy1
  have hz0 := hide zeros_eq
  go_enter Try.func31, Try.ntmps31
  go_wp2_with (go_at_call 62; refine (isCounters_is _ _ _ H1).mono ?_; rintro e w' ⟨rfl, rfl⟩)
  refine (isList_is _ _ _ _ _ _ h _ H2).mono ?_
  rintro e w1 ⟨rfl, b1⟩
  go_wp2_with fail
  refine (isList_is _ _ _ _ _ _ ((h'.below b1).more b1.size) _ H3).mono ?_
  rintro e w2 ⟨rfl, b2⟩
  have b2' := b1.trans (b2.mono b1.size)
  have i1 := (h.below b2').more b2'.size
  have i2 := (h'.below b2').more b2'.size
  obtain ⟨wz, hwz⟩ : ∃ wz, wz = (w2.alloc (.cells (tarr fun _ => 0) 85)).alloc (.cells #[.slice A n c, .slice A' n' c'] 23) := ⟨_, rfl⟩
  have bz8 : Blk wz w2.heap.size 85 (tarr fun _ => 0) := by rw [hwz]; exact (Blk.new _ _ _).alloc _
  have hzs : wz.heap.size = w2.heap.size + 2 := by rw [hwz]; simp
  have bzw : Below w2.heap.size w2 wz := by rw [hwz]; exact ((Below.refl _ _).alloc (Nat.le_refl _) _).alloc (by simp) _
  have bza : wz.cell? ⟨w2.heap.size + 1, 0, none⟩ = some (.slice A n c) ∧ wz.cell? ⟨w2.heap.size + 1, 1, none⟩ = some (.slice A' n' c') := by
    have hb := Blk.new (w2.alloc (.cells (tarr fun _ => 0) 85)) 23 #[.slice A n c, .slice A' n' c']
    rw [← hwz] at hb
    have hs1 : (w2.alloc (.cells (tarr fun _ => 0) 85)).heap.size = w2.heap.size + 1 := by simp
    rw [hs1] at hb
    exact ⟨hb.cell 0, hb.cell 1⟩
  obtain ⟨bza0, bza1⟩ := bza
  go_wp2_with fail
  rw [hz0.out, ← hwz]
  have HZSZ := hide hzs
  have j1 := (i1.below bzw).more bzw.size
  have j2 := (i2.below bzw).more bzw.size
  refine (Concat_any _ _ _ _ _ _ _ _ _ _ bza0 bza1 (by omega) j1 j2 (by omega) (by omega)).mono ?_
  rintro e w3 ⟨v3, rfl, o3, b3⟩
  rw [HZS.out] at o3
  rw [hzs] at o3 b3
  have b8 := bz8.below b3 (by omega)
  clear hwz hzs bza0 bza1 bz8
  obtain ⟨A3, N, c3, rfl, hN, o4⟩ := o3.some_
  have hN2 : N = n + n' := by rw [hN, HZL.out]
  have HN := hide hN2
  have hN16 : N ≤ 16 := by omega
  clear hN hN2 o3
  have b3' : Below w.heap.size w w3 := b2'.trans ((bzw.trans (b3.mono (by omega))).mono b2'.size)
  obtain ⟨g8, hg8⟩ : ∃ g8, w2.heap.size = g8 := ⟨_, rfl⟩
  have hgw : w.heap.size ≤ g8 := by have := b2'.size; omega
  rw [hg8] at o4 b8 b3 ⊢
  have hg3 : g8 + 2 ≤ w3.heap.size := by have := b3.size; have := HZSZ.out; omega
  clear hg8 b3 bzw b2' b1 b2 i1 i2 j1 j2
  go_wp2
  go_loopw [10, 36] (fun _ i wr => ∃ j : Nat, j ≤ N ∧ i = .int .i64 j ∧ Blk wr g8 85 (tarr fun key => kS zs key j) ∧ OwnedG wr (g8 + 2) 68 (.slice A3 N c3) zs ∧ Below w.heap.size w wr ∧ g8 + 2 ≤ wr.heap.size) (fun _ i _ => N - (intOf i).toNat)
  case atStart => exact ⟨0, Nat.zero_le _, rfl, b8, o4, b3', hg3⟩
  case round =>
    obtain ⟨j, hj, rfl, bj, oj, hbj, hsj⟩ := hrel
    clear b8 o4 b3' hg3
    by_cases hlt : j < N
    · have hjl : j < zs.length := by rw [HZL.out]; have := HN.out; omega
      obtain ⟨b, off, rfl, hbb, e1, e2, e3⟩ := oj.reads.at_ j hlt
      obtain ⟨q1, q2, q3, q4⟩ := HZ.out j hjl
      obtain ⟨p1, p2⟩ := kS_le (fun i hi => ⟨(HZ.out i hi).2.2.1, (HZ.out i hi).2.2.2⟩) (gth zs j).1.toNat j (by omega)
      have hkS : ∀ key : Nat, kS zs key (j + 1) = kS zs key j + if (gth zs j).1 = key then (gth zs j).2.1 else 0 := fun _ => rfl
      have HKS := hide hkS; clear hkS
      revert HKS
      obtain ⟨⟨f, d, m⟩, hgk⟩ : ∃ q, gth zs j = q := ⟨_, rfl⟩
      rw [hgk] at e1 e2 e3 q1 q2 q3 q4 p1 p2 ⊢
      simp only at e1 e2 e3 q1 q2 q3 q4 p1 p2 ⊢
      clear hgk
      intro HKS
      obtain ⟨x, rfl⟩ : ∃ x : Nat, f = x := ⟨f.toNat, by omega⟩
      rw [Int.toNat_natCast] at p1 p2
      have hp2 : kS zs x j ≤ 1000 := by omega
      have c1 := (bj.alloc (.cells #[.int .i64 (x : Int), .int .i64 d, .int .i64 m] 68)).cell x
      rw [tarr_at _ _ (by omega)] at c1
      have c2 := (bj.alloc (.cells #[.int .i64 (x : Int), .int .i64 d, .int .i64 m] 68)).frozen x
      have hne : ¬ wr.heap.size = g8 := by have := bj.lt; omega
      have hne2 : ¬ g8 = wr.heap.size := by have := bj.lt; omega
      have HE := hide (tarr_set (fun key => kS zs key j) (fun key => kS zs key (j + 1)) x (kS zs x j + d) (by omega) (by simp [HKS.out]) (by
        intro i hi
        have : ¬ (x : Int) = (i : Int) := by omega
        simp [HKS.out, this]))
      have HO := hide oj; have HBJ := hide bj; clear oj bj
      have hx15 : (x : Int) < 16 := by omega
      go_wp2
      go_region
      go_wp2
      go_roundw
      case rel =>
        refine ⟨j + 1, by omega, by go_num, ?_, ?_, ?_, ?_⟩
        · rw [← HE.out]
          exact ((HBJ.out.alloc _).set_ _ _).drewN 1
        · exact (((HO.out.alloc _).far (by show g8 < g8 + 2; omega) _)).drewN 1
        · exact Below.drewN' ((hbj.alloc hbj.size _).setCell (by simpa using hgw) _) 1
        · simp [World.setCell, World.drew]; omega
      case measure => simp [intOf]; omega
    · obtain rfl : N = j := by omega
      have bN : Blk wr g8 85 (tarr (kF zs)) := by
        have e : (fun key => kS zs key N) = kF zs := by funext key; rw [kF, HZL.out, ← HN.out]
        rw [e] at bj
        exact bj
      clear bj oj
      have H85 := hide (info85' (kF zs))
      have hbn : wr.heap.size ≠ g8 := by have := bN.lt; omega
      have bq := Blk.new wr 85 #[.int .i64 0, .int .i64 0, .int .i64 0, .int .i64 0, .int .i64 0, .int .i64 0, .int .i64 0, .int .i64 0, .int .i64 0, .int .i64 0, .int .i64 0, .int .i64 0, .int .i64 0, .int .i64 0, .int .i64 0, .int .i64 0]
      go_wp2_with (first
        | (refine wpList_load_row rfl 85 _ rfl g8 rfl 85 (tarr (kF zs)) (0, 0) _ bN Try.underlying85 rfl H85.out ?_)
        | (refine wpList_store_row rfl 85 _ _ rfl wr.heap.size (tarr (kF zs)) rfl rfl 85 _ bq H85.out (by rw [tarr_size]; rfl) (tarr_all _) ?_))
      have bs := setRow_heap _ _ _ (tarr (kF zs)) _ _ bq
      refine (sort_arr bs).mono ?_
      rintro e w4 ⟨rfl, hcell, hgr⟩
      have hlt8 := bN.lt
      have b84 : Blk w4 g8 85 (tarr (kF zs)) := by
        have h1 := hgr.block g8 (by simp; omega) (by intro e; exact hbn (by injection e with e; exact e.symm))
        exact h1.trans ((setRow_other _ _ _ _ (by omega)).trans ((bN.alloc _)))
      have bw4 : Below w.heap.size w w4 := by
        have hb1 : Below w.heap.size w ((wr.alloc (.cells #[.int .i64 0, .int .i64 0, .int .i64 0, .int .i64 0, .int .i64 0, .int .i64 0, .int .i64 0, .int .i64 0, .int .i64 0, .int .i64 0, .int .i64 0, .int .i64 0, .int .i64 0, .int .i64 0, .int .i64 0, .int .i64 0] 85)).setRow wr.heap.size (tarr (kF zs))) := by
          have hb0 := hbj.alloc hbj.size (.cells #[.int .i64 0, .int .i64 0, .int .i64 0, .int .i64 0, .int .i64 0, .int .i64 0, .int .i64 0, .int .i64 0, .int .i64 0, .int .i64 0, .int .i64 0, .int .i64 0, .int .i64 0, .int .i64 0, .int .i64 0, .int .i64 0] 85)
          refine ⟨hb0.os, hb0.tape, hb0.output, by simpa using hb0.size, fun i hi => ?_⟩
          rw [setRow_other _ _ _ _ (by have := hbj.size; omega)]
          exact hb0.block i hi
        exact hb1.grown hgr hb1.size (fun k hk => by cases hk; exact hbj.size)
      obtain ⟨g11, hg11⟩ : ∃ g11, wr.heap.size = g11 := ⟨_, rfl⟩
      rw [hg11] at hcell ⊢
      clear hg11 bs bq hgr bN hlt8 hbn
      have c15 := hcell (15 - K) (by omega)
      obtain ⟨L, hL⟩ : ∃ L, nth (srt (kF zs)) (15 - K) = L := ⟨_, rfl⟩
      rw [hL] at c15
      have hLb : 0 ≤ L ∧ L ≤ 80 := by
        obtain ⟨j, hj, e⟩ := srt_mem (kF zs) (15 - K) (by omega)
        have := HF.out j
        omega
      obtain ⟨L1, L2⟩ := hLb
      have HL := hide hL; clear hL hcell
      have hi15 : ((15 : Int) - (K : Int)).toNat = 15 - K := by omega
      have hk15 : (K : Int) ≤ 15 := by omega
      go_wp2_with (first
        | (refine wpList_load_row rfl 85 _ rfl g8 rfl 85 (tarr (kF zs)) (0, 0) _ b84 Try.underlying85 rfl H85.out ?_))
      go_loopw [13, 14, 15, 57] (fun v _ _ i wr => ∃ j : Nat, j ≤ 16 ∧ i = .int .i64 j ∧ OwnedG wr w.heap.size 68 v (mergeTo (kF zs) L j) ∧ Below w.heap.size w wr) (fun _ _ _ i _ => 16 - (intOf i).toNat)
      case atStart => exact ⟨0, by omega, rfl, World.ownsRow_nil _ _ _ _, bw4⟩
      case round =>
        obtain ⟨j, hj, rfl, ho, hb⟩ := hrel
        by_cases hlt : j < 16
        · have hix := fun W => run_index_tarr (kF zs) j hlt W
          obtain ⟨f1, f2⟩ := HF.out j
          have HS := hide (show mergeTo (kF zs) L (j + 1) = mergeTo (kF zs) L j ++ if L < kF zs j then [((j : Int), kF zs j - L, 0)] else [] from rfl)
          have hll : (mergeTo (kF zs) L j).length ≤ 1000000 := by have := mergeTo_len (kF zs) L j; omega
          have hbs := hb.size
          by_cases hgt : L < kF zs j
          · go_wp2_with (at_builtin; refine wpList_appG (by rfl) _ _ 23 68 (by rfl) Try.underlying23 info68 (by rfl) (by rfl) ho hll hbs ?_; intro v1 w5 ho1 hb1 _)
            go_roundw
            case rel => exact ⟨j + 1, by omega, by go_num, by rw [HS.out, if_pos hgt]; exact ho1, hb.trans hb1⟩
            case measure => simp [intOf]; omega
          · go_wp2
            go_roundw
            case rel => exact ⟨j + 1, by omega, by go_num, by rw [HS.out, if_neg hgt, List.append_nil]; exact ho, hb⟩
            case measure => simp [intOf]; omega
        · obtain rfl : j = 16 := by omega
          go_wp2
          go_ret2
          exact ⟨_, rfl, by rw [HL.out]; exact ho, hb⟩
end Go.Proofs.Ytdlbahoenhhkdaa
