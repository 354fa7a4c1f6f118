import Derived.Test.YtmpdalcdkibgpaaQ1
namespace Go.Proofs.Ytmpdalcdkibgpaa
open Go.RowKit Go.Sort

theorem sumOfParts_is (A : Option Addr) (n c : Nat) (xs : List Int) (w : World) (B : Nat) (h : Ints w B A n c xs) (p : Int) (hp : Hid (parts xs = p)) :
    Calls Try.prog 92 #[.slice A n c] w fun e w' => e = .returned (.int .i64 p) ∧ ∃ q, w' = w.drewN q :=
  (sumOfParts_any A n c xs w B h).mono fun _ _ ⟨he, hw⟩ => ⟨by rw [he, hp.out], hw⟩
theorem Parts_is (A : Option Addr) (n c : Nat) (xs : List Int) (w : World) (B : Nat) (h : Ints w B A n c xs) (hn : n ≤ 17592186044416) (p : Int) (hp : Hid (parts xs = p)) :
    Calls Try.prog 52 #[.slice A n c] w fun e w' => e = .returned (.int .i64 p) ∧ ∃ q, w' = w.drewN q :=
  (Parts_any A n c xs w B h hn).mono fun _ _ ⟨he, hw⟩ => ⟨by rw [he, hp.out], hw⟩
theorem parts_nn (xs : List Int) : 0 ≤ parts xs := by
  unfold parts
  split
  · next h => have := pre_pos (partsOk_pos h); omega
  · omega
/-- Two are parts of one number. -/
def oneSum (xs ys : List Int) : Bool := decide (parts xs ≠ 0) && decide (parts ys = parts xs)

set_option maxHeartbeats 800000 in
theorem areOfOneSum_any (A A' : Option Addr) (n c n' c' : Nat) (xs ys : List Int) (w : World) (B B' : Nat) (h : Ints w B A n c xs) (h' : Ints w B' A' n' c' ys) :
    Calls Try.prog 88 #[.slice A n c, .slice A' n' c'] w fun e w' => e = .returned (.bool (oneSum xs ys)) ∧ ∃ q, w' = w.drewN q := by
  obtain ⟨p, hp⟩ : ∃ p, parts xs = p := ⟨_, rfl⟩
  obtain ⟨p', hp'⟩ : ∃ p, parts ys = p := ⟨_, rfl⟩
  have HP := hide hp; have HP' := hide hp'; clear hp hp'
  by_cases h0 : p = 0
  · subst h0
    go_enter Try.func88, Try.ntmps88
    go_wp2_with fail
    refine (sumOfParts_is _ _ _ _ _ _ h _ HP).mono ?_
    rintro e w1 ⟨rfl, q, rfl⟩
    go_wp2_with fail
    go_ret
    exact ⟨ret_bool (by rw [oneSum, HP.out]; simp), q, rfl⟩
  have h0' : (p != 0) = true := by simp [h0]
  have H0 := hide h0; clear h0
  by_cases h1 : p' = p
  · subst h1
    go_enter Try.func88, Try.ntmps88
    go_wp2_with fail
    refine (sumOfParts_is _ _ _ _ _ _ h _ HP).mono ?_
    rintro e w1 ⟨rfl, q, rfl⟩
    go_wp2_with fail
    refine (sumOfParts_is _ _ _ _ _ _ (h'.drewN q) _ HP').mono ?_
    rintro e w1 ⟨rfl, q2, rfl⟩
    go_wp2_with fail
    go_ret
    exact ⟨ret_bool (by rw [oneSum, HP.out, HP'.out]; simp [H0.out]), (by first | exact ⟨_, rfl⟩ | exact quiet_q _ _ _)⟩
  · have h1' : (p' == p) = false := by simp [h1]
    have H1 := hide h1; clear h1
    go_enter Try.func88, Try.ntmps88
    go_wp2_with fail
    refine (sumOfParts_is _ _ _ _ _ _ h _ HP).mono ?_
    rintro e w1 ⟨rfl, q, rfl⟩
    go_wp2_with fail
    refine (sumOfParts_is _ _ _ _ _ _ (h'.drewN q) _ HP').mono ?_
    rintro e w1 ⟨rfl, q2, rfl⟩
    go_wp2_with fail
    go_ret
    exact ⟨ret_bool (by rw [oneSum, HP.out, HP'.out]; simp [H1.out]), (by first | exact ⟨_, rfl⟩ | exact quiet_q _ _ _)⟩

set_option maxHeartbeats 800000 in
theorem lparts_any (A A' : Option Addr) (n c n' c' : Nat) (xs ys : List Int) (w : World) (B B' : Nat) (h : Ints w B A n c xs) (h' : Ints w B' A' n' c' ys) (hn : n ≤ 17592186044416) (hn' : n' ≤ 17592186044416) :
    Calls Try.prog 46 #[.slice A n c, .slice A' n' c'] w fun e w' => e = .returned (.bool (oneSum xs ys)) ∧ ∃ q, w' = w.drewN q := by
  obtain ⟨p, hp⟩ : ∃ p, parts xs = p := ⟨_, rfl⟩
  obtain ⟨p', hp'⟩ : ∃ p, parts ys = p := ⟨_, rfl⟩
  have hpn : 0 ≤ p := by rw [← hp]; exact parts_nn xs
  have HP := hide hp; have HP' := hide hp'; clear hp hp'
  by_cases h0 : 0 < p
  · by_cases h1 : p = p'
    · subst h1
      go_enter Try.func46, Try.ntmps46
      go_wp2_with fail
      refine (Parts_is _ _ _ _ _ _ h hn _ HP).mono ?_
      rintro e w1 ⟨rfl, q, rfl⟩
      go_wp2_with fail
      refine (Parts_is _ _ _ _ _ _ (h.drewN q) hn _ HP).mono ?_
      rintro e w1 ⟨rfl, q2, rfl⟩
      go_wp2_with fail
      refine (Parts_is _ _ _ _ _ _ (h'.drewN (q + q2)) hn' _ HP').mono ?_
      rintro e w1 ⟨rfl, q3, rfl⟩
      go_wp2_with fail
      go_ret
      exact ⟨ret_bool (by rw [oneSum, HP.out, HP'.out]; simp; omega), (by first | exact ⟨_, rfl⟩ | exact quiet_q _ _ _)⟩
    · have h1' : (p == p') = false := by simp [h1]
      have H1 := hide h1; clear h1
      go_enter Try.func46, Try.ntmps46
      go_wp2_with fail
      refine (Parts_is _ _ _ _ _ _ h hn _ HP).mono ?_
      rintro e w1 ⟨rfl, q, rfl⟩
      go_wp2_with fail
      refine (Parts_is _ _ _ _ _ _ (h.drewN q) hn _ HP).mono ?_
      rintro e w1 ⟨rfl, q2, rfl⟩
      go_wp2_with fail
      refine (Parts_is _ _ _ _ _ _ (h'.drewN (q + q2)) hn' _ HP').mono ?_
      rintro e w1 ⟨rfl, q3, rfl⟩
      go_wp2_with fail
      go_ret
      exact ⟨ret_bool (by rw [oneSum, HP.out, HP'.out]; have := H1.out; simp; omega), (by first | exact ⟨_, rfl⟩ | exact quiet_q _ _ _)⟩
  · go_enter Try.func46, Try.ntmps46
    go_wp2_with fail
    refine (Parts_is _ _ _ _ _ _ h hn _ HP).mono ?_
    rintro e w1 ⟨rfl, q, rfl⟩
    go_wp2_with fail
    go_ret
    exact ⟨ret_bool (by rw [oneSum, HP.out, HP'.out]; simp; omega), q, rfl⟩

theorem nth_out {xs : List Int} {k : Nat} (h : xs.length ≤ k) : nth xs k = 0 := by simp [nth, List.getD, List.getElem?_eq_none h]
set_option maxHeartbeats 400000 in
theorem at_any (A : Option Addr) (n c : Nat) (xs : List Int) (k : Nat) (w : World) (B : Nat) (h : Ints w B A n c xs) :
    Calls Try.prog 108 #[.slice A n c, .int .i64 k] w fun e w' => e = .returned (.int .i64 (nth xs k)) ∧ w = w' := by
  have hm := h.most; have hcap := h.cap
  have hl := hide h.len
  by_cases hk : k < n
  · obtain ⟨b, off, rfl, hb, hc⟩ := h.at_ k hk
    go_enter Try.func108, Try.ntmps108
    go_wp2_with fail
    go_ret
    exact ⟨rfl, rfl⟩
  · go_enter Try.func108, Try.ntmps108
    go_wp2_with fail
    go_ret
    exact ⟨ret_int (nth_out (by rw [hl.out]; omega)).symm, rfl⟩

def meetAt (a b : List Int) (k : Nat) : Int := min (pre a (k + 1)) (pre b (k + 1)) - min (pre a k) (pre b k)
def meetTo (a b : List Int) (k : Nat) : List Int := (List.range k).map (meetAt a b)
def meetF (a b : List Int) : List Int := meetTo a b (max a.length b.length)
theorem meetTo_succ (a b : List Int) (k : Nat) : meetTo a b (k + 1) = meetTo a b k ++ [meetAt a b k] := by simp [meetTo, List.range_succ]
theorem meetTo_length (a b : List Int) (k : Nat) : (meetTo a b k).length = k := by simp [meetTo]

set_option maxHeartbeats 800000 in
theorem meet_any (A A' : Option Addr) (n c n' c' : Nat) (xs ys : List Int) (w : World) (h : Ints w w.heap.size A n c xs) (h' : Ints w w.heap.size A' n' c' ys) (hx : Hid (Small 12 xs)) (hy : Hid (Small 12 ys)) (hn : n ≤ 1000) (hn' : n' ≤ 1000) :
    Calls Try.prog 89 #[.slice A n c, .slice A' n' c'] w fun e w' => ∃ v, e = .returned v ∧ Owned w' w.heap.size v (meetF xs ys) ∧ Below w.heap.size w w' := by
  have hl := hide h.len; have hl' := hide h'.len
  go_enter Try.func89, Try.ntmps89
  go_wp2_with fail
  go_loopw [15, 5, 6, 7, 8] (fun i v s t u wr => ∃ (k : Nat) (A1 : Option Addr) (c1 : Nat), k ≤ max n n' ∧ i = .int .i64 k ∧ v = .slice A1 k c1 ∧ s = .int .i64 (pre xs k) ∧ t = .int .i64 (pre ys k) ∧ u = .int .i64 (min (pre xs k) (pre ys k)) ∧ Owned wr w.heap.size (.slice A1 k c1) (meetTo xs ys k) ∧ Below w.heap.size w wr) (fun i _ _ _ _ _ => max n n' - (intOf i).toNat)
  case atStart => exact ⟨0, none, 0, Nat.zero_le _, rfl, rfl, rfl, rfl, rfl, World.ownsRow_nil _ _ _ _, Below.refl _ _⟩
  case round =>
    obtain ⟨k, A1, c1, hk, rfl, rfl, rfl, rfl, rfl, ho, hb⟩ := hrel
    obtain ⟨p1, p2⟩ := pre_bd (unhide hx) k; obtain ⟨p3, p4⟩ := pre_bd (unhide hy) k
    obtain ⟨p5, p6⟩ := (unhide hx) k; obtain ⟨p7, p8⟩ := (unhide hy) k
    by_cases hlt : (k : Int) < max (n : Int) (n' : Int)
    · have HS := hide (show pre xs (k + 1) = pre xs k + nth xs k from rfl); have HT := hide (show pre ys (k + 1) = pre ys k + nth ys k from rfl)
      go_wp2_with fail
      refine (at_any _ _ _ _ _ _ _ (h.below hb)).mono ?_
      rintro e w1 ⟨rfl, rfl⟩
      go_wp2_with fail
      refine (at_any _ _ _ _ _ _ _ (h'.below hb)).mono ?_
      rintro e w1 ⟨rfl, rfl⟩
      have hs := hb.size
      go_wp2_with (at_builtin
                   refine wpList_app (by rfl) (.tmp 28) (.tmp 34) (by rfl) (by rfl) (by rfl) (ho.alloc _) (ints_one wr _) (by rw [meetTo_length]; simp; omega) (by simp; omega) ?_
                   intro v1 w1 ho1 hg1 hat1)
      obtain ⟨A3, c3, e3, o3⟩ := ho1.shape (L' := meetTo xs ys (k + 1)) (meetTo_length _ _ _) (by rw [meetTo_succ]; rfl)
      have EE3 := hide e3; clear e3
      have hb3 := hide ((hb.alloc hb.size (.cells #[.int .i64 (meetAt xs ys k)] 3)).grown hg1 (by simp; omega) (fun j hj => (World.ownsRow.lt ho j hj).1))
      go_roundw
      case rel => exact ⟨k + 1, A3, c3, by omega, by go_num, EE3.out, by rw [HS.out], by rw [HT.out], by rw [HS.out, HT.out], o3, unhide hb3⟩
      case measure => simp [intOf]; omega
    · obtain rfl : k = max n n' := by omega
      go_wp2_with fail
      go_ret
      refine ⟨_, rfl, ?_, hb⟩
      rw [meetF, hl.out, hl'.out]
      exact ho

def cnt (xs : List Int) (i : Nat) : Nat → Int
  | 0 => 0
  | k + 1 => cnt xs i k + if (i : Int) < nth xs k then 1 else 0
theorem cnt_bd (xs : List Int) (i : Nat) : ∀ k : Nat, 0 ≤ cnt xs i k ∧ cnt xs i k ≤ k := by
  intro k
  induction k with
  | zero => simp [cnt]
  | succ k ih => simp only [cnt]; split <;> omega
def turnTo (xs : List Int) (k : Nat) : List Int := (List.range (nth xs 0).toNat).map fun i => cnt xs i k
/-- The parts turned over. -/
def turnF (xs : List Int) : List Int := turnTo xs xs.length
def turnIn (xs : List Int) (k j : Nat) : List Int := (List.range (nth xs 0).toNat).map fun i => cnt xs i k + if i < j then 1 else 0
theorem turnIn_zero (xs : List Int) (k : Nat) : turnIn xs k 0 = turnTo xs k := by simp [turnIn, turnTo]
theorem turnIn_all (xs : List Int) (k : Nat) : turnIn xs k (nth xs k).toNat = turnTo xs (k + 1) := by
  simp only [turnIn, turnTo, cnt]
  refine List.map_congr_left fun i _ => ?_
  by_cases h : (i : Int) < nth xs k
  · rw [if_pos h, if_pos (by omega)]
  · rw [if_neg h, if_neg (by omega)]
theorem turnIn_succ (xs : List Int) (k j : Nat) (hj : j < (nth xs 0).toNat) : turnIn xs k (j + 1) = (turnIn xs k j).set j (cnt xs j k + 1) := by
  apply List.ext_getElem
  · simp [turnIn]
  · intro i h1 h2
    simp only [turnIn, List.getElem_map, List.getElem_range, List.getElem_set]
    by_cases h : j = i
    · subst h; simp
    · rw [if_neg h]
      by_cases h3 : i < j
      · rw [if_pos (by omega), if_pos h3]
      · rw [if_neg (by omega), if_neg h3]
theorem turnIn_nth (xs : List Int) (k j : Nat) (hj : j < (nth xs 0).toNat) : nth (turnIn xs k j) j = cnt xs j k := by
  show (turnIn xs k j).getD j 0 = _
  rw [List.getD, turnIn, List.getElem?_map, List.getElem?_range hj]
  simp
theorem turnIn_length (xs : List Int) (k j : Nat) : (turnIn xs k j).length = (nth xs 0).toNat := by simp [turnIn]
theorem turnTo_length (xs : List Int) (k : Nat) : (turnTo xs k).length = (nth xs 0).toNat := by simp [turnTo]
theorem isFal_first {xs : List Int} (h : isFal xs = true) : ∀ {k : Nat}, k < xs.length → nth xs k ≤ nth xs 0 := by
  intro k
  induction k with
  | zero => intro _; omega
  | succ k ih =>
    intro hk
    rw [isFal, decide_eq_true_eq] at h
    have h1 := h (k + 1) hk (by omega)
    have h2 := ih (by omega)
    simp only [Nat.add_sub_cancel] at h1
    omega

theorem Owned.store {w : World} {base g n c : Nat} {xs : List Int} (h : Owned w base (.slice (some ⟨g, 0, none⟩) n c) xs) (hn : xs.length = n) (j : Nat) (z : Int) : Owned (w.setCell ⟨g, j, none⟩ (.int .i64 z)) base (.slice (some ⟨g, 0, none⟩) n c) (xs.set j z) := by
  unfold Owned at h ⊢
  rw [hn] at h
  have := (World.ownsRow.stored h j (.int .i64 z)).1
  rw [List.length_set, hn, List.map_set]
  exact this
theorem Owned.cell_ {w : World} {base g n c : Nat} {xs : List Int} (h : Owned w base (.slice (some ⟨g, 0, none⟩) n c) xs) (hn : xs.length = n) {j : Nat} (hj : j < n) : w.cell? ⟨g, j, none⟩ = some (.int .i64 (nth xs j)) := by
  unfold Owned at h
  rw [hn] at h
  rw [World.ownsRow.cellAt h j (by omega)]
  simp [nth, List.getD, show j < xs.length by omega]
theorem Owned.free_ {w : World} {base g n c : Nat} {xs : List Int} (h : Owned w base (.slice (some ⟨g, 0, none⟩) n c) xs) (hn : xs.length = n) (j : Nat) : w.frozen? ⟨g, j, none⟩ = false := by
  unfold Owned at h
  rw [hn] at h
  exact World.ownsRow.frozenAt h j
theorem made_zeros (n : Nat) : (madeCells (Value.int .i64 0).cells (n * 1)).toList = (List.replicate n (0 : Int)).map (Value.int .i64) := by
  apply List.ext_getElem
  · simp [madeCells]
  · intro i h1 h2
    simp [madeCells, Value.cells]
    rw [Nat.mod_one]
    rfl
theorem turnTo_start (xs : List Int) : turnTo xs 0 = List.replicate (nth xs 0).toNat 0 := by
  apply List.ext_getElem
  · simp [turnTo]
  · intro i h1 h2
    simp [turnTo, cnt]

set_option maxHeartbeats 800000 in
theorem turn_any (A : Option Addr) (n c : Nat) (xs : List Int) (w : World) (h : Ints w w.heap.size A n c xs) (hx : Hid (partsOk xs = true)) (hn1 : 1 ≤ n) :
    Calls Try.prog 90 #[.slice A n c] w fun e w' => ∃ v, e = .returned v ∧ Owned w' w.heap.size v (turnF xs) ∧ Below w.heap.size w w' := by
  have hl := hide h.len
  have hm := h.most; have hcap := h.cap
  obtain ⟨i0, hi0, hz0, hz1, hz2⟩ := info_parts info3
  obtain ⟨b, off, rfl, hb, hc0⟩ := h.at_ 0 (by omega)
  have hbd0 := partsOk_bd hx.out (k := 0) (by rw [hl.out]; omega)
  obtain ⟨m, hm0⟩ : ∃ m : Nat, nth xs 0 = m := ⟨(nth xs 0).toNat, by omega⟩
  rw [hm0] at hc0 hbd0
  rw [Nat.add_zero] at hc0
  have HM := hide hm0; clear hm0
  have hT := hide (show (nth xs 0).toNat = m from by rw [HM.out]; simp)
  have hb1 := hbd0.1; have hb2 := hbd0.2; clear hbd0
  have hlen12 : n ≤ 12 := by have := partsOk_len hx.out; have := hl.out; omega
  have hby := hide (show i0.bytes * m ≤ 281474976710656 from by rw [hz2]; omega)
  have hml := hide (show m ≤ maxLen from by unfold maxLen; omega)
  have HI := hide hi0; have H0 := hide hz0; have H1 := hide hz1
  clear hi0 hz0 hz1 hz2
  go_enter Try.func90, Try.ntmps90
  go_wp2_with (at_make
               refine wpList_make_full _ rfl _ _ 22 (by rfl) w.heap.size 3 i0 (.int .i64 0) 1 Try.underlying22 (unhide HI) (unhide H0) (unhide H1) .i64 .i64 _ _ m (by rfl) (by rfl) rfl rfl (unhide hby) (unhide hml) (Nat.le_refl _) ?_
               intro w1 hown1 hg1)
  have hO1 : Owned w1 w.heap.size (.slice (some ⟨w.heap.size, 0, none⟩) m m) (turnTo xs 0) := by
    rw [turnTo_start, hT.out]
    unfold Owned
    rw [List.length_replicate, ← made_zeros]
    exact hown1
  have hB1 : Below w.heap.size w w1 := (Below.refl _ _).grown hg1 (Nat.le_refl _) (fun k hk => by cases hk)
  have HO1 := hide hO1; clear hO1 hown1 hg1
  go_loopw [13] (fun i wr => ∃ k : Nat, k ≤ n ∧ i = .int .i64 k ∧ Owned wr w.heap.size (.slice (some ⟨w.heap.size, 0, none⟩) m m) (turnTo xs k) ∧ Below w.heap.size w wr) (fun i _ => n - (intOf i).toNat)
  case atStart => exact ⟨0, Nat.zero_le _, rfl, unhide HO1, hB1⟩
  case round =>
    obtain ⟨k, hk, rfl, ho, hbl⟩ := hrel
    have hO := hide ho; clear ho
    by_cases hlt : k < n
    · obtain ⟨b2, off2, e2, _, hc2⟩ := (h.below hbl).at_ k hlt
      simp only [Option.some.injEq, Addr.mk.injEq, and_true] at e2
      obtain ⟨rfl, rfl⟩ := e2
      have hbk := partsOk_bd hx.out (k := k) (by rw [hl.out]; exact hlt)
      have hfk := isFal_first (partsOk_fal hx.out) (k := k) (by rw [hl.out]; exact hlt)
      obtain ⟨v, hv0⟩ : ∃ v : Nat, nth xs k = v := ⟨(nth xs k).toNat, by omega⟩
      rw [hv0] at hc2 hbk hfk
      rw [HM.out] at hfk
      have HV := hide hv0; clear hv0
      have hvm : v ≤ m := by omega
      clear hbk hfk
      obtain ⟨wo, rfl⟩ : ∃ wo : World, wo = wr := ⟨_, rfl⟩
      go_wp2_with fail
      go_loopw [18] (fun i wr => ∃ j : Nat, j ≤ v ∧ i = .int .i64 j ∧ Owned wr w.heap.size (.slice (some ⟨w.heap.size, 0, none⟩) m m) (turnIn xs k j) ∧ Below w.heap.size w wr) (fun i _ => v - (intOf i).toNat)
      case atStart => exact ⟨0, Nat.zero_le _, rfl, by rw [turnIn_zero]; exact unhide hO, hbl⟩
      case round =>
        obtain ⟨j, hj, rfl, ho, hbl2⟩ := hrel
        by_cases hjv : j < v
        · have hjm : j < m := by omega
          have hlen := hide (show (turnIn xs k j).length = m from by rw [turnIn_length, hT.out])
          have hcell := ho.cell_ hlen.out hjm
          rw [turnIn_nth xs k j (by rw [hT.out]; exact hjm)] at hcell
          have hfree := ho.free_ hlen.out j
          obtain ⟨cb1, cb2⟩ := cnt_bd xs j k
          have ho2 := hide (ho.store hlen.out j (cnt xs j k + 1))
          rw [← turnIn_succ xs k j (by rw [hT.out]; exact hjm)] at ho2
          have hbl3 := hide (hbl2.setCell (p := ⟨w.heap.size, j, none⟩) (Nat.le_refl _) (.int .i64 (cnt xs j k + 1)))
          clear ho
          go_wp2_with fail
          go_roundw
          case rel => exact ⟨j + 1, by omega, by go_num, unhide ho2, unhide hbl3⟩
          case measure => simp [intOf]; omega
        · obtain rfl : j = v := by omega
          have ho2 := hide ho; clear ho
          go_wp2_with fail
          go_roundw
          case rel => exact ⟨k + 1, by omega, by go_num, by have := unhide ho2; rwa [show j = (nth xs k).toNat from by rw [HV.out]; simp, turnIn_all] at this, hbl2⟩
          case measure => simp [intOf]; omega
    · obtain rfl : k = n := by omega
      go_wp2_with fail
      go_ret
      refine ⟨_, rfl, ?_, hbl⟩
      have := unhide hO
      rw [turnF, hl.out]
      exact this
end Go.Proofs.Ytmpdalcdkibgpaa
