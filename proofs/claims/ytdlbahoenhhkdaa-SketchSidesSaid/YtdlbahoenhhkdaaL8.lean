import Derived.Test.YtdlbahoenhhkdaaTj
/-
  The law SketchSides walked.
-/
namespace Go.Proofs.Ytdlbahoenhhkdaa
open Go.RowKit

/-- append of a slice of numbers onto one of the call's own; what is older than 'base' stays. -/
theorem wpList_appX {w : World} {ops : Array Oper} {rest : List Oper} {o : Oper} {a : Act} {Q : Exit → Act → World → Prop} (hg : o.guard = none) (s x : Operand)
    (hop : o.op = .call { callee := .builtin .append, args := #[s, x], argTypes := #[22, 22] })
    {base B m c : Nat} {v : Value} {xs ys : List Int} {A : Option Addr} (hs : a.eval s = v) (hx : a.eval x = .slice A m c) (ho : Owned w base v xs) (hi : Ints w B A m c ys) (hl : xs.length + ys.length ≤ 1000000) (hbase : base ≤ w.heap.size)
    (h : ∀ v' w', Owned w' base v' (xs ++ ys) → Below base w w' → wpList Try.prog ops Q rest (a.put o.dst v') w') : wpList Try.prog ops Q (o :: rest) a w :=
  wpList_app hg s x hop hs hx ho hi hl hbase fun v' w' h2 h3 _ => h v' w' h2 ((Below.refl base w).grown h3 hbase (fun k hk => (World.ownsRow.lt ho k hk).1))

set_option maxRecDepth 100000 in
set_option maxHeartbeats 1000000 in
theorem LSides_no (A A' : Option Addr) (n c n' c' : Nat) (xs : List Int) (d m : Int) (w : World) (h : Ints w w.heap.size A n c xs) (hs : Hid ((sizeB d m && isStr xs) = false)) :
    Calls Try.prog 12 #[.int .i64 d, .int .i64 m, .slice A n c, .slice A' n' c'] w fun e w' => e = .returned (.bool true) ∧ Below w.heap.size w w' := by
  have hs1 := hide (show (sizeB d m && isStr (xs.take 45)) = false from by rw [isStr_take]; exact hs.out)
  go_enter Try.func12, Try.ntmps12
  go_wp2_with fail
  refine (list_ints _ _ _ _ _ _ h (Nat.le_refl _)).mono ?_
  rintro e w1 ⟨A1, n1, c1, rfl, i1, b1⟩
  go_wp2_with fail
  refine (Table_no _ _ _ _ _ _ _ _ i1 hs1).mono ?_
  rintro e w3 ⟨rfl, rfl⟩
  go_wp2_with (go_at_call 21; refine (awake_any _).mono ?_; rintro e w3 ⟨rfl, b3⟩)
  go_ret
  exact ⟨rfl, b1.trans (b3.mono b1.size)⟩

set_option maxRecDepth 100000 in
set_option maxHeartbeats 2000000 in
theorem LSides_ok (A A' : Option Addr) (n c n' c' : Nat) (xs ys : List Int) (d m : Nat) (w : World) (h : Ints w w.heap.size A n c xs) (h' : Ints w w.heap.size A' n' c' ys) (H1 : Hid (sizeB (d : Int) (m : Int) = true)) (H2 : Hid (isStr xs = true)) :
    Calls Try.prog 12 #[.int .i64 (d : Int), .int .i64 (m : Int), .slice A n c, .slice A' n' c'] w fun e w' => e = .returned (.bool true) ∧ Below w.heap.size w w' := by
  have hm := h.most; have hcap := h.cap; have hm' := h'.most; have hcap' := h'.cap
  have hl := hide h.len; have hl' := hide h'.len
  have hn : n ≤ 40 := by have := isStr_len H2.out; have := hl.out; omega
  have hx := hide (take_of_str H2.out)
  obtain ⟨d1, d2, m1, m2⟩ := sizeB_bd H1.out
  have HT := hide (isTab_tab H2.out H1.out)
  go_enter Try.func12, Try.ntmps12
  go_wp2_with fail
  refine (list_ints _ _ _ _ _ _ h (Nat.le_refl _)).mono ?_
  rintro e w1 ⟨A1, n1, c1, rfl, i1, b1⟩
  rw [hx.out] at i1
  go_wp2_with fail
  refine (Table_ok _ _ _ _ _ _ _ i1 H1 H2).mono ?_
  rintro e w3 ⟨rfl, t3, b3⟩
  have b3' := b1.trans (b3.mono b1.size)
  have j1 := h.below b3'
  obtain ⟨g, hg⟩ : ∃ g, w1.heap.size = g := ⟨_, rfl⟩
  rw [hg] at t3 ⊢
  clear hg i1 b1 b3
  go_wp2_with (first
    | (go_at_call 36; refine (RSize_is _ _ _ _ H1).mono ?_; rintro e w4 ⟨rfl, rfl⟩)
    | (go_at_call 20; refine (RStream_is _ _ _ _ _ _ j1 _ H2).mono ?_; rintro e w4 ⟨rfl, rfl⟩))
  go_loopw [12, 13, 15, 53] (fun _ _ _ i wr => ∃ r : Nat, r ≤ d ∧ i = .int .i64 r ∧ w3 = wr) (fun _ _ _ i _ => d - (intOf i).toNat)
  case atStart => exact ⟨0, Nat.zero_le _, rfl, rfl⟩
  case round =>
    obtain ⟨r, hr, rfl, rfl⟩ := hrel
    by_cases hlr : r < d
    · have c0 := t3.cell hlr
      go_wp2
      go_loopw [13, 15, 59] (fun a _ i wr => ∃ k : Nat, k ≤ m ∧ i = .int .i64 k ∧ a = .int .i64 (sumK (fun i => tabF xs m r i) k) ∧ w3 = wr) (fun _ _ i _ => m - (intOf i).toNat)
      case atStart => exact ⟨0, Nat.zero_le _, rfl, rfl, rfl⟩
      case round =>
        obtain ⟨k, hk, rfl, rfl, rfl⟩ := hrel
        by_cases hlk : k < m
        · have c1 := t3.at_ hlr hlk
          obtain ⟨s1, s2⟩ := sumTab_bd H2.out m r k
          have v1 := tabF_nonneg xs m r k
          have v2 := tabF_le H2.out m r k
          have v3 : tabF xs m r k ≤ 40 := by have := isStr_len H2.out; omega
          have HS := hide (show sumK (fun i => tabF xs m r i) (k + 1) = sumK (fun i => tabF xs m r i) k + tabF xs m r k from rfl)
          go_wp2
          go_roundw
          case rel => exact ⟨k + 1, by omega, by go_num, by rw [HS.out], trivial⟩
          case measure => simp [intOf]; omega
        · obtain rfl : m = k := by omega
          have hsum : sumK (fun i => tabF xs m r i) m = (n : Int) := by rw [tab_sum H2.out m r (by omega), hl.out]
          go_wp2
          go_roundw
          case rel => exact ⟨r + 1, by omega, by go_num, trivial⟩
          case measure => simp [intOf]; omega
    · go_wp2
      go_loopw [16, 17, 18, 19, 20, 72] (fun _ _ _ _ _ i wr => ∃ j : Nat, j ≤ 16 ∧ i = .int .i64 j ∧ Below w3.heap.size w3 wr) (fun _ _ _ _ _ i _ => 16 - (intOf i).toNat)
      case atStart => exact ⟨0, by omega, rfl, Below.refl _ _⟩
      case round =>
        obtain ⟨j, hj, rfl, hb⟩ := hrel
        have hb' := b3'.trans (hb.mono b3'.size)
        by_cases hlj : j < 16
        · have hkey : isKeyB (j : Int) = true := by simp [isKeyB]; omega
          have HK := hide hkey; clear hkey
          obtain ⟨a1, a2⟩ := ask_tab H2.out H1.out j
          have a3 : ask (tabL d m (tabF xs m)) j ≤ n := by rw [hl.out] at a2; exact a2
          have HC := hide (cutT_of_tab HT.out)
          go_wp2_with fail
          refine (list_ints _ _ _ _ _ _ (h.below hb') hb'.size).mono ?_
          rintro e w4 ⟨A4, n4, c4, rfl, i4, b4⟩
          rw [hx.out] at i4
          go_wp2_with fail
          refine (Often_ok _ _ _ _ _ _ i4 H2 HK).mono ?_
          rintro e w5 ⟨rfl, b5⟩
          have b45 := b4.trans (b5.mono b4.size)
          have b5' := hb.trans (b45.mono hb.size)
          have r5 := (t3.below b5').rows_ (by omega) (by omega)
          go_wp2_with fail
          refine (tableC_any _ _ _ _ _ r5).mono ?_
          rintro e w6 ⟨v6, rfl, o6, b6⟩
          rw [HC.out] at o6
          obtain ⟨A6, n6, c6, rfl, i6⟩ := o6.to
          have b6' := b5'.trans (b6.mono b5'.size)
          go_wp2_with fail
          refine (Ask_ok _ _ _ _ _ _ _ i6 HT HK).mono ?_
          rintro e w7 ⟨rfl, rfl⟩
          go_wp2_with fail
          go_roundw
          case rel => exact ⟨j + 1, by omega, by go_num, b6'⟩
          case measure => simp [intOf]; omega
        · have t4 := t3.below hb
          have r4 := t4.rows_ (by omega) (by omega)
          go_wp2_with fail
          refine (list_ints _ _ _ _ _ _ (h'.below hb') hb'.size).mono ?_
          rintro e w4 ⟨A4, n4, c4, rfl, i4, b4⟩
          have b4' := hb'.trans (b4.mono hb'.size)
          rcases hu : isStr ys
          · have hs1 := hide (show (sizeB (d : Int) (m : Int) && isStr (ys.take 45)) = false from by rw [isStr_take, hu, Bool.and_false])
            go_wp2_with fail
            refine (Table_no _ _ _ _ _ _ _ _ i4 hs1).mono ?_
            rintro e w5 ⟨rfl, rfl⟩
            go_wp2_with (go_at_call 21; refine (awake_any _).mono ?_; rintro e w5 ⟨rfl, b5⟩)
            go_ret
            exact ⟨rfl, b4'.trans (b5.mono b4'.size)⟩
          · have H3 := hide hu
            have hy := hide (take_of_str hu)
            have hn' : n' ≤ 40 := by have := isStr_len hu; have := hl'.out; omega
            rw [hy.out] at i4
            have HADD := hide (add_tabs H2.out H3.out H1.out)
            clear hu
            go_wp2_with fail
            refine (Table_ok _ _ _ _ _ _ _ i4 H1 H3).mono ?_
            rintro e w5 ⟨rfl, t5, b5⟩
            obtain ⟨g5, hg5⟩ : ∃ g5, w4.heap.size = g5 := ⟨_, rfl⟩
            rw [hg5] at t5 ⊢
            clear hg5
            have b45 := b4.trans (b5.mono b4.size)
            have b5' := hb'.trans (b45.mono hb'.size)
            have HC := hide (cutT_of_tab HT.out)
            go_wp2_with fail
            refine (tableC_any _ _ _ _ _ ((r4.below b45).more b45.size)).mono ?_
            rintro e w6 ⟨v6, rfl, o6, b6⟩
            rw [HC.out] at o6
            obtain ⟨A6, n6, c6, rfl, i6⟩ := o6.to
            have b6' := b5'.trans (b6.mono b5'.size)
            have r5 := (t5.below b6).rows_ (by omega) (by omega)
            go_wp2_with fail
            refine (Add_all _ _ _ _ _ _ _ _ _ i6 r5).mono ?_
            rintro e w7 ⟨A7, n7, c7, rfl, i7, b7⟩
            rw [HADD.out.1]
            have b7' := b6'.trans (b7.mono b6'.size)
            go_wp2_with fail
            refine (list_any _ _ _ _ _ _ (h.below b7') b7'.size).mono ?_
            rintro e w8 ⟨v8, rfl, o8, b8⟩
            rw [hx.out] at o8
            have b8' := b7'.trans (b8.mono b7'.size)
            have i8 := h'.below b8'
            have hll : xs.length + ys.length ≤ 1000000 := by rw [hl.out, hl'.out]; omega
            have hbase := b8.size
            go_wp2_with (at_builtin; refine wpList_appX rfl _ _ rfl rfl rfl o8 i8 hll hbase ?_; intro v9 w9 o9 b9)
            obtain ⟨A9, n9, c9, rfl, _, i9⟩ := o9.some_
            have b9' := b7'.trans ((b8.trans b9).mono b7'.size)
            have b79 := b8.trans b9
            by_cases h40 : 40 < n + n'
            · have hs1 := hide (show (sizeB (d : Int) (m : Int) && isStr (xs ++ ys)) = false from by rw [isStr_app_no (by rw [hl.out, hl'.out]; exact h40), Bool.and_false])
              refine (Table_no _ _ _ _ _ _ _ _ i9 hs1).mono ?_
              rintro e wa ⟨rfl, rfl⟩
              have h40' : (40 : Int) < (n : Int) + n' := by omega
              go_wp2_with (go_at_call 21; refine (awake_any _).mono ?_; rintro e wa ⟨rfl, ba⟩)
              go_ret
              exact ⟨rfl, b9'.trans (ba.mono b9'.size)⟩
            · have H5 := hide (isStr_app H2.out H3.out (by rw [hl.out, hl'.out]; omega))
              have HE := hide (HADD.out.2 (by rw [hl.out, hl'.out]; omega))
              have h40' : (n : Int) + n' ≤ 40 := by omega
              refine (Table_ok _ _ _ _ _ _ _ i9 H1 H5).mono ?_
              rintro e wa ⟨rfl, ta, ba⟩
              obtain ⟨ga, hga⟩ : ∃ ga, w9.heap.size = ga := ⟨_, rfl⟩
              have ba' := b9'.trans (ba.mono b9'.size)
              have b7a := b79.trans (ba.mono b79.size)
              rw [hga] at ta ⊢
              clear hga
              have ra := ta.rows_ (by omega) (by omega)
              rw [HE.out] at i7
              go_wp2_with fail
              refine (equalT_is _ _ _ _ _ _ _ _ _ _ _ (i7.below b7a) ra (hide rfl)).mono ?_
              rintro e wb ⟨rfl, q, rfl⟩
              have bb := Below.drewN' ba' q
              go_wp2_with (go_at_call 21; refine (awake_any _).mono ?_; rintro e wc ⟨rfl, bc⟩)
              go_ret
              exact ⟨rfl, bb.trans (bc.mono bb.size)⟩

theorem LSides_any (A : Option Addr) (n c : Nat) (xs : List Int) (A' : Option Addr) (n' c' : Nat) (ys : List Int) (d m : Int) (w : World) (h : Ints w w.heap.size A n c xs) (h' : Ints w w.heap.size A' n' c' ys) :
    Calls Try.prog 12 #[.int .i64 d, .int .i64 m, .slice A n c, .slice A' n' c'] w fun e w' => e = .returned (.bool true) ∧ Below w.heap.size w w' := by
  rcases hv : (sizeB d m && isStr xs)
  · exact LSides_no _ _ _ _ _ _ _ _ _ _ h (hide hv)
  · simp only [Bool.and_eq_true] at hv
    obtain ⟨h1, h2⟩ := hv
    have hb := sizeB_bd h1
    obtain ⟨d', rfl⟩ : ∃ d' : Nat, d = d' := ⟨d.toNat, by omega⟩
    obtain ⟨m', rfl⟩ : ∃ m' : Nat, m = m' := ⟨m.toNat, by omega⟩
    exact LSides_ok _ _ _ _ _ _ _ _ _ _ _ h h' (hide h1) (hide h2)
end Go.Proofs.Ytdlbahoenhhkdaa
