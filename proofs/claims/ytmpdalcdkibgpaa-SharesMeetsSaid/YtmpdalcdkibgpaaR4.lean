import Derived.Test.YtmpdalcdkibgpaaR5
namespace Go.Proofs.Ytmpdalcdkibgpaa
open Go.RowKit Go.Sort

theorem flatMap_congr' {α β : Type} {l : List α} {f g : α → List β} (h : ∀ x, x ∈ l → f x = g x) : l.flatMap f = l.flatMap g := by
  rw [List.flatMap_def, List.flatMap_def, List.map_congr_left h]
theorem allF_fuel : ∀ (f f' n most : Nat), n ≤ f → n ≤ f' → allF f n most = allF f' n most := by
  intro f
  induction f with
  | zero =>
    intro f' n most h h'
    obtain rfl : n = 0 := by omega
    cases f' <;> simp [allF]
  | succ f ih =>
    intro f' n most h h'
    rcases Nat.eq_zero_or_pos n with h0 | h0
    · subst h0; cases f' <;> simp [allF]
    · obtain ⟨f', rfl⟩ : ∃ g, f' = g + 1 := ⟨f' - 1, by omega⟩
      rw [allF, allF, if_neg (by omega), if_neg (by omega)]
      refine flatMap_congr' fun x hx => ?_
      have hx1 := (mem_downTo.1 hx).1
      rw [ih f' (n - x) x (by omega) (by omega)]
def gA (n x : Nat) : List (List Int) := (allF (n - x) (n - x) x).map fun l => (x : Int) :: l
def accA (n m z : Nat) : List (List Int) := ((downTo m).take (m - z)).flatMap (gA n)
theorem downTo_length (m : Nat) : (downTo m).length = m := by induction m <;> simp [downTo, *]
theorem downTo_split : ∀ (m z : Nat), 1 ≤ z → z ≤ m → downTo m = (downTo m).take (m - z) ++ z :: downTo (z - 1) := by
  intro m
  induction m with
  | zero => intro z h1 h2; omega
  | succ m ih =>
    intro z h1 h2
    rcases Nat.lt_or_ge m z with h | h
    · obtain rfl : z = m + 1 := by omega
      simp [downTo]
    · have e := ih z h1 h
      rw [show m + 1 - z = (m - z) + 1 from by omega, downTo, List.take_succ_cons, List.cons_append, ← e]
theorem accA_start (n m : Nat) : accA n m m = [] := by simp [accA]
theorem take_aux {L P R : List Nat} {z : Nat} (h : L = P ++ z :: R) : L.take (P.length + 1) = P ++ [z] := by
  subst h; simp [List.take_append]; exact List.take_of_length_le (by omega)
theorem accA_step {n m z : Nat} (h1 : 1 ≤ z) (h2 : z ≤ m) : accA n m (z - 1) = accA n m z ++ gA n z := by
  have e := downTo_split m z h1 h2
  have hl : ((downTo m).take (m - z)).length = m - z := by rw [List.length_take, downTo_length]; omega
  have e2 : (downTo m).take (m - (z - 1)) = (downTo m).take (m - z) ++ [z] := by
    rw [show m - (z - 1) = ((downTo m).take (m - z)).length + 1 from by rw [hl]; omega]
    exact take_aux e
  rw [accA, e2, List.flatMap_append, accA]
  simp
theorem accA_all {n most : Nat} (h : 1 ≤ n) : accA n (min n most) 0 = allF n n most := by
  obtain ⟨k, rfl⟩ : ∃ k, n = k + 1 := ⟨n - 1, by omega⟩
  rw [allF, if_neg (by omega), accA, Nat.sub_zero, List.take_of_length_le (by rw [downTo_length]; omega)]
  refine flatMap_congr' fun x hx => ?_
  have hx1 := (mem_downTo.1 hx).1
  rw [gA, allF_fuel k (k + 1 - x) (k + 1 - x) x (by omega) (by omega)]
theorem accA_len {n most z : Nat} (h : 1 ≤ n) (h1 : 1 ≤ z) (h2 : z ≤ min n most) : (accA n (min n most) z).length + (gA n z).length ≤ (allF n n most).length := by
  rw [← accA_all (most := most) h]
  have e := downTo_split (min n most) z h1 h2
  have : accA n (min n most) 0 = accA n (min n most) z ++ (gA n z ++ (downTo (z - 1)).flatMap (gA n)) := by
    rw [accA, Nat.sub_zero, List.take_of_length_le (by rw [downTo_length]; omega)]
    conv => lhs; rw [e]
    rw [List.flatMap_append, List.flatMap_cons, accA]
  rw [this, List.length_append, List.length_append]
  omega
set_option maxRecDepth 100000 in
theorem all_small : (List.range 13).all (fun n => (List.range 13).all fun m => decide ((allF n n m).length ≤ 100)) = true := by decide +kernel
theorem allF_small {n m : Nat} (h : n ≤ 12) (h' : m ≤ 12) : (allF n n m).length ≤ 100 := by
  have := List.all_eq_true.1 (List.all_eq_true.1 all_small n (List.mem_range.2 (by omega))) m (List.mem_range.2 (by omega))
  simpa using this
theorem take_row (l : List (List Int)) (t : Nat) (h : t < l.length) : l.take (t + 1) = l.take t ++ [row l t] := by
  rw [List.take_succ_eq_append_getElem h]; simp [row, List.getD, h]

theorem allF_len : ∀ (f n m : Nat) (l : List Int), l ∈ allF f n m → l.length ≤ f := by
  intro f
  induction f with
  | zero =>
    intro n m l h
    rw [allF] at h
    split at h
    · simp at h; subst h; simp
    · simp at h
  | succ f ih =>
    intro n m l h
    rw [allF] at h
    split at h
    · simp at h; subst h; simp
    · obtain ⟨x, _, h2⟩ := List.mem_flatMap.1 h
      obtain ⟨l', h3, rfl⟩ := List.mem_map.1 h2
      have := ih _ _ _ h3
      simp; omega
theorem row_in {l : List (List Int)} {k : Nat} (h : k < l.length) : row l k ∈ l := by simp [row, List.getD, h]
theorem row_gA {n z t : Nat} (h : t < (allF (n - z) (n - z) z).length) : row (gA n z) t = (z : Int) :: row (allF (n - z) (n - z) z) t := by
  simp [row, gA, List.getD, h]
theorem Owned.is {w : World} {base n c : Nat} {A : Option Addr} {xs : List Int} (h : Owned w base (.slice A n c) xs) : Ints w w.heap.size A n c xs := by
  obtain ⟨A', c', e, i⟩ := h.ints
  simp only [Value.slice.injEq] at e
  obtain ⟨rfl, rfl, rfl⟩ := e
  exact i
theorem owned_one (w : World) (z : Int) (base : Nat) (h : base ≤ w.heap.size) : Owned (w.alloc (.cells #[.int .i64 z] 3)) base (.slice (some ⟨w.heap.size, 0, none⟩) 1 1) [z] :=
  ⟨rfl, .inr ⟨w.heap.size, 1, #[.int .i64 z], rfl, h, heap_alloc_new w _, Nat.le_refl _, by unfold maxLen; omega, rfl, rfl⟩⟩
/-- One slice that holds no numbers, in a new block. -/
theorem rows_nil (w : World) : RowsF (w.alloc (.cells #[.slice none 0 0] 22)) w.heap.size (w.heap.size + 1) (some ⟨w.heap.size, 0, none⟩) 1 1 [[]] := by
  have hc : (w.alloc (.cells #[.slice none 0 0] 22)).cell? ⟨w.heap.size, 0, none⟩ = some (.slice none 0 0) := by
    rw [World.cell?_alloc_at _ _ _ _ rfl]; rfl
  refine ⟨⟨rfl, Nat.le_refl _, by omega, (fun e => by cases e), fun k hk => ⟨w.heap.size, 0, none, 0, 0, rfl, by omega, ?_, ?_⟩⟩, fun b off e _ => by cases e; exact Nat.le_refl _, fun b off k A' n' c' e hk hcell b' o' e' => ?_⟩
  · obtain rfl : k = 0 := by omega
    exact hc
  · obtain rfl : k = 0 := by omega
    exact Ints.none_ _ _
  · cases e
    obtain rfl : k = 0 := by omega
    rw [hc] at hcell
    cases hcell
    cases e'
theorem RowsF.more {w : World} {lo B B' n c : Nat} {A : Option Addr} {xss : List (List Int)} (h : RowsF w lo B A n c xss) (hB : B ≤ B') : RowsF w lo B' A n c xss := ⟨h.rows.more hB, h.low, h.lows⟩

set_option maxHeartbeats 2000000 in
theorem All_any (N : Nat) : ∀ (n most : Nat) (nI mI : Int) (w : World), n ≤ N → n ≤ 12 → most ≤ 12 → nI = n → mI = most →
    Calls Try.prog 91 #[.int .i64 nI, .int .i64 mI] w fun e w' => ∃ A k c, e = .returned (.slice A k c) ∧ RowsF w' w.heap.size w'.heap.size A k c (allF n n most) ∧ Below w.heap.size w w' := by
  induction N with
  | zero =>
    intro n most nI mI w h1 h2 h3 h4 h5
    subst h4 h5
    obtain rfl : n = 0 := by omega
    have hr := hide (rows_nil w)
    go_enter Try.func91, Try.ntmps91
    go_wp2_with fail
    go_ret
    exact ⟨_, _, _, rfl, by have := (unhide hr).more (B' := (w.alloc (.cells #[.slice none 0 0] 22)).heap.size) (by simp); cases most <;> exact this, (Below.refl _ _).alloc (Nat.le_refl _) _⟩
  | succ N ih =>
    intro n most nI mI w h1 h2 h3 h4 h5
    subst h4 h5
    have IH := hide ih; clear ih
    rcases Nat.eq_zero_or_pos n with h0 | h0
    · subst h0
      have hr := hide (rows_nil w)
      go_enter Try.func91, Try.ntmps91
      go_wp2_with fail
      go_ret
      exact ⟨_, _, _, rfl, by have := (unhide hr).more (B' := (w.alloc (.cells #[.slice none 0 0] 22)).heap.size) (by simp); cases most <;> exact this, (Below.refl _ _).alloc (Nat.le_refl _) _⟩
    · have hn0 : ((n : Int) == 0) = false := by simp; omega
      obtain ⟨m, hm⟩ : ∃ m, min n most = m := ⟨_, rfl⟩
      have hmI : min (n : Int) (most : Int) = m := by omega
      have hmn : m ≤ n := by omega
      have hm12 : m ≤ 12 := by omega
      have HM := hide hm; have HMI := hide hmI; clear hm hmI
      go_enter Try.func91, Try.ntmps91
      go_wp2_with fail
      go_loopw [6, 5] (fun i v wr => ∃ (z : Nat) (A1 : Option Addr) (n1 c1 : Nat), z ≤ m ∧ i = .int .i64 z ∧ v = .slice A1 n1 c1 ∧ OwnedF wr w.heap.size (.slice A1 n1 c1) (accA n m z) ∧ Below w.heap.size w wr) (fun i _ _ => (intOf i).toNat)
      case atStart => exact ⟨m, none, 0, 0, Nat.le_refl _, by rw [HMI.out], rfl, by rw [accA_start]; exact ownedF_nil _ _, Below.refl _ _⟩
      case round =>
        obtain ⟨z, A1, n1, c1, hz, rfl, rfl, ho, hb⟩ := hrel
        have HO := hide ho; have HB := hide hb; clear ho hb
        rcases Nat.eq_zero_or_pos z with hz0 | hz0
        · subst hz0
          go_wp2_with fail
          go_ret
          obtain ⟨A4, n4, c4, e4, hr⟩ := (unhide HO).rowsF
          cases e4
          rw [← HM.out, accA_all h0] at hr
          exact ⟨_, _, _, rfl, hr, unhide HB⟩
        · have hacc := hide (accA_step (n := n) hz0 hz)
          have hlen := hide (show (accA n m z).length + (gA n z).length ≤ 100 from by
            have h7 := accA_len (n := n) (most := most) (z := z) h0 hz0 (by rw [HM.out]; exact hz)
            have h8 := allF_small h2 h3
            rw [HM.out] at h7; omega)
          obtain ⟨wo, hwo⟩ : ∃ wo : World, wo = wr := ⟨_, rfl⟩
          subst hwo
          go_wp2_with fail
          refine ((unhide IH) (n - z) z _ _ _ (by omega) (by omega) (by omega) (by omega) rfl).mono ?_
          rintro e w2 ⟨A2, k2, c2, rfl, hr2, hb2⟩
          have HB2 := hide ((unhide HB).trans (hb2.mono (unhide HB).size))
          have HO2 := hide ((unhide HO).below hb2)
          have hl2 := hide hr2.rows.len
          have hm2 := hr2.rows.most; have hc2 := hr2.rows.cap
          have HR2 := hide hr2
          have hold := hide (show ∀ b, (Value.slice A1 n1 c1).ownBlock = some b → b < wo.heap.size ∨ w2.heap.size ≤ b from fun b hb => .inl ((unhide HO).lt b hb).2)
          clear hr2 hb2 HO HB
          have hg2 := hide (show (gA n z).length = k2 from by rw [gA, List.length_map, hl2.out])
          go_wp2_with fail
          go_loopw [25, 5] (fun i v wr => ∃ (t : Nat) (A3 : Option Addr) (n3 c3 : Nat), t ≤ k2 ∧ i = .int .i64 t ∧ v = .slice A3 n3 c3 ∧ OwnedF wr w.heap.size (.slice A3 n3 c3) (accA n m z ++ (gA n z).take t) ∧ RowsF wr wo.heap.size w2.heap.size A2 k2 c2 (allF (n - z) (n - z) z) ∧
              w2.heap.size ≤ wr.heap.size ∧ Hid (∀ b, (Value.slice A3 n3 c3).ownBlock = some b → b < wo.heap.size ∨ w2.heap.size ≤ b) ∧ Below w.heap.size w wr) (fun i _ _ => k2 - (intOf i).toNat)
          case atStart => exact ⟨0, A1, n1, c1, Nat.zero_le _, rfl, rfl, by simpa using unhide HO2, unhide HR2, Nat.le_refl _, hold, unhide HB2⟩
          case round =>
            obtain ⟨t, A3, n3, c3, ht, rfl, rfl, ho3, hr3, hsz, hold3, hbW⟩ := hrel
            have HO3 := hide ho3; have HR3 := hide hr3; have HBW := hide hbW; clear ho3 hr3 hbW
            by_cases hlt : t < k2
            · obtain ⟨b5, o5, rfl⟩ := (unhide HR3).rows.addr (by omega)
              obtain ⟨A6, n6, c6, hcell, hi6⟩ := (unhide HR3).rows.get hlt
              have HI6 := hide (hi6.more hsz); clear hi6
              have hl6 := hide (unhide HI6).len
              have h6n : n6 ≤ 12 := by have := allF_len _ _ _ _ (row_in (l := allF (n - z) (n - z) z) (k := t) (by rw [hl2.out]; exact hlt)); have := hl6.out; omega
              have hgt := hide (take_row (gA n z) t (by rw [hg2.out]; exact hlt))
              have hrow := hide (row_gA (n := n) (z := z) (t := t) (by rw [hl2.out]; exact hlt))
              go_wp2_with (first
                | (at_builtin
                   refine wpList_app (by rfl) (.tmp 31) (.tmp 32) (by rfl) (by rfl) (by rfl) (owned_one wr z wr.heap.size (Nat.le_refl _)) ((unhide HI6).alloc (Nat.le_refl _) _) (by have := hl6.out; simp; omega) (by simp) ?_
                   intro v1 w1 ho1 hg1 hat1
                   have hb1 : Below wr.heap.size wr w1 := ((Below.refl _ _).alloc (Nat.le_refl _) _).grown hg1 (by simp) (fun k hk => row_new (Nat.le_refl _) hk)
                   obtain ⟨g1, cc1, rfl, _, _, _, ho1'⟩ := ho1.head (n := n6 + 1) (by have := hl6.out; simp; omega) (by omega)
                   have HE1 := hide (ho1'.elemF (g := (Value.slice A3 n3 c3).ownBlock) (base0 := w.heap.size) (fun b hb => ((unhide HO3).lt b hb).2) (unhide HBW).size)
                   have HI9 := hide ho1'.is
                   have HO4 := hide ((unhide HO3).below hb1)
                   have HR4 := hide ((unhide HR3).below (hb1.mono hsz))
                   have HB1 := hide hb1
                   clear ho1 ho1' hg1 hat1 hb1)
                | (at_builtin
                   refine wpList_appF (by rfl) (.tmp 29) (.tmp 34) (by rfl) (by rfl) (by rfl) (unhide HO4) (unhide HI9) (unhide HE1) (by have := hlen.out; rw [List.length_append, List.length_take]; omega) (Nat.le_trans (unhide HBW).size (unhide HB1).size) ?_
                   intro v5 w5 ho5 hg5 hat5
                   obtain ⟨A7, c7, e7, _⟩ := ho5.rows
                   have hsz1 := (unhide HB1).size
                   have HO5 := hide ho5; have E7 := hide e7
                   have HB5 := hide ((((unhide HB1).mono (unhide HBW).size)).grown hg5 (Nat.le_trans (unhide HBW).size hsz1) (fun b hb => ((unhide HO4).lt b hb).1))
                   have HR5 := hide ((unhide HR4).keep (fun b h7 h8 => hg5.block b (by omega) (fun e => by have := (unhide hold3) b e.symm; omega)))
                   have hsz5 : w2.heap.size ≤ w5.heap.size := by have := hg5.size; omega
                   have hold5 := hide (show ∀ b, v5.ownBlock = some b → b < wo.heap.size ∨ w2.heap.size ≤ b from fun b hb => by
                     rcases hat5 with e | e
                     · exact (unhide hold3) b (by rw [← e]; exact hb)
                     · rw [e] at hb; cases hb; omega)
                   clear ho5 hg5 hat5 e7 hsz1))
              have HW5 := hide ((unhide HBW).trans (unhide HB5))
              go_roundw
              case rel => exact ⟨t + 1, A7, _, c7, by omega, by go_num, E7.out, by rw [← E7.out, hgt.out, hrow.out, ← List.append_assoc]; exact unhide HO5, unhide HR5, hsz5, by rw [← E7.out]; exact hold5, unhide HW5⟩
              case measure => simp [intOf]; omega
            · obtain rfl : t = k2 := by omega
              go_wp2_with fail
              go_roundw
              case rel => exact ⟨z - 1, A3, n3, c3, by omega, by go_num, rfl, by rw [hacc.out]; have := unhide HO3; rwa [List.take_of_length_le (by rw [hg2.out]; exact Nat.le_refl _)] at this, unhide HBW⟩
              case measure => simp [intOf]; omega
end Go.Proofs.Ytmpdalcdkibgpaa
