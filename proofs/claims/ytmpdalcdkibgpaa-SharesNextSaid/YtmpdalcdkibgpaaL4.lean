import Derived.Test.YtmpdalcdkibgpaaR3
namespace Go.Proofs.Ytmpdalcdkibgpaa
open Go.RowKit Go.Sort

def scan (a b : List Int) : Nat → Int × Int
  | 0 => (-1, -1)
  | i + 1 => if nth a i = nth b i + 1 ∧ (scan a b i).1 < 0 then ((i : Int), (scan a b i).2) else if nth b i = nth a i + 1 ∧ (scan a b i).2 < 0 then ((scan a b i).1, (i : Int)) else scan a b i
def scanAt (a b : List Int) (i : Nat) : Bool := (decide (nth a i = nth b i + 1) && decide ((scan a b i).1 < 0)) || (decide (nth b i = nth a i + 1) && decide ((scan a b i).2 < 0)) || decide (nth a i = nth b i)
def scanGood (a b : List Int) : Bool := ((List.range 13).all fun i => scanAt a b i) && decide (0 ≤ (scan a b 13).1) && decide ((scan a b 13).1 ≤ (scan a b 13).2)
def nextGood (xs : List Int) : Bool :=
  (belowF xs).all (fun b => oneSum xs b && unevR xs b && decide (xs ≠ b) && scanGood xs b && (belowF xs).all fun c => decide (b = c) || !unevR b c) &&
  ((List.range 12).all fun k => decide ((belowF xs).length ≤ k + 1) || decide (0 < cmpL (row (belowF xs) k) (row (belowF xs) (k + 1)))) &&
  (decide (0 < (belowF xs).length) == decide (1 < nth xs 0))
set_option maxRecDepth 100000 in
theorem next_good : (List.range 13).all (fun n => (allN n).all nextGood) = true := by decide +kernel
theorem nextGood_of {xs : List Int} {n : Nat} (h : IsP xs n) : nextGood xs = true := by
  have h1 := List.all_eq_true.1 next_good n (List.mem_range.2 (by have := h.le; omega))
  exact List.all_eq_true.1 h1 xs h.mem
theorem row_mem {l : List (List Int)} {k : Nat} (h : k < l.length) : row l k ∈ l := by simp [row, List.getD, h]
theorem belowF_len (xs : List Int) : (belowF xs).length ≤ xs.length := accD_len xs _

structure NextAt (xs b : List Int) : Prop where
  sum : oneSum xs b = true
  un : unevR xs b = true
  ne : decide (xs = b) = false
  sc : ∀ i, i < 13 → scanAt xs b i = true
  lo : 0 ≤ (scan xs b 13).1
  le : (scan xs b 13).1 ≤ (scan xs b 13).2
theorem next_at {xs : List Int} {n : Nat} (h : IsP xs n) {k : Nat} (hk : k < (belowF xs).length) : NextAt xs (row (belowF xs) k) := by
  have h1 := nextGood_of h
  simp only [nextGood, Bool.and_eq_true] at h1
  have h2 := List.all_eq_true.1 h1.1.1 _ (row_mem hk)
  simp only [Bool.and_eq_true, decide_eq_true_eq, scanGood] at h2
  obtain ⟨⟨⟨⟨a, b⟩, c⟩, ⟨d, e⟩, f⟩, _⟩ := h2
  exact ⟨a, b, by simpa using c, fun i hi => List.all_eq_true.1 d i (List.mem_range.2 hi), e, f⟩
theorem next_two {xs : List Int} {n : Nat} (h : IsP xs n) {k j : Nat} (hk : k < (belowF xs).length) (hj : j < (belowF xs).length) (hne : decide (row (belowF xs) k = row (belowF xs) j) = false) : unevR (row (belowF xs) k) (row (belowF xs) j) = false := by
  have h1 := nextGood_of h
  simp only [nextGood, Bool.and_eq_true] at h1
  have h2 := List.all_eq_true.1 h1.1.1 _ (row_mem hk)
  simp only [Bool.and_eq_true] at h2
  have h3 := List.all_eq_true.1 h2.2 _ (row_mem hj)
  rw [hne] at h3
  simpa using h3
theorem next_cmp {xs : List Int} {n : Nat} (h : IsP xs n) {k : Nat} (hk : k + 1 < (belowF xs).length) : 0 < cmpL (row (belowF xs) k) (row (belowF xs) (k + 1)) := by
  have h1 := nextGood_of h
  simp only [nextGood, Bool.and_eq_true] at h1
  have h2 := List.all_eq_true.1 h1.1.2 k (List.mem_range.2 (by have := belowF_len xs; have := h.len12; omega))
  simp only [Bool.or_eq_true, decide_eq_true_eq] at h2
  omega
theorem next_some {xs : List Int} {n : Nat} (h : IsP xs n) : (decide (0 < (belowF xs).length)) = decide (1 < nth xs 0) := by
  have h1 := nextGood_of h
  simp only [nextGood, Bool.and_eq_true] at h1
  simpa using h1.2
theorem scan_bd (a b : List Int) : ∀ i : Nat, -1 ≤ (scan a b i).1 ∧ (scan a b i).1 ≤ i ∧ -1 ≤ (scan a b i).2 ∧ (scan a b i).2 ≤ i := by
  intro i
  induction i with
  | zero => simp [scan]
  | succ i ih =>
    rw [scan]
    split
    · dsimp only; omega
    · split
      · dsimp only; omega
      · omega

set_option maxHeartbeats 1000000 in
theorem Next_A (A : Option Addr) (n c : Nat) (xs : List Int) (w : World) (h : Ints w w.heap.size A n c xs) (pa : Hid (parts xs = 0)) :
    Calls Try.prog 16 #[.slice A n c] w fun e w' => e = .returned (.bool true) ∧ Below w.heap.size w w' := by
  have HB := hide (Below.refl w.heap.size w)
  have Ia := hide h; clear h
  have pa1 := hide (show parts (xs.take 15) = 0 from by rw [parts_take]; exact pa.out)
  go_enter Try.func16, Try.ntmps16
  go_wp2_with fail
  refine (list_ints _ _ _ _ _ _ (unhide Ia)).mono ?_
  rintro e w1 ⟨A1, n1, c1, rfl, i1, b1⟩
  replace HB := hide ((unhide HB).trans (b1.mono (unhide HB).size))
  replace Ia := hide (((unhide Ia).below b1).more b1.size)
  clear b1
  have I1 := hide i1
  clear i1
  go_wp2_with fail
  refine (Below_no _ _ _ _ _ _ (unhide I1) pa1).mono ?_
  rintro e w2 ⟨rfl, b2⟩
  replace HB := hide ((unhide HB).trans (b2.mono (unhide HB).size))
  replace Ia := hide (((unhide Ia).below b2).more b2.size)
  replace I1 := hide (((unhide I1).below b2).more b2.size)
  clear b2
  go_wp2_with fail
  refine (awake_any _).mono ?_
  rintro e w3 ⟨rfl, b3⟩
  replace HB := hide ((unhide HB).trans (b3.mono (unhide HB).size))
  replace Ia := hide (((unhide Ia).below b3).more b3.size)
  replace I1 := hide (((unhide I1).below b3).more b3.size)
  clear b3
  go_wp2_with fail
  go_ret
  exact ⟨rfl, unhide HB⟩

set_option maxRecDepth 100000 in
set_option maxHeartbeats 4000000 in
theorem Next_B (A : Option Addr) (n c : Nat) (xs : List Int) (w : World) (h : Ints w w.heap.size A n c xs) (hn : n ≤ 17592186044416) (m : Nat) (ha : Hid (IsP xs m)) :
    Calls Try.prog 16 #[.slice A n c] w fun e w' => e = .returned (.bool true) ∧ Below w.heap.size w w' := by
  have HB := hide (Below.refl w.heap.size w)
  have hl := hide h.len
  have hm := h.most; have hcap := h.cap
  have Ia := hide h; clear h
  have ta := hide ha.out.take
  have pa := hide ha.out.parts
  have hmne : ((m : Int) == 0) = false := by have := ha.out.pos; simp; omega
  have hn1 : 1 ≤ n := by have := ha.out.len; have := hl.out; omega
  go_enter Try.func16, Try.ntmps16
  go_wp2_with fail
  refine (list_ints _ _ _ _ _ _ (unhide Ia)).mono ?_
  rintro e w1 ⟨A1, n1, c1, rfl, i1, b1⟩
  replace HB := hide ((unhide HB).trans (b1.mono (unhide HB).size))
  replace Ia := hide (((unhide Ia).below b1).more b1.size)
  clear b1
  rw [ta.out] at i1
  have I1 := hide i1
  clear i1
  go_wp2_with fail
  refine (Below_ok _ _ _ _ _ (unhide I1) m ha).mono ?_
  rintro e w2 ⟨A2, n2, c2, rfl, i2, b2⟩
  replace HB := hide ((unhide HB).trans (b2.mono (unhide HB).size))
  replace Ia := hide (((unhide Ia).below b2).more b2.size)
  replace I1 := hide (((unhide I1).below b2).more b2.size)
  clear b2
  have Rl := hide i2
  clear i2
  clear I1
  go_wp2_with fail
  refine (Parts_b _ _ _ _ _ _ (unhide Ia) hn _ pa).mono ?_
  rintro e w3 ⟨rfl, b3⟩
  replace HB := hide ((unhide HB).trans (b3.mono (unhide HB).size))
  replace Ia := hide (((unhide Ia).below b3).more b3.size)
  replace Rl := hide (((unhide Rl).below b3).more b3.size)
  clear b3
  go_wp2_with fail
  obtain ⟨wo, hwo⟩ : ∃ wo : World, wo = w3 := ⟨_, rfl⟩
  subst hwo
  have HB0 := HB; clear HB
  have hnl := hide (unhide Rl).len
  have hml := (unhide Rl).most; have hcl := (unhide Rl).cap
  have hnl12 : n2 ≤ 12 := by have := belowF_len xs; have := ha.out.len12; have := hnl.out; omega
  go_loopw [34] (fun i wr => ∃ k : Nat, k ≤ n2 ∧ i = .int .i64 k ∧ Below wo.heap.size wo wr) (fun i _ => n2 - (intOf i).toNat)
  case atStart => exact ⟨0, Nat.zero_le _, rfl, Below.refl _ _⟩
  case round =>
    obtain ⟨k, hk, rfl, hbl⟩ := hrel
    by_cases hlt : k < n2
    · have Ja := hide (((unhide Ia).below hbl).more hbl.size)
      have Jl := hide (((unhide Rl).below hbl).more hbl.size)
      have HB := hide hbl; clear hbl
      obtain ⟨b, off, rfl⟩ := (unhide Jl).addr (by omega)
      obtain ⟨Ab, nb, cb, hcell, hib⟩ := (unhide Jl).get hlt
      have Jb := hide hib; clear hib
      have hkl := hide (show k < (belowF xs).length from by rw [hnl.out]; exact hlt)
      have HN := hide (next_at ha.out hkl.out)
      have hsum := hide HN.out.sum; have hun := hide HN.out.un; have hne := hide HN.out.ne
      have hbp := hide (show IsP (row (belowF xs) k) m from by
        obtain ⟨m', h1, h2⟩ := oneSum_isP HN.out.sum
        obtain rfl : m' = m := by have := h1.sum; have := ha.out.sum; omega
        exact h2)
      have hlb := hide (unhide Jb).len
      have hmb := (unhide Jb).most; have hcb := (unhide Jb).cap
      have hnb : nb ≤ 12 := by have := hlb.out; have := hbp.out.len12; omega
      rcases Nat.eq_zero_or_pos k with hk0 | hk0
      · subst hk0
        rw [Nat.add_zero] at hcell
        go_wp2_with fail
        refine (lparts_is _ _ _ _ _ _ _ _ _ _ _ (unhide Ja) (unhide Jb) hn (by omega) true hsum).mono ?_
        rintro e w21 ⟨rfl, b21⟩
        replace HB := hide ((unhide HB).trans (b21.mono (unhide HB).size))
        replace Ja := hide (((unhide Ja).below b21).more b21.size)
        replace Jl := hide (((unhide Jl).below b21).more b21.size)
        replace Jb := hide (((unhide Jb).below b21).more b21.size)
        clear b21
        go_wp2_with fail
        refine (unevP _ _ _ _ _ _ _ _ _ (unhide Ja) (unhide Jb) m ha hbp true hun).mono ?_
        rintro e w22 ⟨rfl, b22⟩
        replace HB := hide ((unhide HB).trans (b22.mono (unhide HB).size))
        replace Ja := hide (((unhide Ja).below b22).more b22.size)
        replace Jl := hide (((unhide Jl).below b22).more b22.size)
        replace Jb := hide (((unhide Jb).below b22).more b22.size)
        clear b22
        go_wp2_with fail
        refine (equal_any _ _ _ _ _ _ _ _ _ _ _ (unhide Ja) (unhide Jb) false hne).mono ?_
        rintro e w23 ⟨rfl, b23⟩
        replace HB := hide ((unhide HB).trans (b23.mono (unhide HB).size))
        replace Ja := hide (((unhide Ja).below b23).more b23.size)
        replace Jl := hide (((unhide Jl).below b23).more b23.size)
        replace Jb := hide (((unhide Jb).below b23).more b23.size)
        clear b23
        go_wp2_with fail
        go_loop [68, 7, 8] (fun i l m => ∃ j : Nat, j ≤ 13 ∧ i = .int .i64 j ∧ l = .int .i64 (scan xs (row (belowF xs) 0) j).1 ∧ m = .int .i64 (scan xs (row (belowF xs) 0) j).2) (fun i _ _ => 13 - (intOf i).toNat)
        case atStart => exact ⟨0, by omega, rfl, rfl, rfl⟩
        case round =>
          obtain ⟨j, hj, rfl, rfl, rfl⟩ := hrel
          by_cases hj13 : j < 13
          · have hsc := HN.out.sc j hj13
            obtain ⟨s1, s2, s3, s4⟩ := scan_bd xs (row (belowF xs) 0) j
            have hS := hide (show scan xs (row (belowF xs) 0) (j + 1) = _ from by rw [scan])
            obtain ⟨x, hx⟩ : ∃ x, nth xs j = x := ⟨_, rfl⟩
            obtain ⟨y, hy⟩ : ∃ y, nth (row (belowF xs) 0) j = y := ⟨_, rfl⟩
            obtain ⟨l, hl0⟩ : ∃ l, (scan xs (row (belowF xs) 0) j).1 = l := ⟨_, rfl⟩
            obtain ⟨mm, hm0⟩ : ∃ l, (scan xs (row (belowF xs) 0) j).2 = l := ⟨_, rfl⟩
            have hxb := ha.out.small j; have hyb := hbp.out.small j
            rw [scanAt, hx, hy, hl0, hm0] at hsc
            rw [hx] at hxb; rw [hy] at hyb
            rw [hl0] at s1 s2; rw [hm0] at s3 s4
            obtain ⟨hx1, hx2⟩ := hxb; obtain ⟨hy1, hy2⟩ := hyb
            simp only [Bool.or_eq_true, Bool.and_eq_true, decide_eq_true_eq] at hsc
            have HX := hide hx; have HY := hide hy; have HL0 := hide hl0; have HM0 := hide hm0; clear hx hy hl0 hm0
            rw [HL0.out, HM0.out]
            have hxa : j < n → ∃ b3 o3, A = some ⟨b3, o3, none⟩ ∧ w23.cell? ⟨b3, o3 + j, none⟩ = some (.int .i64 x) := fun h1 => by
              obtain ⟨b3, o3, e3, _, c3⟩ := (unhide Ja).at_ j h1
              exact ⟨b3, o3, e3, by rw [c3, HX.out]⟩
            have hya : j < nb → ∃ b3 o3, Ab = some ⟨b3, o3, none⟩ ∧ w23.cell? ⟨b3, o3 + j, none⟩ = some (.int .i64 y) := fun h1 => by
              obtain ⟨b3, o3, e3, _, c3⟩ := (unhide Jb).at_ j h1
              exact ⟨b3, o3, e3, by rw [c3, HY.out]⟩
            have hxo : ¬ j < n → x = 0 := fun h1 => by rw [← HX.out]; exact nth_out (by rw [hl.out]; omega)
            have hyo : ¬ j < nb → y = 0 := fun h1 => by rw [← HY.out]; exact nth_out (by rw [hlb.out]; omega)
            have HXA := hide hxa; have HYA := hide hya; have HXO := hide hxo; have HYO := hide hyo; clear hxa hya hxo hyo
            have hcase : (x = y + 1 ∧ l < 0) ∨ (x ≠ y + 1 ∧ y = x + 1 ∧ mm < 0) ∨ (x ≠ y + 1 ∧ y ≠ x + 1 ∧ x = y) := by omega
            clear hsc
            rcases hcase with ⟨g1, g2⟩ | ⟨g1, g2, g3⟩ | ⟨g1, g2, g3⟩
            · have f1 : (x == y + 1) = true := by simp [g1]
              have hN := hide (show scan xs (row (belowF xs) 0) (j + 1) = ((j : Int), mm) from by rw [hS.out, HX.out, HY.out, HL0.out, HM0.out, if_pos ⟨g1, g2⟩])
              have gx : 1 ≤ x := by omega
              clear g1
              have hjn : j < n := by
                by_cases h : j < n
                · exact h
                · have := HXO.out h; omega
              by_cases hjb : j < nb
              · obtain ⟨b3, o3, rfl, c3⟩ := HXA.out hjn
                obtain ⟨b4, o4, rfl, c4⟩ := HYA.out hjb
                go_wp2_with fail
                go_round
                case rel => exact ⟨j + 1, by omega, by go_num, by simp only [hN.out], by simp only [hN.out]⟩
                case measure => simp [intOf]; omega
              · obtain ⟨b3, o3, rfl, c3⟩ := HXA.out hjn
                obtain rfl := HYO.out hjb
                go_wp2_with fail
                go_round
                case rel => exact ⟨j + 1, by omega, by go_num, by simp only [hN.out], by simp only [hN.out]⟩
                case measure => simp [intOf]; omega
            · have f1 : (x == y + 1) = false := by simp [g1]
              have f2 : (y == x + 1) = true := by simp [g2]
              have hN := hide (show scan xs (row (belowF xs) 0) (j + 1) = (l, (j : Int)) from by rw [hS.out, HX.out, HY.out, HL0.out, HM0.out, if_neg (fun hc => g1 hc.1), if_pos ⟨g2, g3⟩])
              have gy : 1 ≤ y := by omega
              clear g1 g2
              have hjb : j < nb := by
                by_cases h : j < nb
                · exact h
                · have := HYO.out h; omega
              by_cases hjn : j < n
              · obtain ⟨b3, o3, rfl, c3⟩ := HXA.out hjn
                obtain ⟨b4, o4, rfl, c4⟩ := HYA.out hjb
                go_wp2_with fail
                go_round
                case rel => exact ⟨j + 1, by omega, by go_num, by simp only [hN.out], by simp only [hN.out]⟩
                case measure => simp [intOf]; omega
              · obtain rfl := HXO.out hjn
                obtain ⟨b4, o4, rfl, c4⟩ := HYA.out hjb
                go_wp2_with fail
                go_round
                case rel => exact ⟨j + 1, by omega, by go_num, by simp only [hN.out], by simp only [hN.out]⟩
                case measure => simp [intOf]; omega
            · have f1 : (x == y + 1) = false := by simp [g1]
              have f2 : (y == x + 1) = false := by simp [g2]
              have f3 : (x != y) = false := by simp [g3]
              have hN := hide (show scan xs (row (belowF xs) 0) (j + 1) = (l, mm) from by rw [hS.out, HX.out, HY.out, HL0.out, HM0.out, if_neg (fun hc => g1 hc.1), if_neg (fun hc => g2 hc.1), ← HL0.out, ← HM0.out])
              have GXY := hide g3
              clear g1 g2 g3
              by_cases hjn : j < n
              · by_cases hjb : j < nb
                · obtain ⟨b3, o3, rfl, c3⟩ := HXA.out hjn
                  obtain ⟨b4, o4, rfl, c4⟩ := HYA.out hjb
                  go_wp2_with fail
                  go_round
                  case rel => exact ⟨j + 1, by omega, by go_num, by simp only [hN.out], by simp only [hN.out]⟩
                  case measure => simp [intOf]; omega
                · have hx0 : x = 0 := by rw [GXY.out]; exact HYO.out hjb
                  subst hx0
                  obtain ⟨b3, o3, rfl, c3⟩ := HXA.out hjn
                  obtain rfl := HYO.out hjb
                  go_wp2_with fail
                  go_round
                  case rel => exact ⟨j + 1, by omega, by go_num, by simp only [hN.out], by simp only [hN.out]⟩
                  case measure => simp [intOf]; omega
              · by_cases hjb : j < nb
                · have hy0 : y = 0 := by rw [← GXY.out]; exact HXO.out hjn
                  subst hy0
                  obtain rfl := HXO.out hjn
                  obtain ⟨b4, o4, rfl, c4⟩ := HYA.out hjb
                  go_wp2_with fail
                  go_round
                  case rel => exact ⟨j + 1, by omega, by go_num, by simp only [hN.out], by simp only [hN.out]⟩
                  case measure => simp [intOf]; omega
                · obtain rfl := HXO.out hjn
                  obtain rfl := HYO.out hjb
                  go_wp2_with fail
                  go_round
                  case rel => exact ⟨j + 1, by omega, by go_num, by simp only [hN.out], by simp only [hN.out]⟩
                  case measure => simp [intOf]; omega
          · obtain rfl : j = 13 := by omega
            have hlo := HN.out.lo; have hle := HN.out.le
            obtain ⟨l, hl0⟩ : ∃ l, (scan xs (row (belowF xs) 0) 13).1 = l := ⟨_, rfl⟩
            obtain ⟨mm, hm0⟩ : ∃ l, (scan xs (row (belowF xs) 0) 13).2 = l := ⟨_, rfl⟩
            rw [hl0, hm0] at hle; rw [hl0] at hlo
            rw [hl0, hm0]
            clear hl0 hm0
            go_wp2_with fail
            obtain ⟨wi, hwi⟩ : ∃ wi : World, wi = w23 := ⟨_, rfl⟩
            subst hwi
            go_loopw [121] (fun i wr => ∃ t : Nat, t ≤ n2 ∧ i = .int .i64 t ∧ Below wi.heap.size wi wr) (fun i _ => n2 - (intOf i).toNat)
            case atStart => exact ⟨0, Nat.zero_le _, rfl, Below.refl _ _⟩
            case round =>
              obtain ⟨t, ht, rfl, hbt⟩ := hrel
              by_cases htn : t < n2
              · have Kb := hide (((unhide Jb).below hbt).more hbt.size)
                obtain ⟨Ac, nc, cc, hcellc, hic⟩ := (((unhide Jl).below hbt).more hbt.size).get htn
                have Kc := hide hic; clear hic
                have htl := hide (show t < (belowF xs).length from by rw [hnl.out]; exact htn)
                have hcp := hide (show IsP (row (belowF xs) t) m from by
                  obtain ⟨m', h1, h2⟩ := oneSum_isP (next_at ha.out htl.out).sum
                  obtain rfl : m' = m := by have := h1.sum; have := ha.out.sum; omega
                  exact h2)
                have HBt := hide hbt; clear hbt
                rcases heq : decide (row (belowF xs) 0 = row (belowF xs) t)
                · have HEQ := hide heq
                  have hu2 := hide (next_two ha.out hkl.out htl.out heq)
                  clear heq
                  go_wp2_with fail
                  refine (equal_any _ _ _ _ _ _ _ _ _ _ _ (unhide Kb) (unhide Kc) false HEQ).mono ?_
                  rintro e w40 ⟨rfl, b40⟩
                  have HBu := hide ((unhide HBt).trans (b40.mono (unhide HBt).size))
                  go_wp2_with fail
                  refine (unevP _ _ _ _ _ _ _ _ _ (((unhide Kb).below b40).more b40.size) (((unhide Kc).below b40).more b40.size) m hbp hcp false hu2).mono ?_
                  rintro e w41 ⟨rfl, b41⟩
                  have HBv := hide ((unhide HBu).trans (b41.mono (unhide HBu).size))
                  clear b40 b41
                  go_wp2_with fail
                  go_roundw
                  case rel => exact ⟨t + 1, by omega, by go_num, unhide HBv⟩
                  case measure => simp [intOf]; omega
                · have HEQ := hide heq; clear heq
                  go_wp2_with fail
                  refine (equal_any _ _ _ _ _ _ _ _ _ _ _ (unhide Kb) (unhide Kc) true HEQ).mono ?_
                  rintro e w40 ⟨rfl, b40⟩
                  have HBu := hide ((unhide HBt).trans (b40.mono (unhide HBt).size))
                  clear b40
                  go_wp2_with fail
                  go_roundw
                  case rel => exact ⟨t + 1, by omega, by go_num, unhide HBu⟩
                  case measure => simp [intOf]; omega
              · go_wp2_with fail
                go_roundw
                case rel => exact ⟨0 + 1, by omega, by go_num, (unhide HB).trans (hbt.mono (unhide HB).size)⟩
                case measure => simp [intOf]; omega
      · have hkp : (0 : Int) < (k : Int) := by omega
        go_wp2_with fail
        refine (lparts_is _ _ _ _ _ _ _ _ _ _ _ (unhide Ja) (unhide Jb) hn (by omega) true hsum).mono ?_
        rintro e w21 ⟨rfl, b21⟩
        replace HB := hide ((unhide HB).trans (b21.mono (unhide HB).size))
        replace Ja := hide (((unhide Ja).below b21).more b21.size)
        replace Jl := hide (((unhide Jl).below b21).more b21.size)
        replace Jb := hide (((unhide Jb).below b21).more b21.size)
        clear b21
        go_wp2_with fail
        refine (unevP _ _ _ _ _ _ _ _ _ (unhide Ja) (unhide Jb) m ha hbp true hun).mono ?_
        rintro e w22 ⟨rfl, b22⟩
        replace HB := hide ((unhide HB).trans (b22.mono (unhide HB).size))
        replace Ja := hide (((unhide Ja).below b22).more b22.size)
        replace Jl := hide (((unhide Jl).below b22).more b22.size)
        replace Jb := hide (((unhide Jb).below b22).more b22.size)
        clear b22
        go_wp2_with fail
        refine (equal_any _ _ _ _ _ _ _ _ _ _ _ (unhide Ja) (unhide Jb) false hne).mono ?_
        rintro e w23 ⟨rfl, b23⟩
        replace HB := hide ((unhide HB).trans (b23.mono (unhide HB).size))
        replace Ja := hide (((unhide Ja).below b23).more b23.size)
        replace Jl := hide (((unhide Jl).below b23).more b23.size)
        replace Jb := hide (((unhide Jb).below b23).more b23.size)
        clear b23
        obtain ⟨Ap, np, cp, hcellp, hip⟩ := (unhide Jl).get (show k - 1 < n2 by omega)
        have hcmp := hide (next_cmp (k := k - 1) ha.out (by rw [hnl.out]; omega))
        have hk1 := hide (show k - 1 + 1 = k from by omega)
        rw [hk1.out] at hcmp
        obtain ⟨cv, hcv⟩ : ∃ cv, cmpL (row (belowF xs) (k - 1)) (row (belowF xs) k) = cv := ⟨_, rfl⟩
        have HCV := hide hcv; clear hcv
        have hcpos : 0 < cv := by have h1 := hcmp.out; rw [HCV.out] at h1; exact h1
        go_wp2_with fail
        refine (compare_any _ _ _ _ _ _ _ _ _ _ _ hip (unhide Jb)).mono ?_
        rintro e w24 ⟨rfl, rfl⟩
        rw [HCV.out]
        clear hcellp hip
        go_wp2_with fail
        go_loop [68, 7, 8] (fun i l m => ∃ j : Nat, j ≤ 13 ∧ i = .int .i64 j ∧ l = .int .i64 (scan xs (row (belowF xs) k) j).1 ∧ m = .int .i64 (scan xs (row (belowF xs) k) j).2) (fun i _ _ => 13 - (intOf i).toNat)
        case atStart => exact ⟨0, by omega, rfl, rfl, rfl⟩
        case round =>
          obtain ⟨j, hj, rfl, rfl, rfl⟩ := hrel
          by_cases hj13 : j < 13
          · have hsc := HN.out.sc j hj13
            obtain ⟨s1, s2, s3, s4⟩ := scan_bd xs (row (belowF xs) k) j
            have hS := hide (show scan xs (row (belowF xs) k) (j + 1) = _ from by rw [scan])
            obtain ⟨x, hx⟩ : ∃ x, nth xs j = x := ⟨_, rfl⟩
            obtain ⟨y, hy⟩ : ∃ y, nth (row (belowF xs) k) j = y := ⟨_, rfl⟩
            obtain ⟨l, hl0⟩ : ∃ l, (scan xs (row (belowF xs) k) j).1 = l := ⟨_, rfl⟩
            obtain ⟨mm, hm0⟩ : ∃ l, (scan xs (row (belowF xs) k) j).2 = l := ⟨_, rfl⟩
            have hxb := ha.out.small j; have hyb := hbp.out.small j
            rw [scanAt, hx, hy, hl0, hm0] at hsc
            rw [hx] at hxb; rw [hy] at hyb
            rw [hl0] at s1 s2; rw [hm0] at s3 s4
            obtain ⟨hx1, hx2⟩ := hxb; obtain ⟨hy1, hy2⟩ := hyb
            simp only [Bool.or_eq_true, Bool.and_eq_true, decide_eq_true_eq] at hsc
            have HX := hide hx; have HY := hide hy; have HL0 := hide hl0; have HM0 := hide hm0; clear hx hy hl0 hm0
            rw [HL0.out, HM0.out]
            have hxa : j < n → ∃ b3 o3, A = some ⟨b3, o3, none⟩ ∧ w23.cell? ⟨b3, o3 + j, none⟩ = some (.int .i64 x) := fun h1 => by
              obtain ⟨b3, o3, e3, _, c3⟩ := (unhide Ja).at_ j h1
              exact ⟨b3, o3, e3, by rw [c3, HX.out]⟩
            have hya : j < nb → ∃ b3 o3, Ab = some ⟨b3, o3, none⟩ ∧ w23.cell? ⟨b3, o3 + j, none⟩ = some (.int .i64 y) := fun h1 => by
              obtain ⟨b3, o3, e3, _, c3⟩ := (unhide Jb).at_ j h1
              exact ⟨b3, o3, e3, by rw [c3, HY.out]⟩
            have hxo : ¬ j < n → x = 0 := fun h1 => by rw [← HX.out]; exact nth_out (by rw [hl.out]; omega)
            have hyo : ¬ j < nb → y = 0 := fun h1 => by rw [← HY.out]; exact nth_out (by rw [hlb.out]; omega)
            have HXA := hide hxa; have HYA := hide hya; have HXO := hide hxo; have HYO := hide hyo; clear hxa hya hxo hyo
            have hcase : (x = y + 1 ∧ l < 0) ∨ (x ≠ y + 1 ∧ y = x + 1 ∧ mm < 0) ∨ (x ≠ y + 1 ∧ y ≠ x + 1 ∧ x = y) := by omega
            clear hsc
            rcases hcase with ⟨g1, g2⟩ | ⟨g1, g2, g3⟩ | ⟨g1, g2, g3⟩
            · have f1 : (x == y + 1) = true := by simp [g1]
              have hN := hide (show scan xs (row (belowF xs) k) (j + 1) = ((j : Int), mm) from by rw [hS.out, HX.out, HY.out, HL0.out, HM0.out, if_pos ⟨g1, g2⟩])
              have gx : 1 ≤ x := by omega
              clear g1
              have hjn : j < n := by
                by_cases h : j < n
                · exact h
                · have := HXO.out h; omega
              by_cases hjb : j < nb
              · obtain ⟨b3, o3, rfl, c3⟩ := HXA.out hjn
                obtain ⟨b4, o4, rfl, c4⟩ := HYA.out hjb
                go_wp2_with fail
                go_round
                case rel => exact ⟨j + 1, by omega, by go_num, by simp only [hN.out], by simp only [hN.out]⟩
                case measure => simp [intOf]; omega
              · obtain ⟨b3, o3, rfl, c3⟩ := HXA.out hjn
                obtain rfl := HYO.out hjb
                go_wp2_with fail
                go_round
                case rel => exact ⟨j + 1, by omega, by go_num, by simp only [hN.out], by simp only [hN.out]⟩
                case measure => simp [intOf]; omega
            · have f1 : (x == y + 1) = false := by simp [g1]
              have f2 : (y == x + 1) = true := by simp [g2]
              have hN := hide (show scan xs (row (belowF xs) k) (j + 1) = (l, (j : Int)) from by rw [hS.out, HX.out, HY.out, HL0.out, HM0.out, if_neg (fun hc => g1 hc.1), if_pos ⟨g2, g3⟩])
              have gy : 1 ≤ y := by omega
              clear g1 g2
              have hjb : j < nb := by
                by_cases h : j < nb
                · exact h
                · have := HYO.out h; omega
              by_cases hjn : j < n
              · obtain ⟨b3, o3, rfl, c3⟩ := HXA.out hjn
                obtain ⟨b4, o4, rfl, c4⟩ := HYA.out hjb
                go_wp2_with fail
                go_round
                case rel => exact ⟨j + 1, by omega, by go_num, by simp only [hN.out], by simp only [hN.out]⟩
                case measure => simp [intOf]; omega
              · obtain rfl := HXO.out hjn
                obtain ⟨b4, o4, rfl, c4⟩ := HYA.out hjb
                go_wp2_with fail
                go_round
                case rel => exact ⟨j + 1, by omega, by go_num, by simp only [hN.out], by simp only [hN.out]⟩
                case measure => simp [intOf]; omega
            · have f1 : (x == y + 1) = false := by simp [g1]
              have f2 : (y == x + 1) = false := by simp [g2]
              have f3 : (x != y) = false := by simp [g3]
              have hN := hide (show scan xs (row (belowF xs) k) (j + 1) = (l, mm) from by rw [hS.out, HX.out, HY.out, HL0.out, HM0.out, if_neg (fun hc => g1 hc.1), if_neg (fun hc => g2 hc.1), ← HL0.out, ← HM0.out])
              have GXY := hide g3
              clear g1 g2 g3
              by_cases hjn : j < n
              · by_cases hjb : j < nb
                · obtain ⟨b3, o3, rfl, c3⟩ := HXA.out hjn
                  obtain ⟨b4, o4, rfl, c4⟩ := HYA.out hjb
                  go_wp2_with fail
                  go_round
                  case rel => exact ⟨j + 1, by omega, by go_num, by simp only [hN.out], by simp only [hN.out]⟩
                  case measure => simp [intOf]; omega
                · have hx0 : x = 0 := by rw [GXY.out]; exact HYO.out hjb
                  subst hx0
                  obtain ⟨b3, o3, rfl, c3⟩ := HXA.out hjn
                  obtain rfl := HYO.out hjb
                  go_wp2_with fail
                  go_round
                  case rel => exact ⟨j + 1, by omega, by go_num, by simp only [hN.out], by simp only [hN.out]⟩
                  case measure => simp [intOf]; omega
              · by_cases hjb : j < nb
                · have hy0 : y = 0 := by rw [← GXY.out]; exact HXO.out hjn
                  subst hy0
                  obtain rfl := HXO.out hjn
                  obtain ⟨b4, o4, rfl, c4⟩ := HYA.out hjb
                  go_wp2_with fail
                  go_round
                  case rel => exact ⟨j + 1, by omega, by go_num, by simp only [hN.out], by simp only [hN.out]⟩
                  case measure => simp [intOf]; omega
                · obtain rfl := HXO.out hjn
                  obtain rfl := HYO.out hjb
                  go_wp2_with fail
                  go_round
                  case rel => exact ⟨j + 1, by omega, by go_num, by simp only [hN.out], by simp only [hN.out]⟩
                  case measure => simp [intOf]; omega
          · obtain rfl : j = 13 := by omega
            have hlo := HN.out.lo; have hle := HN.out.le
            obtain ⟨l, hl0⟩ : ∃ l, (scan xs (row (belowF xs) k) 13).1 = l := ⟨_, rfl⟩
            obtain ⟨mm, hm0⟩ : ∃ l, (scan xs (row (belowF xs) k) 13).2 = l := ⟨_, rfl⟩
            rw [hl0, hm0] at hle; rw [hl0] at hlo
            rw [hl0, hm0]
            clear hl0 hm0
            go_wp2_with fail
            obtain ⟨wi, hwi⟩ : ∃ wi : World, wi = w23 := ⟨_, rfl⟩
            subst hwi
            go_loopw [121] (fun i wr => ∃ t : Nat, t ≤ n2 ∧ i = .int .i64 t ∧ Below wi.heap.size wi wr) (fun i _ => n2 - (intOf i).toNat)
            case atStart => exact ⟨0, Nat.zero_le _, rfl, Below.refl _ _⟩
            case round =>
              obtain ⟨t, ht, rfl, hbt⟩ := hrel
              by_cases htn : t < n2
              · have Kb := hide (((unhide Jb).below hbt).more hbt.size)
                obtain ⟨Ac, nc, cc, hcellc, hic⟩ := (((unhide Jl).below hbt).more hbt.size).get htn
                have Kc := hide hic; clear hic
                have htl := hide (show t < (belowF xs).length from by rw [hnl.out]; exact htn)
                have hcp := hide (show IsP (row (belowF xs) t) m from by
                  obtain ⟨m', h1, h2⟩ := oneSum_isP (next_at ha.out htl.out).sum
                  obtain rfl : m' = m := by have := h1.sum; have := ha.out.sum; omega
                  exact h2)
                have HBt := hide hbt; clear hbt
                rcases heq : decide (row (belowF xs) k = row (belowF xs) t)
                · have HEQ := hide heq
                  have hu2 := hide (next_two ha.out hkl.out htl.out heq)
                  clear heq
                  go_wp2_with fail
                  refine (equal_any _ _ _ _ _ _ _ _ _ _ _ (unhide Kb) (unhide Kc) false HEQ).mono ?_
                  rintro e w40 ⟨rfl, b40⟩
                  have HBu := hide ((unhide HBt).trans (b40.mono (unhide HBt).size))
                  go_wp2_with fail
                  refine (unevP _ _ _ _ _ _ _ _ _ (((unhide Kb).below b40).more b40.size) (((unhide Kc).below b40).more b40.size) m hbp hcp false hu2).mono ?_
                  rintro e w41 ⟨rfl, b41⟩
                  have HBv := hide ((unhide HBu).trans (b41.mono (unhide HBu).size))
                  clear b40 b41
                  go_wp2_with fail
                  go_roundw
                  case rel => exact ⟨t + 1, by omega, by go_num, unhide HBv⟩
                  case measure => simp [intOf]; omega
                · have HEQ := hide heq; clear heq
                  go_wp2_with fail
                  refine (equal_any _ _ _ _ _ _ _ _ _ _ _ (unhide Kb) (unhide Kc) true HEQ).mono ?_
                  rintro e w40 ⟨rfl, b40⟩
                  have HBu := hide ((unhide HBt).trans (b40.mono (unhide HBt).size))
                  clear b40
                  go_wp2_with fail
                  go_roundw
                  case rel => exact ⟨t + 1, by omega, by go_num, unhide HBu⟩
                  case measure => simp [intOf]; omega
              · go_wp2_with fail
                go_roundw
                case rel => exact ⟨k + 1, by omega, by go_num, (unhide HB).trans (hbt.mono (unhide HB).size)⟩
                case measure => simp [intOf]; omega
    · obtain rfl : k = n2 := by omega
      have HB := hide hbl
      have Ja := hide (((unhide Ia).below hbl).more hbl.size)
      clear hbl
      obtain ⟨b, off, rfl, hbb, hc0⟩ := (unhide Ja).at_ 0 (by omega)
      obtain ⟨x0, hx0⟩ : ∃ x, nth xs 0 = x := ⟨_, rfl⟩
      rw [hx0, Nat.add_zero] at hc0
      have hs := next_some ha.out
      rw [hx0, hnl.out] at hs
      clear hx0
      by_cases hx1 : 1 < x0
      · have hk1 : 0 < k := by simpa [hx1] using hs
        clear hs
        go_wp2_with fail
        refine (awake_any _).mono ?_
        rintro e w50 ⟨rfl, b50⟩
        have HBz := hide ((unhide HB0).trans (((unhide HB).trans (b50.mono (unhide HB).size)).mono (unhide HB0).size))
        clear b50
        go_wp2_with fail
        go_ret
        exact ⟨rfl, unhide HBz⟩
      · have hk1 : k = 0 := by
          have : ¬ 0 < k := by simpa [hx1] using hs
          omega
        clear hs
        subst hk1
        go_wp2_with fail
        refine (awake_any _).mono ?_
        rintro e w50 ⟨rfl, b50⟩
        have HBz := hide ((unhide HB0).trans (((unhide HB).trans (b50.mono (unhide HB).size)).mono (unhide HB0).size))
        clear b50
        go_wp2_with fail
        go_ret
        exact ⟨rfl, unhide HBz⟩

theorem Next_any (A : Option Addr) (n c : Nat) (xs : List Int) (w : World) (h : Ints w w.heap.size A n c xs) (hn : n ≤ 17592186044416) :
    Calls Try.prog 16 #[.slice A n c] w fun e w' => e = .returned (.bool true) ∧ Below w.heap.size w w' := by
  by_cases pa : parts xs = 0
  · exact Next_A _ _ _ _ _ h (hide pa)
  · obtain ⟨m, ha⟩ := isP_of pa
    exact Next_B _ _ _ _ _ h hn m (hide ha)
end Go.Proofs.Ytmpdalcdkibgpaa
