import Derived.Test.YtmpdalcdkibgpaaN4
namespace Go.Proofs.Ytmpdalcdkibgpaa
open Go.RowKit Go.Sort

/-- The terms of the first k orders, together. -/
def ordSum (a x : List Int) (n : Nat) (L : List (List Int)) : Nat → Int
  | 0 => 0
  | k + 1 => ordSum a x n L k + prodTo a x (row L k) n
theorem FewL.sum_le {x a : List Int} (h : FewL x a) (L : List (List Int)) : ∀ k : Nat, 0 ≤ ordSum a x x.length L k ∧ ordSum a x x.length L k ≤ k * 59604644775390625 := by
  intro k
  induction k with
  | zero => simp [ordSum]
  | succ k ih =>
    obtain ⟨h1, h2⟩ := h.prod_le (p := row L k) (Nat.le_refl x.length)
    simp only [ordSum]
    omega
theorem ex_ix (n : Nat) : ∀ (d : Nat) (o p : List Int), (∀ v ∈ o, 0 ≤ v ∧ v < n) → p ∈ ex n d o → ∀ v ∈ p, 0 ≤ v ∧ v < n := by
  intro d
  induction d with
  | zero => intro o p ho h; simp [ex] at h; rw [h]; exact ho
  | succ d ih =>
    intro o p ho h
    simp only [ex, List.mem_flatMap, List.mem_range] at h
    obtain ⟨e, he, h⟩ := h
    split at h
    · simp at h
    · refine ih _ _ (fun v hv => ?_) h
      rcases List.mem_append.1 hv with hv | hv
      · exact ho v hv
      · simp at hv; omega
theorem row_mem {L : List (List Int)} {k : Nat} (h : k < L.length) : row L k ∈ L := by
  simp only [row, List.getD, List.getElem?_eq_getElem h, Option.getD_some]; exact List.getElem_mem h
theorem ex_ixL {n k : Nat} (hk : k < (ex n n []).length) : IxL n (row (ex n n []) k) := by
  have hm := row_mem hk
  have hl : (row (ex n n []) k).length = n := by simpa using ex_length n n [] _ hm
  refine ⟨hl, fun i hi => ex_ix n n [] _ (fun v hv => by simp at hv) hm _ ?_⟩
  simp only [nth, List.getD, List.getElem?_eq_getElem (show i < (row (ex n n []) k).length by omega), Option.getD_some]
  exact List.getElem_mem _
theorem ex_24 {n : Nat} (h1 : 1 ≤ n) (h4 : n ≤ 4) : (ex n n []).length ≤ 24 := by
  have : n = 1 ∨ n = 2 ∨ n = 3 ∨ n = 4 := by omega
  rcases this with rfl | rfl | rfl | rfl <;> decide +kernel

set_option maxRecDepth 4000 in
set_option maxHeartbeats 2000000 in
theorem ordSum_any (Aa Ax : Option Addr) (n ca cx Ba Bx : Nat) (a x : List Int) (w : World) (ha : Ints w w.heap.size Aa n ca a) (hx : Ints w w.heap.size Ax n cx x) (ca_ : w.cell? ⟨Ba, 0, none⟩ = some (.slice Aa n ca)) (cx_ : w.cell? ⟨Bx, 0, none⟩ = some (.slice Ax n cx)) (hBa : Ba < w.heap.size) (hBx : Bx < w.heap.size) (hf : Hid (FewL x a)) :
    Calls Try.prog 87 #[.int .i64 n, .func (.func 85) #[] #[.pointer (some ⟨Ba, 0, none⟩), .pointer (some ⟨Bx, 0, none⟩)]] w fun r w' => r = .returned (.int .i64 (ordSum a x n (ex n n []) (ex n n []).length)) ∧ Below w.heap.size w w' := by
  have hlx := hide hx.len
  have h1 : 1 ≤ n := by rw [← hlx.out]; exact hf.out.pos
  have h4 : n ≤ 4 := by rw [← hlx.out]; exact hf.out.most
  have h24 := ex_24 h1 h4
  go_enter Try.func87, Try.ntmps87
  go_wp2_with fail
  refine (orders_any n h1 (by omega) w).mono ?_
  rintro e w1 ⟨A, m, c, rfl, hr, hb⟩
  obtain rfl : (ex n n []).length = m := hr.len
  have hcap := hr.cap; have hmost := hr.most
  have HR := hide hr; have HB := hide hb; clear hr
  have ca1 := (hb.cell (p := ⟨Ba, 0, none⟩) hBa).trans ca_
  have cx1 := (hb.cell (p := ⟨Bx, 0, none⟩) hBx).trans cx_
  have HA := hide ((ha.below hb).more hb.size); have HX := hide ((hx.below hb).more hb.size)
  clear hb ha hx
  obtain ⟨m, hm⟩ : ∃ m, (ex n n []).length = m := ⟨_, rfl⟩
  have Hm := hide hm
  rw [hm] at h24 hcap
  rw [hm] at HR
  simp only [hm]
  clear hm
  go_wp2_with fail
  go_loopw [11, 5] (fun i v wr => ∃ (k : Nat) (z : Int), k ≤ m ∧ i = .int .i64 k ∧ v = .int .i64 z ∧ Hid (z = ordSum a x n (ex n n []) k) ∧ ∃ q, wr = w1.drewN q) (fun i _ _ => m - (intOf i).toNat)
  case atStart => exact ⟨0, 0, Nat.zero_le _, rfl, rfl, hide rfl, 0, rfl⟩
  case round =>
    obtain ⟨k, z, hk, rfl, rfl, hz, q, rfl⟩ := hrel
    by_cases hlt : k < m
    · obtain ⟨b, off, A', n', c', rfl, _, hc, hi⟩ := (unhide HR).at_ k hlt
      have hp := hide (ex_ixL (n := n) (k := k) (by rw [Hm.out]; exact hlt))
      obtain rfl : n' = n := by rw [← hi.len]; exact hp.out.len
      have hi2 := hide (hi.drewN q)
      obtain ⟨pp, hpp⟩ : ∃ pp, prodTo a x (row (ex n' n' []) k) n' = pp := ⟨_, rfl⟩
      obtain ⟨b1, b2⟩ := hf.out.sum_le (ex n' n' []) k
      obtain ⟨b3, b4⟩ := hf.out.prod_le (p := row (ex n' n' []) k) (Nat.le_refl x.length)
      rw [hlx.out] at b1 b2 b3 b4
      rw [← hz.out] at b1 b2
      rw [hpp] at b3 b4
      have hz2 := hide (show z + pp = ordSum a x n' (ex n' n' []) (k + 1) from by rw [ordSum, ← hz.out, hpp])
      have hta := hide (term_any A' _ _ n' c' ca cx Ba Bx (row (ex n' n' []) k) a x (w1.drewN q) w1.heap.size (unhide hi2) ((unhide HA).drewN q) ((unhide HX).drewN q) ca1 cx1 hf hp)
      rw [hpp] at hta
      clear hi hpp
      have hk24 : (k : Int) < 24 := by omega
      go_wp2_with fail
      refine (unhide hta).mono ?_
      rintro e w2 ⟨rfl, q2, rfl⟩
      go_wp2_with fail
      go_roundw
      case rel => exact ⟨k + 1, z + pp, by omega, by go_num, by go_num, hz2, (by first | exact ⟨_, rfl⟩ | exact quiet_q _ _ _)⟩
      case measure => simp [intOf]; omega
    · obtain rfl : k = m := by omega
      go_wp2_with fail
      go_ret
      exact ⟨by rw [hz.out]; exact congrArg (fun j => Ending.returned (.int .i64 (ordSum a x n (ex n n []) j))) Hm.out.symm, (unhide HB).trans ((Below.ofDraws q).mono (unhide HB).size)⟩
theorem allWithin_is (A : Option Addr) (n c : Nat) (xs : List Int) (lo hi : Int) (w : World) (B : Nat) (h : Ints w B A n c xs) (b : Bool) (hb : Hid (allIn lo hi xs = b)) :
    Calls Try.prog 84 #[.slice A n c, .int .i64 lo, .int .i64 hi] w fun e w' => e = .returned (.bool b) ∧ w = w' :=
  (allWithin_any _ _ _ _ _ _ _ _ h).mono fun _ _ ⟨he, hw⟩ => ⟨by rw [he, hb.out], hw⟩
set_option maxHeartbeats 1000000 in
theorem Power_e1 (A A' : Option Addr) (n c n' c' : Nat) (xs ys : List Int) (w : World) (h : Ints w w.heap.size A n c xs) (h' : Ints w w.heap.size A' n' c' ys) (h1 : Hid (isSh xs = false)) :
    Calls Try.prog 41 #[.slice A n c, .slice A' n' c'] w fun e w' => e = .returned (.tuple #[.int .i64 0, .int .i64 2]) ∧ Below w.heap.size w w' := by
  have l1 := hide h.len; have l2 := hide h'.len
  have HB := hide (((Below.refl w.heap.size w).alloc (Nat.le_refl _) (.cells #[.slice A n c] 22)).alloc (by simp) (.cells #[.slice A' n' c'] 22))
  have Ia := hide (((h.below (unhide HB)).more (unhide HB).size)); have Ib := hide (((h'.below (unhide HB)).more (unhide HB).size))
  clear h h'
  go_enter Try.func41, Try.ntmps41
  go_wp2_with fail
  refine (isShares_is _ _ _ _ _ _ (unhide Ia) _ h1).mono ?_
  rintro e w1 ⟨rfl, rfl⟩
  go_wp2_with fail
  go_ret2
  exact ⟨rfl, unhide HB⟩
set_option maxHeartbeats 1000000 in
theorem Power_e2 (A A' : Option Addr) (n c n' c' : Nat) (xs ys : List Int) (w : World) (h : Ints w w.heap.size A n c xs) (h' : Ints w w.heap.size A' n' c' ys) (h1 : Hid (isSh xs = true)) (h2 : (4 : Int) < n) :
    Calls Try.prog 41 #[.slice A n c, .slice A' n' c'] w fun e w' => e = .returned (.tuple #[.int .i64 0, .int .i64 2]) ∧ Below w.heap.size w w' := by
  have l1 := hide h.len; have l2 := hide h'.len
  have HB := hide (((Below.refl w.heap.size w).alloc (Nat.le_refl _) (.cells #[.slice A n c] 22)).alloc (by simp) (.cells #[.slice A' n' c'] 22))
  have Ia := hide (((h.below (unhide HB)).more (unhide HB).size)); have Ib := hide (((h'.below (unhide HB)).more (unhide HB).size))
  clear h h'
  go_enter Try.func41, Try.ntmps41
  go_wp2_with fail
  refine (isShares_is _ _ _ _ _ _ (unhide Ia) _ h1).mono ?_
  rintro e w1 ⟨rfl, rfl⟩
  go_wp2_with fail
  go_ret2
  exact ⟨rfl, unhide HB⟩
set_option maxHeartbeats 1000000 in
theorem Power_e3 (A A' : Option Addr) (n c n' c' : Nat) (xs ys : List Int) (w : World) (h : Ints w w.heap.size A n c xs) (h' : Ints w w.heap.size A' n' c' ys) (h1 : Hid (isSh xs = true)) (h2 : (n : Int) ≤ 4) (h3 : Hid (allIn 0 6 xs = false)) :
    Calls Try.prog 41 #[.slice A n c, .slice A' n' c'] w fun e w' => e = .returned (.tuple #[.int .i64 0, .int .i64 2]) ∧ Below w.heap.size w w' := by
  have l1 := hide h.len; have l2 := hide h'.len
  have HB := hide (((Below.refl w.heap.size w).alloc (Nat.le_refl _) (.cells #[.slice A n c] 22)).alloc (by simp) (.cells #[.slice A' n' c'] 22))
  have Ia := hide (((h.below (unhide HB)).more (unhide HB).size)); have Ib := hide (((h'.below (unhide HB)).more (unhide HB).size))
  clear h h'
  go_enter Try.func41, Try.ntmps41
  go_wp2_with fail
  refine (isShares_is _ _ _ _ _ _ (unhide Ia) _ h1).mono ?_
  rintro e w1 ⟨rfl, rfl⟩
  go_wp2_with fail
  refine (allWithin_is _ _ _ _ _ _ _ _ (unhide Ia) _ h3).mono ?_
  rintro e w1 ⟨rfl, rfl⟩
  go_wp2_with fail
  go_ret2
  exact ⟨rfl, unhide HB⟩
set_option maxHeartbeats 1000000 in
theorem Power_e4 (A A' : Option Addr) (n c n' c' : Nat) (xs ys : List Int) (w : World) (h : Ints w w.heap.size A n c xs) (h' : Ints w w.heap.size A' n' c' ys) (h1 : Hid (isSh xs = true)) (h2 : (n : Int) ≤ 4) (h3 : Hid (allIn 0 6 xs = true)) (h4 : ¬ n' = n) :
    Calls Try.prog 41 #[.slice A n c, .slice A' n' c'] w fun e w' => e = .returned (.tuple #[.int .i64 0, .int .i64 2]) ∧ Below w.heap.size w w' := by
  have l1 := hide h.len; have l2 := hide h'.len
  have HB := hide (((Below.refl w.heap.size w).alloc (Nat.le_refl _) (.cells #[.slice A n c] 22)).alloc (by simp) (.cells #[.slice A' n' c'] 22))
  have Ia := hide (((h.below (unhide HB)).more (unhide HB).size)); have Ib := hide (((h'.below (unhide HB)).more (unhide HB).size))
  clear h h'
  go_enter Try.func41, Try.ntmps41
  go_wp2_with fail
  refine (isShares_is _ _ _ _ _ _ (unhide Ia) _ h1).mono ?_
  rintro e w1 ⟨rfl, rfl⟩
  go_wp2_with fail
  refine (allWithin_is _ _ _ _ _ _ _ _ (unhide Ia) _ h3).mono ?_
  rintro e w1 ⟨rfl, rfl⟩
  go_wp2_with fail
  go_ret2
  exact ⟨rfl, unhide HB⟩
set_option maxHeartbeats 1000000 in
theorem Power_e5 (A A' : Option Addr) (n c n' c' : Nat) (xs ys : List Int) (w : World) (h : Ints w w.heap.size A n c xs) (h' : Ints w w.heap.size A' n' c' ys) (h1 : Hid (isSh xs = true)) (h2 : (n : Int) ≤ 4) (h3 : Hid (allIn 0 6 xs = true)) (h4 : n' = n) (h5 : Hid (allIn 1 5 ys = false)) :
    Calls Try.prog 41 #[.slice A n c, .slice A' n' c'] w fun e w' => e = .returned (.tuple #[.int .i64 0, .int .i64 2]) ∧ Below w.heap.size w w' := by
  have l1 := hide h.len; have l2 := hide h'.len
  have HB := hide (((Below.refl w.heap.size w).alloc (Nat.le_refl _) (.cells #[.slice A n c] 22)).alloc (by simp) (.cells #[.slice A' n' c'] 22))
  have Ia := hide (((h.below (unhide HB)).more (unhide HB).size)); have Ib := hide (((h'.below (unhide HB)).more (unhide HB).size))
  clear h h'
  go_enter Try.func41, Try.ntmps41
  subst h4
  go_wp2_with fail
  refine (isShares_is _ _ _ _ _ _ (unhide Ia) _ h1).mono ?_
  rintro e w1 ⟨rfl, rfl⟩
  go_wp2_with fail
  refine (allWithin_is _ _ _ _ _ _ _ _ (unhide Ia) _ h3).mono ?_
  rintro e w1 ⟨rfl, rfl⟩
  go_wp2_with fail
  refine (allWithin_is _ _ _ _ _ _ _ _ (unhide Ib) _ h5).mono ?_
  rintro e w1 ⟨rfl, rfl⟩
  go_wp2_with fail
  go_ret2
  exact ⟨rfl, unhide HB⟩
set_option maxHeartbeats 1000000 in
theorem Power_k (A A' : Option Addr) (n c n' c' : Nat) (xs ys : List Int) (w : World) (h : Ints w w.heap.size A n c xs) (h' : Ints w w.heap.size A' n' c' ys) (h1 : Hid (isSh xs = true)) (h2 : (n : Int) ≤ 4) (h3 : Hid (allIn 0 6 xs = true)) (h4 : n' = n) (h5 : Hid (allIn 1 5 ys = true)) (hf : Hid (FewL xs ys)) (z : Int) (hz : Hid (ordSum ys xs n (ex n n []) (ex n n []).length = z)) :
    Calls Try.prog 41 #[.slice A n c, .slice A' n' c'] w fun e w' => e = .returned (.tuple #[.int .i64 z, .int .i64 0]) ∧ Below w.heap.size w w' := by
  have l1 := hide h.len; have l2 := hide h'.len
  have HB := hide (((Below.refl w.heap.size w).alloc (Nat.le_refl _) (.cells #[.slice A n c] 22)).alloc (by simp) (.cells #[.slice A' n' c'] 22))
  have Ia := hide (((h.below (unhide HB)).more (unhide HB).size)); have Ib := hide (((h'.below (unhide HB)).more (unhide HB).size))
  clear h h'
  go_enter Try.func41, Try.ntmps41
  subst h4
  go_wp2_with fail
  refine (isShares_is _ _ _ _ _ _ (unhide Ia) _ h1).mono ?_
  rintro e w1 ⟨rfl, rfl⟩
  go_wp2_with fail
  refine (allWithin_is _ _ _ _ _ _ _ _ (unhide Ia) _ h3).mono ?_
  rintro e w1 ⟨rfl, rfl⟩
  go_wp2_with fail
  refine (allWithin_is _ _ _ _ _ _ _ _ (unhide Ib) _ h5).mono ?_
  rintro e w1 ⟨rfl, rfl⟩
  go_wp2_with fail
  refine (ordSum_any A' A n' c' c (w.heap.size + 1) w.heap.size ys xs _ (unhide Ib) (unhide Ia) (cell_of_one (at_alloc (by simp))) (cell_of_one (past_alloc (at_alloc rfl))) (by simp) (by simp; omega) hf).mono ?_
  rintro e w2 ⟨rfl, hb2⟩
  rw [hz.out]
  have HB2 := hide ((unhide HB).trans (hb2.mono (unhide HB).size))
  clear hb2
  go_wp2_with fail
  go_ret2
  exact ⟨rfl, unhide HB2⟩
/-- Whether Power takes them. -/
def fewB (xs ys : List Int) : Bool := isSh xs && decide (xs.length ≤ 4) && allIn 0 6 xs && decide (ys.length = xs.length) && allIn 1 5 ys
theorem nth_in {lo hi : Int} {xs : List Int} (h : allIn lo hi xs = true) {k : Nat} (hk : k < xs.length) : lo ≤ nth xs k ∧ nth xs k ≤ hi := by
  simp only [allIn, List.all_eq_true, Bool.and_eq_true, decide_eq_true_eq] at h
  exact h (nth xs k) (by simp [nth, List.getD, hk])
theorem FewL.of {xs ys : List Int} (h : fewB xs ys = true) : FewL xs ys := by
  simp only [fewB, Bool.and_eq_true, decide_eq_true_eq] at h
  obtain ⟨⟨⟨⟨h1, h2⟩, h3⟩, h4⟩, h5⟩ := h
  refine ⟨(isSh_len h1).1, h2, h4, fun k => ?_, fun k hk => nth_in h5 hk⟩
  rcases Nat.lt_or_ge k xs.length with hk | hk
  · exact nth_in h3 hk
  · have : nth xs k = 0 := by simp [nth, List.getD, List.getElem?_eq_none hk]
    omega
theorem Power_err (A A' : Option Addr) (n c n' c' : Nat) (xs ys : List Int) (w : World) (h : Ints w w.heap.size A n c xs) (h' : Ints w w.heap.size A' n' c' ys) (hs : Hid (fewB xs ys = false)) :
    Calls Try.prog 41 #[.slice A n c, .slice A' n' c'] w fun e w' => e = .returned (.tuple #[.int .i64 0, .int .i64 2]) ∧ Below w.heap.size w w' := by
  have e1 := h.len; have e2 := h'.len
  rcases h1 : isSh xs
  · exact Power_e1 _ _ _ _ _ _ _ _ _ h h' (hide h1)
  rcases Nat.lt_or_ge 4 n with h2 | h2
  · exact Power_e2 _ _ _ _ _ _ _ _ _ h h' (hide h1) (by omega)
  rcases h3 : allIn 0 6 xs
  · exact Power_e3 _ _ _ _ _ _ _ _ _ h h' (hide h1) (by omega) (hide h3)
  by_cases h4 : n' = n
  · rcases h5 : allIn 1 5 ys
    · exact Power_e5 _ _ _ _ _ _ _ _ _ h h' (hide h1) (by omega) (hide h3) h4 (hide h5)
    · have := hs.out
      simp [fewB, h1, h3, h5] at this
      omega
  · exact Power_e4 _ _ _ _ _ _ _ _ _ h h' (hide h1) (by omega) (hide h3) h4
/-- What Power hands back where it takes them. -/
def powSum (xs ys : List Int) : Int := ordSum ys xs xs.length (ex xs.length xs.length []) (ex xs.length xs.length []).length
theorem Power_ok (A A' : Option Addr) (n c n' c' : Nat) (xs ys : List Int) (w : World) (h : Ints w w.heap.size A n c xs) (h' : Ints w w.heap.size A' n' c' ys) (hs : Hid (fewB xs ys = true)) (z : Int) (hz : Hid (powSum xs ys = z)) :
    Calls Try.prog 41 #[.slice A n c, .slice A' n' c'] w fun e w' => e = .returned (.tuple #[.int .i64 z, .int .i64 0]) ∧ Below w.heap.size w w' := by
  have e1 := h.len; have e2 := h'.len
  have hf := hide (FewL.of hs.out)
  have hz' := hz.out
  rw [powSum, e1] at hz'
  have hs' := hs.out
  simp only [fewB, Bool.and_eq_true, decide_eq_true_eq] at hs'
  obtain ⟨⟨⟨⟨h1, h2⟩, h3⟩, h4⟩, h5⟩ := hs'
  exact Power_k _ _ _ _ _ _ _ _ _ h h' (hide h1) (by omega) (hide h3) (by omega) (hide h5) hf z (hide hz')
end Go.Proofs.Ytmpdalcdkibgpaa
