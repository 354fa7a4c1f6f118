/-
  slices.ContainsFunc of rows with a row that is kept in a box; facts of all pins.
-/
import Derived.Test.YtmgoonoifgcmnaaH2
import Derived.Test.YtmgoonoifgcmnaaK1
namespace Go.Proofs.Ytmgoonoifgcmnaa
open Go.RowKit

def ixP {α : Type} (p : α → Bool) : List α → Nat → Int
  | [], _ => -1
  | x :: xs, k => if p x = true then (k : Int) else ixP p xs (k + 1)
theorem ixP_none {α : Type} {p : α → Bool} : ∀ (xs : List α) (k : Nat), xs.any p = false → ixP p xs k = -1
  | [], _, _ => rfl
  | x :: xs, k, h => by
    simp only [List.any_cons, Bool.or_eq_false_iff] at h
    unfold ixP
    rw [if_neg (by simp [h.1])]
    exact ixP_none xs (k + 1) h.2
theorem ixP_some {α : Type} {p : α → Bool} : ∀ (xs : List α) (k : Nat), xs.any p = true → (k : Int) ≤ ixP p xs k
  | [], _, h => by simp at h
  | x :: xs, k, h => by
    simp only [List.any_cons, Bool.or_eq_true] at h
    unfold ixP
    split
    · exact Int.le_refl _
    · rename_i hx
      have := ixP_some xs (k + 1) (h.resolve_left hx)
      omega
theorem ixP_geq {α : Type} (p : α → Bool) (xs : List α) : decide (0 ≤ ixP p xs 0) = xs.any p := by
  cases h : xs.any p with
  | false => rw [ixP_none xs 0 h]; rfl
  | true => have := ixP_some xs 0 h; simp; omega
theorem ixP_le {α : Type} (p : α → Bool) : ∀ (xs : List α) (k : Nat), -1 ≤ ixP p xs k ∧ ixP p xs k ≤ k + xs.length
  | [], k => by unfold ixP; simp
  | x :: xs, k => by
    have := ixP_le p xs (k + 1)
    unfold ixP
    split <;> simp only [List.length_cons] <;> omega
theorem ixP_step {α : Type} (p : α → Bool) (xs : List α) (d : α) (k : Nat) (h : k < xs.length) : ixP p (xs.drop k) k = if p (xs.getD k d) = true then (k : Int) else ixP p (xs.drop (k + 1)) (k + 1) := by
  rw [List.drop_eq_getElem_cons h, ixP]
  simp [List.getD, h]


set_option maxHeartbeats 400000 in
theorem clos62 (bx : Nat) (A A' : Option Addr) (n c n' c' : Nat) (xs ys : List Int) (w : World) (B B' : Nat) (hbx : w.cell? ⟨bx, 0, none⟩ = some (.slice A' n' c')) (h : Ints w B A n c xs) (h' : Ints w B' A' n' c' ys) :
    Calls Try.prog 62 #[.slice A n c, .pointer (some ⟨bx, 0, none⟩)] w fun e w' => e = .returned (.bool (decide (xs = ys))) ∧ ∃ q, w' = w.drewN q := by
  go_enter Try.func62, Try.ntmps62
  go_wp2_with fail
  refine (equal_any _ _ _ _ _ _ _ _ _ _ _ h h').mono ?_
  rintro e w' ⟨rfl, q, rfl⟩
  go_wp2_with fail
  go_ret
  exact ⟨rfl, q, rfl⟩
set_option maxRecDepth 100000 in
set_option maxHeartbeats 1000000 in
theorem indexR_any (bx : Nat) (A A' : Option Addr) (n c n' c' : Nat) (xss : List (List Int)) (ys : List Int) (w : World) (B B' : Nat) (hbx : w.cell? ⟨bx, 0, none⟩ = some (.slice A' n' c')) (h : Rows_ w B A n c xss) (h' : Ints w B' A' n' c' ys) :
    Calls Try.prog 95 #[.slice A n c, .func (.func 62) #[] #[.pointer (some ⟨bx, 0, none⟩)]] w fun e w' => e = .returned (.int .i64 (ixP (fun x => decide (x = ys)) xss 0)) ∧ ∃ q, w' = w.drewN q := by
  have hm := h.most; have hcap := h.cap
  have HI := hide h
  have HL := hide h.len
  have HBX := hide hbx
  have HY := hide h'
  obtain ⟨P, hP⟩ : ∃ P : List Int → Bool, P = fun x => decide (x = ys) := ⟨_, rfl⟩
  have HP := hide (fun x => (show decide (x = ys) = P x from by rw [hP]))
  rw [← hP]
  obtain ⟨r, hr⟩ : ∃ r, ixP P xss 0 = r := ⟨_, rfl⟩
  rw [hr]
  have HR := hide hr
  clear hr h h' hP hbx
  go_enter Try.func95, Try.ntmps95
  go_wp2_with fail
  go_loopw [5, 8] (fun _ i wr => ∃ k : Nat, k ≤ n ∧ i = .int .i64 k ∧ Hid (ixP P (xss.drop k) k = r) ∧ ∃ q, wr = w.drewN q) (fun _ i _ => n - (intOf i).toNat)
  case atStart => exact ⟨0, Nat.zero_le _, rfl, hide (by rw [List.drop_zero]; exact HR.out), 0, rfl⟩
  case round =>
    obtain ⟨k, hk, rfl, HK, q, rfl⟩ := hrel
    by_cases hlt : k < n
    · obtain ⟨b, off, A1, n1, c1, rfl, hb, hc, hi⟩ := ((unhide HI).drewN q).at_ k hlt
      have hs := ixP_step P xss [] k (by rw [HL.out]; exact hlt)
      rw [HK.out, show xss.getD k [] = row xss k from rfl] at hs
      have hx := clos62 bx A1 A' n1 c1 n' c' (row xss k) ys (w.drewN q) _ _ (unhide HBX) hi ((unhide HY).drewN q)
      rw [HP.out (row xss k)] at hx
      generalize row xss k = x at hs hi hx
      cases hpp : P x with
      | true =>
        rw [hpp] at hs hx
        rw [if_pos rfl] at hs
        have HS := hide hs
        have HC := hide hx
        clear hs hpp hx hi
        go_wp2_with fail
        refine (unhide HC).mono ?_
        rintro e w' ⟨rfl, q2, rfl⟩
        go_wp2_with fail
        go_ret
        exact ⟨ret_int HS.out.symm, (by first | exact ⟨_, rfl⟩ | exact quiet_q _ _ _)⟩
      | false =>
        rw [hpp] at hs hx
        rw [if_neg (by simp)] at hs
        have HS := hide hs
        have HC := hide hx
        clear hs hpp hx hi
        go_wp2_with fail
        refine (unhide HC).mono ?_
        rintro e w' ⟨rfl, q2, rfl⟩
        go_wp2_with fail
        go_roundw
        case rel => exact ⟨k + 1, by omega, by go_num, hide HS.out.symm, (by first | exact ⟨_, rfl⟩ | exact quiet_q _ _ _)⟩
        case measure => simp [intOf]; omega
    · have HE := hide (show -1 = r from by rw [← HK.out, List.drop_eq_nil_of_le (by rw [HL.out]; omega)]; rfl)
      go_wp2_with fail
      go_ret
      exact ⟨ret_int HE.out, (by first | exact ⟨_, rfl⟩ | exact quiet_q _ _ _)⟩
theorem containsR_any (bx : Nat) (A A' : Option Addr) (n c n' c' : Nat) (xss : List (List Int)) (ys : List Int) (w : World) (B B' : Nat) (hbx : w.cell? ⟨bx, 0, none⟩ = some (.slice A' n' c')) (h : Rows_ w B A n c xss) (h' : Ints w B' A' n' c' ys) (b : Bool) (hb : Hid (decide (ys ∈ xss) = b)) :
    Calls Try.prog 61 #[.slice A n c, .func (.func 62) #[] #[.pointer (some ⟨bx, 0, none⟩)]] w fun e w' => e = .returned (.bool b) ∧ ∃ q, w' = w.drewN q := by
  have HC := hide (indexR_any bx A A' n c n' c' xss ys w B B' hbx h h')
  have hg := ixP_geq (fun x => decide (x = ys)) xss
  have hany : xss.any (fun x => decide (x = ys)) = b := by
    rw [← hb.out, Bool.eq_iff_iff]
    simp
  rw [hany] at hg
  generalize ixP (fun x => decide (x = ys)) xss 0 = r at HC hg
  have HG := hide hg; clear hg
  clear h h' hbx
  go_enter Try.func61, Try.ntmps61
  go_wp2_with fail
  refine (unhide HC).mono ?_
  rintro e w' ⟨rfl, q, rfl⟩
  go_wp2_with fail
  go_ret
  exact ⟨ret_bool HG.out, q, rfl⟩

/-- Rising, and how many. -/
def riseB : List (List Int) → Bool
  | [] => true
  | x :: l => (match l with | [] => true | y :: _ => decide (cmpL x y < 0)) && riseB l
theorem rise_at : ∀ {l : List (List Int)}, riseB l = true → ∀ j, j + 1 < l.length → cmpL (row l j) (row l (j + 1)) < 0
  | [], _, j, h => by simp at h
  | [x], _, j, h => by simp at h
  | x :: y :: l, hr, j, h => by
    simp only [riseB, Bool.and_eq_true, decide_eq_true_eq] at hr
    rcases j with _ | j
    · exact hr.1
    · exact rise_at (l := y :: l) (by simp only [riseB, Bool.and_eq_true, decide_eq_true_eq]; exact hr.2) j (by simpa using h)
def pcnt (n : Nat) : Nat := [0, 1, 2, 4, 12, 40, 116].getD n 0
def pinsOk (n : Nat) (l : List (List Int)) : Bool := riseB l && decide (l.length = pcnt n)
set_option maxRecDepth 1000000 in
theorem pok_1 : pinsOk 1 (pinsL 1) = true := by decide +kernel
set_option maxRecDepth 1000000 in
theorem pok_2 : pinsOk 2 (pinsL 2) = true := by decide +kernel
set_option maxRecDepth 1000000 in
theorem pok_3 : pinsOk 3 (pinsL 3) = true := by decide +kernel
set_option maxRecDepth 1000000 in
theorem pok_4 : pinsOk 4 (pinsL 4) = true := by decide +kernel
set_option maxRecDepth 1000000 in
theorem pok_5 : pinsOk 5 (pinsL 5) = true := by decide +kernel
set_option maxRecDepth 1000000 in
theorem pok_6 : pinsOk 6 (pinsL 6) = true := by decide +kernel
theorem pok_all {n : Nat} (hn : 1 ≤ n ∧ n ≤ 6) : (pinsL n).length = pcnt n ∧ (∀ j, j + 1 < (pinsL n).length → cmpL (row (pinsL n) j) (row (pinsL n) (j + 1)) < 0) ∧ ∀ r, r ∈ pinsL n → pinB r = true ∧ r.length = n := by
  have h : pinsOk n (pinsL n) = true := by
    rcases (show n = 1 ∨ n = 2 ∨ n = 3 ∨ n = 4 ∨ n = 5 ∨ n = 6 by omega) with rfl | rfl | rfl | rfl | rfl | rfl
    · exact pok_1
    · exact pok_2
    · exact pok_3
    · exact pok_4
    · exact pok_5
    · exact pok_6
  unfold pinsOk at h
  rw [Bool.and_eq_true, decide_eq_true_eq] at h
  refine ⟨h.2, rise_at h.1, fun r hr => ?_⟩
  rw [← fil_all hn] at hr
  have := List.mem_filter.1 hr
  exact ⟨this.2, ord_len _ _ _ this.1⟩
theorem pin_iff {xs : List Int} {n : Nat} (hn : 1 ≤ n ∧ n ≤ 6) (hl : xs.length = n) : decide (xs ∈ pinsL n) = pinB xs := by
  rw [Bool.eq_iff_iff, decide_eq_true_eq]
  constructor
  · intro h; exact ((pok_all hn).2.2 xs h).1
  · intro h
    have := (pin_mem h).1
    rwa [hl] at this
theorem under73 : Try.prog.underlying 73 = some (.array 7 3) := by kernel_rfl
theorem plain3' : Try.prog.plainKey 3 = true := by kernel_rfl
theorem idx73 (n : Nat) (hn : 1 ≤ n ∧ n ≤ 6) (w : World) : (Instr.index 73 (.agg #[.int .i64 0, .int .i64 1, .int .i64 2, .int .i64 4, .int .i64 12, .int .i64 40, .int .i64 116]) (.int .i64 (n : Int))).run Try.prog w = .ok (.int .i64 (pcnt n : Nat)) w := by
  have h1 : (part 3 #[.int .i64 0, .int .i64 1, .int .i64 2, .int .i64 4, .int .i64 12, .int .i64 40, .int .i64 116] 1).run Try.prog w = .ok (.int .i64 1) w := run_part_plain w plain3' (by rfl)
  have h2 : (part 3 #[.int .i64 0, .int .i64 1, .int .i64 2, .int .i64 4, .int .i64 12, .int .i64 40, .int .i64 116] 2).run Try.prog w = .ok (.int .i64 2) w := run_part_plain w plain3' (by rfl)
  have h3 : (part 3 #[.int .i64 0, .int .i64 1, .int .i64 2, .int .i64 4, .int .i64 12, .int .i64 40, .int .i64 116] 3).run Try.prog w = .ok (.int .i64 4) w := run_part_plain w plain3' (by rfl)
  have h4 : (part 3 #[.int .i64 0, .int .i64 1, .int .i64 2, .int .i64 4, .int .i64 12, .int .i64 40, .int .i64 116] 4).run Try.prog w = .ok (.int .i64 12) w := run_part_plain w plain3' (by rfl)
  have h5 : (part 3 #[.int .i64 0, .int .i64 1, .int .i64 2, .int .i64 4, .int .i64 12, .int .i64 40, .int .i64 116] 5).run Try.prog w = .ok (.int .i64 40) w := run_part_plain w plain3' (by rfl)
  have h6 : (part 3 #[.int .i64 0, .int .i64 1, .int .i64 2, .int .i64 4, .int .i64 12, .int .i64 40, .int .i64 116] 6).run Try.prog w = .ok (.int .i64 116) w := run_part_plain w plain3' (by rfl)
  rcases (show n = 1 ∨ n = 2 ∨ n = 3 ∨ n = 4 ∨ n = 5 ∨ n = 6 by omega) with rfl | rfl | rfl | rfl | rfl | rfl
  · simp [Instr.index, run_underlying under73, asIntOf, Try.sizeOf3, h1, pcnt]
  · simp [Instr.index, run_underlying under73, asIntOf, Try.sizeOf3, h2, pcnt]
  · simp [Instr.index, run_underlying under73, asIntOf, Try.sizeOf3, h3, pcnt]
  · simp [Instr.index, run_underlying under73, asIntOf, Try.sizeOf3, h4, pcnt]
  · simp [Instr.index, run_underlying under73, asIntOf, Try.sizeOf3, h5, pcnt]
  · simp [Instr.index, run_underlying under73, asIntOf, Try.sizeOf3, h6, pcnt]
/-- The Welch lists are pins. -/
def wlAll (p : Nat) : Bool := (List.range p).all fun g => !(decide (1 ≤ g) && eoB (wlL p g)) || (pinB (wlL p g) && decide ((wlL p g).length = p - 1))
theorem wl_2 : wlAll 2 = true := by decide +kernel
theorem wl_3 : wlAll 3 = true := by decide +kernel
theorem wl_5 : wlAll 5 = true := by decide +kernel
theorem wl_7 : wlAll 7 = true := by decide +kernel
theorem wl_pins {p g : Nat} (hp : prI (p : Int) = true) (hg : 1 ≤ g ∧ g < p) (he : eoB (wlL p g) = true) : pinB (wlL p g) = true ∧ (wlL p g).length = p - 1 := by
  have h : wlAll p = true := by
    rcases pr_cases hp with h | h | h | h
    · rw [show p = 2 by omega]; exact wl_2
    · rw [show p = 3 by omega]; exact wl_3
    · rw [show p = 5 by omega]; exact wl_5
    · rw [show p = 7 by omega]; exact wl_7
  unfold wlAll at h
  have := List.all_eq_true.1 h g (List.mem_range.2 hg.2)
  simpa [hg.1, he] using this
end Go.Proofs.Ytmgoonoifgcmnaa
