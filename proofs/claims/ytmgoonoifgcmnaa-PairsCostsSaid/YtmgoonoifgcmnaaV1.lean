/-
  isEachOnce; pins of a root: Welch of the program, Root and Welch of the reference.
-/
import Derived.Test.YtmgoonoifgcmnaaW5
import Derived.Test.YtmgoonoifgcmnaaX4
namespace Go.Proofs.Ytmgoonoifgcmnaa
open Go.RowKit

/-- The first k values of F. -/
def fT (F : Nat → Int) (k : Nat) : List Int := (List.range k).map F
theorem fT_succ (F : Nat → Int) (k : Nat) : fT F (k + 1) = fT F k ++ [F k] := by simp [fT, List.range_succ]
theorem fT_len (F : Nat → Int) (k : Nat) : (fT F k).length = k := by simp [fT]
theorem fT_set (F : Nat → Int) {k m : Nat} (h : k < m) : (fT F k ++ List.replicate (m - k) 0).set k (F k) = fT F (k + 1) ++ List.replicate (m - (k + 1)) 0 := by
  have e : m - k = (m - (k + 1)) + 1 := by omega
  rw [e, List.replicate_succ, List.set_append_right _ _ (by simp [fT]), fT_succ]
  simp [fT]

/-- Each number below the length is there. -/
def eoT (xs : List Int) (k : Nat) : Bool := (List.range k).all fun (j : Nat) => decide ((j : Int) ∈ xs)
def eoB (xs : List Int) : Bool := eoT xs xs.length
theorem eoT_iff {xs : List Int} {k : Nat} : eoT xs k = true ↔ ∀ j : Nat, j < k → (j : Int) ∈ xs := by simp [eoT]
set_option maxHeartbeats 400000 in
theorem isEachOnce_any (A : Option Addr) (n c : Nat) (xs : List Int) (w : World) (B : Nat) (h : Ints w B A n c xs) (b : Bool) (hb : Hid (eoB xs = b)) :
    Calls Try.prog 81 #[.slice A n c] w fun e w' => e = .returned (.bool b) ∧ w = w' := by
  rw [← hb.out]
  have hm := h.most; have hcap := h.cap
  have hl := hide h.len
  have H := hide h
  clear h
  go_enter Try.func81, Try.ntmps81
  go_wp2_with fail
  go_loop [3, 6] (fun _ i => ∃ k : Nat, k ≤ n ∧ i = .int .i64 k ∧ Hid (∀ j : Nat, j < k → (j : Int) ∈ xs)) (fun _ i => n - (intOf i).toNat)
  case atStart => exact ⟨0, Nat.zero_le _, rfl, hide (fun j hj => absurd hj (by omega))⟩
  case round =>
    obtain ⟨k, hk, rfl, HA⟩ := hrel
    by_cases hlt : k < n
    · by_cases hin : (k : Int) ∈ xs
      · have HN := hide (show ∀ j : Nat, j < k + 1 → (j : Int) ∈ xs from fun j hj => by
          rcases Nat.lt_or_ge j k with h1 | h1
          · exact HA.out j h1
          · obtain rfl : j = k := by omega
            exact hin)
        have HI := hide (show decide ((k : Int) ∈ xs) = true by simpa using hin)
        clear hin
        go_wp2_with (go_at_call 102; refine (Contains_any _ _ _ _ _ _ _ (unhide H) true HI).mono ?_; rintro e w' ⟨rfl, rfl⟩)
        go_round
        case rel => exact ⟨k + 1, by omega, by go_num, HN⟩
        case measure => simp [intOf]; omega
      · have HF := hide (show eoB xs = false from by
          rw [Bool.eq_false_iff]; intro e
          exact hin (eoT_iff.1 e k (by rw [hl.out]; exact hlt)))
        have HI := hide (show decide ((k : Int) ∈ xs) = false by simpa using hin)
        clear hin
        go_wp2_with (go_at_call 102; refine (Contains_any _ _ _ _ _ _ _ (unhide H) false HI).mono ?_; rintro e w' ⟨rfl, rfl⟩)
        go_ret
        exact ⟨ret_bool HF.out.symm, rfl⟩
    · have HF := hide (show eoB xs = true from eoT_iff.2 fun j hj => HA.out j (by have := hl.out; omega))
      go_wp2_with fail
      go_ret
      exact ⟨ret_bool HF.out.symm, rfl⟩

/-- The powers of g, modulo p; a root. -/
def pw (p g : Nat) : Nat → Nat
  | 0 => 1
  | k + 1 => pw p g k * g % p
def pwL (p g : Nat) : List Int := fT (fun j => (pw p g (j + 1) : Nat)) (p - 1)
def wlL (p g : Nat) : List Int := fT (fun j => (pw p g (j + 1) : Nat) - 1) (p - 1)
def prI (p : Int) : Bool := decide (p = 2) || (decide (p = 3) || (decide (p = 5) || decide (p = 7)))
def rtF (p g : Int) : Bool := prI p && (decide (1 ≤ g) && (decide (g < p) && eoB (wlL p.toNat g.toNat)))
def rtT (p g m : Nat) : Bool := (List.range m).all fun (j : Nat) => decide ((plL (pwL p g) ((j : Int) + 1)).length = 1)
theorem rt_same : ∀ p, p < 8 → ∀ g, g < p → 1 ≤ g → 2 ≤ p → rtT p g (p - 1) = eoB (wlL p g) := by decide +kernel
theorem pr_cases {p : Int} (h : prI p = true) : p = 2 ∨ p = 3 ∨ p = 5 ∨ p = 7 := by simpa [prI] using h
theorem pr_not {p : Int} (h : prI p = false) : p ≠ 2 ∧ p ≠ 3 ∧ p ≠ 5 ∧ p ≠ 7 := by simpa [prI] using h
theorem pw_lt {p g : Nat} (hp : 2 ≤ p) : ∀ k, pw p g k < p
  | 0 => by unfold pw; omega
  | k + 1 => Nat.mod_lt _ (by omega)

theorem isPrime_any (p : Int) (w : World) (b : Bool) (hb : Hid (prI p = b)) : Calls Try.prog 80 #[.int .i64 p] w fun e w' => e = .returned (.bool b) ∧ w = w' := by
  rw [← hb.out]
  by_cases h : p = 2 ∨ p = 3 ∨ p = 5 ∨ p = 7
  · rcases h with rfl | rfl | rfl | rfl
    all_goals
      go_enter Try.func80, Try.ntmps80
      go_wp2_with fail
      go_ret
      exact ⟨rfl, rfl⟩
  · have h' : p ≠ 2 ∧ p ≠ 3 ∧ p ≠ 5 ∧ p ≠ 7 := by simpa using h
    have HF := hide (show prI p = false from by simp [prI, h'])
    have d1 : (p == 2) = false := by simpa using h'.1
    have d2 : (p == 3) = false := by simpa using h'.2.1
    have d3 : (p == 5) = false := by simpa using h'.2.2.1
    have d4 : (p == 7) = false := by simpa using h'.2.2.2
    clear h h'
    go_enter Try.func80, Try.ntmps80
    go_wp2_with fail
    go_ret
    exact ⟨ret_bool HF.out.symm, rfl⟩

set_option maxRecDepth 100000 in
set_option maxHeartbeats 1000000 in
theorem Welch_yes (p g : Nat) (hp : Hid (prI (p : Int) = true)) (hg : 1 ≤ g ∧ g < p) (he : Hid (eoB (wlL p g) = true)) (w : World) :
    Calls Try.prog 36 #[.int .i64 p, .int .i64 g] w fun e w' => ∃ A n c, e = .returned (.tuple #[.slice A n c, .int .i64 0]) ∧ Ints w' w'.heap.size A n c (wlL p g) ∧ Below w.heap.size w w' := by
  have hp7 : 2 ≤ p ∧ p ≤ 7 := by have := pr_cases hp.out; omega
  obtain ⟨m, hm⟩ : ∃ m, p - 1 = m := ⟨_, rfl⟩
  have hm2 : (p : Int) - 1 = (m : Int) := by omega
  have hmb : 1 ≤ m ∧ m ≤ 6 := by omega
  obtain ⟨Z, hZ1, hZ2, hmk⟩ := make_zeros m (by omega)
  have HE := hide (show wlL p g = fT (fun j => (pw p g (j + 1) : Nat) - 1) m from by unfold wlL; rw [hm])
  obtain ⟨F, hF⟩ : ∃ F : Nat → Int, F = fun j => ((pw p g (j + 1) : Nat) : Int) - 1 := ⟨_, rfl⟩
  rw [← hF] at HE
  have HFF := hide hF
  have HR0 := hide (show RowAt (w.alloc (.cells Z 3)) w.heap.size (fT F 0 ++ List.replicate (m - 0) 0) from by simpa [fT] using row_zeros (W := w) hZ2)
  have HB0 := hide (show Below w.heap.size w (w.alloc (.cells Z 3)) from (Below.refl _ w).alloc (Nat.le_refl _) _)
  obtain ⟨g1, g2⟩ := hg
  clear hm hZ1 hZ2 hF
  go_enter Try.func36, Try.ntmps36
  go_wp2_with (go_at_call 80; refine (isPrime_any _ _ true hp).mono ?_; rintro e w' ⟨rfl, rfl⟩)
  go_loopw [7, 8, 26] (fun x _ i wr => ∃ k : Nat, k ≤ m ∧ i = .int .i64 (k : Nat) ∧ x = .int .i64 (pw p g k : Nat) ∧ Hid (RowAt wr w.heap.size (fT F k ++ List.replicate (m - k) 0)) ∧ Hid (Below w.heap.size w wr)) (fun _ _ i _ => m - (intOf i).toNat)
  case atStart => exact ⟨0, Nat.zero_le _, rfl, rfl, HR0, HB0⟩
  case round =>
    obtain ⟨k, hk, rfl, rfl, HR, HB⟩ := hrel
    by_cases hlt : k < m
    · have hx := pw_lt (g := g) hp7.1 k
      have hz := pw_lt (g := g) hp7.1 (k + 1)
      have hxg : pw p g k * g ≤ 7 * 7 := Nat.mul_le_mul (by omega) (by omega)
      have e1 : ((pw p g k : Nat) : Int) * (g : Int) = ((pw p g k * g : Nat) : Int) := by simp
      have e2 : ((pw p g k * g : Nat) : Int).tmod (p : Int) = ((pw p g (k + 1) : Nat) : Int) := by
        rw [Int.tmod_eq_emod_of_nonneg (by omega)]; simp [pw]
      have HFk := hide (show F k = ((pw p g (k + 1) : Nat) : Int) - 1 from by rw [HFF.out])
      revert e1 e2 hx hz hxg HFk
      obtain ⟨x, hxd⟩ : ∃ x, pw p g k = x := ⟨_, rfl⟩
      obtain ⟨z, hzd⟩ : ∃ z, pw p g (k + 1) = z := ⟨_, rfl⟩
      rw [hxd, hzd]
      have HZD := hide hzd
      clear hxd hzd
      intro hx hz hxg e1 e2 HFk
      revert e1 e2 hxg
      obtain ⟨y, hy⟩ : ∃ y, x * g = y := ⟨_, rfl⟩
      rw [hy]
      clear hy
      intro hxg e1 e2
      have ew : IntKind.i64.wrap ((x : Int) * (g : Int)) = (y : Int) := by rw [e1]; simp [IntKind.wrap, IntKind.signed, IntKind.bits]; omega
      clear e1
      have hlen : (fT F k ++ List.replicate (m - k) (0 : Int)).length = m := by simp [fT_len]; omega
      have hcell := (unhide HR).cell (k := k) (by rw [hlen]; exact hlt)
      have hfr : wr.frozen? ⟨w.heap.size, k, none⟩ = false := Blk.frozen (unhide HR) k
      have HN := hide (show RowAt (wr.setCell ⟨w.heap.size, k, none⟩ (.int .i64 ((z : Int) - 1))) w.heap.size (fT F (k + 1) ++ List.replicate (m - (k + 1)) 0) from by
        rw [← fT_set F hlt, HFk.out]; exact (unhide HR).set k _)
      have HBN := hide ((unhide HB).setCell (p := ⟨w.heap.size, k, none⟩) (Nat.le_refl _) (.int .i64 ((z : Int) - 1)))
      clear hlen
      go_wp2_with fail
      go_roundw
      case rel => exact ⟨k + 1, by omega, by go_num, by rw [HZD.out], HN, HBN⟩
      case measure => simp [intOf]; omega
    · have e : m = k := by omega
      have HRL := hide (show RowAt wr w.heap.size (wlL p g) from by
        have := unhide HR
        rw [HE.out, e]
        rw [← e] at this
        rw [← e]
        simpa using this)
      have HL := hide (show (wlL p g).length = m from by rw [HE.out, fT_len])
      clear e
      have HI := hide ((unhide HRL).ints HL.out (by omega))
      go_wp2_with (go_at_call 81; refine (isEachOnce_any _ _ _ _ _ _ (unhide HI) true he).mono ?_; rintro e w' ⟨rfl, rfl⟩)
      go_ret2
      exact ⟨_, _, _, rfl, unhide HI, unhide HB⟩

set_option maxRecDepth 100000 in
set_option maxHeartbeats 1000000 in
theorem Welch_bad (p g : Nat) (hp : Hid (prI (p : Int) = true)) (hg : 1 ≤ g ∧ g < p) (he : Hid (eoB (wlL p g) = false)) (w : World) :
    Calls Try.prog 36 #[.int .i64 p, .int .i64 g] w fun e w' => e = .returned (.tuple #[.slice none 0 0, .int .i64 2]) ∧ Below w.heap.size w w' := by
  have hp7 : 2 ≤ p ∧ p ≤ 7 := by have := pr_cases hp.out; omega
  obtain ⟨m, hm⟩ : ∃ m, p - 1 = m := ⟨_, rfl⟩
  have hm2 : (p : Int) - 1 = (m : Int) := by omega
  have hmb : 1 ≤ m ∧ m ≤ 6 := by omega
  obtain ⟨Z, hZ1, hZ2, hmk⟩ := make_zeros m (by omega)
  have HE := hide (show wlL p g = fT (fun j => (pw p g (j + 1) : Nat) - 1) m from by unfold wlL; rw [hm])
  obtain ⟨F, hF⟩ : ∃ F : Nat → Int, F = fun j => ((pw p g (j + 1) : Nat) : Int) - 1 := ⟨_, rfl⟩
  rw [← hF] at HE
  have HFF := hide hF
  have HR0 := hide (show RowAt (w.alloc (.cells Z 3)) w.heap.size (fT F 0 ++ List.replicate (m - 0) 0) from by simpa [fT] using row_zeros (W := w) hZ2)
  have HB0 := hide (show Below w.heap.size w (w.alloc (.cells Z 3)) from (Below.refl _ w).alloc (Nat.le_refl _) _)
  obtain ⟨g1, g2⟩ := hg
  clear hm hZ1 hZ2 hF
  go_enter Try.func36, Try.ntmps36
  go_wp2_with (go_at_call 80; refine (isPrime_any _ _ true hp).mono ?_; rintro e w' ⟨rfl, rfl⟩)
  go_loopw [7, 8, 26] (fun x _ i wr => ∃ k : Nat, k ≤ m ∧ i = .int .i64 (k : Nat) ∧ x = .int .i64 (pw p g k : Nat) ∧ Hid (RowAt wr w.heap.size (fT F k ++ List.replicate (m - k) 0)) ∧ Hid (Below w.heap.size w wr)) (fun _ _ i _ => m - (intOf i).toNat)
  case atStart => exact ⟨0, Nat.zero_le _, rfl, rfl, HR0, HB0⟩
  case round =>
    obtain ⟨k, hk, rfl, rfl, HR, HB⟩ := hrel
    by_cases hlt : k < m
    · have hx := pw_lt (g := g) hp7.1 k
      have hz := pw_lt (g := g) hp7.1 (k + 1)
      have hxg : pw p g k * g ≤ 7 * 7 := Nat.mul_le_mul (by omega) (by omega)
      have e1 : ((pw p g k : Nat) : Int) * (g : Int) = ((pw p g k * g : Nat) : Int) := by simp
      have e2 : ((pw p g k * g : Nat) : Int).tmod (p : Int) = ((pw p g (k + 1) : Nat) : Int) := by
        rw [Int.tmod_eq_emod_of_nonneg (by omega)]; simp [pw]
      have HFk := hide (show F k = ((pw p g (k + 1) : Nat) : Int) - 1 from by rw [HFF.out])
      revert e1 e2 hx hz hxg HFk
      obtain ⟨x, hxd⟩ : ∃ x, pw p g k = x := ⟨_, rfl⟩
      obtain ⟨z, hzd⟩ : ∃ z, pw p g (k + 1) = z := ⟨_, rfl⟩
      rw [hxd, hzd]
      have HZD := hide hzd
      clear hxd hzd
      intro hx hz hxg e1 e2 HFk
      revert e1 e2 hxg
      obtain ⟨y, hy⟩ : ∃ y, x * g = y := ⟨_, rfl⟩
      rw [hy]
      clear hy
      intro hxg e1 e2
      have ew : IntKind.i64.wrap ((x : Int) * (g : Int)) = (y : Int) := by rw [e1]; simp [IntKind.wrap, IntKind.signed, IntKind.bits]; omega
      clear e1
      have hlen : (fT F k ++ List.replicate (m - k) (0 : Int)).length = m := by simp [fT_len]; omega
      have hcell := (unhide HR).cell (k := k) (by rw [hlen]; exact hlt)
      have hfr : wr.frozen? ⟨w.heap.size, k, none⟩ = false := Blk.frozen (unhide HR) k
      have HN := hide (show RowAt (wr.setCell ⟨w.heap.size, k, none⟩ (.int .i64 ((z : Int) - 1))) w.heap.size (fT F (k + 1) ++ List.replicate (m - (k + 1)) 0) from by
        rw [← fT_set F hlt, HFk.out]; exact (unhide HR).set k _)
      have HBN := hide ((unhide HB).setCell (p := ⟨w.heap.size, k, none⟩) (Nat.le_refl _) (.int .i64 ((z : Int) - 1)))
      clear hlen
      go_wp2_with fail
      go_roundw
      case rel => exact ⟨k + 1, by omega, by go_num, by rw [HZD.out], HN, HBN⟩
      case measure => simp [intOf]; omega
    · have e : m = k := by omega
      have HRL := hide (show RowAt wr w.heap.size (wlL p g) from by
        have := unhide HR
        rw [HE.out, e]
        rw [← e] at this
        rw [← e]
        simpa using this)
      have HL := hide (show (wlL p g).length = m from by rw [HE.out, fT_len])
      clear e
      have HI := hide ((unhide HRL).ints HL.out (by omega))
      go_wp2_with (go_at_call 81; refine (isEachOnce_any _ _ _ _ _ _ (unhide HI) false he).mono ?_; rintro e w' ⟨rfl, rfl⟩)
      go_ret2
      exact ⟨rfl, unhide HB⟩

theorem rt_parts {p g : Int} (h : rtF p g = true) : ∃ P G : Nat, p = (P : Int) ∧ g = (G : Int) ∧ prI (P : Int) = true ∧ (1 ≤ G ∧ G < P) ∧ eoB (wlL P G) = true := by
  simp only [rtF, Bool.and_eq_true, decide_eq_true_eq] at h
  obtain ⟨h1, h2, h3, h4⟩ := h
  have h5 := pr_cases h1
  refine ⟨p.toNat, g.toNat, by omega, by omega, ?_, by omega, h4⟩
  rw [show ((p.toNat : Nat) : Int) = p by omega]; exact h1
theorem rt_not {p g : Int} (h : rtF p g = false) : prI p = false ∨ (prI p = true ∧ g < 1) ∨ (prI p = true ∧ 1 ≤ g ∧ p ≤ g) ∨ ∃ P G : Nat, p = (P : Int) ∧ g = (G : Int) ∧ prI (P : Int) = true ∧ (1 ≤ G ∧ G < P) ∧ eoB (wlL P G) = false := by
  cases h1 : prI p with
  | false => exact .inl rfl
  | true =>
    right
    have h5 := pr_cases h1
    by_cases h2 : g < 1
    · exact .inl ⟨rfl, h2⟩
    · right
      by_cases h3 : p ≤ g
      · exact .inl ⟨rfl, by omega, h3⟩
      · right
        refine ⟨p.toNat, g.toNat, by omega, by omega, by rw [show ((p.toNat : Nat) : Int) = p by omega]; exact h1, by omega, ?_⟩
        unfold rtF at h
        rw [h1] at h
        have d1 : decide (1 ≤ g) = true := by simp; omega
        have d2 : decide (g < p) = true := by simp; omega
        rw [d1, d2] at h
        simpa using h
set_option maxRecDepth 100000 in
set_option maxHeartbeats 1000000 in
theorem Welch_no (p g : Int) (h : rtF p g = false) (w : World) :
    Calls Try.prog 36 #[.int .i64 p, .int .i64 g] w fun e w' => e = .returned (.tuple #[.slice none 0 0, .int .i64 2]) ∧ Below w.heap.size w w' := by
  rcases rt_not h with h1 | ⟨h1, h2⟩ | ⟨h1, h2, h3⟩ | ⟨P, G, rfl, rfl, h1, h2, h3⟩
  · clear h
    go_enter Try.func36, Try.ntmps36
    go_wp2_with (go_at_call 80; refine (isPrime_any _ _ false (hide h1)).mono ?_; rintro e w' ⟨rfl, rfl⟩)
    go_ret2
    exact ⟨rfl, Below.refl _ _⟩
  · have d : decide (g < 1) = true := by simpa using h2
    clear h h2
    go_enter Try.func36, Try.ntmps36
    go_wp2_with (go_at_call 80; refine (isPrime_any _ _ true (hide h1)).mono ?_; rintro e w' ⟨rfl, rfl⟩)
    go_ret2
    exact ⟨rfl, Below.refl _ _⟩
  · have d : decide (g < 1) = false := by simp; omega
    have d2 : decide (p ≤ g) = true := by simpa using h3
    clear h h2 h3
    go_enter Try.func36, Try.ntmps36
    go_wp2_with (go_at_call 80; refine (isPrime_any _ _ true (hide h1)).mono ?_; rintro e w' ⟨rfl, rfl⟩)
    go_ret2
    exact ⟨rfl, Below.refl _ _⟩
  · exact Welch_bad P G (hide h1) h2 (hide h3) w
end Go.Proofs.Ytmgoonoifgcmnaa
