import Derived.Test.YtdlbahoenhhkdaaC3
/-
  isList of the program, List of the reference.
-/
namespace Go.Proofs.Ytdlbahoenhhkdaa
open Go.RowKit

def cOk (g : G) : Bool := decide (0 ≤ g.1) && decide (g.1 ≤ 15) && decide (1 ≤ g.2.1) && decide (g.2.1 ≤ 40) && decide (g.2.2 = 0)
def LstTo (xs : List G) (k : Nat) : Prop := ∀ j, j < k → cOk (gth xs j) = true ∧ (1 ≤ j → (gth xs (j - 1)).1 < (gth xs j).1)
def lstB (xs : List G) : Bool := decide (∀ j, j < xs.length → cOk (gth xs j) = true ∧ (1 ≤ j → (gth xs (j - 1)).1 < (gth xs j).1))
def lstOk (k : Int) (xs : List G) : Bool := decide ((xs.length : Int) ≤ k) && lstB xs
theorem lstB_yes {xs : List G} (h : LstTo xs xs.length) : lstB xs = true := by rw [lstB, decide_eq_true_eq]; exact h
theorem lstB_get {xs : List G} (h : lstB xs = true) : LstTo xs xs.length := by rw [lstB, decide_eq_true_eq] at h; exact h
theorem lstB_bad {xs : List G} {k : Nat} (hk : k < xs.length) (h : cOk (gth xs k) = false) : lstB xs = false := by
  rw [lstB, decide_eq_false_iff_not]; intro hc; have := (hc k hk).1; rw [h] at this; cases this
theorem lstB_back {xs : List G} {k : Nat} (hk : k < xs.length) (h1 : 1 ≤ k) (h : (gth xs k).1 ≤ (gth xs (k - 1)).1) : lstB xs = false := by
  rw [lstB, decide_eq_false_iff_not]; intro hc; have := (hc k hk).2 h1; omega
theorem LstTo.step {xs : List G} {k : Nat} (h : LstTo xs k) (h1 : cOk (gth xs k) = true) (h2 : 1 ≤ k → (gth xs (k - 1)).1 < (gth xs k).1) : LstTo xs (k + 1) := by
  intro j hj
  rcases Nat.lt_or_ge j k with hlt | hge
  · exact h j hlt
  · obtain rfl : j = k := by omega
    exact ⟨h1, h2⟩
theorem cOk_parts {f d m : Int} (h : cOk (f, d, m) = true) : 0 ≤ f ∧ f ≤ 15 ∧ 1 ≤ d ∧ d ≤ 40 ∧ m = 0 := by
  simp only [cOk, Bool.and_eq_true, decide_eq_true_eq] at h; omega
theorem cOk_no {f d m : Int} (h : cOk (f, d, m) = false) : (f < 0 ∨ 15 < f) ∨ d < 1 ∨ 40 < d ∨ m ≠ 0 := by
  have : ¬ (0 ≤ f ∧ f ≤ 15 ∧ 1 ≤ d ∧ d ≤ 40 ∧ m = 0) := by
    intro hc
    have : cOk (f, d, m) = true := by simp only [cOk, Bool.and_eq_true, decide_eq_true_eq]; omega
    rw [h] at this; cases this
  omega

set_option maxRecDepth 100000 in
set_option maxHeartbeats 2000000 in
theorem isList_le (A : Option Addr) (n c : Nat) (xs : List G) (k : Int) (w : World) (h : Gs w w.heap.size A n c xs) (hnk : Hid ((n : Int) ≤ k)) :
    Calls Try.prog 63 #[.int .i64 k, .slice A n c] w fun e w' => e = .returned (.bool (lstOk k xs)) ∧ Below w.heap.size w w' := by
  have hm := h.most; have hcap := h.cap
  have hl := hide h.len
  have hnk2 : decide (k < (n : Int)) = false := by have := hnk.out; simp; omega
  have hnk3 : (n : Int) ≤ k := hnk.out
  go_enter Try.func63, Try.ntmps63
  go_wp2
  go_loopw [5, 6, 13] (fun _ _ i wr => ∃ j : Nat, j ≤ n ∧ i = .int .i64 j ∧ LstTo xs j ∧ Below w.heap.size w wr) (fun _ _ i _ => n - (intOf i).toNat)
  case atStart => exact ⟨0, Nat.zero_le _, rfl, (by intro j hj; omega), Below.refl _ _⟩
  case round =>
    obtain ⟨j, hj, rfl, hall, hb⟩ := hrel
    have HA := hide hall; have HB := hide hb; clear hall hb
    by_cases hlt : j < n
    · have hkl : j < xs.length := by rw [hl.out]; exact hlt
      obtain ⟨b, off, rfl, hbb, e1, e2, e3⟩ := (h.below (unhide HB)).at_ j hlt
      have hbs := (unhide HB).size
      have hgm := hide (gth_mem hkl)
      obtain ⟨f, hf⟩ : ∃ f, (gth xs j).1 = f := ⟨_, rfl⟩
      obtain ⟨d, hd⟩ : ∃ f, (gth xs j).2.1 = f := ⟨_, rfl⟩
      obtain ⟨m, hmm⟩ : ∃ f, (gth xs j).2.2 = f := ⟨_, rfl⟩
      rw [hf] at e1; rw [hd] at e2; rw [hmm] at e3
      have hgk := hide (show gth xs j = (f, d, m) from by rw [← hf, ← hd, ← hmm])
      clear hf hd hmm
      have HB1 := hide ((unhide HB).alloc hbs (.cells #[.int .i64 f, .int .i64 d, .int .i64 m] 68))
      rcases hok : cOk (f, d, m)
      · have hbad := hide (lstB_bad hkl (by rw [hgk.out]; exact hok))
        have hno := cOk_no hok
        clear hok
        by_cases hkey : isKeyB f = true
        · have HKEY := hide hkey
          have hfk : 0 ≤ f ∧ f ≤ 15 := by simpa [isKeyB] using hkey
          have hno2 : d < 1 ∨ 40 < d ∨ m ≠ 0 := by omega
          clear hno hkey
          by_cases h1 : d < 1
          · go_wp2_with (go_at_call 60; refine (isKey_is _ _ _ HKEY).mono ?_; rintro e w' ⟨rfl, rfl⟩)
            (go_ret; exact ⟨ret_bool (by have hwhy := hbad.out; rw [lstOk, hwhy, Bool.and_false]), by first | exact unhide HB1 | exact Below.drewN' (unhide HB1) _⟩)
          · have h1' : decide (d < 1) = false := by simpa using h1
            by_cases h2 : 40 < d
            · go_wp2_with (go_at_call 60; refine (isKey_is _ _ _ HKEY).mono ?_; rintro e w' ⟨rfl, rfl⟩)
              (go_ret; exact ⟨ret_bool (by have hwhy := hbad.out; rw [lstOk, hwhy, Bool.and_false]), by first | exact unhide HB1 | exact Below.drewN' (unhide HB1) _⟩)
            · have h2' : decide (40 < d) = false := by simpa using h2
              have h3 : (m != 0) = true := by simp; omega
              go_wp2_with (go_at_call 60; refine (isKey_is _ _ _ HKEY).mono ?_; rintro e w' ⟨rfl, rfl⟩)
              (go_ret; exact ⟨ret_bool (by have hwhy := hbad.out; rw [lstOk, hwhy, Bool.and_false]), by first | exact unhide HB1 | exact Below.drewN' (unhide HB1) _⟩)
        · have HKEY := hide (show isKeyB f = false from by simpa using hkey)
          clear hno hkey
          go_wp2_with (go_at_call 60; refine (isKey_is _ _ _ HKEY).mono ?_; rintro e w' ⟨rfl, rfl⟩)
          (go_ret; exact ⟨ret_bool (by have hwhy := hbad.out; rw [lstOk, hwhy, Bool.and_false]), by first | exact unhide HB1 | exact Below.drewN' (unhide HB1) _⟩)
      · obtain ⟨p1, p2, p3, p4, rfl⟩ := cOk_parts hok
        have hokg := hide (show cOk (gth xs j) = true from by rw [hgk.out]; exact hok)
        have HKEY := hide (show isKeyB f = true from by simp [isKeyB]; omega)
        clear hok
        have g1' : decide (f < 0) = false := by simp; omega
        have g2' : decide (15 < f) = false := by simp; omega
        have h1' : decide (d < 1) = false := by simp; omega
        have h2' : decide (40 < d) = false := by simp; omega
        rcases Nat.eq_zero_or_pos j with h0 | h0
        · subst h0
          simp only [Nat.zero_mul, Nat.add_zero] at e1 e2 e3
          have HS := hide (LstTo.step HA.out hokg.out (fun h => by omega))
          (go_wp2_with (go_at_call 60; refine (isKey_is _ _ _ HKEY).mono ?_; rintro e w' ⟨rfl, rfl⟩); go_big_quiet (fail); go_wp2)
          go_roundw
          case rel => exact ⟨1, by omega, by go_num, HS.out, by first | exact unhide HB1 | exact Below.drewN' (unhide HB1) _⟩
          case measure => simp [intOf]; omega
        · obtain ⟨b2, off2, ee, _, f1, _, _⟩ := (h.below (unhide HB)).at_ (j - 1) (by omega)
          simp only [Option.some.injEq, Addr.mk.injEq, and_true] at ee
          obtain ⟨rfl, rfl⟩ := ee
          obtain ⟨f', hf'⟩ : ∃ f', (gth xs (j - 1)).1 = f' := ⟨_, rfl⟩
          rw [hf'] at f1
          have HF' := hide hf'; clear hf'
          have f2 : (wr.alloc (.cells #[.int .i64 f, .int .i64 d, .int .i64 0] 68)).cell? ⟨b, off + (j - 1) * 3, none⟩ = some (.int .i64 f') := (World.cell?_alloc_lt wr _ _ (by show b < wr.heap.size; omega)).trans f1
          clear f1
          have hj0 : decide ((0 : Int) < (j : Int)) = true := by simp; omega
          have hj1 : (1 : Int) ≤ (j : Int) := by omega
          have hj2 : (j : Int) - 1 < (n : Int) := by omega
          have hj3 : ((j : Int) - 1).toNat = j - 1 := by omega
          by_cases hle : f ≤ f'
          · have hback := hide (lstB_back hkl h0 (by rw [hgk.out, HF'.out]; exact hle))
            (go_wp2_with (go_at_call 60; refine (isKey_is _ _ _ HKEY).mono ?_; rintro e w' ⟨rfl, rfl⟩); go_big_quiet (fail); go_wp2)
            (go_ret; exact ⟨ret_bool (by have hwhy := hback.out; rw [lstOk, hwhy, Bool.and_false]), by first | exact unhide HB1 | exact Below.drewN' (unhide HB1) _⟩)
          · have hle' : decide (f ≤ f') = false := by simpa using hle
            have HS := hide (LstTo.step HA.out hokg.out (fun _ => by rw [hgk.out, HF'.out]; omega))
            (go_wp2_with (go_at_call 60; refine (isKey_is _ _ _ HKEY).mono ?_; rintro e w' ⟨rfl, rfl⟩); go_big_quiet (fail); go_wp2)
            go_roundw
            case rel => exact ⟨j + 1, by omega, by go_num, HS.out, by first | exact unhide HB1 | exact Below.drewN' (unhide HB1) _⟩
            case measure => simp [intOf]; omega
    · obtain rfl : n = j := by omega
      have hyes := hide (lstB_yes (by rw [hl.out]; exact HA.out))
      go_wp2
      go_ret
      exact ⟨ret_bool (by rw [lstOk, hyes.out, hl.out]; simp; exact hnk3), unhide HB⟩

set_option maxRecDepth 100000 in
set_option maxHeartbeats 2000000 in
theorem RList_any (A : Option Addr) (n c : Nat) (xs : List G) (k : Int) (w : World) (h : Gs w w.heap.size A n c xs) :
    Calls Try.prog 33 #[.int .i64 k, .slice A n c] w fun e w' => e = .returned (.bool (lstB xs && (cntB k && decide ((xs.length : Int) ≤ k)))) ∧ Below w.heap.size w w' := by
  have hm := h.most; have hcap := h.cap
  have hl := hide h.len
  
  
  go_enter Try.func33, Try.ntmps33
  go_wp2
  go_loopw [5, 6, 9] (fun _ _ i wr => ∃ j : Nat, j ≤ n ∧ i = .int .i64 j ∧ LstTo xs j ∧ Below w.heap.size w wr) (fun _ _ i _ => n - (intOf i).toNat)
  case atStart => exact ⟨0, Nat.zero_le _, rfl, (by intro j hj; omega), Below.refl _ _⟩
  case round =>
    obtain ⟨j, hj, rfl, hall, hb⟩ := hrel
    have HA := hide hall; have HB := hide hb; clear hall hb
    by_cases hlt : j < n
    · have hkl : j < xs.length := by rw [hl.out]; exact hlt
      obtain ⟨b, off, rfl, hbb, e1, e2, e3⟩ := (h.below (unhide HB)).at_ j hlt
      have hbs := (unhide HB).size
      have hgm := hide (gth_mem hkl)
      obtain ⟨f, hf⟩ : ∃ f, (gth xs j).1 = f := ⟨_, rfl⟩
      obtain ⟨d, hd⟩ : ∃ f, (gth xs j).2.1 = f := ⟨_, rfl⟩
      obtain ⟨m, hmm⟩ : ∃ f, (gth xs j).2.2 = f := ⟨_, rfl⟩
      rw [hf] at e1; rw [hd] at e2; rw [hmm] at e3
      have hgk := hide (show gth xs j = (f, d, m) from by rw [← hf, ← hd, ← hmm])
      clear hf hd hmm
      have HB1 := hide ((unhide HB).alloc hbs (.cells #[.int .i64 f, .int .i64 d, .int .i64 m] 34))
      rcases hok : cOk (f, d, m)
      · have hbad := hide (lstB_bad hkl (by rw [hgk.out]; exact hok))
        have hno := cOk_no hok
        clear hok
        by_cases g1 : f < 0
        · (go_wp2; go_big_quiet (fail); go_wp2)
          (go_ret; exact ⟨ret_bool (by have hwhy := hbad.out; rw [hwhy]; rfl), by first | exact unhide HB1 | exact Below.drewN' (unhide HB1) _⟩)
        · have g1' : decide (f < 0) = false := by simpa using g1
          by_cases g2 : 15 < f
          · (go_wp2; go_big_quiet (fail); go_wp2)
            (go_ret; exact ⟨ret_bool (by have hwhy := hbad.out; rw [hwhy]; rfl), by first | exact unhide HB1 | exact Below.drewN' (unhide HB1) _⟩)
          · have g2' : decide (15 < f) = false := by simpa using g2
            by_cases h1 : d < 1
            · (go_wp2; go_big_quiet (fail); go_wp2)
              (go_ret; exact ⟨ret_bool (by have hwhy := hbad.out; rw [hwhy]; rfl), by first | exact unhide HB1 | exact Below.drewN' (unhide HB1) _⟩)
            · have h1' : decide (d < 1) = false := by simpa using h1
              by_cases h2 : 40 < d
              · (go_wp2; go_big_quiet (fail); go_wp2)
                (go_ret; exact ⟨ret_bool (by have hwhy := hbad.out; rw [hwhy]; rfl), by first | exact unhide HB1 | exact Below.drewN' (unhide HB1) _⟩)
              · have h2' : decide (40 < d) = false := by simpa using h2
                have h3 : (m != 0) = true := by simp; omega
                (go_wp2; go_big_quiet (fail); go_wp2)
                (go_ret; exact ⟨ret_bool (by have hwhy := hbad.out; rw [hwhy]; rfl), by first | exact unhide HB1 | exact Below.drewN' (unhide HB1) _⟩)
      · obtain ⟨p1, p2, p3, p4, rfl⟩ := cOk_parts hok
        have hokg := hide (show cOk (gth xs j) = true from by rw [hgk.out]; exact hok)
        have HKEY := hide (show isKeyB f = true from by simp [isKeyB]; omega)
        clear hok
        have g1' : decide (f < 0) = false := by simp; omega
        have g2' : decide (15 < f) = false := by simp; omega
        have h1' : decide (d < 1) = false := by simp; omega
        have h2' : decide (40 < d) = false := by simp; omega
        rcases Nat.eq_zero_or_pos j with h0 | h0
        · subst h0
          simp only [Nat.zero_mul, Nat.add_zero] at e1 e2 e3
          have HS := hide (LstTo.step HA.out hokg.out (fun h => by omega))
          (go_wp2; go_big_quiet (fail); go_wp2)
          go_roundw
          case rel => exact ⟨1, by omega, by go_num, HS.out, by first | exact unhide HB1 | exact Below.drewN' (unhide HB1) _⟩
          case measure => simp [intOf]; omega
        · obtain ⟨b2, off2, ee, _, f1, _, _⟩ := (h.below (unhide HB)).at_ (j - 1) (by omega)
          simp only [Option.some.injEq, Addr.mk.injEq, and_true] at ee
          obtain ⟨rfl, rfl⟩ := ee
          obtain ⟨f', hf'⟩ : ∃ f', (gth xs (j - 1)).1 = f' := ⟨_, rfl⟩
          rw [hf'] at f1
          have HF' := hide hf'; clear hf'
          have f2 : (wr.alloc (.cells #[.int .i64 f, .int .i64 d, .int .i64 0] 34)).cell? ⟨b, off + (j - 1) * 3, none⟩ = some (.int .i64 f') := (World.cell?_alloc_lt wr _ _ (by show b < wr.heap.size; omega)).trans f1
          clear f1
          have hj0 : decide ((0 : Int) < (j : Int)) = true := by simp; omega
          have hj1 : (1 : Int) ≤ (j : Int) := by omega
          have hj2 : (j : Int) - 1 < (n : Int) := by omega
          have hj3 : ((j : Int) - 1).toNat = j - 1 := by omega
          by_cases hle : f ≤ f'
          · have hback := hide (lstB_back hkl h0 (by rw [hgk.out, HF'.out]; exact hle))
            (go_wp2; go_big_quiet (fail); go_wp2)
            (go_ret; exact ⟨ret_bool (by have hwhy := hback.out; rw [hwhy]; rfl), by first | exact unhide HB1 | exact Below.drewN' (unhide HB1) _⟩)
          · have hle' : decide (f ≤ f') = false := by simpa using hle
            have HS := hide (LstTo.step HA.out hokg.out (fun _ => by rw [hgk.out, HF'.out]; omega))
            (go_wp2; go_big_quiet (fail); go_wp2)
            go_roundw
            case rel => exact ⟨j + 1, by omega, by go_num, HS.out, by first | exact unhide HB1 | exact Below.drewN' (unhide HB1) _⟩
            case measure => simp [intOf]; omega
    · obtain rfl : n = j := by omega
      have hyes := hide (lstB_yes (by rw [hl.out]; exact HA.out))
      rcases hc : cntB k
      · have HC := hide hc; clear hc
        go_wp2_with (go_at_call 19; refine (RCounters_is _ _ _ HC).mono ?_; rintro e w' ⟨rfl, rfl⟩)
        go_ret
        exact ⟨ret_bool (by rw [hyes.out, HC.out]; rfl), unhide HB⟩
      · have HC := hide hc; clear hc
        go_wp2_with (go_at_call 19; refine (RCounters_is _ _ _ HC).mono ?_; rintro e w' ⟨rfl, rfl⟩)
        go_ret
        exact ⟨ret_bool (by rw [hyes.out, HC.out, hl.out]; simp), unhide HB⟩
end Go.Proofs.Ytdlbahoenhhkdaa
