import Derived.Test.YtdlbahoenhhkdaaO4
/-
  Tables that come in: plain facts; isTable, Ask, table.
-/
namespace Go.Proofs.Ytdlbahoenhhkdaa
open Go.RowKit

def rowOk (m : Nat) (r : List Int) : Bool := decide (r.length = m) && allIn 0 80 r
def isTab (xss : List (List Int)) : Bool := decide (1 ≤ xss.length) && sizeB xss.length (row xss 0).length && xss.all (rowOk (row xss 0).length)
def RowsTo (xss : List (List Int)) (k : Nat) : Prop := ∀ j, j < k → rowOk (row xss 0).length (row xss j) = true
theorem row_mem {xss : List (List Int)} {k : Nat} (h : k < xss.length) : row xss k ∈ xss := by simp [row, List.getD, h]
theorem mem_row {xss : List (List Int)} {r : List Int} (h : r ∈ xss) : ∃ k, k < xss.length ∧ row xss k = r := by
  obtain ⟨j, hj, e⟩ := List.getElem_of_mem h
  exact ⟨j, hj, by simp [row, List.getD, hj, e]⟩
theorem isTab_no {xss : List (List Int)} {k : Nat} (h : k < xss.length) (hr : rowOk (row xss 0).length (row xss k) = false) : isTab xss = false := by
  rw [Bool.eq_false_iff]; intro hc
  simp only [isTab, Bool.and_eq_true, List.all_eq_true] at hc
  have := hc.2 _ (row_mem h)
  rw [hr] at this; cases this
theorem isTab_yes {xss : List (List Int)} (h : RowsTo xss xss.length) : isTab xss = (decide (1 ≤ xss.length) && sizeB xss.length (row xss 0).length) := by
  have e : xss.all (rowOk (row xss 0).length) = true := by
    rw [List.all_eq_true]
    intro r hr
    obtain ⟨k, hk, rfl⟩ := mem_row hr
    exact h k hk
  rw [isTab, e, Bool.and_true]
theorem isTab_parts {xss : List (List Int)} (h : isTab xss = true) : 1 ≤ xss.length ∧ xss.length ≤ 4 ∧ 1 ≤ (row xss 0).length ∧ (row xss 0).length ≤ 8 ∧ ∀ k, k < xss.length → (row xss k).length = (row xss 0).length ∧ allIn 0 80 (row xss k) = true := by
  simp only [isTab, Bool.and_eq_true, decide_eq_true_eq, List.all_eq_true] at h
  obtain ⟨⟨h1, h2⟩, h3⟩ := h
  have := sizeB_bd h2
  refine ⟨h1, by omega, by omega, by omega, fun k hk => ?_⟩
  have h4 := h3 _ (row_mem hk)
  simpa only [rowOk, Bool.and_eq_true, decide_eq_true_eq] using h4

/-- What the laws hand over of slices. -/
def cutT (xss : List (List Int)) : List (List Int) := (xss.take 7).map fun r => r.take 11
theorem cutT_row {xss : List (List Int)} {k : Nat} (hk : k < 7) : row (cutT xss) k = (row xss k).take 11 := by
  unfold row cutT
  simp only [List.getD, List.getElem?_map, List.getElem?_take, hk, if_true]
  cases xss[k]? <;> simp
theorem cutT_same {xss : List (List Int)} (h1 : xss.length ≤ 7) (h2 : ∀ k, k < xss.length → (row xss k).length ≤ 11) : cutT xss = xss := by
  unfold cutT
  rw [List.take_of_length_le h1]
  apply List.ext_getElem
  · simp
  · intro i a b
    have hi : i < xss.length := b
    have := h2 i hi
    simp only [row, List.getD, List.getElem?_eq_getElem hi, Option.getD_some] at this
    simp [List.take_of_length_le this]
theorem cutT_of_tab {xss : List (List Int)} (h : isTab xss = true) : cutT xss = xss := by
  obtain ⟨h1, h2, h3, h4, h5⟩ := isTab_parts h
  exact cutT_same (by omega) fun k hk => by rw [(h5 k hk).1]; omega
theorem isTab_cut (xss : List (List Int)) : isTab (cutT xss) = isTab xss := by
  rcases h : isTab (cutT xss)
  · rcases h' : isTab xss
    · rfl
    · rw [cutT_of_tab h', h'] at h; cases h
  · obtain ⟨h1, h2, h3, h4, h5⟩ := isTab_parts h
    have hl : xss.length ≤ 4 := by simp [cutT] at h2; omega
    have e : cutT xss = xss := cutT_same (by omega) fun k hk => by
      have h6 := (h5 k (by simp [cutT]; omega)).1
      rw [cutT_row (by omega)] at h6
      have : ((row xss k).take 11).length ≤ 8 := by omega
      simp at this; omega
    rw [← e]; exact h.symm

/-- The least number at which a key counts, in the first r rows. -/
def askTo (xss : List (List Int)) (key : Nat) : Nat → Int
  | 0 => 80
  | r + 1 => min (askTo xss key r) (nth (row xss r) (pl r key (row xss r).length))
def ask (xss : List (List Int)) (key : Nat) : Int := askTo xss key xss.length

theorem run_min' (x y : Int) (W : World) : (Builtin.min_ #[3, 3] 3 #[.int .i64 x, .int .i64 y]).run Try.prog W = .ok (.int .i64 (min x y)) W := by
  rw [run_min_int2 (P := Try.prog)]
  congr 2
  split <;> omega

theorem bool_not {b : Bool} (h : ¬ b = true) : b = false := by simpa using h

set_option maxHeartbeats 800000 in
theorem isTable_any (A : Option Addr) (n c : Nat) (xss : List (List Int)) (w : World) (B : Nat) (h : Rows_ w B A n c xss) :
    Calls Try.prog 71 #[.slice A n c] w fun e w' => e = .returned (.bool (isTab xss)) ∧ w = w' := by
  have hm := h.most; have hcap := h.cap
  have hl := hide h.len
  rcases Nat.eq_zero_or_pos n with h0 | h0
  · subst h0
    go_enter Try.func71, Try.ntmps71
    go_wp2_with fail
    go_ret
    exact ⟨ret_bool (by simp [isTab, hl.out]), rfl⟩
  · obtain ⟨b0, off0, A0, n0, c0, rfl, hb0, hc0, hi0⟩ := h.at_ 0 h0
    have hc0' : w.cell? ⟨b0, off0, none⟩ = some (.slice A0 n0 c0) := hc0
    have hL0 := hide hi0.len
    have hn0 : ((n : Int) == 0) = false := by simp; omega
    rcases hs : sizeB (n : Int) (n0 : Int)
    · have HS := hide hs; clear hs
      go_enter Try.func71, Try.ntmps71
      go_wp2_with (go_at_call 66; refine (isSize_is _ _ _ _ HS).mono ?_; rintro e w' ⟨rfl, rfl⟩)
      go_ret
      exact ⟨ret_bool (by rw [isTab, hl.out, hL0.out, HS.out]; simp), rfl⟩
    · have HS := hide hs; clear hs
      go_enter Try.func71, Try.ntmps71
      go_wp2_with (go_at_call 66; refine (isSize_is _ _ _ _ HS).mono ?_; rintro e w' ⟨rfl, rfl⟩)
      go_loopw [4, 20] (fun _ i wr => ∃ k : Nat, k ≤ n ∧ i = .int .i64 k ∧ RowsTo xss k ∧ w = wr) (fun _ i _ => n - (intOf i).toNat)
      case atStart => exact ⟨0, Nat.zero_le _, rfl, (by intro j hj; omega), rfl⟩
      case round =>
        obtain ⟨k, hk, rfl, hall, rfl⟩ := hrel
        have HA := hide hall; clear hall
        by_cases hlt : k < n
        · obtain ⟨A1, n1, c1, hc1, hi1⟩ := h.get hlt
          have hL1 := hide hi1.len
          by_cases hlen : n1 = n0
          · subst hlen
            rcases hw : allIn 0 80 (row xss k)
            · have HW := hide hw; clear hw
              go_wp2_with (go_at_call 79; refine ((allWithin_any _ _ _ _ _ _ _ _ hi1).mono ?_); rintro e w' ⟨rfl, rfl⟩; rw [HW.out])
              go_ret
              exact ⟨ret_bool (isTab_no (k := k) (by rw [hl.out]; exact hlt) (by rw [rowOk, HW.out, Bool.and_false])).symm, rfl⟩
            · have HW := hide hw; clear hw
              go_wp2_with (go_at_call 79; refine ((allWithin_any _ _ _ _ _ _ _ _ hi1).mono ?_); rintro e w' ⟨rfl, rfl⟩; rw [HW.out])
              go_roundw
              case rel => exact ⟨k + 1, by omega, by go_num, (by
                intro j hj
                rcases Nat.lt_or_ge j k with h1 | h1
                · exact HA.out j h1
                · obtain rfl : j = k := by omega
                  rw [rowOk, HW.out, hL1.out, hL0.out]; simp), trivial⟩
              case measure => simp [intOf]; omega
          · have hne : ((n1 : Int) != (n0 : Int)) = true := by simp; omega
            have HL := hide hlen; clear hlen
            go_wp2_with fail
            go_ret
            exact ⟨ret_bool (isTab_no (k := k) (by rw [hl.out]; exact hlt) (by rw [rowOk, hL1.out, hL0.out]; simp [HL.out])).symm, rfl⟩
        · obtain rfl : n = k := by omega
          go_wp2
          go_ret
          refine ⟨ret_bool ?_, rfl⟩
          have := HA.out
          rw [isTab_yes (by rw [hl.out]; exact HA.out), hl.out, hL0.out, HS.out]
          simp; omega
end Go.Proofs.Ytdlbahoenhhkdaa
