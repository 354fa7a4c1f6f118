import Derived.Test.YtmpdalcdkibgpaaL1
namespace Go.Proofs.Ytmpdalcdkibgpaa
open Go.RowKit Go.Sort

def partsOk (xs : List Int) : Bool := isFal xs && allIn 1 12 xs && decide (pre xs xs.length ≤ 12)
/-- The sum of parts, 0: the list is none. -/
def parts (xs : List Int) : Int := if partsOk xs = true then pre xs xs.length else 0

def PosTo (xs : List Int) (k : Nat) : Prop := ∀ t, t < k → 1 ≤ nth xs t
theorem PosTo.step {xs : List Int} {k : Nat} (h : PosTo xs k) (h2 : 1 ≤ nth xs k) : PosTo xs (k + 1) := by
  intro j hj
  rcases Nat.lt_or_ge j k with hlt | hge
  · exact h j hlt
  · have e : j = k := by omega
    subst e; exact h2
theorem allIn_nth {lo hi : Int} {xs : List Int} (h : allIn lo hi xs = true) {k : Nat} (hk : k < xs.length) : lo ≤ nth xs k ∧ nth xs k ≤ hi := by
  simp only [allIn, List.all_eq_true, Bool.and_eq_true, decide_eq_true_eq] at h
  exact h _ (nth_mem hk)
theorem allIn_of {lo hi : Int} {xs : List Int} (h : ∀ k, k < xs.length → lo ≤ nth xs k ∧ nth xs k ≤ hi) : allIn lo hi xs = true := by
  simp only [allIn, List.all_eq_true, Bool.and_eq_true, decide_eq_true_eq]
  intro x hx
  obtain ⟨k, hk, rfl⟩ := List.getElem_of_mem hx
  have := h k hk
  simpa [nth, List.getD, hk] using this
theorem pre_pos {xs : List Int} {k : Nat} (h : PosTo xs k) : (k : Int) ≤ pre xs k := by
  induction k with
  | zero => simp [pre]
  | succ k ih =>
    have h1 := ih fun t ht => h t (by omega)
    have h2 := h k (by omega)
    simp only [pre]; omega
theorem pre_mono {xs : List Int} {n : Nat} (h : PosTo xs n) : ∀ {k : Nat}, k ≤ n → pre xs k ≤ pre xs n := by
  induction n with
  | zero => intro k hk; obtain rfl : k = 0 := by omega
            omega
  | succ n ih =>
    intro k hk
    rcases Nat.lt_or_ge k (n + 1) with hlt | hge
    · have h1 := ih (fun t ht => h t (by omega)) (k := k) (by omega)
      have h2 := h n (by omega)
      simp only [pre]; omega
    · obtain rfl : k = n + 1 := by omega
      omega
theorem partsOk_pos {xs : List Int} (h : partsOk xs = true) : PosTo xs xs.length := by
  simp only [partsOk, Bool.and_eq_true, decide_eq_true_eq] at h
  exact fun t ht => (allIn_nth h.1.2 ht).1
theorem partsOk_sum {xs : List Int} (h : partsOk xs = true) : pre xs xs.length ≤ 12 := by
  simp only [partsOk, Bool.and_eq_true, decide_eq_true_eq] at h
  exact h.2
theorem partsOk_fal {xs : List Int} (h : partsOk xs = true) : isFal xs = true := by
  simp only [partsOk, Bool.and_eq_true, decide_eq_true_eq] at h
  exact h.1.1
theorem partsOk_len {xs : List Int} (h : partsOk xs = true) : xs.length ≤ 12 := by
  have h1 := pre_pos (partsOk_pos h); have h2 := partsOk_sum h
  omega
theorem partsOk_bd {xs : List Int} (h : partsOk xs = true) {k : Nat} (hk : k < xs.length) : 1 ≤ nth xs k ∧ nth xs k ≤ 12 := by
  simp only [partsOk, Bool.and_eq_true, decide_eq_true_eq] at h
  exact allIn_nth h.1.2 hk
theorem parts_fal {xs : List Int} (h : isFal xs = false) : parts xs = 0 := by simp [parts, partsOk, h]
theorem parts_low {xs : List Int} {k : Nat} (hk : k < xs.length) (h : nth xs k < 1) : parts xs = 0 := by
  rw [parts, if_neg]
  intro hc; have := partsOk_bd hc hk; omega
theorem parts_hi {xs : List Int} {k : Nat} (hk : k < xs.length) (h : 12 < nth xs k) : parts xs = 0 := by
  rw [parts, if_neg]
  intro hc; have := partsOk_bd hc hk; omega
theorem parts_over {xs : List Int} {k : Nat} (hk : k < xs.length) (h : 12 - pre xs k < nth xs k) : parts xs = 0 := by
  rw [parts, if_neg]
  intro hc
  have h1 := pre_mono (partsOk_pos hc) (k := k + 1) (by omega)
  have h2 := partsOk_sum hc
  simp only [pre] at h1
  omega
theorem parts_sum {xs : List Int} (h : 12 < pre xs xs.length) : parts xs = 0 := by
  rw [parts, if_neg]
  intro hc; have := partsOk_sum hc; omega
theorem parts_yes {xs : List Int} (h1 : isFal xs = true) (h2 : PosTo xs xs.length) (h3 : pre xs xs.length ≤ 12) : parts xs = pre xs xs.length := by
  rw [parts, if_pos]
  rw [partsOk, h1, Bool.true_and, Bool.and_eq_true, decide_eq_true_eq]
  refine ⟨allIn_of fun k hk => ⟨h2 k hk, ?_⟩, h3⟩
  have h4 := pre_mono h2 (k := k + 1) (by omega)
  have h5 := pre_pos (xs := xs) (k := k) fun t ht => h2 t (by omega)
  simp only [pre] at h4
  omega

theorem isFalling_is (A : Option Addr) (n c : Nat) (xs : List Int) (w : World) (B : Nat) (h : Ints w B A n c xs) (b : Bool) (hb : Hid (isFal xs = b)) :
    Calls Try.prog 65 #[.slice A n c] w fun e w' => e = .returned (.bool b) ∧ ∃ q, w' = w.drewN q :=
  (isFalling_any A n c xs w B h).mono fun _ _ ⟨he, hw⟩ => ⟨by rw [he, hb.out], hw⟩
theorem Falling_is (A : Option Addr) (n c : Nat) (xs : List Int) (w : World) (B : Nat) (h : Ints w B A n c xs) (b : Bool) (hb : Hid (isFal xs = b)) :
    Calls Try.prog 28 #[.slice A n c] w fun e w' => e = .returned (.bool b) ∧ ∃ q, w' = w.drewN q :=
  (Falling_any A n c xs w B h).mono fun _ _ ⟨he, hw⟩ => ⟨by rw [he, hb.out], hw⟩

set_option maxHeartbeats 800000 in
theorem sumOfParts_any (A : Option Addr) (n c : Nat) (xs : List Int) (w : World) (B : Nat) (h : Ints w B A n c xs) :
    Calls Try.prog 92 #[.slice A n c] w fun e w' => e = .returned (.int .i64 (parts xs)) ∧ ∃ q, w' = w.drewN q := by
  have hm := h.most; have hcap := h.cap
  have hl := hide h.len
  rcases hf : isFal xs
  · have HF := hide hf; clear hf
    go_enter Try.func92, Try.ntmps92
    go_wp2_with fail
    refine (isFalling_is _ _ _ _ _ _ h _ HF).mono ?_
    rintro e w1 ⟨rfl, q, rfl⟩
    go_wp2_with fail
    go_ret
    exact ⟨ret_int (parts_fal HF.out).symm, q, rfl⟩
  · have HF := hide hf; clear hf
    go_enter Try.func92, Try.ntmps92
    go_wp2_with fail
    refine (isFalling_is _ _ _ _ _ _ h _ HF).mono ?_
    rintro e w1 ⟨rfl, q, rfl⟩
    go_wp2_with fail
    go_loop [11, 3] (fun i s => ∃ k : Nat, k ≤ n ∧ i = .int .i64 k ∧ s = .int .i64 (pre xs k) ∧ PosTo xs k ∧ 0 ≤ pre xs k ∧ pre xs k ≤ 12) (fun i _ => n - (intOf i).toNat)
    case atStart => exact ⟨0, Nat.zero_le _, rfl, rfl, (by intro t ht; omega), by simp [pre], by simp [pre]⟩
    case round =>
      obtain ⟨k, hk, rfl, rfl, hp, h0, h12⟩ := hrel
      have HP := hide hp; clear hp
      by_cases hlt : k < n
      · obtain ⟨b, off, rfl, hb, hc⟩ := h.at_ k hlt
        have hkl := hide (show k < xs.length from by rw [hl.out]; exact hlt)
        have HS := hide (show pre xs (k + 1) = pre xs k + nth xs k from rfl)
        by_cases h1 : nth xs k < 1
        · go_wp2_with fail
          go_ret
          exact ⟨ret_int (parts_low hkl.out h1).symm, q, rfl⟩
        by_cases h2 : 12 - pre xs k < nth xs k
        · go_wp2_with fail
          go_ret
          exact ⟨ret_int (parts_over hkl.out h2).symm, q, rfl⟩
        have HP2 := hide ((unhide HP).step (by omega))
        go_wp2_with fail
        go_round
        case rel => exact ⟨k + 1, by omega, by go_num, by rw [HS.out], unhide HP2, by rw [HS.out]; omega, by rw [HS.out]; omega⟩
        case measure => simp [intOf]; omega
      · obtain rfl : k = n := by omega
        have HH := hide h12
        clear h12
        go_wp2_with fail
        go_ret
        exact ⟨ret_int (by rw [parts_yes HF.out (by rw [hl.out]; exact unhide HP) (by rw [hl.out]; exact HH.out), hl.out]), q, rfl⟩

set_option maxHeartbeats 800000 in
theorem Parts_any (A : Option Addr) (n c : Nat) (xs : List Int) (w : World) (B : Nat) (h : Ints w B A n c xs) (hn : n ≤ 17592186044416) :
    Calls Try.prog 52 #[.slice A n c] w fun e w' => e = .returned (.int .i64 (parts xs)) ∧ ∃ q, w' = w.drewN q := by
  have hm := h.most; have hcap := h.cap
  have hl := hide h.len
  go_enter Try.func52, Try.ntmps52
  go_wp2_with fail
  go_loop [8, 3] (fun i s => ∃ k : Nat, k ≤ n ∧ i = .int .i64 k ∧ s = .int .i64 (pre xs k) ∧ PosTo xs k ∧ 0 ≤ pre xs k ∧ pre xs k ≤ 12 * k) (fun i _ => n - (intOf i).toNat)
  case atStart => exact ⟨0, Nat.zero_le _, rfl, rfl, (by intro t ht; omega), by simp [pre], by simp [pre]⟩
  case round =>
    obtain ⟨k, hk, rfl, rfl, hp, h0, h12⟩ := hrel
    have HP := hide hp; clear hp
    by_cases hlt : k < n
    · obtain ⟨b, off, rfl, hb, hc⟩ := h.at_ k hlt
      have hkl := hide (show k < xs.length from by rw [hl.out]; exact hlt)
      have HS := hide (show pre xs (k + 1) = pre xs k + nth xs k from rfl)
      by_cases h1 : nth xs k < 1
      · go_wp2_with fail
        go_ret
        exact ⟨ret_int (parts_low hkl.out h1).symm, 0, rfl⟩
      by_cases h2 : 12 < nth xs k
      · go_wp2_with fail
        go_ret
        exact ⟨ret_int (parts_hi hkl.out h2).symm, 0, rfl⟩
      have HP2 := hide ((unhide HP).step (by omega))
      go_wp2_with fail
      go_round
      case rel => exact ⟨k + 1, by omega, by go_num, by rw [HS.out], unhide HP2, by rw [HS.out]; omega, by rw [HS.out]; omega⟩
      case measure => simp [intOf]; omega
    · obtain rfl : k = n := by omega
      rcases hf : isFal xs
      · have HF := hide hf; clear hf
        go_wp2_with fail
        refine (Falling_is _ _ _ _ _ _ h _ HF).mono ?_
        rintro e w1 ⟨rfl, q, rfl⟩
        go_wp2_with fail
        go_ret
        exact ⟨ret_int (parts_fal HF.out).symm, q, rfl⟩
      · have HF := hide hf; clear hf
        by_cases h3 : 12 < pre xs k
        · go_wp2_with fail
          refine (Falling_is _ _ _ _ _ _ h _ HF).mono ?_
          rintro e w1 ⟨rfl, q, rfl⟩
          go_wp2_with fail
          go_ret
          exact ⟨ret_int (parts_sum (by rw [hl.out]; exact h3)).symm, q, rfl⟩
        · have h4 : pre xs k ≤ 12 := by omega
          go_wp2_with fail
          refine (Falling_is _ _ _ _ _ _ h _ HF).mono ?_
          rintro e w1 ⟨rfl, q, rfl⟩
          go_wp2_with fail
          go_ret
          exact ⟨ret_int (by rw [parts_yes HF.out (by rw [hl.out]; exact unhide HP) (by rw [hl.out]; exact h4), hl.out]), q, rfl⟩
end Go.Proofs.Ytmpdalcdkibgpaa
