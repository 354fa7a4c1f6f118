/-
  Plain facts: meets and joins of parts, the order of parts.
-/
import Derived.Test.YtmpdalcdkibgpaaM2
namespace Go.Proofs.Ytmpdalcdkibgpaa
set_option maxRecDepth 100000 in
theorem turn_good : (List.range 13).all turnGood = true := by decide +kernel
set_option maxRecDepth 100000 in
theorem order_good : (List.range 13).all orderGood = true := by decide +kernel

/-- xs are parts of n. -/
structure IsP (xs : List Int) (n : Nat) : Prop where
  ok : partsOk xs = true
  sum : pre xs xs.length = n
  pos : 1 ≤ n
theorem IsP.le {xs : List Int} {n : Nat} (h : IsP xs n) : n ≤ 12 := by have := partsOk_sum h.ok; have := h.sum; omega
theorem IsP.mem {xs : List Int} {n : Nat} (h : IsP xs n) : xs ∈ allN n := parts_mem h.ok h.sum
theorem IsP.len {xs : List Int} {n : Nat} (h : IsP xs n) : 1 ≤ xs.length := by
  rcases hx : xs with _ | ⟨a, l⟩
  · have := h.sum; have := h.pos; subst hx; simp [pre] at *; omega
  · simp
theorem IsP.len12 {xs : List Int} {n : Nat} (h : IsP xs n) : xs.length ≤ 12 := partsOk_len h.ok
theorem IsP.small {xs : List Int} {n : Nat} (h : IsP xs n) : Small 12 xs := fun j => by
  rcases Nat.lt_or_ge j xs.length with hlt | hge
  · have := partsOk_bd h.ok hlt; omega
  · rw [nth_out hge]; omega
theorem IsP.parts {xs : List Int} {n : Nat} (h : IsP xs n) : parts xs = n := by rw [Ytmpdalcdkibgpaa.parts, if_pos h.ok, h.sum]
theorem pre_out {xs : List Int} : ∀ {k : Nat}, xs.length ≤ k → pre xs k = pre xs xs.length := by
  intro k
  induction k with
  | zero => intro h; obtain rfl : xs = [] := List.eq_nil_of_length_eq_zero (by omega); rfl
  | succ k ih =>
    intro h
    rcases Nat.lt_or_ge k xs.length with hlt | hge
    · rw [show k + 1 = xs.length from by omega]
    · simp only [pre]; rw [ih hge, nth_out hge]; omega
theorem isP_of {xs : List Int} (h : Ytmpdalcdkibgpaa.parts xs ≠ 0) : ∃ n, IsP xs n := by
  unfold Ytmpdalcdkibgpaa.parts at h
  split at h
  · next hk =>
    have h1 := pre_pos (partsOk_pos hk)
    exact ⟨(pre xs xs.length).toNat, hk, by omega, by omega⟩
  · exact absurd rfl h
theorem oneSum_isP {xs ys : List Int} (h : oneSum xs ys = true) : ∃ n, IsP xs n ∧ IsP ys n := by
  simp only [oneSum, Bool.and_eq_true, decide_eq_true_eq] at h
  obtain ⟨n, hn⟩ := isP_of h.1
  obtain ⟨m, hm⟩ := isP_of (xs := ys) (by rw [h.2]; exact h.1)
  have e1 := hn.parts; have e2 := hm.parts
  obtain rfl : m = n := by have := h.2; omega
  exact ⟨m, hn, hm⟩
theorem isP_oneSum {xs ys : List Int} {n : Nat} (h : IsP xs n) (h' : IsP ys n) : oneSum xs ys = true := by
  have := h.pos
  rw [oneSum, h.parts, h'.parts]
  simp only [Bool.and_eq_true, decide_eq_true_eq]
  exact ⟨by omega, trivial⟩
theorem isP_length {xs : List Int} {n k : Nat} (h : IsP xs n) (hk : xs.length ≤ k) : pre xs k = n := by rw [pre_out hk, h.sum]
theorem IsP.pre_le {xs : List Int} {n : Nat} (h : IsP xs n) (k : Nat) : 0 ≤ pre xs k ∧ pre xs k ≤ n ∧ (k < xs.length → pre xs k + 1 ≤ n) := by
  have h0 := (pre_bd h.small k).1
  rcases Nat.lt_or_ge k xs.length with hlt | hge
  · have h1 := pre_mono (partsOk_pos h.ok) (k := k + 1) (by omega)
    have h2 := partsOk_bd h.ok hlt
    have h3 := h.sum
    simp only [pre] at h1
    refine ⟨h0, by omega, fun _ => by omega⟩
  · rw [isP_length h hge]
    exact ⟨by omega, by omega, fun h => by omega⟩
theorem IsP.nth_pos {xs : List Int} {n : Nat} (h : IsP xs n) {k : Nat} (hk : k < xs.length) : 1 ≤ nth xs k := (partsOk_bd h.ok hk).1
theorem IsP.nth_fal {xs : List Int} {n : Nat} (h : IsP xs n) (k : Nat) : nth xs (k + 1) ≤ nth xs k := by
  rcases Nat.lt_or_ge (k + 1) xs.length with hlt | hge
  · have := (partsOk_Fal h.ok).2 (k + 1) hlt (by omega)
    simpa using this
  · rw [nth_out hge]; exact (h.small k).1

theorem nth_meet {a b : List Int} {k : Nat} (hk : k < max a.length b.length) : nth (meetF a b) k = meetAt a b k := by
  show (meetF a b).getD k 0 = _
  rw [List.getD, meetF, meetTo, List.getElem?_map, List.getElem?_range hk]
  simp
theorem meetF_length (a b : List Int) : (meetF a b).length = max a.length b.length := meetTo_length _ _ _
theorem pre_meet {a b : List Int} {n : Nat} (ha : IsP a n) (hb : IsP b n) : ∀ k, pre (meetF a b) k = min (pre a k) (pre b k) := by
  intro k
  induction k with
  | zero => simp [pre]
  | succ k ih =>
    rcases Nat.lt_or_ge k (max a.length b.length) with hlt | hge
    · have e : pre (meetF a b) (k + 1) = pre (meetF a b) k + nth (meetF a b) k := rfl
      rw [e, ih, nth_meet hlt, meetAt]
      omega
    · have e : pre (meetF a b) (k + 1) = pre (meetF a b) k + nth (meetF a b) k := rfl
      rw [e, ih, nth_out (by rw [meetF_length]; exact hge), isP_length ha (by omega), isP_length hb (by omega), isP_length ha (by omega), isP_length hb (by omega)]
      omega
theorem meet_isP {a b : List Int} {n : Nat} (ha : IsP a n) (hb : IsP b n) : IsP (meetF a b) n := by
  have hfal : Fal (meetF a b) := by
    refine ⟨fun t ht => ?_, fun j hj h1 => ?_⟩
    · rw [meetF_length] at ht
      rw [nth_meet ht, meetAt]
      have a1 := ha.pre_le t; have b1 := hb.pre_le t
      have ea : pre a (t + 1) = pre a t + nth a t := rfl
      have eb : pre b (t + 1) = pre b t + nth b t := rfl
      have na := (ha.small t).1; have nb := (hb.small t).1
      rcases Nat.lt_or_ge t a.length with h1 | h1
      · have pa := ha.nth_pos h1
        rcases Nat.lt_or_ge t b.length with h2 | h2
        · have pb := hb.nth_pos h2
          omega
        · have := isP_length hb h2; have := a1.2.2 h1
          omega
      · have h2 : t < b.length := by omega
        have pb := hb.nth_pos h2
        have := isP_length ha h1; have := b1.2.2 h2
        omega
    · rw [meetF_length] at hj
      obtain ⟨i, rfl⟩ : ∃ i, j = i + 1 := ⟨j - 1, by omega⟩
      rw [Nat.add_sub_cancel, nth_meet hj, nth_meet (by omega), meetAt, meetAt]
      have ea : pre a (i + 1) = pre a i + nth a i := rfl
      have eb : pre b (i + 1) = pre b i + nth b i := rfl
      have ea2 : pre a (i + 1 + 1) = pre a (i + 1) + nth a (i + 1) := rfl
      have eb2 : pre b (i + 1 + 1) = pre b (i + 1) + nth b (i + 1) := rfl
      have fa := ha.nth_fal i; have fb := hb.nth_fal i
      omega
  have hs : pre (meetF a b) (meetF a b).length = n := by
    rw [pre_meet ha hb, meetF_length, isP_length ha (by omega), isP_length hb (by omega)]
    omega
  have hyes := parts_yes (xs := meetF a b) (by rw [isFal, decide_eq_true_eq]; exact hfal.2) hfal.1 (by rw [hs]; have := ha.le; omega)
  refine ⟨?_, hs, ha.pos⟩
  by_cases hk : partsOk (meetF a b) = true
  · exact hk
  · have h1 := ha.pos
    rw [Ytmpdalcdkibgpaa.parts, if_neg hk, hs] at hyes
    omega
theorem meet_comm (a b : List Int) : meetF a b = meetF b a := by
  rw [meetF, meetF, Nat.max_comm, meetTo, meetTo]
  refine List.map_congr_left fun i _ => ?_
  rw [meetAt, meetAt, Int.min_comm, Int.min_comm (pre a i)]

theorem turnGood_of {xs : List Int} {n : Nat} (h : IsP xs n) : partsOk (turnF xs) = true ∧ pre (turnF xs) (turnF xs).length = n ∧ turnF (turnF xs) = xs := by
  have h1 := List.all_eq_true.1 turn_good n (List.mem_range.2 (by have := h.le; omega))
  have h2 := List.all_eq_true.1 h1 xs h.mem
  simpa [Bool.and_eq_true, and_assoc] using h2
theorem turn_isP {xs : List Int} {n : Nat} (h : IsP xs n) : IsP (turnF xs) n := ⟨(turnGood_of h).1, (turnGood_of h).2.1, h.pos⟩
theorem turn_turn {xs : List Int} {n : Nat} (h : IsP xs n) : turnF (turnF xs) = xs := (turnGood_of h).2.2

/-- xs are at least as uneven as ys. -/
def Dom (xs ys : List Int) : Prop := ∀ k, pre ys k ≤ pre xs k
theorem leAll_map {f g : Nat → Nat} {l : List Nat} : leAll (l.map f) (l.map g) = true ↔ ∀ k ∈ l, f k ≤ g k := by
  induction l with
  | nil => simp [leAll]
  | cons a l ih => simp [leAll, ih, Nat.ble_eq]
theorem leAll_dom {xs ys : List Int} {n : Nat} (hx : IsP xs n) (hy : IsP ys n) : leAll (prefs ys) (prefs xs) = true ↔ Dom xs ys := by
  rw [prefs, prefs, leAll_map]
  have lx := hx.len12; have ly := hy.len12
  refine ⟨fun h k => ?_, fun h k hk => ?_⟩
  · have a := hx.pre_le k; have b := hy.pre_le k
    rcases Nat.lt_or_ge k 13 with h1 | h1
    · have := h k (List.mem_range.2 h1); omega
    · rw [isP_length hx (by omega), isP_length hy (by omega)]; omega
  · have := h k; omega
theorem dom_turn {xs ys : List Int} {n : Nat} (hx : IsP xs n) (hy : IsP ys n) : Dom xs ys ↔ Dom (turnF ys) (turnF xs) := by
  have h1 := List.all_eq_true.1 order_good n (List.mem_range.2 (by have := hx.le; omega))
  have h2 := List.all_eq_true.1 h1 (prefs xs, prefs (turnF xs)) (List.mem_map.2 ⟨xs, hx.mem, rfl⟩)
  have h3 := List.all_eq_true.1 h2 (prefs ys, prefs (turnF ys)) (List.mem_map.2 ⟨ys, hy.mem, rfl⟩)
  have h4 : leAll (prefs ys) (prefs xs) = leAll (prefs (turnF xs)) (prefs (turnF ys)) := by simpa using h3
  rw [← leAll_dom hx hy, h4, leAll_dom (turn_isP hy) (turn_isP hx)]

theorem fallR_of_fal {xs : List Int} (h : isFal xs = true) : fallR xs = xs := by
  refine desc_unique (fallR_desc xs) ?_ (fallR_perm xs)
  rw [isFal, decide_eq_true_eq] at h
  have key : ∀ i j, i < j → j < xs.length → nth xs j ≤ nth xs i := by
    intro i j
    induction j with
    | zero => intro h1; omega
    | succ j ih =>
      intro h1 h2
      have h3 := h (j + 1) h2 (by omega)
      rw [Nat.add_sub_cancel] at h3
      rcases Nat.lt_or_ge i j with h4 | h4
      · have := ih h4 (by omega); omega
      · obtain rfl : i = j := by omega
        exact h3
  rw [Desc, List.pairwise_iff_getElem]
  intro i j hi hj hij
  have := key i j hij hj
  simpa [nth, List.getD, hi, hj] using this
theorem pre_min (xs : List Int) (k : Nat) : sumTo xs k = pre xs k := by
  rw [sumTo]
  rcases Nat.lt_or_ge k xs.length with h | h
  · rw [show min k xs.length = k from by omega]
  · rw [show min k xs.length = xs.length from by omega, pre_out h]
theorem unevR_dom {xs ys : List Int} {n : Nat} (hx : IsP xs n) (hy : IsP ys n) : unevR xs ys = true ↔ Dom xs ys := by
  rw [unevR, fallR_of_fal (partsOk_fal hx.ok), fallR_of_fal (partsOk_fal hy.ok)]
  simp only [Bool.and_eq_true, decide_eq_true_eq, pre_min, hx.sum, hy.sum, and_true]
  refine ⟨fun h k => ?_, fun h k _ => h k⟩
  rcases Nat.lt_or_ge k (xs.length + ys.length) with h1 | h1
  · exact h k h1
  · rw [isP_length hx (by omega), isP_length hy (by omega)]; omega
/-- The least uneven parts above two. -/
def joinF (xs ys : List Int) : List Int := turnF (meetF (turnF xs) (turnF ys))
theorem join_isP {a b : List Int} {n : Nat} (ha : IsP a n) (hb : IsP b n) : IsP (joinF a b) n := turn_isP (meet_isP (turn_isP ha) (turn_isP hb))
theorem join_comm (a b : List Int) : joinF a b = joinF b a := by rw [joinF, joinF, meet_comm]
theorem dom_meet_left {a b : List Int} {n : Nat} (ha : IsP a n) (hb : IsP b n) : Dom a (meetF a b) := fun k => by rw [pre_meet ha hb]; omega
theorem dom_meet {a b c : List Int} {n : Nat} (ha : IsP a n) (hb : IsP b n) (h1 : Dom a c) (h2 : Dom b c) : Dom (meetF a b) c := fun k => by
  rw [pre_meet ha hb]; have := h1 k; have := h2 k; omega
theorem dom_join_left {a b : List Int} {n : Nat} (ha : IsP a n) (hb : IsP b n) : Dom (joinF a b) a := by
  have h := dom_meet_left (turn_isP ha) (turn_isP hb)
  rw [dom_turn (turn_isP ha) (meet_isP (turn_isP ha) (turn_isP hb)), turn_turn ha] at h
  exact h
theorem dom_join {a b c : List Int} {n : Nat} (ha : IsP a n) (hb : IsP b n) (hc : IsP c n) (h1 : Dom c a) (h2 : Dom c b) : Dom c (joinF a b) := by
  rw [dom_turn hc ha] at h1
  rw [dom_turn hc hb] at h2
  have h := dom_meet (turn_isP ha) (turn_isP hb) h1 h2
  rw [dom_turn (meet_isP (turn_isP ha) (turn_isP hb)) (turn_isP hc), turn_turn hc] at h
  exact h
end Go.Proofs.Ytmpdalcdkibgpaa
