/-
  Which row comes first; slices.Compare at numbers.
-/
import Derived.Test.YtmgoonoifgcmnaaN1
import Derived.Test.YtmgoonoifgcmnaaShelf
import Derived.Test.YtmgoonoifgcmnaaW5
namespace Go.Proofs.Ytmgoonoifgcmnaa
open Go.RowKit

/-- Which of two lists comes first. -/
def cmpL : List Int → List Int → Int
  | [], [] => 0
  | [], _ :: _ => -1
  | _ :: _, [] => 1
  | x :: xs, y :: ys => if x < y then -1 else if y < x then 1 else cmpL xs ys
theorem nth_cons (x : Int) (xs : List Int) (k : Nat) : nth (x :: xs) (k + 1) = nth xs k := by simp [nth, List.getD]
theorem cmpL_at : ∀ {xs ys : List Int} {k : Nat}, (∀ j, j < k → nth xs j = nth ys j) → k < xs.length → k < ys.length → nth xs k ≠ nth ys k → cmpL xs ys = if nth xs k < nth ys k then -1 else 1
  | [], _, _, _, h, _, _ => absurd h (by simp)
  | _ :: _, [], _, _, _, h, _ => absurd h (by simp)
  | x :: xs, y :: ys, 0, _, _, _, hne => by
    have e1 : nth (x :: xs) 0 = x := rfl
    have e2 : nth (y :: ys) 0 = y := rfl
    rw [e1, e2] at hne ⊢
    unfold cmpL
    split
    · rfl
    · rw [if_pos (by omega)]
  | x :: xs, y :: ys, k + 1, h, h1, h2, hne => by
    have e : x = y := h 0 (by omega)
    subst e
    unfold cmpL
    rw [if_neg (by omega), if_neg (by omega), nth_cons, nth_cons]
    rw [nth_cons, nth_cons] at hne
    exact cmpL_at (fun j hj => by have := h (j + 1) (by omega); rwa [nth_cons, nth_cons] at this) (by simpa using h1) (by simpa using h2) hne
theorem cmpL_far : ∀ {xs ys : List Int}, (∀ j, j < ys.length → nth xs j = nth ys j) → ys.length < xs.length → cmpL xs ys = 1
  | [], _, _, h => absurd h (by simp)
  | _ :: _, [], _, _ => rfl
  | x :: xs, y :: ys, h, h1 => by
    have e : x = y := h 0 (by simp)
    subst e
    unfold cmpL
    rw [if_neg (by omega), if_neg (by omega)]
    exact cmpL_far (fun j hj => by have := h (j + 1) (by simpa using hj); rwa [nth_cons, nth_cons] at this) (by simpa using h1)
theorem cmpL_end : ∀ {xs ys : List Int}, (∀ j, j < xs.length → nth xs j = nth ys j) → xs.length ≤ ys.length → cmpL xs ys = if xs.length < ys.length then -1 else 0
  | [], [], _, _ => rfl
  | [], _ :: _, _, _ => by simp [cmpL]
  | _ :: _, [], _, h => absurd h (by simp)
  | x :: xs, y :: ys, h, h1 => by
    have e : x = y := h 0 (by simp)
    subst e
    unfold cmpL
    rw [if_neg (by omega), if_neg (by omega), cmpL_end (fun j hj => by have := h (j + 1) (by simpa using hj); rwa [nth_cons, nth_cons] at this) (by simpa using h1)]
    simp
/-- All numbers of a row are from 1 to n. -/
theorem places_out1 (xs : List Int) (m i0 : Nat) (h0 : ¬ (1 ≤ nth xs i0 ∧ nth xs i0 ≤ (m : Int))) : ∀ k : Nat, sumN (fun j => (plT xs ((j : Int) + 1) k).length) m + (if i0 < k then 1 else 0) ≤ k
  | 0 => by
    have := places_sum xs m 0
    simp; omega
  | k + 1 => by
    have h1 := places_out1 xs m i0 h0 k
    have e : sumN (fun j => (plT xs ((j : Int) + 1) (k + 1)).length) m = sumN (fun j => (plT xs ((j : Int) + 1) k).length + if nth xs k = (j : Int) + 1 then 1 else 0) m :=
      sumN_ext fun j _ => by rw [plT_succ, List.length_append]; split <;> simp
    have h2 := sumN_one (nth xs k) m
    rw [e, sumN_add]
    by_cases c : i0 = k
    · subst c
      rw [if_neg h0] at h2
      rw [if_pos (by omega)]
      split at h1 <;> omega
    · split at h2 <;> split at h1 <;> split <;> omega
theorem row_bd {s : Int} {xs : List Int} (h : rowB s xs = true) {i : Nat} (hi : i < xs.length) : 1 ≤ nth xs i ∧ nth xs i ≤ ((xs.length / 2 : Nat) : Int) := by
  rcases Classical.em (1 ≤ nth xs i ∧ nth xs i ≤ ((xs.length / 2 : Nat) : Int)) with h1 | h1
  · exact h1
  · obtain ⟨m, _, _, h3, e, h5, h4⟩ := row_has h
    rw [e] at h1
    have h2 := places_out1 xs m i h1 xs.length
    have h6 := sumN_two (f := fun j => (plT xs (((j : Nat) : Int) + 1) xs.length).length) (m := m) fun j hj => by
      obtain ⟨a, b, hp, _⟩ := has_two h5.1 h3 h4 hj
      show 2 ≤ (plL xs ((j : Int) + 1)).length
      rw [hp]; simp
    rw [if_pos hi] at h2
    omega
theorem fill_keeps (s : Nat) (hs : 1 ≤ s) : ∀ (f : Nat) (xs ys : List Int), ys ∈ fillL f s xs → ys.length = xs.length ∧ ∀ i, i < xs.length → nth xs i ≠ 0 → nth ys i = nth xs i
  | 0, xs, ys, h => by simp [fillL] at h
  | f + 1, xs, ys, h => by
    rcases ix_cases xs 0 with ⟨e, _⟩ | ⟨p, e, hp, hp0, _⟩
    · rw [fillL_end (by omega)] at h; simp at h; rw [h]; exact ⟨rfl, fun _ _ _ => rfl⟩
    · rw [fillL_on e] at h
      obtain ⟨j, _, h2⟩ := List.mem_flatMap.1 h
      unfold fillS at h2
      split at h2
      · cases h2
      · rename_i hc
        obtain ⟨h3, h4⟩ := fill_keeps s hs f _ ys h2
        rw [putR_len] at h3 h4
        refine ⟨h3, fun i hi hne => ?_⟩
        have hq : p + (j + 1) + s - 1 < xs.length := by omega
        have hq0 : nth xs (p + (j + 1) + s - 1) = 0 := by
          rcases Classical.em (nth xs (p + (j + 1) + s - 1) = 0) with h5 | h5
          · exact h5
          · exact absurd (.inr (.inl h5)) hc
        have := h4 i hi
        rw [nth_put hp hq, if_neg] at this
        · exact this hne
        · rintro (rfl | rfl)
          · exact hne hq0
          · exact hne hp0
/-- What a row may still become. -/
structure ExtR (xs zs : List Int) : Prop where
  len : xs.length = zs.length
  at_ : ∀ i, i < xs.length → (nth xs i = 0 ∧ ¬ nth zs i ∈ xs) ∨ nth xs i = nth zs i
theorem fillT_head (f s : Nat) (xs : List Int) (p : Nat) : ∀ k, fillT f s xs p k = [] ∨ ∃ j, j < k ∧ fillS f s xs p j ≠ [] ∧ (fillT f s xs p k).head? = (fillS f s xs p j).head?
  | 0 => .inl rfl
  | k + 1 => by
    rw [fillT_succ]
    rcases fillT_head f s xs p k with h | ⟨j, h1, h2, h3⟩
    · rw [h, List.nil_append]
      by_cases e : fillS f s xs p k = []
      · exact .inl e
      · exact .inr ⟨k, by omega, e, rfl⟩
    · refine .inr ⟨j, by omega, h2, ?_⟩
      rw [← h3]
      cases hh : fillT f s xs p k with
      | nil =>
        rw [hh] at h3
        cases h4 : fillS f s xs p j with
        | nil => exact absurd h4 h2
        | cons a l => rw [h4] at h3; simp at h3
      | cons a l => rfl
theorem head_pre {α : Type} {a b : List α} (h : a <+: b) (hn : a ≠ []) : b.head? = a.head? := by
  obtain ⟨c, rfl⟩ := h
  cases a with
  | nil => exact absurd rfl hn
  | cons x l => rfl
/-- The first row that can come is not behind any that can. -/
theorem fill_first {s : Nat} {zs : List Int} (hz : rowB (s : Int) zs = true) : ∀ (f : Nat) (xs : List Int), ExtR xs zs → zer xs < 2 * f → ∃ x, (fillL f s xs).head? = some x ∧ cmpL x zs ≤ 0
  | 0, xs, _, h => by omega
  | f + 1, xs, h, hf => by
    obtain ⟨n, hn1, hn2, hn3, hn4, hs, hhas⟩ := row_has hz
    have hs1 : 1 ≤ s := by omega
    rcases ix_cases xs 0 with ⟨e, hall⟩ | ⟨p, e, hp, hp0, hbef⟩
    · refine ⟨xs, by rw [fillL_end (by omega)]; rfl, ?_⟩
      have : xs = zs := by
        apply List.ext_getElem h.len
        intro i h1 h2
        rcases h.at_ i h1 with h3 | h3
        · exact absurd h3.1 (hall i h1)
        · simpa [nth, List.getD, h1, h2] using h3
      subst this
      rw [cmpL_end (fun _ _ => rfl) (Nat.le_refl _)]
      simp
    · have hpz : p < zs.length := by have := h.len; omega
      have hpre : ∀ i, i < p → nth xs i = nth zs i := fun i hi => by
        rcases h.at_ i (by omega) with h3 | h3
        · exact absurd h3.1 (hbef i hi)
        · exact h3
      obtain ⟨b1, b2⟩ := row_bd hz hpz
      have hfree : ¬ nth zs p ∈ xs := by
        rcases h.at_ p hp with h3 | h3
        · exact h3.2
        · rw [hp0] at h3; omega
      rw [hn4] at b2
      obtain ⟨K, hK⟩ : ∃ K : Nat, nth zs p = (K : Int) + 1 := ⟨(nth zs p - 1).toNat, by omega⟩
      have hKn : K < n := by omega
      obtain ⟨i, j, hpl, hj, hjl, hi1, hj1⟩ := has_two hs.1 hn3 hhas hKn
      have hpos : ∀ a, a < zs.length → nth zs a = (K : Int) + 1 → a = i ∨ a = j := fun a ha he => by
        have : (a : Int) ∈ plL zs ((K : Int) + 1) := plT_mem.2 ⟨a, rfl, ha, he⟩
        rw [hpl] at this
        simp at this
        omega
      have hpi : p = i := by
        rcases hpos p hpz hK with h3 | h3
        · exact h3
        · exfalso
          have h4 := hpre i (by omega)
          apply hfree
          rw [hK, ← hi1, ← h4]
          exact mem_nth.2 ⟨i, by have := h.len; omega, rfl⟩
      subst hpi
      have hjx : j < xs.length := by have := h.len; omega
      have hj0 : nth xs j = 0 := by
        rcases h.at_ j hjx with h3 | h3
        · exact h3.1
        · exfalso
          apply hfree
          rw [hK, ← hj1, ← h3]
          exact mem_nth.2 ⟨j, hjx, rfl⟩
      have hq : p + (K + 1) + s - 1 = j := by omega
      have hin : ¬ ((K : Int) + 1) ∈ xs := by rw [← hK]; exact hfree
      have hS : fillS f s xs p K = fillL f s (putR xs p j ((K : Int) + 1)) := by
        unfold fillS
        rw [hq, if_neg (by simp [hj0, hin]; omega)]
      have hE : ExtR (putR xs p j ((K : Int) + 1)) zs := by
        refine ⟨by rw [putR_len]; exact h.len, fun a ha => ?_⟩
        rw [putR_len] at ha
        rw [nth_put hp hjx]
        by_cases c : a = j ∨ a = p
        · right
          rw [if_pos c]
          rcases c with rfl | rfl
          · exact hj1.symm
          · exact hi1.symm
        · rw [if_neg c]
          rcases h.at_ a ha with h3 | h3
          · left
            refine ⟨h3.1, fun hm => ?_⟩
            obtain ⟨d, hd, he⟩ := mem_nth.1 hm
            rw [putR_len] at hd
            rw [nth_put hp hjx] at he
            split at he
            · have := hpos a (by have := h.len; omega) he.symm
              omega
            · exact h3.2 (mem_nth.2 ⟨d, hd, he⟩)
          · exact .inr h3
      have hzz : zer (putR xs p j ((K : Int) + 1)) < 2 * f := by
        have := zer_put (xs := xs) (i := p) (j := j) (z := (K : Int) + 1) hp hjx (by omega) hp0 hj0 (by omega)
        omega
      obtain ⟨x0, hx0, hle0⟩ := fill_first hz f _ hE hzz
      rw [fillL_on e, show xs.length / 2 = n by have := h.len; omega]
      have hne : fillT f s xs p (K + 1) ≠ [] := by
        rw [fillT_succ, hS]
        intro hnil
        have := (List.append_eq_nil_iff.1 hnil).2
        rw [this] at hx0; cases hx0
      rw [head_pre (fillT_pre f s xs p (show K + 1 ≤ n by omega)) hne]
      rcases fillT_head f s xs p (K + 1) with h3 | ⟨a, ha, hna, hh⟩
      · exact absurd h3 hne
      · rw [hh]
        by_cases c : a = K
        · subst c
          rw [hS]
          exact ⟨x0, hx0, hle0⟩
        · cases hc : fillS f s xs p a with
          | nil => exact absurd hc hna
          | cons y l =>
            refine ⟨y, rfl, ?_⟩
            have hy : y ∈ fillS f s xs p a := by rw [hc]; simp
            unfold fillS at hy
            split at hy
            · cases hy
            · rename_i hcc
              obtain ⟨g1, g2⟩ := fill_keeps s hs1 f _ y hy
              rw [putR_len] at g1 g2
              have hqa : p + (a + 1) + s - 1 < xs.length := by omega
              have hqa0 : nth xs (p + (a + 1) + s - 1) = 0 := by
                rcases Classical.em (nth xs (p + (a + 1) + s - 1) = 0) with h5 | h5
                · exact h5
                · exact absurd (.inr (.inl h5)) hcc
              have hyp : nth y p = (a : Int) + 1 := by
                have := g2 p hp
                rw [nth_put hp hqa, if_pos (.inr rfl)] at this
                exact this (by omega)
              have hyb : ∀ b, b < p → nth y b = nth zs b := fun b hb => by
                have := g2 b (by omega)
                rw [nth_put hp hqa, if_neg (by omega)] at this
                rw [this (hbef b hb)]
                exact hpre b hb
              rw [cmpL_at hyb (by omega) hpz (by omega), if_pos (by omega)]
              omega
theorem first_le {s : Nat} {zs : List Int} (hz : rowB (s : Int) zs = true) : ∃ x rest, fillL (zs.length / 2 + 1) s (List.replicate (2 * (zs.length / 2)) 0) = x :: rest ∧ cmpL x zs ≤ 0 := by
  obtain ⟨n, hn1, hn2, hn3, hn4, hs, hhas⟩ := row_has hz
  rw [hn4]
  have hE : ExtR (List.replicate (2 * n) 0) zs := by
    refine ⟨by simp; omega, fun i hi => .inl ⟨?_, fun hm => ?_⟩⟩
    · simp at hi; simp [nth, List.getD, hi]
    · have := (row_bd hz (i := i) (by simp at hi; omega)).1
      have := List.eq_of_mem_replicate hm
      omega
  obtain ⟨x, h1, h2⟩ := fill_first hz (n + 1) _ hE (by unfold zer; rw [List.count_replicate_self]; omega)
  cases hh : fillL (n + 1) s (List.replicate (2 * n) 0) with
  | nil => rw [hh] at h1; cases h1
  | cons a l => rw [hh] at h1; simp at h1; subst h1; exact ⟨a, l, rfl, h2⟩

set_option maxHeartbeats 1000000 in
theorem Compare_any (A A' : Option Addr) (n c n' c' : Nat) (xs ys : List Int) (w : World) (B B' : Nat) (h : Ints w B A n c xs) (h' : Ints w B' A' n' c' ys) (r : Int) (hr : Hid (cmpL xs ys = r)) :
    Calls Try.prog 60 #[.slice A n c, .slice A' n' c'] w fun e w' => e = .returned (.int .i64 r) ∧ w = w' := by
  have hm := h.most; have hcap := h.cap; have hm' := h'.most; have hcap' := h'.cap
  have hl := hide h.len; have hl' := hide h'.len
  rw [← hr.out]
  go_enter Try.func60, Try.ntmps60
  go_wp2_with fail
  go_loop [5, 6, 7, 8, 11] (fun _ _ _ _ i => ∃ k : Nat, k ≤ n ∧ k ≤ n' ∧ i = .int .i64 k ∧ Hid (∀ j, j < k → nth xs j = nth ys j)) (fun _ _ _ _ i => n - (intOf i).toNat)
  case atStart => exact ⟨0, Nat.zero_le _, Nat.zero_le _, rfl, hide (fun j hj => absurd hj (by omega))⟩
  case round =>
    obtain ⟨k, hk, hk', rfl, HA⟩ := hrel
    by_cases hlt : k < n
    · obtain ⟨b, off, rfl, hb, hc⟩ := h.at_ k hlt
      by_cases hlt' : k < n'
      · have d : decide ((n' : Int) ≤ (k : Int)) = false := by simp; omega
        obtain ⟨b1, off1, rfl, hb1, hc1⟩ := h'.at_ k hlt'
        by_cases he : nth xs k = nth ys k
        · have hz : Lib.compareInt (nth xs k) (nth ys k) = 0 := by unfold Lib.compareInt; rw [he]; simp
          have HE := hide he; clear he
          go_wp2_with (go_at_call 94; refine (Try.cmp_Compare_int _ _ _).mono ?_; rintro e w' ⟨rfl, rfl⟩; rw [hz])
          go_round
          case rel => exact ⟨k + 1, by omega, by omega, by go_num, hide (by
            intro j hj
            rcases Nat.lt_or_ge j k with h1 | h1
            · exact HA.out j h1
            · obtain rfl : j = k := by omega
              exact HE.out)⟩
          case measure => simp [intOf]; omega
        · have hz : Lib.compareInt (nth xs k) (nth ys k) = cmpL xs ys := by
            rw [cmpL_at HA.out (by rw [hl.out]; exact hlt) (by rw [hl'.out]; exact hlt') he]
            unfold Lib.compareInt
            split
            · rfl
            · rw [if_pos (by omega)]
          have hnz : cmpL xs ys ≠ 0 := by
            rw [cmpL_at HA.out (by rw [hl.out]; exact hlt) (by rw [hl'.out]; exact hlt') he]
            split <;> omega
          have hd : (cmpL xs ys != 0) = true := by simpa using hnz
          clear he hnz
          go_wp2_with (go_at_call 94; refine (Try.cmp_Compare_int _ _ _).mono ?_; rintro e w' ⟨rfl, rfl⟩; rw [hz])
          go_ret
          exact ⟨rfl, rfl⟩
      · have d : decide ((n' : Int) ≤ (k : Int)) = true := by simp; omega
        have HF := hide (show cmpL xs ys = 1 from cmpL_far (fun j hj => HA.out j (by rw [hl'.out] at hj; omega)) (by rw [hl.out, hl'.out]; omega))
        go_wp2_with fail
        go_ret
        exact ⟨ret_int HF.out.symm, rfl⟩
    · have hkn : k = n := by omega
      have HF := hide (cmpL_end (xs := xs) (ys := ys) (fun j hj => HA.out j (by rw [hl.out] at hj; omega)) (by rw [hl.out, hl'.out]; omega))
      rw [hl.out, hl'.out] at HF
      by_cases hnn : n < n'
      · have d : decide ((n : Int) < (n' : Int)) = true := by simp; omega
        rw [if_pos hnn] at HF
        clear hkn
        go_wp2_with fail
        go_ret
        exact ⟨ret_int HF.out.symm, rfl⟩
      · have d : decide ((n : Int) < (n' : Int)) = false := by simp; omega
        rw [if_neg hnn] at HF
        clear hkn
        go_wp2_with fail
        go_ret
        exact ⟨ret_int HF.out.symm, rfl⟩
end Go.Proofs.Ytmgoonoifgcmnaa
