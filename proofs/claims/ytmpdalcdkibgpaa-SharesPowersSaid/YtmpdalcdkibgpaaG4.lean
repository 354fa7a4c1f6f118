import Derived.Test.YtmpdalcdkibgpaaG3
namespace Go.Proofs.Ytmpdalcdkibgpaa
open Go.RowKit Go.Sort

theorem Owned.asInts {w : World} {base n c : Nat} {A : Option Addr} {xs : List Int} (h : Owned w base (.slice A n c) xs) : Ints w w.heap.size A n c xs := by
  obtain ⟨A', c', e, i⟩ := h.ints
  simp only [Value.slice.injEq] at e
  obtain ⟨rfl, rfl, rfl⟩ := e
  exact i
theorem runG_app : ∀ (l1 l2 : List G) (s : List Int), runG s (l1 ++ l2) = (runG s l1).bind fun s' => runG s' l2 := by
  intro l1
  induction l1 with
  | nil => intro l2 s; simp [runG]
  | cons g l ih =>
    intro l2 s
    simp only [List.cons_append, runG]
    split
    · exact ih _ _
    · rfl
theorem gdrop (gs : List G) (k : Nat) (h : k < gs.length) : gs.drop k = gth gs k :: gs.drop (k + 1) := by
  rw [List.drop_eq_getElem_cons h]; simp [gth, List.getD, h]
theorem runG_fail {xs S : List Int} {gs : List G} {k : Nat} (hk : k < gs.length) (h : runG xs (gs.take k) = some S) (hc : canG S (gth gs k) = false) : runG xs gs = none := by
  conv => lhs; rw [← List.take_append_drop k gs, gdrop gs k hk]
  rw [runG_app, h]
  simp [runG, hc]
theorem runG_step {xs S : List Int} {gs : List G} {k : Nat} (hk : k < gs.length) (h : runG xs (gs.take k) = some S) (hc : canG S (gth gs k) = true) : runG xs (gs.take (k + 1)) = some (doG S (gth gs k)) := by
  rw [gtake gs k hk, runG_snoc, h]
  simp [hc]
theorem doG_small {S : List Int} {g : G} (hS : Small 20 S) (hc : canG S g = true) : Small 20 (doG S g) := by
  obtain ⟨f, t, hf, ht, h1, h2, hne, h3, h4⟩ := canG_ok hc
  have e : doG S g = (S.set f (nth S f - g.2.2)).set t (nth S t + g.2.2) := by rw [doG, hf, ht]; simp
  rw [e]
  intro j
  have a := hS f; have b := hS t; have c := hS j
  by_cases h5 : t = j
  · subst h5
    have : nth ((S.set f (nth S f - g.2.2)).set t (nth S t + g.2.2)) t = nth S t + g.2.2 := by simp [nth, List.getD, h2]
    rw [this]; omega
  · rw [nth_set_ne _ h5]
    by_cases h6 : f = j
    · subst h6
      have : nth (S.set f (nth S f - g.2.2)) f = nth S f - g.2.2 := by simp [nth, List.getD, h1]
      rw [this]; omega
    · rw [nth_set_ne _ h6]; exact c

set_option maxHeartbeats 400000 in
theorem CheckGives_no (A A' A'' : Option Addr) (n c n' c' n'' c'' : Nat) (xs ys : List Int) (w : World) (B B' : Nat) (h : Ints w B A n c xs) (h' : Ints w B' A' n' c' ys) (hs : Hid (areSh xs ys = false)) :
    Calls Try.prog 26 #[.slice A n c, .slice A' n' c', .slice A'' n'' c''] w fun e w' => e = .returned (.tuple #[.bool false, .int .i64 2]) ∧ Below w.heap.size w w' := by
  go_enter Try.func26, Try.ntmps26
  go_wp2_with fail
  refine (areComparable_is _ _ _ _ _ _ _ _ _ _ _ h h' _ hs).mono ?_
  rintro e w1 ⟨rfl, rfl⟩
  go_wp2_with fail
  go_ret2
  exact ⟨rfl, Below.refl _ _⟩

set_option maxHeartbeats 4000000 in
theorem CheckGives_ok (A A' A'' : Option Addr) (n c n' c' n'' c'' : Nat) (xs ys : List Int) (gs : List G) (w : World) (h : Ints w w.heap.size A n c xs) (h' : Ints w w.heap.size A' n' c' ys) (h'' : Gs w w.heap.size A'' n'' c'' gs) (hs : Hid (areSh xs ys = true)) (b : Bool) (hb : Hid (decide (runG xs gs = some ys) = b)) :
    Calls Try.prog 26 #[.slice A n c, .slice A' n' c', .slice A'' n'' c''] w fun e w' => e = .returned (.tuple #[.bool b, .int .i64 0]) ∧ Below w.heap.size w w' := by
  have hsx := hide (areSh_left hs.out).1
  have hl := hide h.len
  have hn1 : 1 ≤ n := by have := isSh_len hsx.out; have := hl.out; omega
  have hn6 : n ≤ 6 := by have := isSh_len hsx.out; have := hl.out; omega
  have hlg := hide h''.len
  have hm2 := h''.most; have hc2 := h''.cap
  have Ib := hide h'; have Ig := hide h''; clear h' h''
  go_enter Try.func26, Try.ntmps26
  go_wp2_with fail
  refine (areComparable_is _ _ _ _ _ _ _ _ _ _ _ h (unhide Ib) _ hs).mono ?_
  rintro e w1 ⟨rfl, rfl⟩
  go_wp2_with fail
  refine (clone_any _ _ _ _ _ _ h (by omega)).mono ?_
  rintro e w1 ⟨v, rfl, ho, hb1⟩
  obtain ⟨g, c1, rfl, hg, hc1, hm1, ho'⟩ := ho.head hl.out (by omega)
  clear ho
  have HO := hide ho'; have HB1 := hide hb1; clear ho' hb1 h
  go_wp2_with fail
  go_loopw [19] (fun i wr => ∃ (k : Nat) (S : List Int), k ≤ n'' ∧ i = .int .i64 k ∧ Owned wr w.heap.size (.slice (some ⟨g, 0, none⟩) n c1) S ∧ Hid (S.length = n) ∧ Hid (Small 20 S) ∧ Hid (runG xs (gs.take k) = some S) ∧ Below w.heap.size w wr) (fun i _ => n'' - (intOf i).toNat)
  case atStart => exact ⟨0, xs, Nat.zero_le _, rfl, unhide HO, hl, hide (isSh_small hsx.out), hide rfl, unhide HB1⟩
  case round =>
    obtain ⟨k, S, hk, rfl, ho, hlS, hS, hrun, hbl⟩ := hrel
    have HOr := hide ho; have HB := hide hbl; clear ho hbl
    by_cases hlt : k < n''
    · obtain ⟨b5, off, rfl, _, e1, e2, e3⟩ := ((unhide Ig).below (unhide HB)).at_ k hlt
      obtain ⟨f, hf⟩ : ∃ f, (gth gs k).1 = f := ⟨_, rfl⟩
      obtain ⟨d, hd⟩ : ∃ f, (gth gs k).2.1 = f := ⟨_, rfl⟩
      obtain ⟨m, hmm⟩ : ∃ f, (gth gs k).2.2 = f := ⟨_, rfl⟩
      rw [hf] at e1; rw [hd] at e2; rw [hmm] at e3
      have hgk := hide (show gth gs k = (f, d, m) from by rw [← hf, ← hd, ← hmm])
      clear hf hd hmm
      have hkl := hide (show k < gs.length from by rw [hlg.out]; exact hlt)
      have HOa := hide ((unhide HOr).alloc (.cells #[.int .i64 f, .int .i64 d, .int .i64 m] 73))
      have HBa := hide ((unhide HB).alloc (unhide HB).size (.cells #[.int .i64 f, .int .i64 d, .int .i64 m] 73))
      have hIs := hide (unhide HOa).asInts
      rcases hcan : canG S (f, d, m)
      · have HC := hide hcan; clear hcan
        have hno := hide (show decide (runG xs gs = some ys) = false from by rw [runG_fail hkl.out hrun.out (by rw [hgk.out]; exact HC.out)]; simp)
        go_wp2_with fail
        refine (isPossible_any _ _ _ _ _ _ _ _ (unhide hIs) hS false HC).mono ?_
        rintro e w2 ⟨rfl, b2⟩
        have HB2 := hide ((unhide HBa).trans (b2.mono (unhide HBa).size)); clear b2
        go_wp2_with fail
        go_ret2
        exact ⟨ret_bi' false 0 (by rw [← hb.out, hno.out]), unhide HB2⟩
      · obtain ⟨f', d', hf', hd', hfl, hdl, hne, hm1', hm2'⟩ := canG_ok hcan
        simp only at hf' hd' hm1' hm2'
        subst hf' hd'
        have hfl' := hide hfl; have hdl' := hide hdl; clear hfl hdl
        have hfS := (unhide hS) f'; have hdS := (unhide hS) d'
        have hm20 : m ≤ 20 := by omega
        clear hfS hdS
        have HC := hide hcan; clear hcan
        have hrun2 := hide (runG_step hkl.out hrun.out (by rw [hgk.out]; exact HC.out))
        rw [hgk.out] at hrun2
        have hS2 := hide (doG_small hS.out HC.out)
        have hlS2 := hide (show (doG S ((f' : Int), (d' : Int), m)).length = n from by rw [doG_length]; exact hlS.out)
        have hM2 := hide hm2'; have HNE := hide hne; clear hm2' hne
        have q0 : ((wr.alloc (.cells #[.int .i64 (f' : Int), .int .i64 (d' : Int), .int .i64 m] 73)).cell? ⟨wr.heap.size, 0, none⟩ = some (.int .i64 (f' : Int))) := by rw [World.cell?_alloc_at _ _ _ _ rfl]; rfl
        have q1 : ((wr.alloc (.cells #[.int .i64 (f' : Int), .int .i64 (d' : Int), .int .i64 m] 73)).cell? ⟨wr.heap.size, 1, none⟩ = some (.int .i64 (d' : Int))) := by rw [World.cell?_alloc_at _ _ _ _ rfl]; rfl
        have q2 : ((wr.alloc (.cells #[.int .i64 (f' : Int), .int .i64 (d' : Int), .int .i64 m] 73)).cell? ⟨wr.heap.size, 2, none⟩ = some (.int .i64 m)) := by rw [World.cell?_alloc_at _ _ _ _ rfl]; rfl
        have Q0 := hide q0; have Q1 := hide q1; have Q2 := hide q2; clear q0 q1 q2
        go_wp2_with fail
        refine (isPossible_any _ _ _ _ _ _ _ _ (unhide hIs) hS true HC).mono ?_
        rintro e w2 ⟨rfl, b2⟩
        have HB2 := hide ((unhide HBa).trans (b2.mono (unhide HBa).size))
        have c0 := (b2.cell (p := ⟨wr.heap.size, 0, none⟩) (by simp)).trans (unhide Q0)
        have c1' := (b2.cell (p := ⟨wr.heap.size, 1, none⟩) (by simp)).trans (unhide Q1)
        have c2' := (b2.cell (p := ⟨wr.heap.size, 2, none⟩) (by simp)).trans (unhide Q2)
        have HO2 := hide ((unhide HOa).below b2 (Nat.le_refl _))
        clear b2
        go_wp2_with fail
        refine (do_any g n c1 S f' d' m _ w.heap.size (unhide HO2) hlS.out hc1 hm1 hS (by have := hfl'.out; have := hlS.out; omega) (by have := hdl'.out; have := hlS.out; omega) HNE.out hm1' hm20 hg (unhide HB2).size).mono ?_
        rintro e w3 ⟨rfl, ho3, b3, _⟩
        have HB3 := hide ((unhide HB2).trans b3); have HO3 := hide ho3
        clear b3 ho3
        go_wp2_with fail
        go_roundw
        case rel => exact ⟨k + 1, doG S ((f' : Int), (d' : Int), m), by omega, by go_num, unhide HO3, hlS2, hS2, hrun2, unhide HB3⟩
        case measure => simp [intOf]; omega
    · obtain rfl : k = n'' := by omega
      have hrun' : runG xs gs = some S := by have := hrun.out; rwa [List.take_of_length_le (by rw [hlg.out]; exact Nat.le_refl _)] at this
      have heq := hide (show decide (S = ys) = b from by rw [← hb.out, hrun']; simp)
      have HI := hide (unhide HOr).asInts
      have Jb := hide (((unhide Ib).below (unhide HB)).more (unhide HB).size)
      clear hrun'
      go_wp2_with fail
      refine (equal_any _ _ _ _ _ _ _ _ _ _ _ (unhide HI) (unhide Jb) b heq).mono ?_
      rintro e w4 ⟨rfl, b4⟩
      have HB4 := hide ((unhide HB).trans (b4.mono (unhide HB).size)); clear b4
      go_wp2_with fail
      go_ret2
      exact ⟨rfl, unhide HB4⟩
end Go.Proofs.Ytmpdalcdkibgpaa
