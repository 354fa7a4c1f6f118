import Derived.Test.YtmpdalcdkibgpaaR1
namespace Go.Proofs.Ytmpdalcdkibgpaa
open Go.RowKit Go.Sort

def toGo (a : List Int) (f : Nat) : Nat → Nat → Nat
  | 0, t => t
  | k + 1, t => if t < a.length ∧ nth a t = nth a f - 1 then toGo a f k (t + 1) else t
def toF (a : List Int) (f : Nat) : Nat := toGo a f a.length (f + 1)
def ext (a : List Int) (f : Nat) : List Int := if toF a f = a.length then a ++ [0] else a
def lessF (a : List Int) (f : Nat) : Int := nth a f - nth a (toF a f)
def downF (a : List Int) (f : Nat) : List Int := ((ext a f).set f (nth a f - 1)).set (toF a f) (nth a (toF a f) + 1)
/-- The parts next below a in which the number f gives one, if there are such. -/
def stepF (a : List Int) (f : Nat) : Option (List Int) := if lessF a f < 2 ∨ 2 < lessF a f ∧ f + 1 < toF a f then none else some (downF a f)

theorem toGo_le (a : List Int) (f : Nat) : ∀ k t, t ≤ a.length → toGo a f k t ≤ a.length := by
  intro k
  induction k with
  | zero => intro t h; exact h
  | succ k ih =>
    intro t h
    rw [toGo]
    split
    · next hc => exact ih (t + 1) (by omega)
    · exact h
theorem le_toGo (a : List Int) (f : Nat) : ∀ k t, t ≤ toGo a f k t := by
  intro k
  induction k with
  | zero => intro t; exact Nat.le_refl _
  | succ k ih =>
    intro t
    rw [toGo]
    split
    · have := ih (t + 1); omega
    · exact Nat.le_refl _
theorem toF_le {a : List Int} {f : Nat} (h : f < a.length) : toF a f ≤ a.length := toGo_le a f _ _ (by omega)
theorem le_toF (a : List Int) (f : Nat) : f + 1 ≤ toF a f := le_toGo a f _ _

theorem partsSmall {xs : List Int} (h : partsOk xs = true) (k : Nat) : 0 ≤ nth xs k ∧ nth xs k ≤ 12 := by
  rcases Nat.lt_or_ge k xs.length with hlt | hge
  · have := partsOk_bd h hlt; omega
  · rw [nth_out hge]; omega
theorem quietA {P : Program} {f : FuncId} {args : Array Value} {w : World} {a n : Nat} {v : Value} (h : Calls P f args (w.drewN (a + n)) fun e w' => e = .returned v ∧ w.drewN (a + n) = w') :
    Calls P f args (w.drewN (a + n)) fun e w'' => e = .returned v ∧ ∃ m, w'' = w.drewN (a + m) := h.mono fun _ _ ⟨he, hm⟩ => ⟨he, n, hm.symm⟩
theorem quiet0 {P : Program} {f : FuncId} {args : Array Value} {w : World} {n : Nat} {v : Value} (h : Calls P f args (w.drewN n) fun e w' => e = .returned v ∧ w.drewN n = w') :
    Calls P f args (w.drewN n) fun e w'' => e = .returned v ∧ ∃ m, w'' = w.drewN m := h.mono fun _ _ ⟨he, hm⟩ => ⟨he, n, hm.symm⟩

def StepPost (xs : List Int) (f : Nat) (w : World) (v : Value) (w' : World) : Prop :=
  Below w.heap.size w w' ∧ (stepF xs f = none → v = .slice none 0 0) ∧ ∀ b, stepF xs f = some b → ∃ g c', v = .slice (some ⟨g, 0, none⟩) b.length c' ∧ Owned w' w.heap.size v b

/-- The head of an own slice that is not empty. -/
theorem Owned.head {w : World} {base n : Nat} {v : Value} {xs : List Int} (h : Owned w base v xs) (hl : xs.length = n) (hn : 0 < n) :
    ∃ g c, v = .slice (some ⟨g, 0, none⟩) n c ∧ base ≤ g ∧ n ≤ c ∧ c ≤ 9223372036854775807 ∧ Owned w base (.slice (some ⟨g, 0, none⟩) n c) xs := by
  obtain ⟨g, cap, cur, rfl, hg, _, _, h1, h2, _⟩ := h.form (by omega)
  subst hl
  exact ⟨g, cap, rfl, hg, h1, by unfold maxLen at h2; omega, h⟩
theorem nth_set_ne {xs : List Int} {i j : Nat} (z : Int) (h : i ≠ j) : nth (xs.set i z) j = nth xs j := by simp [nth, List.getD, List.getElem?_set_ne h]
theorem nth_app {xs ys : List Int} {j : Nat} (h : j < xs.length) : nth (xs ++ ys) j = nth xs j := by simp [nth, List.getD, List.getElem?_append_left h]
theorem nth_app_end (xs : List Int) : nth (xs ++ [0]) xs.length = nth xs xs.length := by simp [nth, List.getD]

set_option maxHeartbeats 1600000 in
theorem stepDown_any (A : Option Addr) (n c : Nat) (xs : List Int) (f : Nat) (w : World) (h : Ints w w.heap.size A n c xs) (hf : f < n) (hx : Hid (partsOk xs = true)) :
    Calls Try.prog 93 #[.slice A n c, .int .i64 f] w fun e w' => ∃ v, e = .returned v ∧ StepPost xs f w v w' := by
  have hl := hide h.len
  have hm := h.most; have hcap := h.cap
  have hlen12 : n ≤ 12 := by have := partsOk_len hx.out; have := hl.out; omega
  obtain ⟨b, off, rfl, hb, hcf⟩ := h.at_ f hf
  have hbf := partsOk_bd hx.out (k := f) (by rw [hl.out]; exact hf)
  obtain ⟨hbf1, hbf2⟩ := hbf
  have H := hide h
  clear h
  go_enter Try.func93, Try.ntmps93
  go_wp2_with fail
  go_loopw [5] (fun i wr => ∃ t : Nat, f + 1 ≤ t ∧ t ≤ n ∧ i = .int .i64 t ∧ toGo xs f (n + (f + 1) - t) t = toF xs f ∧ ∃ q, wr = w.drewN q) (fun i _ => n - (intOf i).toNat)
  case atStart => exact ⟨f + 1, Nat.le_refl _, hf, by go_num, by rw [toF, hl.out]; congr 1; omega, 0, rfl⟩
  case round =>
    obtain ⟨t, ht1, ht2, rfl, hT, q, rfl⟩ := hrel
    have HT := hide hT; clear hT
    have goon : ∃ k, n + (f + 1) - t = k + 1 := ⟨n + f - t, by omega⟩
    have GO := hide goon; clear goon
    by_cases hlt : t < n
    · obtain ⟨b1, off1, e1, hb1, hct⟩ := (unhide H).at_ t hlt
      simp only [Option.some.injEq, Addr.mk.injEq, and_true] at e1
      obtain ⟨rfl, rfl⟩ := e1
      have hbt := partsOk_bd hx.out (k := t) (by rw [hl.out]; exact hlt)
      obtain ⟨hbt1, hbt2⟩ := hbt
      by_cases hv : nth xs t = nth xs f - 1
      · have hvb : (nth xs t == nth xs f - 1) = true := by simp [hv]
        have HV := hide hv; clear hv
        have HT2 := hide (show toGo xs f (n + (f + 1) - (t + 1)) (t + 1) = toF xs f from by
          obtain ⟨k, hk⟩ := GO.out
          rw [← HT.out, hk, toGo, if_pos ⟨by rw [hl.out]; exact hlt, HV.out⟩]
          congr 1; omega)
        go_wp2_with fail
        go_quiet (fail)
        go_wp2_with fail
        go_roundw
        case rel => exact ⟨t + 1, by omega, by omega, by go_num, unhide HT2, (by first | exact ⟨_, rfl⟩ | exact quiet_q _ _ _)⟩
        case measure => simp [intOf]; omega
      · have hvb : (nth xs t == nth xs f - 1) = false := by simp [hv]
        have HV := hide hv; clear hv
        have HE := hide (show toF xs f = t from by
          obtain ⟨k, hk⟩ := GO.out
          rw [← HT.out, hk, toGo, if_neg (fun hc => HV.out hc.2)])
        go_wp2_with fail
        go_quiet (fail)
        go_wp2_with fail
        have htl : t ≤ n := by omega
        have htb := partsSmall hx.out t
        obtain ⟨htb1, htb2⟩ := htb
        have hft : f < t := by omega
        have HL := hide (show lessF xs f = nth xs f - nth xs t from by rw [lessF, HE.out])
        go_quiet ((go_at_call 108; first | exact quietA (at_any _ _ _ _ _ _ _ ((unhide H).drewN _)) | exact quiet0 (at_any _ _ _ _ _ _ _ ((unhide H).drewN _))))
        by_cases k1 : nth xs f - nth xs t < 2
        · have hno := hide (show stepF xs f = none from by rw [stepF, HL.out, if_pos (.inl k1)])
          go_wp2_with fail
          go_ret
          exact ⟨_, rfl, by first | exact Below.ofDraws _ | exact (Below.ofDraws _).trans (Below.ofDraws _), fun _ => rfl, fun b hb => by rw [hno.out] at hb; cases hb⟩
        by_cases k2 : 2 < nth xs f - nth xs t ∧ f + 1 < t
        · have hno := hide (show stepF xs f = none from by rw [stepF, HL.out, HE.out, if_pos (.inr k2)])
          obtain ⟨k2a, k2b⟩ := k2
          go_wp2_with fail
          go_ret
          exact ⟨_, rfl, by first | exact Below.ofDraws _ | exact (Below.ofDraws _).trans (Below.ofDraws _), fun _ => rfl, fun b hb => by rw [hno.out] at hb; cases hb⟩
        have hsome := hide (show stepF xs f = some (downF xs f) from by rw [stepF, HL.out, HE.out, if_neg (by omega)])
        by_cases k3 : 2 < nth xs f - nth xs t
        all_goals
          try have k4 : t ≤ f + 1 := by omega
          go_wp2_with fail
          refine (clone_any _ _ _ _ _ _ ((unhide H).drewN _) (by omega)).mono ?_
          rintro e w1 ⟨v, rfl, ho, hb1⟩
          obtain ⟨g, c1, rfl, hg, hc1, hm1, ho'⟩ := ho.head hl.out (by omega)
          clear ho
          have hw1 : Below w.heap.size w w1 := by first | exact (Below.ofDraws _).trans hb1 | exact ((Below.ofDraws _).trans (Below.ofDraws _)).trans hb1
          have HO := hide ho'; clear ho'
          have hteq : ((t : Int) == (n : Int)) = false := by simp; omega
          have hcell := (unhide HO).cell_ hl.out hf
          have hfree := (unhide HO).free_ hl.out f
          have o1 := (unhide HO).store hl.out f (nth xs f - 1)
          have hcell2 := o1.cell_ (by rw [List.length_set]; exact hl.out) (show t < n by omega)
          rw [nth_set_ne _ (by omega)] at hcell2
          have hfree2 := o1.free_ (by rw [List.length_set]; exact hl.out) t
          have o2 := hide (o1.store (by rw [List.length_set]; exact hl.out) t (nth xs t + 1))
          clear o1
          have hD := hide (show downF xs f = (xs.set f (nth xs f - 1)).set t (nth xs t + 1) from by rw [downF, ext, HE.out, if_neg (by rw [hl.out]; omega)])
          go_wp2_with fail
          go_ret
          refine ⟨_, rfl, (hw1.setCell (by exact hg) _).setCell (by exact hg) _, (fun hno => by rw [hsome.out] at hno; cases hno), fun b hb => ?_⟩
          rw [hsome.out] at hb
          cases hb
          rw [hD.out]
          exact ⟨g, c1, (by rw [List.length_set, List.length_set, hl.out]; rfl), unhide o2⟩
    · have htn := hide (show t = n from by omega)
      have HE := hide (show toF xs f = t from by
        obtain ⟨k, hk⟩ := GO.out
        rw [← HT.out, hk, toGo, if_neg (fun hc => by have := hc.1; rw [hl.out] at this; omega)])
      go_wp2_with fail
      go_quiet (fail)
      go_wp2_with fail
      have htl : t ≤ n := by omega
      have htb := partsSmall hx.out t
      obtain ⟨htb1, htb2⟩ := htb
      have hft : f < t := by omega
      have HL := hide (show lessF xs f = nth xs f - nth xs t from by rw [lessF, HE.out])
      go_quiet ((go_at_call 108; first | exact quietA (at_any _ _ _ _ _ _ _ ((unhide H).drewN _)) | exact quiet0 (at_any _ _ _ _ _ _ _ ((unhide H).drewN _))))
      by_cases k1 : nth xs f - nth xs t < 2
      · have hno := hide (show stepF xs f = none from by rw [stepF, HL.out, if_pos (.inl k1)])
        go_wp2_with fail
        go_ret
        exact ⟨_, rfl, by first | exact Below.ofDraws _ | exact (Below.ofDraws _).trans (Below.ofDraws _), fun _ => rfl, fun b hb => by rw [hno.out] at hb; cases hb⟩
      by_cases k2 : 2 < nth xs f - nth xs t ∧ f + 1 < t
      · have hno := hide (show stepF xs f = none from by rw [stepF, HL.out, HE.out, if_pos (.inr k2)])
        obtain ⟨k2a, k2b⟩ := k2
        go_wp2_with fail
        go_ret
        exact ⟨_, rfl, by first | exact Below.ofDraws _ | exact (Below.ofDraws _).trans (Below.ofDraws _), fun _ => rfl, fun b hb => by rw [hno.out] at hb; cases hb⟩
      have hsome := hide (show stepF xs f = some (downF xs f) from by rw [stepF, HL.out, HE.out, if_neg (by omega)])
      by_cases k3 : 2 < nth xs f - nth xs t
      all_goals
        try have k4 : t ≤ f + 1 := by omega
        go_wp2_with fail
        refine (clone_any _ _ _ _ _ _ ((unhide H).drewN _) (by omega)).mono ?_
        rintro e w1 ⟨v, rfl, ho, hb1⟩
        obtain ⟨g, c1, rfl, hg, hc1, hm1, ho'⟩ := ho.head hl.out (by omega)
        clear ho
        have hw1 : Below w.heap.size w w1 := by first | exact (Below.ofDraws _).trans hb1 | exact ((Below.ofDraws _).trans (Below.ofDraws _)).trans hb1
        have HO := hide ho'; clear ho'
        have hteq : ((t : Int) == (n : Int)) = true := by simp [htn.out]
        have hlA := hide (show (xs ++ [0]).length = n + 1 from by simp [hl.out])
        go_wp2_with (at_builtin
                     refine wpList_app (by rfl) (.tmp 54) (.tmp 55) (by rfl) (by rfl) (by rfl) ((unhide HO).alloc _) (ints_one w1 0) (by have := hl.out; simp; omega) (by have := hw1.size; simp; omega) ?_
                     intro v2 w2 ho2 hg2 hat2
                     obtain ⟨g2, c2, rfl, hgg2, hcc2, hmm2, ho3⟩ := ho2.head hlA.out (by omega)
                     have hcell := ho3.cell_ hlA.out (show f < n + 1 by omega)
                     rw [nth_app (by rw [hl.out]; exact hf)] at hcell
                     have hfree := ho3.free_ hlA.out f
                     have o1 := ho3.store hlA.out f (nth xs f - 1)
                     have hcell2 := o1.cell_ (by rw [List.length_set]; exact hlA.out) (show t < n + 1 by omega)
                     rw [nth_set_ne _ (by omega), show nth (xs ++ [0]) t = nth xs t from by rw [htn.out, ← hl.out, nth_app_end]] at hcell2
                     have hfree2 := o1.free_ (by rw [List.length_set]; exact hlA.out) t
                     have o2 := hide (o1.store (by rw [List.length_set]; exact hlA.out) t (nth xs t + 1))
                     have bw2 := hide ((hw1.alloc hw1.size (.cells #[.int .i64 0] 3)).grown hg2 (by have := hw1.size; simp; omega) (fun j hj => (World.ownsRow.lt (unhide HO) j hj).1))
                     clear ho2 ho3 o1 hg2 hat2)
        have hD := hide (show downF xs f = ((xs ++ [0]).set f (nth xs f - 1)).set t (nth xs t + 1) from by rw [downF, ext, HE.out, if_pos (by rw [hl.out]; exact htn.out)])
        go_ret
        refine ⟨_, rfl, ((unhide bw2).setCell (by exact hgg2) _).setCell (by exact hgg2) _, (fun hno => by rw [hsome.out] at hno; cases hno), fun b hb => ?_⟩
        rw [hsome.out] at hb
        cases hb
        rw [hD.out]
        exact ⟨g2, c2, (by rw [List.length_set, List.length_set, hlA.out]; rfl), unhide o2⟩
end Go.Proofs.Ytmpdalcdkibgpaa
