import Derived.Test.YtdlbahoenhhkdaaDf
/-
  The reference's find and rising.
-/
namespace Go.Proofs.Ytdlbahoenhhkdaa
open Go.RowKit

theorem firstK (gs : List G) (key : Int) : ∃ m, m ≤ gs.length ∧ (∀ j, j < m → (gth gs j).1 ≠ key) ∧ (m < gs.length → (gth gs m).1 = key) := by
  induction gs with
  | nil => exact ⟨0, Nat.le_refl _, fun j h => by omega, fun h => by simp at h⟩
  | cons g l ih =>
    by_cases e : g.1 = key
    · exact ⟨0, Nat.zero_le _, fun j h => by omega, fun _ => by simpa [gth] using e⟩
    · obtain ⟨m, h1, h2, h3⟩ := ih
      refine ⟨m + 1, by simp; omega, fun j hj => ?_, fun h => ?_⟩
      · rcases j with _ | j
        · simpa [gth] using e
        · simpa [gth] using h2 j (by omega)
      · simpa [gth] using h3 (by simpa using h)
/-- The entry of a key, if there is one. -/
def ent (gs : List G) (key : Int) : List G := (gs.find? fun g => decide (g.1 = key)).toList
theorem ent_no {gs : List G} {key : Int} (h : ∀ j, j < gs.length → (gth gs j).1 ≠ key) : ent gs key = [] := by
  have : gs.find? (fun g => decide (g.1 = key)) = none := by
    rw [List.find?_eq_none]
    intro g hg
    obtain ⟨i, hi, rfl⟩ := mem_gth hg
    simpa using h i hi
  rw [ent, this]; rfl
theorem ent_yes {gs : List G} {key : Int} {m : Nat} (hm : m < gs.length) (h : ∀ j, j < m → (gth gs j).1 ≠ key) (he : (gth gs m).1 = key) : ent gs key = [gth gs m] := by
  induction gs generalizing m with
  | nil => simp at hm
  | cons g l ih =>
    rcases m with _ | m
    · have e : g.1 = key := he
      have e0 : gth (g :: l) 0 = g := rfl
      simp [ent, e, e0]
    · have h0 : g.1 ≠ key := h 0 (by omega)
      have e0 : gth (g :: l) (m + 1) = gth l m := rfl
      have e1 : ent (g :: l) key = ent l key := by simp [ent, List.find?_cons, h0]
      rw [e0] at he ⊢
      rw [e1]
      exact ih (by simpa using hm) (fun j hj => h (j + 1) (by omega)) he
def risL (gs : List G) : Nat → List G
  | 0 => []
  | j + 1 => risL gs j ++ ent gs j
theorem ent_len (gs : List G) (key : Int) : (ent gs key).length ≤ 1 := by unfold ent; cases gs.find? fun g => decide (g.1 = key) <;> simp
theorem risL_len (gs : List G) : ∀ j, (risL gs j).length ≤ j := by
  intro j; induction j with
  | zero => simp [risL]
  | succ j ih => rw [risL, List.length_append]; have := ent_len gs j; omega

set_option maxHeartbeats 1000000 in
theorem RFind_any (A : Option Addr) (n c : Nat) (gs : List G) (key : Int) (m : Nat) (r : Int) (w : World) (h : Gs w w.heap.size A n c gs) (hmn : m ≤ n) (hz : Hid (∀ j, j < m → (gth gs j).1 ≠ key)) (hr : Hid ((m = n ∧ r = -1) ∨ (m < n ∧ (gth gs m).1 = key ∧ r = m))) :
    Calls Try.prog 57 #[.slice A n c, .int .i64 key] w fun e w' => e = .returned (.int .i64 r) ∧ Below w.heap.size w w' := by
  have hm := h.most; have hcap := h.cap
  have hl := hide h.len
  have H := hide h; clear h
  go_enter Try.func57, Try.ntmps57
  go_wp2_with fail
  go_loopw [5, 6, 9] (fun _ _ i wr => ∃ (k : Nat), k ≤ m ∧ i = .int .i64 k ∧ Below w.heap.size w wr) (fun _ _ i _ => n - (intOf i).toNat)
  case atStart => exact ⟨0, Nat.zero_le _, rfl, Below.refl _ _⟩
  case round =>
    obtain ⟨k, hk, rfl, hb⟩ := hrel
    have HB := hide hb; clear hb
    by_cases hlt : k < n
    · obtain ⟨b, off, rfl, hbb, e1, e2, e3⟩ := ((unhide H).below (unhide HB)).at_ k hlt
      obtain ⟨f, hf⟩ : ∃ f, (gth gs k).1 = f := ⟨_, rfl⟩
      obtain ⟨d, hd⟩ : ∃ f, (gth gs k).2.1 = f := ⟨_, rfl⟩
      obtain ⟨o, ho⟩ : ∃ f, (gth gs k).2.2 = f := ⟨_, rfl⟩
      rw [hf] at e1; rw [hd] at e2; rw [ho] at e3
      have hD := hide hf; clear hf hd ho
      have B1 := hide ((unhide HB).alloc (unhide HB).size (.cells #[.int .i64 f, .int .i64 d, .int .i64 o] 34))
      by_cases hkm : k < m
      · have hd0 : ((f : Int) == key) = false := by have := hz.out k hkm; rw [hD.out] at this; simpa using this
        have hd1 : ¬ f = key := by simpa using hd0
        go_wp2_with fail
        go_roundw
        case rel => exact ⟨k + 1, by omega, by go_num, unhide B1⟩
        case measure => simp [intOf]; omega
      · obtain rfl : k = m := by omega
        have hr2 : (gth gs k).1 = key ∧ r = k := by
          rcases hr.out with ⟨h1, _⟩ | ⟨_, h2, h3⟩
          · omega
          · exact ⟨h2, h3⟩
        rw [hD.out] at hr2
        obtain ⟨rfl, h3⟩ := hr2
        have hrk := hide h3
        clear h3
        go_wp2_with fail
        go_ret
        exact ⟨ret_int (by rw [hrk.out]), unhide B1⟩
    · obtain rfl : k = n := by omega
      have hrk := hide (show r = -1 by
        rcases hr.out with ⟨_, h1⟩ | ⟨h1, _⟩
        · exact h1
        · omega)
      go_wp2_with fail
      go_ret
      exact ⟨ret_int (by rw [hrk.out]), unhide HB⟩

set_option maxHeartbeats 2000000 in
theorem RRising_any (A : Option Addr) (n c : Nat) (gs : List G) (w : World) (h : Gs w w.heap.size A n c gs) :
    Calls Try.prog 58 #[.slice A n c] w fun e w' => ∃ v, e = .returned v ∧ OwnedG w' w.heap.size 34 v (risL gs 16) ∧ Below w.heap.size w w' := by
  have hm := h.most; have hcap := h.cap
  have hl := hide h.len
  have H := hide h; clear h
  go_enter Try.func58, Try.ntmps58
  go_wp2_with fail
  go_loopw [3, 4, 5, 6] (fun v _ _ i wr => ∃ (k : Nat) (A1 : Option Addr) (n1 c1 : Nat), k ≤ 16 ∧ i = .int .i64 k ∧ v = .slice A1 n1 c1 ∧ OwnedG wr w.heap.size 34 (.slice A1 n1 c1) (risL gs k) ∧ Below w.heap.size w wr) (fun _ _ _ i _ => 16 - (intOf i).toNat)
  case atStart => exact ⟨0, none, 0, 0, by omega, rfl, rfl, World.ownsRow_nil _ _ _ _, Below.refl _ _⟩
  case round =>
    obtain ⟨k, A1, n1, c1, hk, rfl, rfl, ho, hb⟩ := hrel
    have HO := hide ho; have HB := hide hb; clear ho hb
    by_cases hlt : k < 16
    · obtain ⟨m, hm1, hm2, hm3⟩ := firstK gs (k : Int)
      rw [hl.out] at hm1 hm3
      by_cases hmn : m < n
      · have hen := hide (show risL gs (k + 1) = risL gs k ++ [gth gs m] by rw [risL, ent_yes (by rw [hl.out]; exact hmn) hm2 (hm3 hmn)])
        go_wp2_with fail
        refine (RFind_any A n c gs (k : Int) m m _ (((unhide H).below (unhide HB)).more (unhide HB).size) hm1 (hide hm2) (hide (.inr ⟨hmn, hm3 hmn, rfl⟩))).mono ?_
        rintro e w2 ⟨rfl, hb2⟩
        have B2 := hide ((unhide HB).trans (hb2.mono (unhide HB).size))
        have O2 := hide ((unhide HO).below hb2 (Nat.le_refl _))
        obtain ⟨b, off, rfl, hbb, e1, e2, e3⟩ := ((unhide H).below (unhide B2)).at_ m hmn
        obtain ⟨f, hf⟩ : ∃ f, (gth gs m).1 = f := ⟨_, rfl⟩
        obtain ⟨d, hd⟩ : ∃ f, (gth gs m).2.1 = f := ⟨_, rfl⟩
        obtain ⟨o, ho⟩ : ∃ f, (gth gs m).2.2 = f := ⟨_, rfl⟩
        rw [hf] at e1; rw [hd] at e2; rw [ho] at e3
        have hg := hide (show risL gs (k + 1) = risL gs k ++ [(f, d, o)] by rw [hen.out, ← hf, ← hd, ← ho])
        have hbs := (unhide B2).size
        have hln : (risL gs k).length ≤ 1000000 := by have := risL_len gs k; omega
        clear hb2 hf hd ho hm2 hm3 hen
        go_wp2_with (at_builtin
                     refine wpList_appG (w := w2) (by rfl) (.tmp 14) (.tmp 19) 32 34 (by rfl) Try.underlying32 info34 (by rfl) (by simp [Act.eval]) ((unhide O2)) hln (by omega) ?_
                     intro v1 w1 ho1 hb1 _
                     obtain ⟨A3, n3, c3, e3, _⟩ := ho1.to
                     subst e3
                     have HO1 := hide ho1
                     have HB1 := hide ((unhide B2).trans hb1)
                     clear ho1 hb1)
        go_roundw
        case rel => exact ⟨k + 1, A3, n3, c3, by omega, by go_num, rfl, by rw [hg.out]; exact unhide HO1, unhide HB1⟩
        case measure => simp [intOf]; omega
      · have hmn2 : m = n := by omega
        have hen := hide (show risL gs (k + 1) = risL gs k by rw [risL, ent_no (by rw [hl.out, ← hmn2]; exact hm2), List.append_nil])
        go_wp2_with fail
        refine (RFind_any A n c gs (k : Int) m (-1) _ (((unhide H).below (unhide HB)).more (unhide HB).size) hm1 (hide hm2) (hide (.inl ⟨hmn2, rfl⟩))).mono ?_
        rintro e w2 ⟨rfl, hb2⟩
        have B2 := hide ((unhide HB).trans (hb2.mono (unhide HB).size))
        have O2 := hide ((unhide HO).below hb2 (Nat.le_refl _))
        clear hb2 hm2 hm3
        go_wp2_with fail
        go_roundw
        case rel => exact ⟨k + 1, A1, n1, c1, by omega, by go_num, rfl, by rw [hen.out]; exact unhide O2, unhide B2⟩
        case measure => simp [intOf]; omega
    · obtain rfl : k = 16 := by omega
      go_wp2_with fail
      go_ret
      exact ⟨_, rfl, unhide HO, unhide HB⟩
end Go.Proofs.Ytdlbahoenhhkdaa
