import Derived.Test.YtdlbahoenhhkdaaDa
/-
  add: a key onto the list, short or full.
-/
namespace Go.Proofs.Ytdlbahoenhhkdaa
open Go.RowKit

theorem At.uniq {gs : List G} {key : Int} {p q : Nat} (h : At gs key p) (h' : At gs key q) : p = q := by
  rcases Nat.lt_trichotomy p q with h1 | h1 | h1
  · have a := h'.lo p h1
    have b := h.hi p (Nat.le_refl _) (by have := h'.le; omega)
    omega
  · exact h1
  · have a := h.lo q h1
    have b := h'.hi q (Nat.le_refl _) (by have := h.le; omega)
    omega
def pos (gs : List G) (key : Int) : Nat := (gs.filter fun g => decide (g.1 < key)).length
theorem pos_at {gs : List G} (h : Rise gs) (key : Int) : At gs key (pos gs key) := by
  induction gs with
  | nil => exact ⟨Nat.zero_le _, fun i h => by simp [pos] at h, fun i _ h => by simp at h⟩
  | cons g l ih =>
    have hl : Rise l := fun i j hij hj => by
      have := h (i + 1) (j + 1) (by omega) (by simpa using hj)
      simpa [gth] using this
    have hg : ∀ j, j < l.length → g.1 < (gth l j).1 := fun j hj => by
      have := h 0 (j + 1) (by omega) (by simpa using hj)
      simpa [gth] using this
    have IH := ih hl
    by_cases e : g.1 < key
    · have ep : pos (g :: l) key = pos l key + 1 := by simp [pos, e]
      rw [ep]
      refine ⟨by have := IH.le; simp; omega, fun i hi => ?_, fun i h1 h2 => ?_⟩
      · rcases i with _ | i
        · simpa [gth] using e
        · simpa [gth] using IH.lo i (by omega)
      · rcases i with _ | i
        · omega
        · simpa [gth] using IH.hi i (by omega) (by simpa using h2)
    · have e0 : pos l key = 0 := by
        have := IH.lo
        rcases Nat.eq_zero_or_pos (pos l key) with h0 | h0
        · exact h0
        · have h1 := IH.le
          have := this 0 h0
          have := hg 0 (by omega)
          omega
      have ep : pos (g :: l) key = 0 := by
        have : pos (g :: l) key = pos l key := by simp [pos, e]
        omega
      rw [ep]
      refine ⟨Nat.zero_le _, fun i hi => by omega, fun i h1 h2 => ?_⟩
      rcases i with _ | i
      · simp [gth]; omega
      · have := hg i (by simpa using h2)
        have e2 : gth (g :: l) (i + 1) = gth l i := by simp [gth]
        rw [e2]; omega

/-- The list with a key more that it holds. -/
def bump (gs : List G) (p : Nat) : List G := gs.set p ((gth gs p).1, (gth gs p).2.1 + 1, (gth gs p).2.2)
def ins (gs : List G) (p : Nat) (g : G) : List G := gs.take p ++ [g] ++ gs.drop p
def repl (gs : List G) (key : Int) : List G :=
  let m := leastTo gs gs.length
  let g1 := gs.take m ++ gs.drop (m + 1)
  ins g1 (pos g1 key) (key, (gth gs m).2.1 + 1, (gth gs m).2.1)
def addL (sh : Bool) (K : Nat) (gs : List G) (key : Int) : List G :=
  if onB gs key (pos gs key) then bump gs (pos gs key) else if gs.length < K then ins gs (pos gs key) (key, 1, 0) else if sh then nz (gs.map dec) else repl gs key
/-- The list as it lies. -/
def St (w : World) (L : Nat) (K : Nat) (F : Value) (gs : List G) : Prop := ∃ (A : Option Addr) (n c : Nat), Blk w L 81 #[.int .i64 (K : Int), .slice A n c, F] ∧ OwnedG w (L + 1) 68 (.slice A n c) gs
def fnOf (sh : Bool) : Value := .func (Fn.func (if sh then 55 else 56)) #[] #[]

set_option maxRecDepth 100000 in
set_option maxHeartbeats 2000000 in
theorem add_found (L K : Nat) (F : Value) (gs : List G) (key : Int) (w : World) (h : St w L K F gs) (hn : gs.length ≤ 50) (hN : Hid (∀ x, x < gs.length → 0 ≤ (gth gs x).2.1 ∧ (gth gs x).2.1 ≤ 1000)) (hR : Hid (Rise gs)) (hon : Hid (onB gs key (pos gs key) = true)) :
    Calls Try.prog 74 #[.pointer (some ⟨L, 0, none⟩), .int .i64 key] w fun e w' => e = .returned (.tuple #[]) ∧ St w' L K F (bump gs (pos gs key)) ∧ Below L w w' := by
  obtain ⟨A, n, c, hL, ho⟩ := h
  have hl := ho.reads.len
  rw [hl] at hn hN
  have hLw := hL.lt
  have hp1 := hide (pos_at hR.out key)
  have hpn : pos gs key < n := by have := hon.out; simp [onB] at this; rw [hl] at this; exact this.1
  obtain ⟨g, rfl⟩ : ∃ g, A = some ⟨g, 0, none⟩ := by
    rcases ho.2 with ⟨hx, _⟩ | ⟨g, _, _, hx, _⟩
    · simp only [Value.slice.injEq] at hx; omega
    · simp only [Value.slice.injEq] at hx; exact ⟨g, hx.1⟩
  have HL := hide hL; have HO := hide ho; have Hl := hide hl
  obtain ⟨p, hp⟩ : ∃ p, pos gs key = p := ⟨_, rfl⟩
  rw [hp] at hon hp1 hpn ⊢
  have hp := hide hp
  clear hl
  go_enter Try.func74, Try.ntmps74
  go_wp2_with fail
  refine (find_any L _ n c gs key _ F w hL ho.reads (by omega) hR).mono ?_
  rintro e w2 ⟨p', rfl, hat, hb2⟩
  obtain rfl : p' = p := At.uniq hat.out hp1.out
  rw [hon.out]
  have l2 := hL.below hb2 hLw
  have o2 := (unhide HO).below hb2 (Nat.le_refl _)
  have hbg := o2.lt g rfl
  obtain ⟨e1, e2, e3, z1, z2, z3⟩ := o2.at3 p' hpn
  obtain ⟨f, hf⟩ : ∃ f, (gth gs p').1 = f := ⟨_, rfl⟩
  obtain ⟨d, hd⟩ : ∃ f, (gth gs p').2.1 = f := ⟨_, rfl⟩
  obtain ⟨q, hq⟩ : ∃ f, (gth gs p').2.2 = f := ⟨_, rfl⟩
  rw [hf] at e1; rw [hd] at e2; rw [hq] at e3
  have hdb := hN.out p' hpn
  rw [hd] at hdb
  obtain ⟨hd1, hd2⟩ := hdb
  have c1 : w2.cell? ⟨L, 1, none⟩ = some (.slice (some ⟨g, 0, none⟩) n c) := by rw [l2.cell]; rfl
  have O4 := hide (o2.set1 hpn (show gth gs p' = (f, d, q) by rw [← hf, ← hd, ← hq]) (d + 1))
  have L4 := hide (l2.far (p := ⟨g, p' * 3 + 1, none⟩) (show L ≠ g by omega) (.int .i64 (d + 1)))
  have B4 := hide ((hb2.mono (show L ≤ w.heap.size by omega)).setCell (p := ⟨g, p' * 3 + 1, none⟩) (show L ≤ g by omega) (.int .i64 (d + 1)))
  have hbu := hide (show bump gs p' = gs.set p' (f, d + 1, q) by unfold bump; rw [hf, hd, hq])
  clear l2 o2 hb2 ho hL hf hd hq
  go_wp2_with fail
  go_end0
  exact ⟨rfl, ⟨_, n, c, unhide L4, by rw [hbu.out]; exact unhide O4⟩, unhide B4⟩

set_option maxRecDepth 100000 in
set_option maxHeartbeats 2000000 in
theorem add_new (L K : Nat) (F : Value) (gs : List G) (key : Int) (w : World) (h : St w L K F gs) (hn : gs.length ≤ 50) (hR : Hid (Rise gs)) (hon : Hid (onB gs key (pos gs key) = false)) (hK : gs.length < K) (hK2 : K ≤ 100) :
    Calls Try.prog 74 #[.pointer (some ⟨L, 0, none⟩), .int .i64 key] w fun e w' => e = .returned (.tuple #[]) ∧ St w' L K F (ins gs (pos gs key) (key, 1, 0)) ∧ Below L w w' := by
  obtain ⟨A, n, c, hL, ho⟩ := h
  have hl := ho.reads.len
  rw [hl] at hn hK
  have hLw := hL.lt
  have hp1 := hide (pos_at hR.out key)
  have HL := hide hL; have HO := hide ho; have Hl := hide hl
  obtain ⟨p, hp⟩ : ∃ p, pos gs key = p := ⟨_, rfl⟩
  rw [hp] at hon hp1 ⊢
  have hp := hide hp
  clear hl
  go_enter Try.func74, Try.ntmps74
  go_wp2_with fail
  refine (find_any L _ n c gs key _ F w hL ho.reads (by omega) hR).mono ?_
  rintro e w2 ⟨p', rfl, hat, hb2⟩
  obtain rfl : p' = p := At.uniq hat.out hp1.out
  rw [hon.out]
  have l2 := hL.below hb2 hLw
  have o2 := (unhide HO).below hb2 (Nat.le_refl _)
  have c0 : w2.cell? ⟨L, 0, none⟩ = some (.int .i64 (K : Int)) := by rw [l2.cell]; rfl
  have c1 : w2.cell? ⟨L, 1, none⟩ = some (.slice A n c) := by rw [l2.cell]; rfl
  have HO2 := hide o2; have HL2 := hide l2; have HB2 := hide (hb2.mono (show L ≤ w.heap.size by omega))
  have hnk : (n : Int) < (K : Int) := by omega
  clear l2 o2 hb2 ho hL
  go_wp2_with fail
  go_big_quiet (fail)
  go_wp2_with fail
  refine (put_any L A n c gs key 1 0 _ F _ ((unhide HL2).drewN _) ((unhide HO2).drewN _) hn hR).mono ?_
  rintro e w3 ⟨A4, n4, c4, p4, rfl, hp4, l4, o4, b4⟩
  obtain rfl : p4 = p' := At.uniq hp4.out hp1.out
  have L6 := hide l4; have O6 := hide o4; have B6 := hide ((Below.drewN' (unhide HB2) _).trans b4)
  clear l4 o4 b4
  go_wp2_with fail
  go_end0
  exact ⟨rfl, ⟨A4, n4, c4, unhide L6, unhide O6⟩, unhide B6⟩

set_option maxRecDepth 100000 in
set_option maxHeartbeats 2000000 in
theorem add_short (L K : Nat) (gs : List G) (key : Int) (w : World) (h : St w L K (fnOf true) gs) (hn : gs.length ≤ 50) (hN : Hid (∀ x, x < gs.length → 0 ≤ (gth gs x).2.1 ∧ (gth gs x).2.1 ≤ 1000)) (hR : Hid (Rise gs)) (hon : Hid (onB gs key (pos gs key) = false)) (hK : ¬ gs.length < K) (hK2 : K ≤ 100) :
    Calls Try.prog 74 #[.pointer (some ⟨L, 0, none⟩), .int .i64 key] w fun e w' => e = .returned (.tuple #[]) ∧ St w' L K (fnOf true) (nz (gs.map dec)) ∧ Below L w w' := by
  obtain ⟨A, n, c, hL, ho⟩ := h
  have hF : fnOf true = .func (Fn.func 55) #[] #[] := rfl
  rw [hF] at hL ⊢
  have hl := ho.reads.len
  rw [hl] at hn hK hN
  have hLw := hL.lt
  have hp1 := hide (pos_at hR.out key)
  have HL := hide hL; have HO := hide ho; have Hl := hide hl
  obtain ⟨p, hp⟩ : ∃ p, pos gs key = p := ⟨_, rfl⟩
  rw [hp] at hon hp1
  clear hl hp
  go_enter Try.func74, Try.ntmps74
  go_wp2_with fail
  refine (find_any L _ n c gs key _ _ w hL ho.reads (by omega) hR).mono ?_
  rintro e w2 ⟨p', rfl, hat, hb2⟩
  obtain rfl : p' = p := At.uniq hat.out hp1.out
  rw [hon.out]
  have l2 := hL.below hb2 hLw
  have o2 := (unhide HO).below hb2 (Nat.le_refl _)
  have c0 : w2.cell? ⟨L, 0, none⟩ = some (.int .i64 (K : Int)) := by rw [l2.cell]; rfl
  have c1 : w2.cell? ⟨L, 1, none⟩ = some (.slice A n c) := by rw [l2.cell]; rfl
  have c2 : w2.cell? ⟨L, 2, none⟩ = some (.func (Fn.func 55) #[] #[]) := by rw [l2.cell]; rfl
  have HO2 := hide o2; have HL2 := hide l2; have HB2 := hide (hb2.mono (show L ≤ w.heap.size by omega))
  have hnk : decide ((n : Int) < (K : Int)) = false := by simp; omega
  clear l2 o2 hb2 ho hL
  go_wp2_with fail
  go_big_quiet (fail)
  go_wp2_with fail
  refine (lessen_any L A n c gs _ _ key _ ((unhide HL2).drewN _) ((unhide HO2).drewN _) hn hN).mono ?_
  rintro e w3 ⟨A4, n4, c4, rfl, l4, o4, b4⟩
  have L6 := hide l4; have O6 := hide o4; have B6 := hide ((Below.drewN' (unhide HB2) _).trans b4)
  clear l4 o4 b4
  go_wp2_with fail
  go_end0
  exact ⟨rfl, ⟨A4, n4, c4, unhide L6, unhide O6⟩, unhide B6⟩

set_option maxRecDepth 100000 in
set_option maxHeartbeats 2000000 in
theorem add_full (L K : Nat) (gs : List G) (key : Int) (w : World) (h : St w L K (fnOf false) gs) (hn : gs.length ≤ 50) (hN : Hid (∀ x, x < gs.length → 0 ≤ (gth gs x).2.1 ∧ (gth gs x).2.1 ≤ 1000)) (hR : Hid (Rise gs)) (hon : Hid (onB gs key (pos gs key) = false)) (hK : ¬ gs.length < K) (hK2 : K ≤ 100) (hK0 : 0 < K) :
    Calls Try.prog 74 #[.pointer (some ⟨L, 0, none⟩), .int .i64 key] w fun e w' => e = .returned (.tuple #[]) ∧ St w' L K (fnOf false) (repl gs key) ∧ Below L w w' := by
  obtain ⟨A, n, c, hL, ho⟩ := h
  have hF : fnOf false = .func (Fn.func 56) #[] #[] := rfl
  rw [hF] at hL ⊢
  have hl := ho.reads.len
  have hre : repl gs key = ins (gs.take (leastTo gs n) ++ gs.drop (leastTo gs n + 1)) (pos (gs.take (leastTo gs n) ++ gs.drop (leastTo gs n + 1)) key) (key, (gth gs (leastTo gs n)).2.1 + 1, (gth gs (leastTo gs n)).2.1) := by
    unfold repl; rw [hl]
  have hR2 := hide (show Rise (gs.take (leastTo gs n) ++ gs.drop (leastTo gs n + 1)) from rise_del hR.out _ (by rw [hl]; exact leastTo_lt n (by omega)))
  have hp2 := hide (pos_at hR2.out key)
  rw [hre]
  rw [hl] at hn hK hN
  have hLw := hL.lt
  have hp1 := hide (pos_at hR.out key)
  have HL := hide hL; have HO := hide ho; have Hl := hide hl
  obtain ⟨p, hp⟩ : ∃ p, pos gs key = p := ⟨_, rfl⟩
  rw [hp] at hon hp1
  obtain ⟨g1, hg1⟩ : ∃ g1, g1 = gs.take (leastTo gs n) ++ gs.drop (leastTo gs n + 1) := ⟨_, rfl⟩
  rw [← hg1] at hp2 ⊢
  obtain ⟨q, hq⟩ : ∃ q, pos g1 key = q := ⟨_, rfl⟩
  rw [hq] at hp2 ⊢
  obtain ⟨v, hv⟩ : ∃ v, v = (gth gs (leastTo gs n)).2.1 := ⟨_, rfl⟩
  rw [← hv]
  have HV := hide hv; have HG := hide hg1
  clear hl hp hre hv hg1 hq hR2
  go_enter Try.func74, Try.ntmps74
  go_wp2_with fail
  refine (find_any L _ n c gs key _ _ w hL ho.reads (by omega) hR).mono ?_
  rintro e w2 ⟨p', rfl, hat, hb2⟩
  obtain rfl : p' = p := At.uniq hat.out hp1.out
  rw [hon.out]
  have l2 := hL.below hb2 hLw
  have o2 := (unhide HO).below hb2 (Nat.le_refl _)
  have c0 : w2.cell? ⟨L, 0, none⟩ = some (.int .i64 (K : Int)) := by rw [l2.cell]; rfl
  have c1 : w2.cell? ⟨L, 1, none⟩ = some (.slice A n c) := by rw [l2.cell]; rfl
  have c2 : w2.cell? ⟨L, 2, none⟩ = some (.func (Fn.func 56) #[] #[]) := by rw [l2.cell]; rfl
  have HO2 := hide o2; have HL2 := hide l2; have HB2 := hide (hb2.mono (show L ≤ w.heap.size by omega))
  have hnk : decide ((n : Int) < (K : Int)) = false := by simp; omega
  clear l2 o2 hb2 ho hL
  go_wp2_with fail
  go_big_quiet (fail)
  go_wp2_with fail
  refine (replace_any L A n c gs _ _ key _ ((unhide HL2).drewN _) ((unhide HO2).drewN _) hn (by omega) hN hR _ rfl v HV.out g1 HG.out).mono ?_
  rintro e w3 ⟨A4, n4, c4, p4, rfl, hp4, l4, o4, b4⟩
  obtain rfl : p4 = q := At.uniq hp4.out hp2.out
  have L6 := hide l4; have O6 := hide o4; have B6 := hide ((Below.drewN' (unhide HB2) _).trans b4)
  clear l4 o4 b4
  go_wp2_with fail
  go_end0
  exact ⟨rfl, ⟨A4, n4, c4, unhide L6, unhide O6⟩, unhide B6⟩

theorem add_any (sh : Bool) (L K : Nat) (gs : List G) (key : Int) (w : World) (h : St w L K (fnOf sh) gs) (hn : gs.length ≤ 50) (hN : Hid (∀ x, x < gs.length → 0 ≤ (gth gs x).2.1 ∧ (gth gs x).2.1 ≤ 1000)) (hR : Hid (Rise gs)) (hK2 : K ≤ 100) (hK0 : 0 < K) :
    Calls Try.prog 74 #[.pointer (some ⟨L, 0, none⟩), .int .i64 key] w fun e w' => e = .returned (.tuple #[]) ∧ St w' L K (fnOf sh) (addL sh K gs key) ∧ Below L w w' := by
  unfold addL
  cases hon : onB gs key (pos gs key) with
  | true => rw [if_pos rfl]; exact add_found L K _ gs key w h hn hN hR (hide hon)
  | false =>
    rw [if_neg (by simp)]
    by_cases hk : gs.length < K
    · rw [if_pos hk]; exact add_new L K _ gs key w h hn hR (hide hon) hk hK2
    · rw [if_neg hk]
      cases sh with
      | true => rw [if_pos rfl]; exact add_short L K gs key w h hn hN hR (hide hon) hk hK2
      | false => rw [if_neg (by simp)]; exact add_full L K gs key w h hn hN hR (hide hon) hk hK2 hK0
end Go.Proofs.Ytdlbahoenhhkdaa
