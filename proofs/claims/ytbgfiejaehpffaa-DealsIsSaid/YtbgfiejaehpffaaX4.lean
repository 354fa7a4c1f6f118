/-
  reach of the program.
-/
import Derived.Test.YtbgfiejaehpffaaX3
namespace Go.Proofs.Ytbgfiejaehpffaa
open Go.RowKit

theorem four_at {W : World} {b : Nat} {v0 v1 v2 v3 : Value} {t : TypeId} (h : W.heap[b]? = some (.cells #[v0, v1, v2, v3] t (0, 0))) : W.cell? ⟨b, 0, none⟩ = some v0 ∧ W.cell? ⟨b, 1, none⟩ = some v1 ∧ W.cell? ⟨b, 2, none⟩ = some v2 ∧ W.cell? ⟨b, 3, none⟩ = some v3 := by
  refine ⟨?_, ?_, ?_, ?_⟩ <;> (rw [cell_row_ h]; rfl)
/-- What a limit rises by along the way X, Y, and how far it lets go. -/
def stq (X Y : Rat) (l : G) : Rat := (l.1 : Rat) * X + (l.2.1 : Rat) * Y
def vq (X Y : Rat) (l : G) : Rat := (l.2.2 : Rat) / stq X Y l
def rL (X Y : Rat) (gs : List G) : List Rat := gs.filterMap fun l => if 0 < stq X Y l then some (vq X Y l) else none
theorem fr_pos {q : Rat} {a b : Int} (h : Fr q a b) : 0 < q ↔ 0 < a := by
  have h1 := fr_lt (p := 0) (a := 0) (b := 1) ⟨rfl, rfl⟩ h
  rw [← h1, Int.zero_mul, Int.mul_one]
def qth (l : List Rat) (j : Nat) : Rat := l.getD j 0
def okL (l : G) : Prop := (0 ≤ l.1 ∧ l.1 ≤ 60) ∧ (0 ≤ l.2.1 ∧ l.2.1 ≤ 60) ∧ (-4000 ≤ l.2.2 ∧ l.2.2 ≤ 4000)
theorem rL_snoc (X Y : Rat) (gs : List G) (k : Nat) (h : k < gs.length) : rL X Y (gs.take (k + 1)) = rL X Y (gs.take k) ++ (if 0 < stq X Y (gth gs k) then [vq X Y (gth gs k)] else []) := by
  rw [gtake gs k h, rL, List.filterMap_append]
  congr 1
  simp only [List.filterMap_cons, List.filterMap_nil]
  split <;> simp_all
theorem bd_st {X Y : Rat} (hX : Bd 4000 60 X) (hY : Bd 4000 60 Y) {l : G} (h : okL l) : Bd 28800000 3600 (stq X Y l) := by
  obtain ⟨⟨a1, a2⟩, ⟨b1, b2⟩, _⟩ := h
  have e1 := (Bd.int l.1).mono (show l.1.natAbs ≤ 60 by omega) (Nat.le_refl 1)
  have e2 := (Bd.int l.2.1).mono (show l.2.1.natAbs ≤ 60 by omega) (Nat.le_refl 1)
  exact ((e1.mul hX).add (e2.mul hY)).mono (by decide) (by decide)
theorem vq_fr {X Y : Rat} {l : G} {a b : Int} (h : Fr (stq X Y l) a b) (hp : 0 < stq X Y l) : 0 < a ∧ Rat.divInt (l.2.2 * b) a = vq X Y l := by
  have ha : 0 < a := (fr_pos h).1 hp
  refine ⟨ha, ?_⟩
  unfold vq
  have hb := h.pos
  have he := h.eq
  have han : (a : Rat) ≠ 0 := by intro e; rw [Rat.intCast_eq_zero_iff] at e; omega
  have hbn : (b : Rat) ≠ 0 := by intro e; rw [Rat.intCast_eq_zero_iff] at e; omega
  rw [he, Rat.divInt_eq_div, Rat.divInt_eq_div, Rat.intCast_mul, Rat.div_def, Rat.div_def, Rat.div_def, Rat.inv_mul_rev, Rat.inv_inv]
  grind
theorem bd_v {X Y : Rat} (hX : Bd 4000 60 X) (hY : Bd 4000 60 Y) {l : G} (h : okL l) (hp : 0 < stq X Y l) : Bd 14400000 28800000 (vq X Y l) := by
  obtain ⟨n, d, hf⟩ := exists_fr (stq X Y l)
  have hb := bd_st hX hY h
  have hv := vq_fr hf hp
  have := bd_divInt (a := l.2.2 * d) (b := n) hv.1
  rw [hv.2] at this
  have hn : n.natAbs ≤ 28800000 := by rw [← hf.1]; exact hb.1
  have hd : d.natAbs ≤ 3600 := by rw [← hf.2]; have := hb.2; omega
  obtain ⟨_, _, c1, c2⟩ := h
  refine this.mono ?_ hn
  rw [Int.natAbs_mul]
  exact Nat.mul_le_mul (show l.2.2.natAbs ≤ 4000 by omega) hd
theorem rL_bd {X Y : Rat} (hX : Bd 4000 60 X) (hY : Bd 4000 60 Y) {gs : List G} (h : ∀ l, l ∈ gs → okL l) : ∀ k, k < (rL X Y gs).length → Bd 14400000 28800000 (qth (rL X Y gs) k) := by
  intro k hk
  have hm : qth (rL X Y gs) k ∈ rL X Y gs := by simp [qth, List.getD, hk]
  generalize qth (rL X Y gs) k = q at hm
  simp only [rL, List.mem_filterMap] at hm
  obtain ⟨l, hl, hq⟩ := hm
  split at hq
  · rename_i hp
    obtain rfl := Option.some.inj hq
    exact bd_v hX hY (h l hl) hp
  · cases hq
theorem own_nil (w : World) : OwnQ w w.heap.size 32 (.slice none 0 0) [] := World.ownsRow_nil _ _ _ _
theorem hasQ_ext {L : List F} {G G' : Nat → Rat} {b : Nat} (h : HasQ L G 0 b) (he : ∀ j, j < b → G j = G' j) : HasQ L G' 0 b := fun j h1 h2 => by rw [← he j h2]; exact h j h1 h2
/-- The least way that some limit lets go. -/
def IsMin (X Y : Rat) (gs : List G) (r : Rat) : Prop := (∃ l, l ∈ gs ∧ 0 < stq X Y l ∧ vq X Y l = r) ∧ ∀ l, l ∈ gs → 0 < stq X Y l → r ≤ vq X Y l
theorem IsMin.of {X Y : Rat} {gs : List G} {r : Rat} (h : IsMin X Y gs r) : 0 < (rL X Y gs).length ∧ (∃ k, k < (rL X Y gs).length ∧ qth (rL X Y gs) k = r) ∧ ∀ k, k < (rL X Y gs).length → r ≤ qth (rL X Y gs) k := by
  have hm : ∀ q, q ∈ rL X Y gs ↔ ∃ l, l ∈ gs ∧ 0 < stq X Y l ∧ vq X Y l = q := by
    intro q
    simp only [rL, List.mem_filterMap]
    constructor
    · rintro ⟨l, hl, hq⟩
      split at hq
      · rename_i hp; exact ⟨l, hl, hp, Option.some.inj hq⟩
      · cases hq
    · rintro ⟨l, hl, hp, rfl⟩
      exact ⟨l, hl, if_pos hp⟩
  have hr := (hm r).2 h.1
  obtain ⟨k, hk, e⟩ := List.mem_iff_getElem.1 hr
  refine ⟨by omega, ⟨k, hk, by simp [qth, List.getD, hk, e]⟩, fun k hk => ?_⟩
  have hq : qth (rL X Y gs) k ∈ rL X Y gs := by simp [qth, List.getD, hk]
  obtain ⟨l, hl, hp, e⟩ := (hm _).1 hq
  rw [← e]; exact h.2 l hl hp

set_option maxRecDepth 100000 in
set_option maxHeartbeats 16000000 in
theorem reach_any (xn xd yn yd : Int) (X Y : Rat) (hX : Hid (Fr X xn xd)) (hY : Hid (Fr Y yn yd)) (bX : Hid (Bd 4000 60 X)) (bY : Hid (Bd 4000 60 Y)) (A : Option Addr) (n c : Nat) (gs : List G) (w : World) (h : Gs w w.heap.size A n c gs) (hgs : Hid (∀ l, l ∈ gs → okL l)) (hn : n ≤ 1000)
    (r : Rat) (hr : Hid (IsMin X Y gs r)) (u v : Int) (hf : Hid (Fr r u v)) :
    Calls Try.prog 96 #[.agg #[.int .i64 xn, .int .i64 xd, .int .i64 yn, .int .i64 yd], .slice A n c] w fun e w' => e = .returned (.agg #[.int .i64 u, .int .i64 v]) ∧ Below w.heap.size w w' := by
  have hm := h.most; have hcap := h.cap
  obtain ⟨W0, hW0⟩ : ∃ W0, W0 = (w.alloc (.cells #[.int .i64 xn, .int .i64 xd, .int .i64 yn, .int .i64 yd] 37)).alloc (.cells #[.int .i64 0, .int .i64 0] 32) := ⟨_, rfl⟩
  have HB0 := hide (show Below w.heap.size w W0 from by rw [hW0]; exact ((Below.refl _ w).alloc (Nat.le_refl _) _).alloc (by simp) _)
  have HP0 := hide (show W0.heap[w.heap.size]? = some (.cells #[.int .i64 xn, .int .i64 xd, .int .i64 yn, .int .i64 yd] 37 (0, 0)) from by rw [hW0, Below.heap_alloc _ _ _ (by simp)]; exact heap_new_ w _)
  have HR0 := hide (show W0.heap[w.heap.size + 1]? = some (.cells #[.int .i64 0, .int .i64 0] 32 (0, 0)) from by
    rw [hW0]
    have := heap_new_ (w.alloc (.cells #[.int .i64 xn, .int .i64 xd, .int .i64 yn, .int .i64 yd] 37)) (.cells #[.int .i64 0, .int .i64 0] 32)
    rwa [World.size_alloc] at this)
  have HI0 := hide ((h.below (unhide HB0)).more (unhide HB0).size)
  have HL := hide h.len
  have hW : (w.alloc (.cells #[.int .i64 xn, .int .i64 xd, .int .i64 yn, .int .i64 yd] 37)).alloc (.cells #[.int .i64 0, .int .i64 0] 32) = W0 := hW0.symm
  clear hW0 h
  go_enter Try.func96, Try.ntmps96
  go_wp2_with fail
  clear hW
  go_loopw [5, 7, 8, 11] (fun vv _ _ i wr => ∃ k : Nat, k ≤ n ∧ i = .int .i64 k ∧ Hid (∃ fs, OwnQ wr W0.heap.size 32 vv fs ∧ fs.length = (rL X Y (gs.take k)).length ∧ HasQ fs (qth (rL X Y (gs.take k))) 0 fs.length) ∧ Hid (Below W0.heap.size W0 wr)) (fun _ _ _ i _ => n - (intOf i).toNat)
  case atStart => exact ⟨0, Nat.zero_le _, rfl, hide ⟨[], own_nil W0, by simp [rL], fun j h1 h2 => absurd h2 (by simp)⟩, hide (Below.refl _ _)⟩
  case round =>
    obtain ⟨k, hk, rfl, HO, HB⟩ := hrel
    obtain ⟨fs, hown, hlen, hhas⟩ := HO.out
    have HOw := hide hown
    have HLen := hide hlen
    have HHas := hide hhas
    obtain ⟨A1, n1, c1, rfl, hfs1⟩ := hown.to
    have HFS := hide hfs1
    clear hown hlen hhas HO hfs1
    by_cases hlt : k < n
    · obtain ⟨b, off, rfl, hb, hc1, hc2, hc3⟩ := ((unhide HI0).below (unhide HB)).at_ k hlt
      have hsn := rL_snoc X Y gs k (by rw [HL.out]; exact hlt)
      have hok := hgs.out _ (mem_gth (gs := gs) (k := k) (by rw [HL.out]; exact hlt))
      generalize gth gs k = l at hsn hok hc1 hc2 hc3
      have hst := bd_st bX.out bY.out hok
      have hvf := fun a b => vq_fr (X := X) (Y := Y) (l := l) (a := a) (b := b)
      have hbv := bd_v bX.out bY.out hok
      obtain ⟨la, lb, lc⟩ := l
      simp only at hc1 hc2 hc3
      obtain ⟨⟨a1, a2⟩, ⟨b1, b2⟩, ⟨c1', c2'⟩⟩ := hok
      simp only at a1 a2 b1 b2 c1' c2'
      obtain ⟨W1, hW1⟩ : ∃ W1, W1 = wr.alloc (.cells #[.int .i64 la, .int .i64 lb, .int .i64 lc] 73) := ⟨_, rfl⟩
      have hB1 : Below wr.heap.size wr W1 := by rw [hW1]; exact (Below.refl _ _).alloc (Nat.le_refl _) _
      have hl1 : W1.heap[wr.heap.size]? = some (.cells #[.int .i64 la, .int .i64 lb, .int .i64 lc] 73 (0, 0)) := by rw [hW1]; exact heap_new_ _ _
      have hp1 : W1.heap[w.heap.size]? = some (.cells #[.int .i64 xn, .int .i64 xd, .int .i64 yn, .int .i64 yd] 37 (0, 0)) :=
        (hB1.block _ (by have := (unhide HB).size; have := (Array.getElem?_eq_some_iff.1 (unhide HP0)).1; omega)).trans (((unhide HB).block _ (Array.getElem?_eq_some_iff.1 (unhide HP0)).1).trans (unhide HP0))
      have HB1 := hide ((unhide HB).trans (hB1.mono (unhide HB).size))
      have HO1 := hide ((unhide HOw).below hB1 (Nat.le_refl _))
      have HS := hide (show ∀ W', Below W1.heap.size W1 W' → ((W'.cell? ⟨wr.heap.size, 0, none⟩ = some (.int .i64 la) ∧ W'.cell? ⟨wr.heap.size, 1, none⟩ = some (.int .i64 lb) ∧ W'.cell? ⟨wr.heap.size, 2, none⟩ = some (.int .i64 lc)) ∧ (W'.cell? ⟨w.heap.size, 0, none⟩ = some (.int .i64 xn) ∧ W'.cell? ⟨w.heap.size, 1, none⟩ = some (.int .i64 xd) ∧ W'.cell? ⟨w.heap.size, 2, none⟩ = some (.int .i64 yn) ∧ W'.cell? ⟨w.heap.size, 3, none⟩ = some (.int .i64 yd))) from fun W' hb' =>
        ⟨three_at ((hb'.block _ (Array.getElem?_eq_some_iff.1 hl1).1).trans hl1), four_at ((hb'.block _ (Array.getElem?_eq_some_iff.1 hp1).1).trans hp1)⟩)
      have hW : wr.alloc (.cells #[.int .i64 la, .int .i64 lb, .int .i64 lc] 73) = W1 := hW1.symm
      clear hW1 hB1 hl1 hp1
      -- the numbers of the step
      obtain ⟨p1, q1, hp1⟩ := exists_fr ((la : Rat) * X)
      obtain ⟨p2, q2, hp2⟩ := exists_fr ((lb : Rat) * Y)
      obtain ⟨sn, sd, hs⟩ := exists_fr (stq X Y (la, lb, lc))
      have bla := (Bd.int la).mono (show la.natAbs ≤ 60 by omega) (Nat.le_refl 1)
      have blb := (Bd.int lb).mono (show lb.natAbs ≤ 60 by omega) (Nat.le_refl 1)
      have HWa := hide (fun W => whole_any la W (by omega))
      have HWb := hide (fun W => whole_any lb W (by omega))
      have HTa := hide (fun W => times_q W (hide (fr_int la)) hX (hide bla) bX (hide ⟨by decide, by decide⟩) (hide rfl) (hide hp1))
      have HTb := hide (fun W => times_q W (hide (fr_int lb)) hY (hide blb) bY (hide ⟨by decide, by decide⟩) (hide rfl) (hide hp2))
      have HPl := hide (fun W => plus_q W (hide hp1) (hide hp2) (hide (bla.mul bX.out)) (hide (blb.mul bY.out)) (hide ⟨by decide, by decide, by decide⟩) (hide rfl) (hide (show Fr ((la : Rat) * X + (lb : Rat) * Y) sn sd from hs)))
      have hsd := hs.pos
      have hsn1 : sn.natAbs ≤ 28800000 := by rw [← hs.1]; exact hst.1
      have hsd1 : sd ≤ 3600 := by rw [← hs.2]; have := hst.2; omega
      have HWd := hide (show Below W1.heap.size W1 W1.drew from (Below.refl _ _).drew)
      have HVF := hide (hvf sn sd hs)
      have HBV := hide hbv
      have HSN := hide hsn
      have HST := hide hs
      clear hp1 hp2 bla blb hvf hbv hsn hs hst
      go_upto_region 5 with fail
      clear hW hc1 hc2 hc3
      refine wp_region_alloc 14 13 8 _ 32 #[.int .i64 0, .int .i64 0] W1 (by kernel_rfl) (by kernel_rfl) rfl rfl rfl (fun a w => ?_) (unhide HWd) ?_
      · go_simp
      apply Exists.intro
      refine ⟨fun Xw hXw => ?_, ?_⟩
      · simp only [List.take_succ_cons, List.take_zero, List.set_cons_succ, List.set_cons_zero, fakeOf]
        repeat (first
          | go_big_quiet_skip
          | (go_big_quiet_want
             apply Exists.intro
             refine ⟨fun W hW => ?_, ?_⟩
             · obtain ⟨⟨k1, k2, k3⟩, ⟨m1, m2, m3, m4⟩⟩ := (unhide HS) W (hXw.trans (hW.mono hXw.size))
               go_simp
               first | rfl | ((with_reducible refine ((unhide HWa) W).mono ?_); exact fun _ _ h => ⟨h.1, hW.trans (h.2.mono hW.size)⟩) | ((with_reducible refine ((unhide HWb) W).mono ?_); exact fun _ _ h => ⟨h.1, hW.trans (h.2.mono hW.size)⟩) | ((with_reducible refine ((unhide HTa) W).mono ?_); exact fun _ _ h => ⟨h.1, hW.trans (h.2.mono hW.size)⟩) | ((with_reducible refine ((unhide HTb) W).mono ?_); exact fun _ _ h => ⟨h.1, hW.trans (h.2.mono hW.size)⟩) | ((with_reducible refine ((unhide HPl) W).mono ?_); exact fun _ _ h => ⟨h.1, hW.trans (h.2.mono hW.size)⟩)
             go_big_quiet_on
             simp only [Act.put, List.setIfInBounds_toArray, List.set_cons_zero, List.set_cons_succ]))
        refine wpQuiet_nil ?_
        rfl
      · intro wc R hWc hRl hRz
        have HR1 := hide hRz
        have HBc := hide ((unhide HB1).trans (hWc.mono (unhide HB1).size))
        have HOc := hide ((unhide HO1).below hWc (Nat.le_refl _))
        have hRg : W0.heap.size ≤ R := Nat.le_trans (unhide HB1).size hRl
        have f0 := free_at hRz 0; have f1 := free_at hRz 1
        obtain ⟨g0, g1⟩ := two_at hRz
        obtain ⟨⟨k1, k2, k3⟩, _⟩ := (unhide HS) wc hWc
        have hlR : wr.heap.size ≠ R := by have := hWc.size; have := (Array.getElem?_eq_some_iff.1 hRz).1; have := (cell_lt ((unhide HS) W1 (Below.refl _ _)).1.1); omega
        obtain ⟨w5, hw5⟩ : ∃ w5, w5 = (wc.setCell ⟨R, 0, none⟩ (.int .i64 sn)).setCell ⟨R, 1, none⟩ (.int .i64 sd) := ⟨_, rfl⟩
        have HR5 := hide (show w5.heap[R]? = some (.cells #[.int .i64 sn, .int .i64 sd] 32 (0, 0)) from by rw [hw5]; exact put2 hRz _ _)
        have HB5 := hide (show Below W0.heap.size W0 w5 from by rw [hw5]; exact below_put2 (unhide HBc) hRg _ _)
        have HB51 := hide (show Below W1.heap.size W1 w5 from by rw [hw5]; exact below_put2 hWc hRl _ _)
        have HO5 := hide ((unhide HO1).below (unhide HB51) (Nat.le_refl _))
        have hw5' : (wc.setCell ⟨R, 0, none⟩ (.int .i64 sn)).setCell ⟨R, 1, none⟩ (.int .i64 sd) = w5 := hw5.symm
        clear hw5 hRz hWc hRg hRl HR1 HBc HOc k1 k2 k3
        simp only [List.drop_succ_cons, List.drop_zero, Act.put, List.setIfInBounds_toArray, List.set_cons_zero, List.set_cons_succ]
        go_upto_region 6 with fail
        clear hw5' f0 f1 g0 g1
        obtain ⟨r0, r1⟩ := two_at (unhide HR5)
        obtain ⟨⟨k1, k2, k3⟩, _⟩ := (unhide HS) w5 (unhide HB51)
        by_cases hpos : 0 < sn
        · have hst := (fr_pos HST.out).2 hpos
          have hv := HVF.out hst
          simp only at hv
          have e1 := mul_bd (M := 4000) (N := 3600) (show -4000 ≤ lc ∧ lc ≤ 4000 by omega) (show -3600 ≤ sd ∧ sd ≤ 3600 by omega)
          obtain ⟨pr, hpr⟩ : ∃ pr, lc * sd = pr := ⟨_, rfl⟩
          rw [hpr] at e1 hv
          obtain ⟨rn, rd, hrf⟩ := exists_fr (vq X Y (la, lb, lc))
          have HQ := hide (fun W => quotient_any pr sn W (by omega) (by omega) rn rd (hide (by rw [hv.2]; exact hrf)))
          have HSn2 := hide (show rL X Y (gs.take (k + 1)) = rL X Y (gs.take k) ++ [vq X Y (la, lb, lc)] from by rw [HSN.out, if_pos hst])
          have HRF := hide hrf
          clear hst hv hrf
          go_wp2_with fail
          refine ((unhide HQ) w5).mono ?_
          rintro e w6 ⟨rfl, b6⟩
          have HB6 := hide ((unhide HB5).trans (b6.mono (unhide HB5).size))
          have HO6 := hide ((unhide HO5).below b6 (Nat.le_refl _))
          clear b6 r0 r1 k1 k2 k3
          have HO7 := hide ((unhide HO6).below ((Below.refl w6.heap.size w6).alloc (Nat.le_refl _) (.cells #[.int .i64 rn, .int .i64 rd] 32)) (Nat.le_refl _))
          have hlen6 := hide (show fs.length + [((rn, rd) : F)].length ≤ 1000000 from by
            have h1 := HLen.out
            have h2 : (rL X Y (gs.take k)).length ≤ (gs.take k).length := List.length_filterMap_le _ _
            simp at h2 ⊢; omega)
          have hbs6 := (unhide HB6).size
          go_wp2_with (at_builtin; refine wpList_appR rfl _ _ rfl rfl rfl (unhide HO7) (fr_one w6 rn rd) hlen6.out (by simp; omega) ?_; intro v' w7 ho7 hg7 _)
          have HO8 := hide ho7
          have HB7 := hide (show Below W0.heap.size W0 w7 from ((unhide HB6).alloc (unhide HB6).size _).grown hg7 (by simp; omega) (fun q hq => (World.ownsRow.lt (unhide HO7) q hq).1))
          have HRel := hide (show ∃ fs', OwnQ w7 W0.heap.size 32 v' fs' ∧ fs'.length = (rL X Y (gs.take (k + 1))).length ∧ HasQ fs' (qth (rL X Y (gs.take (k + 1)))) 0 fs'.length from by
            refine ⟨fs ++ [(rn, rd)], unhide HO8, by rw [HSn2.out, List.length_append, List.length_append, HLen.out]; rfl, ?_⟩
            rw [HSn2.out, List.length_append]
            refine HasQ.snoc1 (hasQ_ext HHas.out fun j hj => ?_) rfl ?_
            · unfold qth; simp only [List.getD]; rw [List.getElem?_append_left (by rw [← HLen.out]; exact hj)]
            · have : qth (rL X Y (gs.take k) ++ [vq X Y (la, lb, lc)]) fs.length = vq X Y (la, lb, lc) := by unfold qth; rw [HLen.out]; simp [List.getD]
              rw [this]; exact HRF.out)
          clear ho7 hg7
          go_wp2_with fail
          go_roundw
          case rel => exact ⟨k + 1, by omega, by go_num, HRel, HB7⟩
          case measure => simp [intOf]; omega
        · have hst : ¬ 0 < stq X Y (la, lb, lc) := fun h => hpos ((fr_pos HST.out).1 h)
          have HRel := hide (show ∃ fs', OwnQ w5 W0.heap.size 32 (.slice A1 n1 c1) fs' ∧ fs'.length = (rL X Y (gs.take (k + 1))).length ∧ HasQ fs' (qth (rL X Y (gs.take (k + 1)))) 0 fs'.length from by
            have e : rL X Y (gs.take (k + 1)) = rL X Y (gs.take k) := by rw [HSN.out, if_neg hst, List.append_nil]
            rw [e]
            exact ⟨fs, unhide HO5, HLen.out, HHas.out⟩)
          clear hst
          go_wp2_with fail
          go_roundw
          case rel => exact ⟨k + 1, by omega, by go_num, HRel, HB5⟩
          case measure => simp [intOf]; omega
    · have HKN := hide (show k = n by omega)
      have ht : gs.take k = gs := List.take_of_length_le (by rw [HL.out, HKN.out]; exact Nat.le_refl _)
      rw [ht] at HLen HHas
      have hmin := IsMin.of hr.out
      have hbd := rL_bd bX.out bY.out hgs.out
      rw [← HLen.out] at hmin hbd
      have hn1 : fs.length = n1 := (unhide HFS).len
      have HMF := hide (minFunc_any A1 n1 c1 fs (qth (rL X Y gs)) 14400000 28800000 wr (unhide HFS) (by omega) (hide (by rw [← hn1]; exact HHas.out)) (hide (by rw [← hn1]; exact hbd)) (hide (by decide)) r (hide (by rw [← hn1]; exact hmin.2)) u v hf)
      clear hmin hbd hn1 ht
      go_wp2_with fail
      refine (unhide HMF).mono ?_
      rintro e w2 ⟨rfl, b2⟩
      have HB2 := hide ((unhide HB).trans (b2.mono (unhide HB).size))
      have HR2 := hide (((unhide HB2).block _ (Array.getElem?_eq_some_iff.1 (unhide HR0)).1).trans (unhide HR0))
      have HBz := hide ((unhide HB0).trans ((unhide HB2).mono (unhide HB0).size))
      clear b2
      have f0 := free_at (unhide HR2) 0; have f1 := free_at (unhide HR2) 1
      obtain ⟨q0, q1⟩ := two_at (unhide HR2)
      have HP := hide (put2 (unhide HR2) (.int .i64 u) (.int .i64 v))
      have HB3 := hide (below_put2 (unhide HBz) (b := w.heap.size + 1) (by omega) (.int .i64 u) (.int .i64 v))
      go_wp2_with fail
      obtain ⟨s0, s1⟩ := two_at (unhide HP)
      exact bodyPost_ret (v := .agg #[.int .i64 u, .int .i64 v]) (by simp [results, Try.results96, go_sem, s0, s1]) rfl ⟨rfl, unhide HB3⟩
end Go.Proofs.Ytbgfiejaehpffaa
