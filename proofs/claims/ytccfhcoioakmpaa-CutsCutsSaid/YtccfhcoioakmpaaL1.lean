/-
  CutsMoves: the walk.
-/
import Derived.Test.YtccfhcoioakmpaaM7
import Derived.Test.YtccfhcoioakmpaaAw
import Derived.Deep.DeepCutAuto
namespace Go.Proofs.Ytccfhcoioakmpaa
open Go.RowKit

theorem plF_take {gs : List G} : plF (gs.take 9) = plF gs := by
  by_cases h : gs.length ≤ 9
  · rw [List.take_of_length_le h]
  · rw [plF_long (gs := gs.take 9) (by rw [List.length_take]; omega), plF_long (gs := gs) (by omega)]
theorem take_plate {gs : List G} (h : plF gs = true) : gs.take 9 = gs := List.take_of_length_le (by have := plF_len h; omega)

/-- What Apart answers: a side, and a code. -/
def apR (gs : List G) (x y : Int) : G × Int := if plF gs && far x y then (match firstOut x y gs with | some g => (g, 0) | none => ((0, 0, 0), 4)) else ((0, 0, 0), 2)
theorem Apart_is (A : Option Addr) (n c : Nat) (gs : List G) (x y : Int) (w : World) (h : Gs w w.heap.size A n c gs) {a b m r : Int} (hr : Hid (apR gs x y = ((a, b, m), r))) :
    Calls Try.prog 43 #[.slice A n c, .agg #[.int .i64 x, .int .i64 y]] w fun e w' => e = .returned (.tuple #[.agg #[.int .i64 a, .int .i64 b, .int .i64 m], .int .i64 r]) ∧ Below w.heap.size w w' := by
  refine (Apart_any A n c gs x y w h).mono fun e w' ⟨he, hb⟩ => ⟨?_, hb⟩
  rw [he]
  have hh := hr.out
  unfold apR at hh
  by_cases hc : (plF gs && far x y) = true
  · rw [if_pos hc] at hh ⊢
    unfold apartV
    cases hf : firstOut x y gs with
    | none => rw [hf] at hh; simp only [Prod.mk.injEq] at hh ⊢; obtain ⟨⟨rfl, rfl, rfl⟩, rfl⟩ := hh; rfl
    | some g => rw [hf] at hh; simp only [Prod.mk.injEq] at hh ⊢; obtain ⟨e, rfl⟩ := hh; subst e; rfl
  · rw [if_neg hc] at hh ⊢
    simp only [Prod.mk.injEq] at hh
    obtain ⟨⟨rfl, rfl, rfl⟩, rfl⟩ := hh; rfl
/-- What Move answers. -/
def mvR (gs : List G) (x y : Int) : Int × List G := if plF gs && step5 x y then (if gs.all (movOk x y) then (0, gs.map (moveG x y)) else (4, [])) else (2, [])
theorem Move_is (A : Option Addr) (n c : Nat) (gs : List G) (x y : Int) (w : World) (h : Gs w w.heap.size A n c gs) {r : Int} {L : List G} (hr : Hid (mvR gs x y = (r, L))) :
    Calls Try.prog 44 #[.slice A n c, .int .i64 x, .int .i64 y] w fun e w' => ∃ v, e = .returned (.tuple #[v, .int .i64 r]) ∧ OwnedG w' w.heap.size 57 v L ∧ Below w.heap.size w w' := by
  have hh := hr.out
  unfold mvR at hh
  by_cases hp : plF gs = true
  · by_cases hs : step5 x y = true
    · rw [hp, hs, Bool.and_self, if_pos rfl] at hh
      refine Move_yes A n c gs x y w h (hide hp) (hide hs) r L (hide fun hm => ?_) (hide fun hm => ?_)
      · rw [if_pos hm] at hh; cases hh; exact ⟨rfl, rfl⟩
      · rw [if_neg (by simp [hm])] at hh; cases hh; exact ⟨rfl, rfl⟩
    · rw [if_neg (by simp [hs])] at hh; cases hh
      exact (Move_bad A n c gs x y w h (hide (.inr (by simpa using hs)))).mono fun e w' ⟨he, hb⟩ => ⟨_, he, World.ownsRow_nil _ _ _ _, hb⟩
  · rw [if_neg (by simp [hp])] at hh; cases hh
    exact (Move_bad A n c gs x y w h (hide (.inl (by simpa using hp)))).mono fun e w' ⟨he, hb⟩ => ⟨_, he, World.ownsRow_nil _ _ _ _, hb⟩

set_option maxRecDepth 100000 in
set_option maxHeartbeats 6400000 in
theorem Moves_any (A : Option Addr) (n c : Nat) (gs : List G) (x y u v : Int) (w : World) (h : Gs w w.heap.size A n c gs) :
    Calls Try.prog 8 #[.slice A n c, .agg #[.int .i64 x, .int .i64 y], .int .i64 u, .int .i64 v] w fun e w' => e = .returned (.bool true) ∧ Below w.heap.size w w' := by
  have H := hide h; clear h
  obtain ⟨⟨⟨a, b, m⟩, r⟩, hap⟩ : ∃ q, apR (gs.take 9) x y = q := ⟨_, rfl⟩
  have HAP := hide hap; clear hap
  obtain ⟨W, hW⟩ : ∃ W, W = w.alloc (.cells #[.int .i64 x, .int .i64 y] 43) := ⟨_, rfl⟩
  have HB0 := hide (show Below w.heap.size w W.drew from by rw [hW]; exact ((Below.refl _ w).alloc (Nat.le_refl _) _).drew)
  have HX0 := hide (show W.drew.heap[w.heap.size]? = some (.cells #[.int .i64 x, .int .i64 y] 43) from by rw [hW]; exact heap_new_ w _)
  have HL0 := hide (show w.heap.size < W.drew.heap.size from by show w.heap.size < W.heap.size; rw [hW]; simp)
  have HG := hide (show Gs W.drew W.drew.heap.size A n c gs from ((unhide H).below (unhide HB0)).more (unhide HB0).size)
  have HZ := hide (show (W.alloc (.cells #[.int .i64 0, .int .i64 0, .int .i64 0] 57)).drew.heap[W.heap.size]? = some (.cells #[.int .i64 0, .int .i64 0, .int .i64 0] 57) from heap_new_ W (.cells #[.int .i64 0, .int .i64 0, .int .i64 0] 57))
  have HBz := hide ((Below.refl W.drew.heap.size W.drew).trans (show Below W.heap.size W.drew (W.alloc (.cells #[.int .i64 0, .int .i64 0, .int .i64 0] 57)).drew from ((Below.refl W.heap.size W.drew).alloc (Nat.le_refl _) (.cells #[.int .i64 0, .int .i64 0, .int .i64 0] 57))))
  have HGz := hide (show Gs (W.alloc (.cells #[.int .i64 0, .int .i64 0, .int .i64 0] 57)).drew (W.alloc (.cells #[.int .i64 0, .int .i64 0, .int .i64 0] 57)).drew.heap.size A n c gs from ((unhide HG).below (unhide HBz)).more (unhide HBz).size)
  have HXz := hide (((unhide HBz).block _ (unhide HL0)).trans (unhide HX0))
  go_enter Try.func8, Try.ntmps8
  go_wp2_with fail
  rw [← hW]
  clear hW
  go_upto_region 1 with fail
  go_cut [9, 10] (fun s9 s10 wc => ∃ g : Nat, s9 = .pointer (some ⟨g, 0, none⟩) ∧ s10 = .int .i64 r ∧ Hid (wc.heap[g]? = some (.cells #[.int .i64 a, .int .i64 b, .int .i64 m] 57 (0, 0)) ∧ Below W.drew.heap.size W.drew wc))
  case first =>
    have x0 : W.cell? ⟨w.heap.size, 0, none⟩ = some (.int .i64 x) := (two_at (unhide HX0)).1
    have x1 : W.cell? ⟨w.heap.size, 1, none⟩ = some (.int .i64 y) := (two_at (unhide HX0)).2
    have xz0 : (W.alloc (.cells #[.int .i64 0, .int .i64 0, .int .i64 0] 57)).cell? ⟨w.heap.size, 0, none⟩ = some (.int .i64 x) := (two_at (unhide HXz)).1
    have xz1 : (W.alloc (.cells #[.int .i64 0, .int .i64 0, .int .i64 0] 57)).cell? ⟨w.heap.size, 1, none⟩ = some (.int .i64 y) := (two_at (unhide HXz)).2
    go_region_law (first
      | (go_simp; go_at_call 18; refine (Of_any _ _ _ gs W.drew (unhide HG)).mono ?_
         rintro e w1 ⟨A1, n1, c1, rfl, g1, b1⟩
         have HX1 := hide ((b1.block _ (unhide HL0)).trans (unhide HX0))
         obtain ⟨y0, y1⟩ := two_at (unhide HX1)
         have HX1z := hide ((Below.heap_alloc w1 (.cells #[.int .i64 0, .int .i64 0, .int .i64 0] 57) _ (Nat.lt_of_lt_of_le (unhide HL0) b1.size)).trans (unhide HX1))
         obtain ⟨yz0, yz1⟩ := two_at (unhide HX1z)
         have HG1 := hide g1; have HB1 := hide b1
         have HL1 := hide (show W.drew.heap.size ≤ w1.heap.size from b1.size)
         have HG1z := hide (show Gs (w1.alloc (.cells #[.int .i64 0, .int .i64 0, .int .i64 0] 57)) (w1.alloc (.cells #[.int .i64 0, .int .i64 0, .int .i64 0] 57)).heap.size A1 n1 c1 (gs.take 9) from (g1.below ((Below.refl _ _).alloc (Nat.le_refl _) _)).more (by simp))
         have HZ1z := hide (heap_new_ w1 (.cells #[.int .i64 0, .int .i64 0, .int .i64 0] 57))
         have HB1z := hide (b1.alloc b1.size (.cells #[.int .i64 0, .int .i64 0, .int .i64 0] 57))
         clear g1 b1)
      | (go_simp; go_at_call 18; refine (Of_any _ _ _ gs (W.alloc (.cells #[.int .i64 0, .int .i64 0, .int .i64 0] 57)).drew (unhide HGz)).mono ?_
         rintro e w1 ⟨A1, n1, c1, rfl, g1, b1⟩
         have HX1 := hide ((b1.block _ (Array.getElem?_eq_some_iff.1 (unhide HXz)).1).trans (unhide HXz))
         obtain ⟨y0, y1⟩ := two_at (unhide HX1)
         have HZ1 := hide ((b1.block _ (show W.heap.size < (W.alloc (.cells #[.int .i64 0, .int .i64 0, .int .i64 0] 57)).heap.size from by simp only [World.size_alloc]; exact Nat.lt_succ_self _)).trans (unhide HZ))
         have HB1 := hide ((unhide HBz).trans (b1.mono (unhide HBz).size))
         have HG1 := hide g1
         have HL1 := hide (show W.drew.heap.size ≤ W.heap.size from Nat.le_refl _)
         clear g1 b1)
      | (go_simp; go_at_call 43; refine (Apart_is _ _ _ _ x y w1 (unhide HG1) HAP).mono ?_
         rintro e w2 ⟨rfl, b2⟩
         have HZ2 := hide ((b2.block _ (Array.getElem?_eq_some_iff.1 (unhide HZ1)).1).trans (unhide HZ1))
         obtain ⟨z0, z1, z2⟩ := three_at (unhide HZ2)
         have f0 := free_at (unhide HZ2) 0; have f1 := free_at (unhide HZ2) 1; have f2 := free_at (unhide HZ2) 2
         have HB2 := hide ((unhide HB1).trans (b2.mono (unhide HB1).size))
         have HX2 := hide ((b2.block _ (Array.getElem?_eq_some_iff.1 (unhide HX1)).1).trans (unhide HX1))
         clear b2)
      | (go_simp; go_at_call 43; refine (Apart_is _ _ _ _ x y (w1.alloc (.cells #[.int .i64 0, .int .i64 0, .int .i64 0] 57)) (unhide HG1z) HAP).mono ?_
         rintro e w2 ⟨rfl, b2⟩
         have HZ2 := hide ((b2.block _ (Array.getElem?_eq_some_iff.1 (unhide HZ1z)).1).trans (unhide HZ1z))
         obtain ⟨z0, z1, z2⟩ := three_at (unhide HZ2)
         have f0 := free_at (unhide HZ2) 0; have f1 := free_at (unhide HZ2) 1; have f2 := free_at (unhide HZ2) 2
         have HB2 := hide ((unhide HB1z).trans (b2.mono (unhide HB1z).size))
         have HX2 := hide ((b2.block _ (Array.getElem?_eq_some_iff.1 (unhide HX1z)).1).trans (unhide HX1z))
         clear b2)
      | (go_simp; go_at_call 43; refine (Apart_is _ _ _ _ x y w1 (unhide HG1) HAP).mono ?_
         rintro e w2 ⟨rfl, b2⟩
         have HB2 := hide ((unhide HB1).trans (b2.mono (unhide HB1).size))
         have HX2 := hide ((b2.block _ (Array.getElem?_eq_some_iff.1 (unhide HX1)).1).trans (unhide HX1))
         clear b2))
    all_goals (go_wp2_with fail; go_meet; first | exact ⟨_, rfl, rfl, hide (And.intro (put3 (unhide HZ2) _ _ _) (below_put3 (unhide HB2) (unhide HL1) _ _ _))⟩ | exact ⟨_, rfl, rfl, hide (And.intro (heap_new_ w2 _) ((unhide HB2).alloc (unhide HB2).size _))⟩)
  case rest =>
    obtain ⟨g, rfl, rfl, hx⟩ := hcut
    have HS := hide (unhide hx).1; have HBx := hide (unhide hx).2
    have HXx := hide (((unhide HBx).block _ (unhide HL0)).trans (unhide HX0))
    have HBw := hide ((unhide HB0).trans ((unhide HBx).mono (unhide HB0).size))
    clear hx HZ HGz HXz HBz HB0 HX0 HL0 HG HBx
    have HG := hide (show Gs wc wc.heap.size A n c gs from ((unhide H).below (unhide HBw)).more (unhide HBw).size)
    obtain ⟨r2, L2, hmv⟩ : ∃ r2 L2, mvR (gs.take 9) u v = (r2, L2) := ⟨_, _, rfl⟩
    have HMV := hide hmv; clear hmv
    rcases hp : plF gs
    · have HP := hide hp
      have HPT := hide (show plF (gs.take 9) = false from by rw [plF_take]; exact hp)
      have HPR := hide (show plR gs = false from by rw [plR_eq]; exact hp)
      have e1 := HAP.out; have e2 := HMV.out
      rw [apR, HPT.out, Bool.false_and, if_neg (by decide)] at e1
      rw [mvR, HPT.out, Bool.false_and, if_neg (by decide)] at e2
      simp only [Prod.mk.injEq] at e1 e2
      obtain ⟨⟨rfl, rfl, rfl⟩, rfl⟩ := e1
      obtain ⟨rfl, rfl⟩ := e2
      clear hp
      have eqz := eql57 0 0 0 0 0 0
      go_wp2_with fail
      refine (Of_any _ _ _ gs wc (unhide HG)).mono ?_
      rintro e w1 ⟨A1, n1, c1, rfl, g1, b1⟩
      have HG1 := hide g1; have HB1 := hide b1
      clear g1 b1
      go_wp2_with fail
      refine (Move_is _ _ _ _ _ _ _ (unhide HG1) HMV).mono ?_
      rintro e w2 ⟨v2, rfl, o2, b2⟩
      obtain ⟨A2, c2, rfl, _⟩ := o2.gs
      have HB2 := hide ((unhide HB1).trans (b2.mono (unhide HB1).size))
      have HG2 := hide (show Gs w2 w2.heap.size A n c gs from ((unhide HG).below (unhide HB2)).more (unhide HB2).size)
      clear o2 b2
      go_wp2_with fail
      refine (Of_any _ _ _ gs w2 (unhide HG2)).mono ?_
      rintro e w3 ⟨A3, n3, c3, rfl, g3, b3⟩
      have HG3 := hide g3; have HB3 := hide ((unhide HB2).trans (b3.mono (unhide HB2).size))
      clear g3 b3
      go_wp2_with fail
      refine (Turn_any _ _ _ _ _ (unhide HG3) false HPT).mono ?_
      rintro e w4 ⟨v4, rfl, o4, b4⟩
      simp only [Bool.false_eq_true, if_false] at o4
      obtain ⟨A4, c4, rfl, _⟩ := o4.gs
      have HB4 := hide ((unhide HB3).trans (b4.mono (unhide HB3).size))
      have HG4 := hide (show Gs w4 w4.heap.size A n c gs from ((unhide HG).below (unhide HB4)).more (unhide HB4).size)
      clear o4 b4
      go_wp2_with fail
      refine (RPlate_is _ _ _ _ _ (unhide HG4) _ HPR).mono ?_
      rintro e w5 ⟨rfl, b5⟩
      have HB5 := hide ((unhide HB4).trans (b5.mono (unhide HB4).size))
      have HS5 := hide (((unhide HB5).block _ (Array.getElem?_eq_some_iff.1 (unhide HS)).1).trans (unhide HS))
      obtain ⟨z0, z1, z2⟩ := three_at (unhide HS5)
      clear b5
      go_wp2_with fail
      refine (awake_any _).mono ?_
      rintro e w6 ⟨rfl, b6⟩
      have HB6 := hide ((unhide HBw).trans (((unhide HB5).trans (b6.mono (unhide HB5).size)).mono (unhide HBw).size))
      clear b6
      go_wp2_with fail
      go_ret
      exact ⟨rfl, unhide HB6⟩
    · have HP := hide hp
      have HT := hide (take_plate hp)
      have HPT := hide (show plF (gs.take 9) = true from by rw [plF_take]; exact hp)
      have HPR := hide (show plR gs = true from by rw [plR_eq]; exact hp)
      have HO := hide (plF_ok hp)
      have hn6 : n ≤ 6 := by have := (plF_len hp).2; have := (unhide H).len; omega
      clear hp
      go_wp2_with fail
      refine (Of_any _ _ _ gs wc (unhide HG)).mono ?_
      rintro e w1 ⟨A1, n1, c1, rfl, g1, b1⟩
      have HG1 := hide g1; have HB1 := hide b1
      clear g1 b1
      go_wp2_with fail
      refine (Move_is _ _ _ _ _ _ _ (unhide HG1) HMV).mono ?_
      rintro e w2 ⟨v2, rfl, o2, b2⟩
      obtain ⟨A2, n2, c2, rfl, i2⟩ := o2.to
      have HI2 := hide i2
      have HB2 := hide ((unhide HB1).trans (b2.mono (unhide HB1).size))
      have HG2 := hide (show Gs w2 w2.heap.size A n c gs from ((unhide HG).below (unhide HB2)).more (unhide HB2).size)
      clear o2 b2 i2
      go_wp2_with fail
      refine (Of_any _ _ _ gs w2 (unhide HG2)).mono ?_
      rintro e w3 ⟨A3, n3, c3, rfl, g3, b3⟩
      have HI3 := hide (((unhide HI2).below b3).more b3.size)
      have HG3 := hide g3; have HB3 := hide ((unhide HB2).trans (b3.mono (unhide HB2).size))
      clear g3 b3 HI2
      go_wp2_with fail
      refine (Turn_any _ _ _ _ _ (unhide HG3) true HPT).mono ?_
      rintro e w4 ⟨v4, rfl, o4, b4⟩
      simp only [if_true, HT.out] at o4
      obtain ⟨A4, n4, c4, rfl, i4⟩ := o4.to
      have HT4 := hide i4
      have HI4 := hide (((unhide HI3).below b4).more b4.size)
      have HB4 := hide ((unhide HB3).trans (b4.mono (unhide HB3).size))
      have HG4 := hide (show Gs w4 w4.heap.size A n c gs from ((unhide HG).below (unhide HB4)).more (unhide HB4).size)
      clear o4 b4 HI3 i4
      go_wp2_with fail
      refine (RPlate_is _ _ _ _ _ (unhide HG4) _ HPR).mono ?_
      rintro e w5 ⟨rfl, b5⟩
      have HI5 := hide (((unhide HI4).below b5).more b5.size)
      have HT5 := hide (((unhide HT4).below b5).more b5.size)
      have HB5 := hide ((unhide HB4).trans (b5.mono (unhide HB4).size))
      have HG5 := hide (show Gs w5 w5.heap.size A n c gs from ((unhide HG).below (unhide HB5)).more (unhide HB5).size)
      clear b5 HI4 HT4
      have hl3 : n4 ≤ 1000 := by have h1 := (unhide H).len; have h2 := (unhide HT5).len; rw [List.length_map] at h2; omega
      go_wp2_with fail
      refine (own_any _ _ _ _ _ (unhide HT5) hl3).mono ?_
      rintro e w6 ⟨v6, rfl, o6, b6⟩
      obtain ⟨A6, n6, c6, rfl, i6⟩ := o6.to
      have HU6 := hide i6
      have HI6 := hide (((unhide HI5).below b6).more b6.size)
      have HB6 := hide ((unhide HB5).trans (b6.mono (unhide HB5).size))
      have HG6 := hide (show Gs w6 w6.heap.size A n c gs from ((unhide HG).below (unhide HB6)).more (unhide HB6).size)
      clear o6 b6 i6 HI5 HT5
      go_wp2_with fail
      refine (RTurn_any _ _ _ _ _ (unhide HG6) (by omega) (hide fun g hg => ((okS_iff g).1 (HO.out g hg)).2.1)).mono ?_
      rintro e w7 ⟨v7, rfl, o7, b7⟩
      obtain ⟨A7, n7, c7, rfl, i7⟩ := o7.to
      have HV7 := hide i7
      have HU7 := hide (((unhide HU6).below b7).more b7.size)
      have HI7 := hide (((unhide HI6).below b7).more b7.size)
      have HB7 := hide ((unhide HB6).trans (b7.mono (unhide HB6).size))
      clear o7 b7 i7 HI6 HU6
      go_wp2_with fail
      refine (equalG_any _ _ _ _ _ _ _ _ _ _ _ (unhide HU7) (unhide HV7)).mono ?_
      rintro e w8 ⟨rfl, q8, rfl⟩
      have hdec : decide (gs.map turnG = gs.map turnG) = true := by simp
      go_wp2_with fail
      clear hdec
      refine (awake_any _).mono ?_
      rintro e w9 ⟨rfl, b9⟩
      have b79 := (show Below w7.heap.size w7 (w7.drewN q8) from ⟨rfl, rfl, rfl, Nat.le_refl _, fun _ _ => rfl⟩).trans b9
      have HI9 := hide (((unhide HI7).below b79).more b79.size)
      have HB9 := hide ((unhide HB7).trans (b79.mono (unhide HB7).size))
      have HG9 := hide (show Gs w9 w9.heap.size A n c gs from ((unhide HG).below (unhide HB9)).more (unhide HB9).size)
      have HS9 := hide (((unhide HB9).block _ (Array.getElem?_eq_some_iff.1 (unhide HS)).1).trans (unhide HS))
      have HX9 := hide (((unhide HB9).block _ (Array.getElem?_eq_some_iff.1 (unhide HXx)).1).trans (unhide HXx))
      clear b9 b79 HI7 HU7 HV7
      go_upto_region 8 with fail
      go_cut [100] (fun s wd => s = .bool (!(far x y)) ∧ wd = w9)
      case first =>
        obtain ⟨x0, x1⟩ := two_at (unhide HX9)
        by_cases hq0 : x < -100
        · go_wp2_with fail
          go_meet
          exact ⟨by rw [show far x y = false from by rw [Bool.eq_false_iff]; intro hc; have := far_iff.1 hc; omega]; rfl, rfl⟩
        by_cases hq204 : 100 < x
        · go_wp2_with fail
          go_meet
          exact ⟨by rw [show far x y = false from by rw [Bool.eq_false_iff]; intro hc; have := far_iff.1 hc; omega]; rfl, rfl⟩
        by_cases hq409 : y < -100
        · go_wp2_with fail
          go_meet
          exact ⟨by rw [show far x y = false from by rw [Bool.eq_false_iff]; intro hc; have := far_iff.1 hc; omega]; rfl, rfl⟩
        by_cases hq615 : 100 < y
        · go_wp2_with fail
          go_meet
          exact ⟨by rw [show far x y = false from by rw [Bool.eq_false_iff]; intro hc; have := far_iff.1 hc; omega]; rfl, rfl⟩
        go_wp2_with fail
        go_meet
        exact ⟨by rw [far_iff.2 (by omega)]; rfl, rfl⟩
      case rest =>
        obtain ⟨rfl, rfl⟩ := hcut
        have e1 := HAP.out
        rw [apR, HPT.out, HT.out] at e1
        obtain ⟨z0, z1, z2⟩ := three_at (unhide HS9)
        rcases hf : far x y
        · rw [hf, Bool.and_false, if_neg (by decide)] at e1
          simp only [Prod.mk.injEq] at e1
          obtain ⟨⟨rfl, rfl, rfl⟩, rfl⟩ := e1
          have eqz := neq57 0 0 0 0 0 0
          have HIq := hide (unhide HI9)
          have HGq := hide (unhide HG9)
          have HBq := hide ((unhide HBw).trans ((unhide HB9).mono (unhide HBw).size))
          clear hf
          go_upto_region 14 with fail
          go_cut [141] (fun s wz => s = .bool (!(step5 u v)) ∧ wz = wc)
          case first =>
            by_cases hq0 : u < -5
            · go_wp2_with fail
              go_meet
              exact ⟨by rw [show step5 u v = false from by rw [Bool.eq_false_iff]; intro hc; have := step5_iff.1 hc; omega]; rfl, rfl⟩
            by_cases hq182 : 5 < u
            · go_wp2_with fail
              go_meet
              exact ⟨by rw [show step5 u v = false from by rw [Bool.eq_false_iff]; intro hc; have := step5_iff.1 hc; omega]; rfl, rfl⟩
            by_cases hq365 : v < -5
            · go_wp2_with fail
              go_meet
              exact ⟨by rw [show step5 u v = false from by rw [Bool.eq_false_iff]; intro hc; have := step5_iff.1 hc; omega]; rfl, rfl⟩
            by_cases hq549 : 5 < v
            · go_wp2_with fail
              go_meet
              exact ⟨by rw [show step5 u v = false from by rw [Bool.eq_false_iff]; intro hc; have := step5_iff.1 hc; omega]; rfl, rfl⟩
            go_wp2_with fail
            go_meet
            exact ⟨by rw [step5_iff.2 (by omega)]; rfl, rfl⟩
          case rest =>
            obtain ⟨rfl, rfl⟩ := hcut
            rcases hs : step5 u v
            · have e2 := HMV.out
              rw [mvR, hs, Bool.and_false, if_neg (by decide)] at e2
              simp only [Prod.mk.injEq] at e2
              obtain ⟨rfl, rfl⟩ := e2
              have hn0 := (unhide HIq).len
              simp only [List.length_nil] at hn0
              subst hn0
              clear hs HMV
              go_wp2_with fail
              go_ret
              exact ⟨rfl, unhide HBq⟩
            · have HSS := hide hs
              have e2 := HMV.out
              rw [mvR, HPT.out, hs, Bool.and_self, if_pos rfl, HT.out] at e2
              have HR1 := hide (show gs.all (movOk u v) = true → r2 = 0 ∧ L2 = gs.map (moveG u v) from fun hm => by rw [if_pos hm] at e2; cases e2; exact ⟨rfl, rfl⟩)
              have HR2 := hide (show gs.all (movOk u v) = false → r2 = 4 ∧ L2 = [] from fun hm => by rw [if_neg (by simp [hm])] at e2; cases e2; exact ⟨rfl, rfl⟩)
              have HLL := hide (show n2 ≤ 1000 from by
                rw [← (unhide HIq).len]
                rcases hm : gs.all (movOk u v)
                · rw [(HR2.out hm).2]; simp
                · rw [(HR1.out hm).2, List.length_map, (unhide H).len]; omega)
              clear hs e2 HMV
              go_wp2_with fail
              refine (RMove_any _ _ _ _ _ _ _ (unhide HGq) hn6 HO HSS r2 L2 HR1 HR2).mono ?_
              rintro e w10 ⟨v10, rfl, o10, b10⟩
              obtain ⟨A10, n10, c10, rfl, i10⟩ := o10.to
              have HJ10 := hide i10
              have HI10 := hide (((unhide HIq).below b10).more b10.size)
              have HB10 := hide ((unhide HBq).trans (b10.mono (unhide HBq).size))
              clear o10 b10 i10
              go_wp2_with fail
              refine (own_any _ _ _ _ _ (unhide HI10) (unhide HLL)).mono ?_
              rintro e w11 ⟨v11, rfl, o11, b11⟩
              obtain ⟨A11, n11, c11, rfl, i11⟩ := o11.to
              have HK11 := hide i11
              have HJ11 := hide (((unhide HJ10).below b11).more b11.size)
              have HB11 := hide ((unhide HB10).trans (b11.mono (unhide HB10).size))
              clear o11 b11 i11
              go_wp2_with fail
              refine (equalG_any _ _ _ _ _ _ _ _ _ _ _ (unhide HK11) (unhide HJ11)).mono ?_
              rintro e w12 ⟨rfl, q12, rfl⟩
              have hdec : decide (L2 = L2) = true := by simp
              have HBz := hide (show Below w.heap.size w (w11.drewN q12) from ⟨(unhide HB11).os, (unhide HB11).tape, (unhide HB11).output, (unhide HB11).size, (unhide HB11).block⟩)
              have hrr : (r2 == r2) = true := by simp
              go_wp2_with fail
              go_ret
              exact ⟨rfl, unhide HBz⟩
        · have HF := hide hf
          rw [hf, Bool.and_self, if_pos rfl] at e1
          have HA := hide (show apartV (firstOut x y gs) = .tuple #[.agg #[.int .i64 a, .int .i64 b, .int .i64 m], .int .i64 r] from by
            unfold apartV
            cases hfo : firstOut x y gs with
            | none => rw [hfo] at e1; simp only [Prod.mk.injEq] at e1 ⊢; obtain ⟨⟨rfl, rfl, rfl⟩, rfl⟩ := e1; rfl
            | some g => rw [hfo] at e1; simp only [Prod.mk.injEq] at e1 ⊢; obtain ⟨e, rfl⟩ := e1; subst e; rfl)
          obtain ⟨x0, x1⟩ := two_at (unhide HX9)
          have hxy := far_iff.1 hf
          clear hf e1
          go_wp2_with fail
          refine (RApart_any _ _ _ _ x y _ (unhide HG9) HO hxy.1 hxy.2).mono ?_
          rintro e w10 ⟨rfl, b10⟩
          rw [HA.out]
          have HZ := hide ((b10.block _ (Array.getElem?_eq_some_iff.1 (unhide HS9)).1).trans (unhide HS9))
          obtain ⟨y0, y1, y2⟩ := three_at (unhide HZ)
          obtain ⟨k0, k1, k2⟩ := three_at ((Below.heap_alloc w10 (.cells #[.int .i64 a, .int .i64 b, .int .i64 m] 56) _ (Array.getElem?_eq_some_iff.1 (unhide HZ)).1).trans (unhide HZ))
          have bq := b10.alloc b10.size (.cells #[.int .i64 a, .int .i64 b, .int .i64 m] 56)
          have HIq := hide (((unhide HI9).below bq).more bq.size)
          have HGq := hide (((unhide HG9).below bq).more bq.size)
          have HBq := hide (((unhide HBw).trans ((unhide HB9).mono (unhide HBw).size)).trans (bq.mono (by have h1 := (unhide HBw).size; have h2 := (unhide HB9).size; omega)))
          have eqz := fun w => (neq57 a b m a b m w).trans (by rw [decide_eq_true rfl])
          have err : (r == r) = true := by simp
          have enr : (r != r) = false := by simp
          clear b10 bq hxy z0 z1 z2 x0 x1
          go_upto_region 14 with fail
          go_cut [141] (fun s wz => s = .bool (!(step5 u v)) ∧ wz = w10.alloc (.cells #[.int .i64 a, .int .i64 b, .int .i64 m] 56))
          case first =>
            by_cases hq0 : u < -5
            · go_wp2_with fail
              go_meet
              exact ⟨by rw [show step5 u v = false from by rw [Bool.eq_false_iff]; intro hc; have := step5_iff.1 hc; omega]; rfl, rfl⟩
            by_cases hq182 : 5 < u
            · go_wp2_with fail
              go_meet
              exact ⟨by rw [show step5 u v = false from by rw [Bool.eq_false_iff]; intro hc; have := step5_iff.1 hc; omega]; rfl, rfl⟩
            by_cases hq365 : v < -5
            · go_wp2_with fail
              go_meet
              exact ⟨by rw [show step5 u v = false from by rw [Bool.eq_false_iff]; intro hc; have := step5_iff.1 hc; omega]; rfl, rfl⟩
            by_cases hq549 : 5 < v
            · go_wp2_with fail
              go_meet
              exact ⟨by rw [show step5 u v = false from by rw [Bool.eq_false_iff]; intro hc; have := step5_iff.1 hc; omega]; rfl, rfl⟩
            go_wp2_with fail
            go_meet
            exact ⟨by rw [step5_iff.2 (by omega)]; rfl, rfl⟩
          case rest =>
            obtain ⟨rfl, rfl⟩ := hcut
            rcases hs : step5 u v
            · have e2 := HMV.out
              rw [mvR, hs, Bool.and_false, if_neg (by decide)] at e2
              simp only [Prod.mk.injEq] at e2
              obtain ⟨rfl, rfl⟩ := e2
              have hn0 := (unhide HIq).len
              simp only [List.length_nil] at hn0
              subst hn0
              clear hs HMV
              go_wp2_with fail
              go_ret
              exact ⟨rfl, unhide HBq⟩
            · have HSS := hide hs
              have e2 := HMV.out
              rw [mvR, HPT.out, hs, Bool.and_self, if_pos rfl, HT.out] at e2
              have HR1 := hide (show gs.all (movOk u v) = true → r2 = 0 ∧ L2 = gs.map (moveG u v) from fun hm => by rw [if_pos hm] at e2; cases e2; exact ⟨rfl, rfl⟩)
              have HR2 := hide (show gs.all (movOk u v) = false → r2 = 4 ∧ L2 = [] from fun hm => by rw [if_neg (by simp [hm])] at e2; cases e2; exact ⟨rfl, rfl⟩)
              have HLL := hide (show n2 ≤ 1000 from by
                rw [← (unhide HIq).len]
                rcases hm : gs.all (movOk u v)
                · rw [(HR2.out hm).2]; simp
                · rw [(HR1.out hm).2, List.length_map, (unhide H).len]; omega)
              clear hs e2 HMV
              go_wp2_with fail
              refine (RMove_any _ _ _ _ _ _ _ (unhide HGq) hn6 HO HSS r2 L2 HR1 HR2).mono ?_
              rintro e w13 ⟨v10, rfl, o10, b10⟩
              obtain ⟨A10, n10, c10, rfl, i10⟩ := o10.to
              have HJ10 := hide i10
              have HI10 := hide (((unhide HIq).below b10).more b10.size)
              have HB10 := hide ((unhide HBq).trans (b10.mono (unhide HBq).size))
              clear o10 b10 i10
              go_wp2_with fail
              refine (own_any _ _ _ _ _ (unhide HI10) (unhide HLL)).mono ?_
              rintro e w11 ⟨v11, rfl, o11, b11⟩
              obtain ⟨A11, n11, c11, rfl, i11⟩ := o11.to
              have HK11 := hide i11
              have HJ11 := hide (((unhide HJ10).below b11).more b11.size)
              have HB11 := hide ((unhide HB10).trans (b11.mono (unhide HB10).size))
              clear o11 b11 i11
              go_wp2_with fail
              refine (equalG_any _ _ _ _ _ _ _ _ _ _ _ (unhide HK11) (unhide HJ11)).mono ?_
              rintro e w12 ⟨rfl, q12, rfl⟩
              have hdec : decide (L2 = L2) = true := by simp
              have HBz := hide (show Below w.heap.size w (w11.drewN q12) from ⟨(unhide HB11).os, (unhide HB11).tape, (unhide HB11).output, (unhide HB11).size, (unhide HB11).block⟩)
              have hrr : (r2 == r2) = true := by simp
              go_wp2_with fail
              go_ret
              exact ⟨rfl, unhide HBz⟩
end Go.Proofs.Ytccfhcoioakmpaa
