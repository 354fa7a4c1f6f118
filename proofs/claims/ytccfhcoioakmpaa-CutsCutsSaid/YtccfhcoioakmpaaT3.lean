/-
  isPlate of the program.
-/
import Derived.Test.YtccfhcoioakmpaaT2
namespace Go.Proofs.Ytccfhcoioakmpaa
open Go.RowKit

theorem heap_new_ (w : World) (o : Obj) : (w.alloc o).heap[w.heap.size]? = some o := by
  show (w.heap.push o)[w.heap.size]? = some o
  simp
theorem cell_row_ {w : World} {g k : Nat} {cs : Array Value} {t : TypeId} (h : w.heap[g]? = some (.cells cs t (0, 0))) : w.cell? ⟨g, k, none⟩ = cs[k]? := by simp [World.cell?, h]
theorem ints_blk {w : World} {g B n c : Nat} {cs : Array Value} {zs : List Int} (h : w.heap[g]? = some (.cells cs 3 (0, 0))) (hc : cs.toList = zs.map (Value.int .i64)) (hB : g < B) (hn : zs.length = n) (hnc : n ≤ c) (hm : c ≤ 9223372036854775807) : Ints w B (some ⟨g, 0, none⟩) n c zs :=
  ⟨hn, hnc, hm, (fun e => by cases e), fun k hk => ⟨g, 0, rfl, hB, by
    have hkl : k < zs.length := by omega
    rw [Nat.zero_add, cell_row_ h, ← Array.getElem?_toList, hc]
    simp [nth, List.getD, hkl]⟩⟩
/-- A new block of numbers. -/
theorem ints_new (w : World) (zs : List Int) (h : zs.length ≤ 1000) : Ints (w.alloc (.cells (zs.map (Value.int .i64)).toArray 3)) (w.heap.size + 1) (some ⟨w.heap.size, 0, none⟩) zs.length zs.length zs :=
  ints_blk (heap_new_ _ _) (by simp) (by omega) rfl (Nat.le_refl _) (by omega)

theorem ints_new2 (w : World) (s : Nat) (hs : w.heap.size = s) (f d : Int) : Ints (w.alloc (.cells #[.int .i64 f, .int .i64 d] 3)) (s + 1) (some ⟨s, 0, none⟩) 2 2 [f, d] := by
  subst hs; exact ints_new w [f, d] (by simp)
theorem ints_new1 (w : World) (s : Nat) (hs : w.heap.size = s) (f : Int) : Ints (w.alloc (.cells #[.int .i64 f] 3)) (s + 1) (some ⟨s, 0, none⟩) 1 1 [f] := by
  subst hs; exact ints_new w [f] (by simp)

theorem allWithin_is (A : Option Addr) (n c : Nat) (xs : List Int) (lo hi : Int) (w : World) (B : Nat) (h : Ints w B A n c xs) (b : Bool) (hb : Hid (allIn lo hi xs = b)) :
    Calls Try.prog 72 #[.int .i64 lo, .int .i64 hi, .slice A n c] w fun e w' => e = .returned (.bool b) ∧ w = w' :=
  (allWithin_any A n c xs lo hi w B h).mono fun _ _ ⟨he, hw⟩ => ⟨by rw [he, hb.out], hw⟩

def ok1 (g : G) : Bool := allIn (-4) 4 [g.1, g.2.1]
def ok2 (g : G) : Bool := decide (g.1 = 0) && decide (g.2.1 = 0)
def ok3 (g : G) : Bool := allIn (-40) 40 [g.2.2]
theorem okS_parts (g : G) : okS g = (ok1 g && !(ok2 g) && ok3 g) := by
  rw [Bool.eq_iff_iff, okS_iff]
  simp [ok1, ok2, ok3, allIn]
  omega
theorem plF_no {gs : List G} (h : gs.all okS = false) : plF gs = false := by simp [plF, h]
theorem plF_short {gs : List G} (h : gs.length < 3) : plF gs = false := by
  simp [plF]; omega
theorem plF_long {gs : List G} (h : 6 < gs.length) : plF gs = false := by
  simp [plF]; omega

set_option maxHeartbeats 1600000 in
theorem isPlate_any (A : Option Addr) (n c : Nat) (gs : List G) (w : World) (h : Gs w w.heap.size A n c gs) :
    Calls Try.prog 63 #[.slice A n c] w fun e w' => e = .returned (.bool (plF gs)) ∧ Below w.heap.size w w' := by
  have hm := h.most; have hcap := h.cap
  have hl := hide h.len
  have H := hide h; clear h
  have HR := hide (Below.refl w.heap.size w)
  by_cases h3 : n < 3
  · have HF := hide (plF_short (gs := gs) (by rw [hl.out]; exact h3))
    have hd : decide (n < 3) = true := by simpa using h3
    have hd2 : decide ((n : Int) < 3) = true := by simp; omega
    go_enter Try.func63, Try.ntmps63
    go_wp2_with fail
    go_ret
    exact ⟨ret_bool HF.out.symm, unhide HR⟩
  by_cases h6 : 6 < n
  · have HF := hide (plF_long (gs := gs) (by rw [hl.out]; exact h6))
    have hd : decide (n < 3) = false := by simpa using h3
    have hd2 : decide ((n : Int) < 3) = false := by simp; omega
    have hd3 : decide (6 < n) = true := by simpa using h6
    have hd4 : decide (6 < (n : Int)) = true := by simp; omega
    go_enter Try.func63, Try.ntmps63
    go_wp2_with fail
    go_ret
    exact ⟨ret_bool HF.out.symm, unhide HR⟩
  have hd : decide (n < 3) = false := by simpa using h3
  have hd2 : decide ((n : Int) < 3) = false := by simp; omega
  have hd3 : decide (6 < n) = false := by simpa using h6
  have hd4 : decide (6 < (n : Int)) = false := by simp; omega
  go_enter Try.func63, Try.ntmps63
  go_wp2_with fail
  clear hd hd2 hd3 hd4
  go_loopw [15] (fun i wr => ∃ k : Nat, k ≤ n ∧ i = .int .i64 k ∧ Hid ((gs.take k).all okS = true) ∧ Below w.heap.size w wr) (fun i _ => n - (intOf i).toNat)
  case atStart => exact ⟨0, Nat.zero_le _, rfl, (by simp [Hid]), Below.refl _ _⟩
  case round =>
    obtain ⟨k, hk, rfl, HL, hb⟩ := hrel
    have HB := hide hb; clear hb
    by_cases hlt : k < n
    · have hkl : k < gs.length := by rw [hl.out]; exact hlt
      obtain ⟨b, off, rfl, hbb, e1, e2, e3⟩ := ((unhide H).below (unhide HB)).at_ k hlt
      have hst := hide (all_take_succ (p := okS) gs k hkl)
      have hno := hide (fun hp => plF_no (all_no (p := okS) hkl hp))
      have hpa := hide (okS_parts (gth gs k))
      revert hst hno hpa
      obtain ⟨⟨f, d, m⟩, hgk⟩ : ∃ f, gth gs k = f := ⟨_, rfl⟩
      rw [hgk] at e1 e2 e3 ⊢
      clear hgk
      simp only at e1 e2 e3 ⊢
      intro hst hno hpa
      have hbs := (unhide HB).size
      have HB1 := hide (((unhide HB).alloc hbs (.cells #[.int .i64 f, .int .i64 d, .int .i64 m] 57)).alloc (by simp; omega) (.cells #[.int .i64 f, .int .i64 d] 3))
      have HI1 := hide (ints_new2 (wr.alloc (.cells #[.int .i64 f, .int .i64 d, .int .i64 m] 57)) (wr.heap.size + 1) (by simp) f d)
      rcases h1 : ok1 (f, d, m)
      · have H1 := hide h1; clear h1
        have HF := hide (hno.out (by rw [hpa.out, H1.out]; rfl))
        have hq := hide (show allIn (-4) 4 [f, d] = false from H1.out)
        go_wp2_with fail
        refine (allWithin_is _ _ _ _ _ _ _ _ (unhide HI1) _ hq).mono ?_
        rintro e w1 ⟨rfl, rfl⟩
        go_wp2_with fail
        go_ret
        exact ⟨ret_bool HF.out.symm, unhide HB1⟩
      have H1 := hide h1; clear h1
      have hq := hide (show allIn (-4) 4 [f, d] = true from H1.out)
      by_cases h2 : f = 0 ∧ d = 0
      · obtain ⟨rfl, rfl⟩ := h2
        have HF := hide (hno.out (by rw [hpa.out, H1.out]; rfl))
        go_wp2_with fail
        refine (allWithin_is _ _ _ _ _ _ _ _ (unhide HI1) _ hq).mono ?_
        rintro e w1 ⟨rfl, rfl⟩
        go_wp2_with fail
        go_ret
        exact ⟨ret_bool HF.out.symm, unhide HB1⟩
      have H2 := hide (show ok2 (f, d, m) = false from by simp [ok2]; omega)
      have HI2 := hide (ints_new1 ((wr.alloc (.cells #[.int .i64 f, .int .i64 d, .int .i64 m] 57)).alloc (.cells #[.int .i64 f, .int .i64 d] 3)) (wr.heap.size + 1 + 1) (by simp) m)
      have HB2 := hide ((unhide HB1).alloc (by simp; omega) (.cells #[.int .i64 m] 3))
      by_cases hf0 : f = 0
      · subst hf0
        have hd0 : (d == 0) = false := by simp; omega
        have hd1 : ¬ d = 0 := by omega
        rcases h3 : ok3 (0, d, m)
        · have H3 := hide h3; clear h3
          have HF := hide (hno.out (by rw [hpa.out, H1.out, H2.out, H3.out]; rfl))
          have hq2 := hide (show allIn (-40) 40 [m] = false from H3.out)
          clear h2
          go_wp2_with fail
          refine (allWithin_is _ _ _ _ _ _ _ _ (unhide HI1) _ hq).mono ?_
          rintro e w1 ⟨rfl, rfl⟩
          go_wp2_with fail
          refine (allWithin_is _ _ _ _ _ _ _ _ (unhide HI2) _ hq2).mono ?_
          rintro e w1 ⟨rfl, rfl⟩
          go_wp2_with fail
          go_ret
          exact ⟨ret_bool HF.out.symm, unhide HB2⟩
        · have H3 := hide h3; clear h3
          have HL2 := hide (show (gs.take (k + 1)).all okS = true from by rw [hst.out, HL.out, hpa.out, H1.out, H2.out, H3.out]; rfl)
          have hq2 := hide (show allIn (-40) 40 [m] = true from H3.out)
          clear h2
          go_wp2_with fail
          refine (allWithin_is _ _ _ _ _ _ _ _ (unhide HI1) _ hq).mono ?_
          rintro e w1 ⟨rfl, rfl⟩
          go_wp2_with fail
          refine (allWithin_is _ _ _ _ _ _ _ _ (unhide HI2) _ hq2).mono ?_
          rintro e w1 ⟨rfl, rfl⟩
          go_wp2_with fail
          go_roundw
          case rel => exact ⟨k + 1, by omega, by go_num, HL2, unhide HB2⟩
          case measure => simp [intOf]; omega
      · have hf1 : (f == 0) = false := by simp [hf0]
        rcases h3 : ok3 (f, d, m)
        · have H3 := hide h3; clear h3
          have HF := hide (hno.out (by rw [hpa.out, H1.out, H2.out, H3.out]; rfl))
          have hq2 := hide (show allIn (-40) 40 [m] = false from H3.out)
          clear h2
          go_wp2_with fail
          refine (allWithin_is _ _ _ _ _ _ _ _ (unhide HI1) _ hq).mono ?_
          rintro e w1 ⟨rfl, rfl⟩
          go_wp2_with fail
          refine (allWithin_is _ _ _ _ _ _ _ _ (unhide HI2) _ hq2).mono ?_
          rintro e w1 ⟨rfl, rfl⟩
          go_wp2_with fail
          go_ret
          exact ⟨ret_bool HF.out.symm, unhide HB2⟩
        · have H3 := hide h3; clear h3
          have HL2 := hide (show (gs.take (k + 1)).all okS = true from by rw [hst.out, HL.out, hpa.out, H1.out, H2.out, H3.out]; rfl)
          have hq2 := hide (show allIn (-40) 40 [m] = true from H3.out)
          clear h2
          go_wp2_with fail
          refine (allWithin_is _ _ _ _ _ _ _ _ (unhide HI1) _ hq).mono ?_
          rintro e w1 ⟨rfl, rfl⟩
          go_wp2_with fail
          refine (allWithin_is _ _ _ _ _ _ _ _ (unhide HI2) _ hq2).mono ?_
          rintro e w1 ⟨rfl, rfl⟩
          go_wp2_with fail
          go_roundw
          case rel => exact ⟨k + 1, by omega, by go_num, HL2, unhide HB2⟩
          case measure => simp [intOf]; omega
    · obtain rfl : k = n := by omega
      have HA := hide (show gs.all okS = true from by have := HL.out; rwa [List.take_of_length_le (by rw [hl.out]; exact Nat.le_refl _)] at this)
      have HO := hide (show OkAll gs from List.all_eq_true.1 HA.out)
      have HF := hide (show plF gs = hasE gs from by
        have h1 : decide (3 ≤ gs.length) = true := by rw [hl.out]; simp; omega
        have h2 : decide (gs.length ≤ 6) = true := by rw [hl.out]; simp; omega
        rw [plF, h1, h2, HA.out]; rfl)
      have HG := hide (show Gs wr wr.heap.size A k c gs from ((unhide H).below (unhide HB)).more (unhide HB).size)
      go_wp2_with fail
      refine (hasEnd_any _ _ _ _ _ (unhide HG) HO).mono ?_
      rintro e w1 ⟨rfl, b1⟩
      have HB2 := hide ((unhide HB).trans (b1.mono (unhide HB).size))
      clear b1
      go_wp2_with fail
      go_ret
      exact ⟨ret_bool HF.out.symm, unhide HB2⟩
theorem isPlate_is (A : Option Addr) (n c : Nat) (gs : List G) (w : World) (h : Gs w w.heap.size A n c gs) (b : Bool) (hb : Hid (plF gs = b)) :
    Calls Try.prog 63 #[.slice A n c] w fun e w' => e = .returned (.bool b) ∧ Below w.heap.size w w' :=
  (isPlate_any A n c gs w h).mono fun _ _ ⟨he, hw⟩ => ⟨by rw [he, hb.out], hw⟩
end Go.Proofs.Ytccfhcoioakmpaa
