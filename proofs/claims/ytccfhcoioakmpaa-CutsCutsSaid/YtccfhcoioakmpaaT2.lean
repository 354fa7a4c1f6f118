/-
  isEndless, hasEnd, isPlate of the program.
-/
import Derived.Test.YtccfhcoioakmpaaT1
import Derived.Test.YtccfhcoioakmpaaS1
namespace Go.Proofs.Ytccfhcoioakmpaa
open Go.RowKit

theorem mul_bd {a b M N : Int} (ha : -M ≤ a ∧ a ≤ M) (hb : -N ≤ b ∧ b ≤ N) : -(M * N) ≤ a * b ∧ a * b ≤ M * N := by
  have hM : 0 ≤ M := by omega
  have hN : 0 ≤ N := by omega
  have h1 : (a * b).natAbs ≤ M.toNat * N.toNat := by rw [Int.natAbs_mul]; exact Nat.mul_le_mul (by omega) (by omega)
  have h2 : ((M.toNat * N.toNat : Nat) : Int) = M * N := by rw [Int.natCast_mul, Int.toNat_of_nonneg hM, Int.toNat_of_nonneg hN]
  omega

def okS (g : G) : Bool := decide (-4 ≤ g.1) && decide (g.1 ≤ 4) && decide (-4 ≤ g.2.1) && decide (g.2.1 ≤ 4) && !(decide (g.1 = 0) && decide (g.2.1 = 0)) && decide (-40 ≤ g.2.2) && decide (g.2.2 ≤ 40)
theorem okS_iff (g : G) : okS g = true ↔ (-4 ≤ g.1 ∧ g.1 ≤ 4) ∧ (-4 ≤ g.2.1 ∧ g.2.1 ≤ 4) ∧ ¬ (g.1 = 0 ∧ g.2.1 = 0) ∧ -40 ≤ g.2.2 ∧ g.2.2 ≤ 40 := by
  simp [okS, and_assoc]; intros; omega
def endless (u v : Int) (gs : List G) : Bool := gs.all fun g => decide (g.1 * u + g.2.1 * v ≤ 0)
def hasE (gs : List G) : Bool := gs.all fun g => !(endless g.2.1 (-g.1) gs)
def plF (gs : List G) : Bool := decide (3 ≤ gs.length) && decide (gs.length ≤ 6) && gs.all okS && hasE gs

theorem all_take_succ {p : G → Bool} (gs : List G) (k : Nat) (h : k < gs.length) : (gs.take (k + 1)).all p = ((gs.take k).all p && p (gth gs k)) := by
  rw [gtake gs k h]; simp
theorem gth_mem {gs : List G} {k : Nat} (h : k < gs.length) : gth gs k ∈ gs := by
  simp [gth, List.getD, h]
theorem all_no {p : G → Bool} {gs : List G} {k : Nat} (h : k < gs.length) (hp : p (gth gs k) = false) : gs.all p = false := by
  rw [Bool.eq_false_iff]; intro hc
  rw [List.all_eq_true] at hc
  rw [hc _ (gth_mem h)] at hp; cases hp
def OkAll (gs : List G) : Prop := ∀ g ∈ gs, okS g = true

set_option maxHeartbeats 800000 in
theorem isEndless_any (u v : Int) (A : Option Addr) (n c : Nat) (gs : List G) (w : World) (h : Gs w w.heap.size A n c gs) (hok : Hid (OkAll gs)) (hu : -4 ≤ u ∧ u ≤ 4) (hv : -4 ≤ v ∧ v ≤ 4) :
    Calls Try.prog 107 #[.int .i64 u, .int .i64 v, .slice A n c] w fun e w' => e = .returned (.bool (endless u v gs)) ∧ Below w.heap.size w w' := by
  have hm := h.most; have hcap := h.cap
  have hl := hide h.len
  have H := hide h; clear h
  go_enter Try.func107, Try.ntmps107
  go_wp2_with fail
  go_loopw [11] (fun i wr => ∃ k : Nat, k ≤ n ∧ i = .int .i64 k ∧ Hid (endless u v (gs.take k) = true) ∧ Below w.heap.size w wr) (fun i _ => n - (intOf i).toNat)
  case atStart => exact ⟨0, Nat.zero_le _, rfl, (by simp [endless, Hid]), Below.refl _ _⟩
  case round =>
    obtain ⟨k, hk, rfl, HL, hb⟩ := hrel
    have HB := hide hb; clear hb
    by_cases hlt : k < n
    · obtain ⟨b, off, rfl, hbb, e1, e2, e3⟩ := ((unhide H).below (unhide HB)).at_ k hlt
      have hkl : k < gs.length := by rw [hl.out]; exact hlt
      have hg := (okS_iff _).1 (hok.out _ (gth_mem hkl))
      have hst := hide (all_take_succ (p := fun g => decide (g.1 * u + g.2.1 * v ≤ 0)) gs k hkl)
      have hno := hide (fun hp => all_no (p := fun g => decide (g.1 * u + g.2.1 * v ≤ 0)) hkl hp)
      revert hst hno
      obtain ⟨⟨f, d, m⟩, hgk⟩ : ∃ f, gth gs k = f := ⟨_, rfl⟩
      rw [hgk] at e1 e2 e3 hg ⊢
      clear hgk
      simp only at e1 e2 e3 hg ⊢
      intro hst hno
      obtain ⟨g1, g2, _, g4, g5⟩ := hg
      have p1 := mul_bd (M := 4) (N := 4) g1 hu
      have p2 := mul_bd (M := 4) (N := 4) g2 hv
      obtain ⟨g11, g12⟩ := g1; obtain ⟨g21, g22⟩ := g2
      obtain ⟨p11, p12⟩ := p1; obtain ⟨p21, p22⟩ := p2
      have hbs := (unhide HB).size
      have HB1 := hide ((unhide HB).alloc hbs (.cells #[.int .i64 f, .int .i64 d, .int .i64 m] 57))
      by_cases hp : f * u + d * v ≤ 0
      · have HL2 := hide (show endless u v (gs.take (k + 1)) = true from by
          have := HL.out; unfold endless at this ⊢; rw [hst.out, this]; simpa using hp)
        go_wp2_with fail
        go_roundw
        case rel => exact ⟨k + 1, by omega, by go_num, HL2, unhide HB1⟩
        case measure => simp [intOf]; omega
      · have HF := hide (show endless u v gs = false from hno.out (by simpa using hp))
        go_wp2_with fail
        go_ret
        exact ⟨ret_bool HF.out.symm, unhide HB1⟩
    · obtain rfl : k = n := by omega
      have HF := hide (show endless u v gs = true from by have := HL.out; rwa [List.take_of_length_le (by rw [hl.out]; exact Nat.le_refl _)] at this)
      go_wp2_with fail
      go_ret
      exact ⟨ret_bool HF.out.symm, unhide HB⟩

theorem isEndless_is (u v : Int) (A : Option Addr) (n c : Nat) (gs : List G) (w : World) (h : Gs w w.heap.size A n c gs) (hok : Hid (OkAll gs)) (hu : -4 ≤ u ∧ u ≤ 4) (hv : -4 ≤ v ∧ v ≤ 4) (b : Bool) (hb : Hid (endless u v gs = b)) :
    Calls Try.prog 107 #[.int .i64 u, .int .i64 v, .slice A n c] w fun e w' => e = .returned (.bool b) ∧ Below w.heap.size w w' :=
  (isEndless_any u v A n c gs w h hok hu hv).mono fun _ _ ⟨he, hw⟩ => ⟨by rw [he, hb.out], hw⟩

set_option maxHeartbeats 800000 in
theorem hasEnd_any (A : Option Addr) (n c : Nat) (gs : List G) (w : World) (h : Gs w w.heap.size A n c gs) (hok : Hid (OkAll gs)) :
    Calls Try.prog 87 #[.slice A n c] w fun e w' => e = .returned (.bool (hasE gs)) ∧ Below w.heap.size w w' := by
  have hm := h.most; have hcap := h.cap
  have hl := hide h.len
  have H := hide h; clear h
  go_enter Try.func87, Try.ntmps87
  go_wp2_with fail
  go_loopw [7] (fun i wr => ∃ k : Nat, k ≤ n ∧ i = .int .i64 k ∧ Hid ((gs.take k).all (fun g => !(endless g.2.1 (-g.1) gs)) = true) ∧ Below w.heap.size w wr) (fun i _ => n - (intOf i).toNat)
  case atStart => exact ⟨0, Nat.zero_le _, rfl, (by simp [Hid]), Below.refl _ _⟩
  case round =>
    obtain ⟨k, hk, rfl, HL, hb⟩ := hrel
    have HB := hide hb; clear hb
    by_cases hlt : k < n
    · have hkl : k < gs.length := by rw [hl.out]; exact hlt
      have HA := hide (show Gs wr wr.heap.size A n c gs from ((unhide H).below (unhide HB)).more (unhide HB).size)
      obtain ⟨b, off, rfl, hbb, e1, e2, e3⟩ := (unhide HA).at_ k hlt
      have hg := (okS_iff _).1 (hok.out _ (gth_mem hkl))
      have hst := hide (all_take_succ (p := fun g => !(endless g.2.1 (-g.1) gs)) gs k hkl)
      have hno := hide (fun hp => all_no (p := fun g => !(endless g.2.1 (-g.1) gs)) hkl hp)
      revert hst hno
      obtain ⟨⟨f, d, m⟩, hgk⟩ : ∃ f, gth gs k = f := ⟨_, rfl⟩
      rw [hgk] at e1 e2 e3 hg ⊢
      clear hgk
      simp only at e1 e2 e3 hg ⊢
      intro hst hno
      obtain ⟨⟨g11, g12⟩, ⟨g21, g22⟩, _, g4, g5⟩ := hg
      have hbs := (unhide HB).size
      have HB1 := hide ((unhide HB).alloc hbs (.cells #[.int .i64 f, .int .i64 d, .int .i64 m] 57))
      have HA1 := hide (((unhide HA).below ((Below.refl _ _).alloc (Nat.le_refl _) (.cells #[.int .i64 f, .int .i64 d, .int .i64 m] 57))).more (B' := (wr.alloc (.cells #[.int .i64 f, .int .i64 d, .int .i64 m] 57)).heap.size) (by simp))
      rcases hp : endless d (-f) gs
      · have HP := hide hp; clear hp
        have HL2 := hide (show (gs.take (k + 1)).all (fun g => !(endless g.2.1 (-g.1) gs)) = true from by
          rw [hst.out, HL.out, HP.out]; rfl)
        go_wp2_with fail
        refine (isEndless_is _ _ _ _ _ _ _ (unhide HA1) hok (by omega) (by omega) _ HP).mono ?_
        rintro e w1 ⟨rfl, b1⟩
        have HB2 := hide ((unhide HB1).trans (b1.mono (unhide HB1).size))
        clear b1
        go_wp2_with fail
        go_roundw
        case rel => exact ⟨k + 1, by omega, by go_num, HL2, unhide HB2⟩
        case measure => simp [intOf]; omega
      · have HP := hide hp; clear hp
        have HF := hide (show hasE gs = false from hno.out (by simp [HP.out]))
        go_wp2_with fail
        refine (isEndless_is _ _ _ _ _ _ _ (unhide HA1) hok (by omega) (by omega) _ HP).mono ?_
        rintro e w1 ⟨rfl, b1⟩
        have HB2 := hide ((unhide HB1).trans (b1.mono (unhide HB1).size))
        clear b1
        go_wp2_with fail
        go_ret
        exact ⟨ret_bool HF.out.symm, unhide HB2⟩
    · obtain rfl : k = n := by omega
      have HF := hide (show hasE gs = true from by have := HL.out; rwa [List.take_of_length_le (by rw [hl.out]; exact Nat.le_refl _)] at this)
      go_wp2_with fail
      go_ret
      exact ⟨ret_bool HF.out.symm, unhide HB⟩
theorem hasEnd_is (A : Option Addr) (n c : Nat) (gs : List G) (w : World) (h : Gs w w.heap.size A n c gs) (hok : Hid (OkAll gs)) (b : Bool) (hb : Hid (hasE gs = b)) :
    Calls Try.prog 87 #[.slice A n c] w fun e w' => e = .returned (.bool b) ∧ Below w.heap.size w w' :=
  (hasEnd_any A n c gs w h hok).mono fun _ _ ⟨he, hw⟩ => ⟨by rw [he, hb.out], hw⟩
end Go.Proofs.Ytccfhcoioakmpaa
