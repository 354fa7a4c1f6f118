/-
  Which whole points of a column are in a plate.
-/
import Derived.Test.YtccfhcoioakmpaaC1
namespace Go.Proofs.Ytccfhcoioakmpaa
open Go.RowKit

def colStep (x : Int) (p : Int × Int) (g : G) : Int × Int :=
  if 0 < g.2.1 then (p.1, if (g.2.2 - g.1 * x) / g.2.1 < p.2 then (g.2.2 - g.1 * x) / g.2.1 else p.2) else if g.2.1 < 0 then (if p.1 < (g.2.2 - g.1 * x) / g.2.1 then (g.2.2 - g.1 * x) / g.2.1 else p.1, p.2) else p
def colBad (x : Int) (g : G) : Bool := decide (g.2.1 = 0) && decide (g.2.2 - g.1 * x < 0)
def colN (x : Int) (gs : List G) : Int × Int := gs.foldl (colStep x) (-320, 320)
def colF (x : Int) (gs : List G) : Int × Int := if gs.any (colBad x) then (0, -1) else colN x gs

theorem ret_ii {a b c d : Int} (h : a = b) (h2 : c = d) : Ending.returned (.tuple #[.int .i64 a, .int .i64 c]) = .returned (.tuple #[.int .i64 b, .int .i64 d]) := by rw [h, h2]
theorem colN_snoc (x : Int) (gs : List G) (k : Nat) (h : k < gs.length) : colN x (gs.take (k + 1)) = colStep x (colN x (gs.take k)) (gth gs k) := by
  rw [colN, gtake gs k h, List.foldl_append]; rfl
theorem any_take_succ {p : G → Bool} (gs : List G) (k : Nat) (h : k < gs.length) : (gs.take (k + 1)).any p = ((gs.take k).any p || p (gth gs k)) := by
  rw [gtake gs k h]; simp
theorem any_yes {p : G → Bool} {gs : List G} {k : Nat} (h : k < gs.length) (hp : p (gth gs k) = true) : gs.any p = true :=
  List.any_eq_true.2 ⟨_, gth_mem h, hp⟩

set_option maxHeartbeats 1600000 in
theorem column_any (A : Option Addr) (n c : Nat) (gs : List G) (x : Int) (w : World) (h : Gs w w.heap.size A n c gs) (hok : Hid (OkAll gs)) (hx : -320 ≤ x ∧ x ≤ 320) :
    Calls Try.prog 96 #[.slice A n c, .int .i64 x] w fun e w' => e = .returned (.tuple #[.int .i64 (colF x gs).1, .int .i64 (colF x gs).2]) ∧ Below w.heap.size w w' := by
  have hm := h.most; have hcap := h.cap
  have hl := hide h.len
  have H := hide h; clear h
  go_enter Try.func96, Try.ntmps96
  go_wp2_with fail
  go_loopw [11, 4, 5] (fun i lo hi wr => ∃ (k : Nat) (l u : Int), k ≤ n ∧ i = .int .i64 k ∧ lo = .int .i64 l ∧ hi = .int .i64 u ∧ Hid (colN x (gs.take k) = (l, u)) ∧ Hid ((gs.take k).any (colBad x) = false) ∧ -320 ≤ l ∧ l ≤ 1400 ∧ -1400 ≤ u ∧ u ≤ 320 ∧ Below w.heap.size w wr) (fun i _ _ _ => n - (intOf i).toNat)
  case atStart => exact ⟨0, -320, 320, Nat.zero_le _, rfl, rfl, rfl, rfl, rfl, by omega, by omega, by omega, by omega, Below.refl _ _⟩
  case round =>
    obtain ⟨k, l, u, hk, rfl, rfl, rfl, HL, HA, hl1, hl2, hu1, hu2, hb⟩ := hrel
    have HB := hide hb; clear hb
    by_cases hlt : k < n
    · have hkl : k < gs.length := by rw [hl.out]; exact hlt
      obtain ⟨b, off, rfl, hbb, e1, e2, e3⟩ := ((unhide H).below (unhide HB)).at_ k hlt
      have hg := (okS_iff _).1 (hok.out _ (gth_mem hkl))
      have hst := hide (colN_snoc x gs k hkl)
      have hsa := hide (any_take_succ (p := colBad x) gs k hkl)
      have hys := hide (fun hp => any_yes (p := colBad x) hkl hp)
      revert hst hsa hys
      obtain ⟨⟨f, d, m⟩, hgk⟩ : ∃ f, gth gs k = f := ⟨_, rfl⟩
      rw [hgk] at e1 e2 e3 hg ⊢
      clear hgk
      simp only at e1 e2 e3 hg ⊢
      intro hst hsa hys
      obtain ⟨g1, ⟨g21, g22⟩, _, g4, g5⟩ := hg
      have p1 := mul_bd (M := 4) (N := 320) g1 hx
      obtain ⟨p11, p12⟩ := p1; obtain ⟨g11, g12⟩ := g1
      have hx1 := hx.1; have hx2 := hx.2
      have hbs := (unhide HB).size
      have HB1 := hide ((unhide HB).alloc hbs (.cells #[.int .i64 f, .int .i64 d, .int .i64 m] 57))
      by_cases hd : 0 < d
      · have q := ediv_bd (a := m - f * x) (b := d) (M := 1320) (by omega)
        obtain ⟨q1, q2⟩ := q
        have HA2 := hide (show (gs.take (k + 1)).any (colBad x) = false from by rw [hsa.out, HA.out]; simp [colBad]; omega)
        have HL2 := hide (show colN x (gs.take (k + 1)) = (l, if (m - f * x) / d < u then (m - f * x) / d else u) from by rw [hst.out, HL.out]; simp [colStep, hd])
        go_wp2_with (go_at_call 112; refine (floor_any _ _ _ (by omega) (by omega) (by omega)).mono ?_; rintro e w1 ⟨rfl, rfl⟩)
        go_roundw
        case rel => exact ⟨k + 1, _, _, by omega, by go_num, rfl, rfl, HL2, HA2, by first | omega | (split <;> omega), by first | omega | (split <;> omega), by first | omega | (split <;> omega), by first | omega | (split <;> omega), unhide HB1⟩
        case measure => simp [intOf]; omega
      · by_cases hd2 : d < 0
        · have q := ediv_bd (a := m - f * x) (b := d) (M := 1320) (by omega)
          obtain ⟨q1, q2⟩ := q
          have HA2 := hide (show (gs.take (k + 1)).any (colBad x) = false from by rw [hsa.out, HA.out]; simp [colBad]; omega)
          have HL2 := hide (show colN x (gs.take (k + 1)) = (if l < (m - f * x) / d then (m - f * x) / d else l, u) from by rw [hst.out, HL.out]; simp [colStep, hd, hd2])
          go_wp2_with (go_at_call 112; refine (floor_any _ _ _ (by omega) (by omega) (by omega)).mono ?_; rintro e w1 ⟨rfl, rfl⟩)
          go_roundw
          case rel => exact ⟨k + 1, _, _, by omega, by go_num, rfl, rfl, HL2, HA2, by first | omega | (split <;> omega), by first | omega | (split <;> omega), by first | omega | (split <;> omega), by first | omega | (split <;> omega), unhide HB1⟩
          case measure => simp [intOf]; omega
        · obtain rfl : d = 0 := by omega
          by_cases hr : m - f * x < 0
          · have HF := hide (show colF x gs = (0, -1) from by rw [colF, if_pos (hys.out (by simp [colBad, hr]))])
            go_wp2_with fail
            go_ret2
            exact ⟨ret_ii (by rw [HF.out]) (by rw [HF.out]), unhide HB1⟩
          · have HA2 := hide (show (gs.take (k + 1)).any (colBad x) = false from by rw [hsa.out, HA.out]; simp [colBad]; omega)
            have HL2 := hide (show colN x (gs.take (k + 1)) = (l, u) from by rw [hst.out, HL.out]; simp [colStep])
            go_wp2_with fail
            go_roundw
            case rel => exact ⟨k + 1, l, u, by omega, by go_num, rfl, rfl, HL2, HA2, by omega, by omega, by omega, by omega, unhide HB1⟩
            case measure => simp [intOf]; omega
    · obtain rfl : k = n := by omega
      have hT := hide (show gs.take k = gs from List.take_of_length_le (by rw [hl.out]; exact Nat.le_refl _))
      have HF := hide (show colF x gs = (l, u) from by
        have h1 := HL.out; have h2 := HA.out; rw [hT.out] at h1 h2
        rw [colF, h2, h1]; rfl)
      go_wp2_with fail
      go_ret2
      exact ⟨ret_ii (by rw [HF.out]) (by rw [HF.out]), unhide HB⟩
end Go.Proofs.Ytccfhcoioakmpaa
