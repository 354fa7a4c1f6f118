/-
  Plate of the reference.
-/
import Derived.Test.YtccfhcoioakmpaaT3
namespace Go.Proofs.Ytccfhcoioakmpaa
open Go.RowKit

def onF (sg : Int) (s : G) (ts : List G) : Bool := ts.all fun t => decide (sg * (t.2.1 * s.1 - t.1 * s.2.1) ≤ 0)
def endR (gs : List G) (s : G) : Bool := !(onF (-1) s gs) && !(onF 1 s gs)
def plR (gs : List G) : Bool := decide (3 ≤ gs.length) && decide (gs.length ≤ 6) && gs.all okS && gs.all (endR gs)
theorem plR_no {gs : List G} (h : gs.all okS = false) : plR gs = false := by simp [plR, h]
theorem plR_short {gs : List G} (h : gs.length < 3) : plR gs = false := by simp [plR]; omega
theorem plR_long {gs : List G} (h : 6 < gs.length) : plR gs = false := by simp [plR]; omega
theorem plR_end {gs : List G} {k : Nat} (hk : k < gs.length) (h : endR gs (gth gs k) = false) : plR gs = false := by
  rw [plR, all_no (p := endR gs) hk h, Bool.and_false]
theorem gth_alloc3 (w : World) (f d m : Int) (e : TypeId) : (w.alloc (.cells #[.int .i64 f, .int .i64 d, .int .i64 m] e)).cell? ⟨w.heap.size, 0, none⟩ = some (.int .i64 f) ∧ (w.alloc (.cells #[.int .i64 f, .int .i64 d, .int .i64 m] e)).cell? ⟨w.heap.size, 1, none⟩ = some (.int .i64 d) ∧ (w.alloc (.cells #[.int .i64 f, .int .i64 d, .int .i64 m] e)).cell? ⟨w.heap.size, 2, none⟩ = some (.int .i64 m) := by
  refine ⟨?_, ?_, ?_⟩ <;> (rw [cell_row_ (heap_new_ _ _)]; rfl)

set_option maxRecDepth 100000 in
set_option maxHeartbeats 8000000 in
theorem RPlate_any (A : Option Addr) (n c : Nat) (gs : List G) (w : World) (h : Gs w w.heap.size A n c gs) :
    Calls Try.prog 20 #[.slice A n c] w fun e w' => e = .returned (.bool (plR gs)) ∧ Below w.heap.size w w' := by
  have hm := h.most; have hcap := h.cap
  have hl := hide h.len
  have H := hide h; clear h
  have HR := hide (Below.refl w.heap.size w)
  by_cases h3 : n < 3
  · have HF := hide (plR_short (gs := gs) (by rw [hl.out]; exact h3))
    have hd : decide (n < 3) = true := by simpa using h3
    have hd2 : decide ((n : Int) < 3) = true := by simp; omega
    go_enter Try.func20, Try.ntmps20
    go_wp2_with fail
    go_ret
    exact ⟨ret_bool HF.out.symm, unhide HR⟩
  by_cases h6 : 6 < n
  · have HF := hide (plR_long (gs := gs) (by rw [hl.out]; exact h6))
    have hd : decide (n < 3) = false := by simpa using h3
    have hd2 : decide ((n : Int) < 3) = false := by simp; omega
    have hd3 : decide (6 < n) = true := by simpa using h6
    have hd4 : decide (6 < (n : Int)) = true := by simp; omega
    go_enter Try.func20, Try.ntmps20
    go_wp2_with fail
    go_ret
    exact ⟨ret_bool HF.out.symm, unhide HR⟩
  have hd : decide (n < 3) = false := by simpa using h3
  have hd2 : decide ((n : Int) < 3) = false := by simp; omega
  have hd3 : decide (6 < n) = false := by simpa using h6
  have hd4 : decide (6 < (n : Int)) = false := by simp; omega
  go_enter Try.func20, Try.ntmps20
  go_wp2_with fail
  clear hd hd2 hd3 hd4
  go_loopw [21] (fun i wr => ∃ k : Nat, k ≤ n ∧ i = .int .i64 k ∧ Hid ((gs.take k).all okS = true) ∧ Below w.heap.size w wr) (fun i _ => n - (intOf i).toNat)
  case atStart => exact ⟨0, Nat.zero_le _, rfl, (by simp [Hid]), Below.refl _ _⟩
  case round =>
    obtain ⟨k, hk, rfl, HL, hb⟩ := hrel
    have HB := hide hb; clear hb
    by_cases hlt : k < n
    · have hkl : k < gs.length := by rw [hl.out]; exact hlt
      obtain ⟨b, off, rfl, hbb, e1, e2, e3⟩ := ((unhide H).below (unhide HB)).at_ k hlt
      have hst := hide (all_take_succ (p := okS) gs k hkl)
      have hno := hide (fun hp => plR_no (all_no (p := okS) hkl hp))
      have hiff := hide (okS_iff (gth gs k))
      revert hst hno hiff
      obtain ⟨⟨f, d, m⟩, hgk⟩ : ∃ f, gth gs k = f := ⟨_, rfl⟩
      rw [hgk] at e1 e2 e3 ⊢
      clear hgk
      simp only at e1 e2 e3 ⊢
      intro hst hno hiff
      have hbs := (unhide HB).size
      have HB1 := hide ((unhide HB).alloc hbs (.cells #[.int .i64 f, .int .i64 d, .int .i64 m] 56))
      by_cases q1 : f < -4
      · have HF := hide (hno.out (by rw [Bool.eq_false_iff]; intro hc; have := hiff.out.1 hc; omega))
        go_wp2_with fail
        go_ret
        exact ⟨ret_bool HF.out.symm, (unhide HB).alloc hbs _⟩
      by_cases q2 : 4 < f
      · have HF := hide (hno.out (by rw [Bool.eq_false_iff]; intro hc; have := hiff.out.1 hc; omega))
        go_wp2_with fail
        go_ret
        exact ⟨ret_bool HF.out.symm, (unhide HB).alloc hbs _⟩
      by_cases q3 : d < -4
      · have HF := hide (hno.out (by rw [Bool.eq_false_iff]; intro hc; have := hiff.out.1 hc; omega))
        go_wp2_with fail
        go_ret
        exact ⟨ret_bool HF.out.symm, (unhide HB).alloc hbs _⟩
      by_cases q4 : 4 < d
      · have HF := hide (hno.out (by rw [Bool.eq_false_iff]; intro hc; have := hiff.out.1 hc; omega))
        go_wp2_with fail
        go_ret
        exact ⟨ret_bool HF.out.symm, (unhide HB).alloc hbs _⟩
      by_cases hf : f = 0
      · subst hf
        by_cases hd : d = 0
        · subst hd
          have HF := hide (hno.out (by rw [Bool.eq_false_iff]; intro hc; have := hiff.out.1 hc; omega))
          go_wp2_with fail
          go_ret
          exact ⟨ret_bool HF.out.symm, (unhide HB).alloc hbs _⟩
        have hd0 : (d == 0) = false := by simpa using hd
        by_cases q5 : m < -40
        · have HF := hide (hno.out (by rw [Bool.eq_false_iff]; intro hc; have := hiff.out.1 hc; omega))
          go_wp2_with fail
          go_ret
          exact ⟨ret_bool HF.out.symm, (unhide HB).alloc hbs _⟩
        by_cases q6 : 40 < m
        · have HF := hide (hno.out (by rw [Bool.eq_false_iff]; intro hc; have := hiff.out.1 hc; omega))
          go_wp2_with fail
          go_ret
          exact ⟨ret_bool HF.out.symm, (unhide HB).alloc hbs _⟩
        have HL2 := hide (show (gs.take (k + 1)).all okS = true from by rw [hst.out, HL.out, Bool.true_and]; exact hiff.out.2 (by omega))
        go_wp2_with fail
        go_roundw
        case rel => exact ⟨k + 1, by omega, by go_num, HL2, (unhide HB).alloc hbs _⟩
        case measure => simp [intOf]; omega
      have hf0 : (f == 0) = false := by simpa using hf
      by_cases q5 : m < -40
      · have HF := hide (hno.out (by rw [Bool.eq_false_iff]; intro hc; have := hiff.out.1 hc; omega))
        go_wp2_with fail
        go_ret
        exact ⟨ret_bool HF.out.symm, (unhide HB).alloc hbs _⟩
      by_cases q6 : 40 < m
      · have HF := hide (hno.out (by rw [Bool.eq_false_iff]; intro hc; have := hiff.out.1 hc; omega))
        go_wp2_with fail
        go_ret
        exact ⟨ret_bool HF.out.symm, (unhide HB).alloc hbs _⟩
      have HL2 := hide (show (gs.take (k + 1)).all okS = true from by rw [hst.out, HL.out, Bool.true_and]; exact hiff.out.2 (by omega))
      go_wp2_with fail
      go_roundw
      case rel => exact ⟨k + 1, by omega, by go_num, HL2, (unhide HB).alloc hbs _⟩
      case measure => simp [intOf]; omega
    · obtain rfl : k = n := by omega
      have HO := hide (show OkAll gs from List.all_eq_true.1 (by have := HL.out; rwa [List.take_of_length_le (by rw [hl.out]; exact Nat.le_refl _)] at this))
      go_wp2_with fail
      go_loopw [66] (fun i wr => ∃ k2 : Nat, k2 ≤ k ∧ i = .int .i64 k2 ∧ Hid ((gs.take k2).all (endR gs) = true) ∧ Below w.heap.size w wr) (fun i _ => k - (intOf i).toNat)
      case atStart => exact ⟨0, Nat.zero_le _, rfl, (by simp [Hid]), unhide HB⟩
      case round =>
        obtain ⟨k2, hk2, rfl, HE, hb⟩ := hrel
        have HB := hide hb; clear hb
        obtain ⟨wo, rfl⟩ : ∃ wo : World, wo = wr := ⟨_, rfl⟩
        by_cases hlt2 : k2 < k
        · have hkl : k2 < gs.length := by rw [hl.out]; exact hlt2
          obtain ⟨b, off, rfl, hbb, e1, e2, e3⟩ := ((unhide H).below (unhide HB)).at_ k2 hlt2
          have hg := (okS_iff _).1 (HO.out _ (gth_mem hkl))
          have hst := hide (all_take_succ (p := endR gs) gs k2 hkl)
          have hend := hide (fun hp => plR_end hkl hp)
          revert hst hend
          obtain ⟨⟨f, d, m⟩, hgk⟩ : ∃ f, gth gs k2 = f := ⟨_, rfl⟩
          rw [hgk] at e1 e2 e3 hg ⊢
          clear hgk
          simp only at e1 e2 e3 hg ⊢
          intro hst hend
          obtain ⟨⟨g11, g12⟩, ⟨g21, g22⟩, _, g4, g5⟩ := hg
          have HB1 := hide ((unhide HB).alloc (unhide HB).size (.cells #[.int .i64 f, .int .i64 d, .int .i64 m] 56))
          go_wp2_with fail
          go_loopw [7] (fun sg wr2 => ∃ z : Int, sg = .int .i64 z ∧ Hid (z = -1 ∨ (z = 1 ∧ onF (-1) (f, d, m) gs = false) ∨ (z = 3 ∧ endR gs (f, d, m) = true)) ∧ Below (wo.heap.size + 1) (wo.alloc (.cells #[.int .i64 f, .int .i64 d, .int .i64 m] 56)) wr2) (fun sg _ => (4 - intOf sg).toNat)
          case atStart => exact ⟨-1, rfl, .inl rfl, Below.refl _ _⟩
          case round =>
            obtain ⟨z, rfl, HZ, hb2⟩ := hrel
            have HB2 := hide hb2; clear hb2
            rcases HZ.out with rfl | ⟨rfl, h1⟩ | ⟨rfl, h1⟩
            · clear HZ
              go_wp2_with fail
              go_loopw [76, 8] (fun i on wr3 => ∃ (j : Nat) (b : Bool), j ≤ k ∧ i = .int .i64 j ∧ on = .bool b ∧ Hid (onF (-1) (f, d, m) (gs.take j) = b) ∧ Below (wo.heap.size + 1) (wo.alloc (.cells #[.int .i64 f, .int .i64 d, .int .i64 m] 56)) wr3) (fun i _ _ => k - (intOf i).toNat)
              case atStart => exact ⟨0, true, Nat.zero_le _, rfl, rfl, (by simp [onF, Hid]), unhide HB2⟩
              case round =>
                obtain ⟨j, b, hj, rfl, rfl, HON, hb3⟩ := hrel
                have HB3 := hide hb3; clear hb3
                have c1 := ((unhide HB3).cell (p := ⟨wo.heap.size, 0, none⟩) (by simp)).trans (gth_alloc3 wo f d m 56).1
                have c2 := ((unhide HB3).cell (p := ⟨wo.heap.size, 1, none⟩) (by simp)).trans (gth_alloc3 wo f d m 56).2.1
                have hbs3 := (unhide HB3).size
                simp only [World.size_alloc] at hbs3
                have HBW := hide ((unhide HB1).trans ((unhide HB3).mono (by have := (unhide HB).size; omega)))
                by_cases hjt : j < k
                · have hjl : j < gs.length := by rw [hl.out]; exact hjt
                  obtain ⟨b3, off3, hA3, hbb3, y1, y2, y3⟩ := ((unhide H).below (unhide HBW)).at_ j hjt
                  simp only [Option.some.injEq, Addr.mk.injEq, and_true] at hA3
                  obtain ⟨rfl, rfl⟩ := hA3
                  have hg3 := (okS_iff _).1 (HO.out _ (gth_mem hjl))
                  have hst3 := hide (all_take_succ (p := fun t : G => decide ((-1) * (t.2.1 * f - t.1 * d) ≤ 0)) gs j hjl)
                  revert hst3
                  obtain ⟨⟨f3, d3, m3⟩, hgk3⟩ : ∃ q, gth gs j = q := ⟨_, rfl⟩
                  rw [hgk3] at y1 y2 y3 hg3 ⊢
                  clear hgk3
                  simp only at y1 y2 y3 hg3 ⊢
                  intro hst3
                  obtain ⟨h31, h32, _, _, _⟩ := hg3
                  have p1 := mul_bd (M := 4) (N := 4) h32 ⟨g11, g12⟩
                  have p2 := mul_bd (M := 4) (N := 4) h31 ⟨g21, g22⟩
                  obtain ⟨h311, h312⟩ := h31; obtain ⟨h321, h322⟩ := h32
                  obtain ⟨p11, p12⟩ := p1; obtain ⟨p21, p22⟩ := p2
                  have c1a := (((Below.refl wr.heap.size wr).alloc (Nat.le_refl _) (.cells #[.int .i64 f3, .int .i64 d3, .int .i64 m3] 56)).cell (p := ⟨wo.heap.size, 0, none⟩) (by simp only; omega)).trans c1
                  have c2a := (((Below.refl wr.heap.size wr).alloc (Nat.le_refl _) (.cells #[.int .i64 f3, .int .i64 d3, .int .i64 m3] 56)).cell (p := ⟨wo.heap.size, 1, none⟩) (by simp only; omega)).trans c2
                  clear c1 c2
                  cases b with
                  | false =>
                    have HN := hide (show onF (-1) (f, d, m) (gs.take (j + 1)) = false from by have := HON.out; unfold onF at this ⊢; rw [hst3.out, this]; rfl)
                    go_wp2_with fail
                    go_roundw
                    case rel => exact ⟨j + 1, false, by omega, by go_num, rfl, HN, (unhide HB3).alloc (by omega) _⟩
                    case measure => simp [intOf]; omega
                  | true =>
                    by_cases hp : (-1) * (d3 * f - f3 * d) ≤ 0
                    · have HN := hide (show onF (-1) (f, d, m) (gs.take (j + 1)) = true from by have := HON.out; unfold onF at this ⊢; rw [hst3.out, this]; simp only [Bool.true_and, decide_eq_true_eq]; exact hp)
                      have hp2 : decide ((-1) * (d3 * f - f3 * d) ≤ 0) = true := by simpa using hp
                      go_wp2_with fail
                      go_roundw
                      case rel => exact ⟨j + 1, true, by omega, by go_num, (by first | rfl | (simp; omega)), HN, (unhide HB3).alloc (by omega) _⟩
                      case measure => simp [intOf]; omega
                    · have HN := hide (show onF (-1) (f, d, m) (gs.take (j + 1)) = false from by have := HON.out; unfold onF at this ⊢; rw [hst3.out, this]; simp only [Bool.true_and, decide_eq_false_iff_not]; exact hp)
                      have hp2 : decide ((-1) * (d3 * f - f3 * d) ≤ 0) = false := by simpa using hp
                      go_wp2_with fail
                      go_roundw
                      case rel => exact ⟨j + 1, false, by omega, by go_num, (by first | rfl | (simp; omega)), HN, (unhide HB3).alloc (by omega) _⟩
                      case measure => simp [intOf]; omega
                · obtain rfl : j = k := by omega
                  have HN := hide (show onF (-1) (f, d, m) gs = b from by have := HON.out; rwa [List.take_of_length_le (by rw [hl.out]; exact Nat.le_refl _)] at this)
                  cases b with
                  | true =>
                    have HF := hide (hend.out (by rw [endR, HN.out]; simp))
                    go_wp2_with fail
                    go_ret
                    exact ⟨ret_bool HF.out.symm, unhide HBW⟩
                  | false =>
                    go_wp2_with fail
                    go_roundw
                    case rel => exact ⟨1, by first | rfl | simp, .inr (.inl ⟨rfl, HN.out⟩), unhide HB3⟩
                    case measure => simp [intOf]
            · have H1 := hide h1; clear h1 HZ
              go_wp2_with fail
              go_loopw [76, 8] (fun i on wr3 => ∃ (j : Nat) (b : Bool), j ≤ k ∧ i = .int .i64 j ∧ on = .bool b ∧ Hid (onF (1) (f, d, m) (gs.take j) = b) ∧ Below (wo.heap.size + 1) (wo.alloc (.cells #[.int .i64 f, .int .i64 d, .int .i64 m] 56)) wr3) (fun i _ _ => k - (intOf i).toNat)
              case atStart => exact ⟨0, true, Nat.zero_le _, rfl, rfl, (by simp [onF, Hid]), unhide HB2⟩
              case round =>
                obtain ⟨j, b, hj, rfl, rfl, HON, hb3⟩ := hrel
                have HB3 := hide hb3; clear hb3
                have c1 := ((unhide HB3).cell (p := ⟨wo.heap.size, 0, none⟩) (by simp)).trans (gth_alloc3 wo f d m 56).1
                have c2 := ((unhide HB3).cell (p := ⟨wo.heap.size, 1, none⟩) (by simp)).trans (gth_alloc3 wo f d m 56).2.1
                have hbs3 := (unhide HB3).size
                simp only [World.size_alloc] at hbs3
                have HBW := hide ((unhide HB1).trans ((unhide HB3).mono (by have := (unhide HB).size; omega)))
                by_cases hjt : j < k
                · have hjl : j < gs.length := by rw [hl.out]; exact hjt
                  obtain ⟨b3, off3, hA3, hbb3, y1, y2, y3⟩ := ((unhide H).below (unhide HBW)).at_ j hjt
                  simp only [Option.some.injEq, Addr.mk.injEq, and_true] at hA3
                  obtain ⟨rfl, rfl⟩ := hA3
                  have hg3 := (okS_iff _).1 (HO.out _ (gth_mem hjl))
                  have hst3 := hide (all_take_succ (p := fun t : G => decide ((1) * (t.2.1 * f - t.1 * d) ≤ 0)) gs j hjl)
                  revert hst3
                  obtain ⟨⟨f3, d3, m3⟩, hgk3⟩ : ∃ q, gth gs j = q := ⟨_, rfl⟩
                  rw [hgk3] at y1 y2 y3 hg3 ⊢
                  clear hgk3
                  simp only at y1 y2 y3 hg3 ⊢
                  intro hst3
                  obtain ⟨h31, h32, _, _, _⟩ := hg3
                  have p1 := mul_bd (M := 4) (N := 4) h32 ⟨g11, g12⟩
                  have p2 := mul_bd (M := 4) (N := 4) h31 ⟨g21, g22⟩
                  obtain ⟨h311, h312⟩ := h31; obtain ⟨h321, h322⟩ := h32
                  obtain ⟨p11, p12⟩ := p1; obtain ⟨p21, p22⟩ := p2
                  have c1a := (((Below.refl wr.heap.size wr).alloc (Nat.le_refl _) (.cells #[.int .i64 f3, .int .i64 d3, .int .i64 m3] 56)).cell (p := ⟨wo.heap.size, 0, none⟩) (by simp only; omega)).trans c1
                  have c2a := (((Below.refl wr.heap.size wr).alloc (Nat.le_refl _) (.cells #[.int .i64 f3, .int .i64 d3, .int .i64 m3] 56)).cell (p := ⟨wo.heap.size, 1, none⟩) (by simp only; omega)).trans c2
                  clear c1 c2
                  cases b with
                  | false =>
                    have HN := hide (show onF (1) (f, d, m) (gs.take (j + 1)) = false from by have := HON.out; unfold onF at this ⊢; rw [hst3.out, this]; rfl)
                    go_wp2_with fail
                    go_roundw
                    case rel => exact ⟨j + 1, false, by omega, by go_num, rfl, HN, (unhide HB3).alloc (by omega) _⟩
                    case measure => simp [intOf]; omega
                  | true =>
                    by_cases hp : (1) * (d3 * f - f3 * d) ≤ 0
                    · have HN := hide (show onF (1) (f, d, m) (gs.take (j + 1)) = true from by have := HON.out; unfold onF at this ⊢; rw [hst3.out, this]; simp only [Bool.true_and, decide_eq_true_eq]; exact hp)
                      have hp2 : decide ((1) * (d3 * f - f3 * d) ≤ 0) = true := by simpa using hp
                      go_wp2_with fail
                      go_roundw
                      case rel => exact ⟨j + 1, true, by omega, by go_num, (by first | rfl | (simp; omega)), HN, (unhide HB3).alloc (by omega) _⟩
                      case measure => simp [intOf]; omega
                    · have HN := hide (show onF (1) (f, d, m) (gs.take (j + 1)) = false from by have := HON.out; unfold onF at this ⊢; rw [hst3.out, this]; simp only [Bool.true_and, decide_eq_false_iff_not]; exact hp)
                      have hp2 : decide ((1) * (d3 * f - f3 * d) ≤ 0) = false := by simpa using hp
                      go_wp2_with fail
                      go_roundw
                      case rel => exact ⟨j + 1, false, by omega, by go_num, (by first | rfl | (simp; omega)), HN, (unhide HB3).alloc (by omega) _⟩
                      case measure => simp [intOf]; omega
                · obtain rfl : j = k := by omega
                  have HN := hide (show onF (1) (f, d, m) gs = b from by have := HON.out; rwa [List.take_of_length_le (by rw [hl.out]; exact Nat.le_refl _)] at this)
                  cases b with
                  | true =>
                    have HF := hide (hend.out (by rw [endR, HN.out]; simp))
                    go_wp2_with fail
                    go_ret
                    exact ⟨ret_bool HF.out.symm, unhide HBW⟩
                  | false =>
                    go_wp2_with fail
                    go_roundw
                    case rel => exact ⟨3, by first | rfl | simp, .inr (.inr ⟨rfl, by rw [endR, H1.out, HN.out]; rfl⟩), unhide HB3⟩
                    case measure => simp [intOf]
            · have H1 := hide h1; clear h1 HZ
              have HE2 := hide (show (gs.take (k2 + 1)).all (endR gs) = true from by rw [hst.out, HE.out, H1.out]; rfl)
              have HBW := hide ((unhide HB1).trans ((unhide HB2).mono (by have := (unhide HB).size; omega)))
              go_wp2_with fail
              go_roundw
              case rel => exact ⟨k2 + 1, by omega, by go_num, HE2, unhide HBW⟩
              case measure => simp [intOf]; omega
        · obtain rfl : k2 = k := by omega
          have HF := hide (show plR gs = true from by
            have h1 : decide (3 ≤ gs.length) = true := by rw [hl.out]; simp; omega
            have h2 : decide (gs.length ≤ 6) = true := by rw [hl.out]; simp; omega
            have h3 := HE.out
            rw [List.take_of_length_le (by rw [hl.out]; exact Nat.le_refl _)] at h3
            rw [plR, h1, h2, List.all_eq_true.2 HO.out, h3]; rfl)
          go_wp2_with fail
          go_ret
          exact ⟨ret_bool HF.out.symm, unhide HB⟩
theorem RPlate_is (A : Option Addr) (n c : Nat) (gs : List G) (w : World) (h : Gs w w.heap.size A n c gs) (b : Bool) (hb : Hid (plR gs = b)) :
    Calls Try.prog 20 #[.slice A n c] w fun e w' => e = .returned (.bool b) ∧ Below w.heap.size w w' :=
  (RPlate_any A n c gs w h).mono fun _ _ ⟨he, hw⟩ => ⟨by rw [he, hb.out], hw⟩
end Go.Proofs.Ytccfhcoioakmpaa
