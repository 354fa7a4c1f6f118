import Derived.Test.YtdlbahoenhhkdaaDe
/-
  The law's order; keys on a list.
-/
namespace Go.Proofs.Ytdlbahoenhhkdaa
open Go.RowKit

set_option maxRecDepth 100000 in
set_option maxHeartbeats 2000000 in
theorem order_any (A : Option Addr) (n c : Nat) (gs : List G) (K : Nat) (w : World) (h : Gs w w.heap.size A n c gs) (hR : Hid (Rise gs)) (hK : Hid (∀ g ∈ gs, 0 ≤ g.1 ∧ g.1 ≤ 15)) (hn : n ≤ K) :
    Calls Try.prog 48 #[.int .i64 (K : Int), .slice A n c] w fun e w' => e = .returned (.bool true) ∧ Below w.heap.size w w' := by
  have hm := h.most; have hcap := h.cap
  have hl := hide h.len
  have H := hide h; clear h
  go_enter Try.func48, Try.ntmps48
  go_wp2_with fail
  go_loopw [5, 6, 9] (fun _ _ a wr => ∃ (k : Nat), k ≤ n ∧ a = .int .i64 k ∧ Below w.heap.size w wr) (fun _ _ a _ => n - (intOf a).toNat)
  case atStart => exact ⟨0, Nat.zero_le _, rfl, Below.refl _ _⟩
  case round =>
    obtain ⟨k, hk, rfl, hb⟩ := hrel
    by_cases hlt : k < n
    · obtain ⟨b, off, rfl, hbb, e1, e2, e3⟩ := ((unhide H).below hb).at_ k hlt
      obtain ⟨f, hf⟩ : ∃ f, (gth gs k).1 = f := ⟨_, rfl⟩
      obtain ⟨d, hd⟩ : ∃ f, (gth gs k).2.1 = f := ⟨_, rfl⟩
      obtain ⟨o, ho⟩ : ∃ f, (gth gs k).2.2 = f := ⟨_, rfl⟩
      rw [hf] at e1; rw [hd] at e2; rw [ho] at e3
      have hfb := hK.out _ (gth_mem (show k < gs.length by rw [hl.out]; exact hlt))
      rw [hf] at hfb
      have t1 : decide (f < 0) = false := by simp; omega
      have t2 : decide (15 < f) = false := by simp; omega
      have B1 := hide (hb.alloc hb.size (.cells #[.int .i64 f, .int .i64 d, .int .i64 o] 68))
      rcases Nat.eq_zero_or_pos k with h0 | h0
      · subst h0
        have t3 : decide ((0 : Int) < ((0 : Nat) : Int)) = false := by simp
        simp only [Nat.zero_mul, Nat.add_zero] at e1 e2 e3
        clear hb hf hd ho hfb
        go_wp2_with fail
        go_big_quiet (fail)
        go_wp2_with fail
        go_roundw
        case rel => exact ⟨0 + 1, by omega, by go_num, by first | exact unhide B1 | exact Below.drewN' (unhide B1) _⟩
        case measure => simp [intOf]; omega
      · obtain ⟨b', off', eA, _, p1, _⟩ := ((unhide H).below hb).at_ (k - 1) (by omega)
        simp only [Option.some.injEq, Addr.mk.injEq] at eA
        obtain ⟨rfl, rfl, _⟩ := eA
        obtain ⟨p, hp⟩ : ∃ p, (gth gs (k - 1)).1 = p := ⟨_, rfl⟩
        have hpf : p < f := by
          have := hR.out (k - 1) k (by omega) (by rw [hl.out]; exact hlt)
          rw [hp, hf] at this; exact this
        rw [hp] at p1
        have p2 : (wr.alloc (.cells #[.int .i64 f, .int .i64 d, .int .i64 o] 68)).cell? ⟨b, off + (k - 1) * 3, none⟩ = some (.int .i64 p) := by
          rw [← p1]; exact ((Below.refl wr.heap.size wr).alloc (Nat.le_refl _) _).cell (show b < wr.heap.size by have := hb.size; omega)
        have t3 : decide ((0 : Int) < (k : Int)) = true := by simp; omega
        have t3' : (0 : Int) < (k : Int) := by omega
        have t4 : decide (f ≤ p) = false := by simp; omega
        have hk1 : IntKind.i64.wrap ((k : Int) - 1) = ((k - 1 : Nat) : Int) := by rw [IntKind.wrap_i64]; omega
        have hk2 : k - 1 < n := by omega
        clear hb hf hd ho hfb p1 hp
        go_wp2_with fail
        go_big_quiet (fail)
        go_wp2_with fail
        go_roundw
        case rel => exact ⟨k + 1, by omega, by go_num, by first | exact unhide B1 | exact Below.drewN' (unhide B1) _⟩
        case measure => simp [intOf]; omega
    · obtain rfl : k = n := by omega
      have HB := hide hb
      have hkk : (k : Int) ≤ (K : Int) := by omega
      go_wp2_with fail
      go_ret
      exact ⟨ret_bool (by simp), unhide HB⟩
end Go.Proofs.Ytdlbahoenhhkdaa
