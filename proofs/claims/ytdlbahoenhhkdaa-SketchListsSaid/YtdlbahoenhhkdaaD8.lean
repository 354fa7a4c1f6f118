import Derived.Test.YtdlbahoenhhkdaaD7
/-
  lessen: all numbers less by one, the zeros away.
-/
namespace Go.Proofs.Ytdlbahoenhhkdaa
open Go.RowKit

def dec (g : G) : G := (g.1, g.2.1 - 1, g.2.2)
theorem gext {gs hs : List G} (hl : gs.length = hs.length) (h : ∀ x, x < gs.length → gth gs x = gth hs x) : gs = hs := by
  apply List.ext_getElem hl
  intro i h1 h2
  have := h i h1
  simpa [gth, List.getD, h1, h2] using this
theorem gth_map {gs : List G} (f : G → G) {x : Nat} (h : x < gs.length) : gth (gs.map f) x = f (gth gs x) := by
  simp [gth, List.getD, h]

set_option maxRecDepth 100000 in
set_option maxHeartbeats 2000000 in
theorem lessen_any (L : Nat) (A : Option Addr) (n c : Nat) (gs : List G) (K F : Value) (key : Int) (w : World) (hL : Blk w L 81 #[K, .slice A n c, F]) (h : OwnedG w (L + 1) 68 (.slice A n c) gs) (hn : n ≤ 50) (hN : Hid (∀ x, x < n → 0 ≤ (gth gs x).2.1 ∧ (gth gs x).2.1 ≤ 1000)) :
    Calls Try.prog 55 #[.pointer (some ⟨L, 0, none⟩), .int .i64 key] w fun e w' => ∃ (A' : Option Addr) (n' c' : Nat), e = .returned (.tuple #[]) ∧ Blk w' L 81 #[K, .slice A' n' c', F] ∧ OwnedG w' (L + 1) 68 (.slice A' n' c') (nz (gs.map dec)) ∧ Below L w w' := by
  have hLw := hL.lt
  have hr := h.reads
  have hm := hr.most; have hcap := hr.cap
  have hl := hide hr.len
  have c1 : w.cell? ⟨L, 1, none⟩ = some (.slice A n c) := by rw [hL.cell]; rfl
  have H := hide h
  have HL := hide hL
  clear hr h hL
  go_enter Try.func55, Try.ntmps55
  go_wp2_with fail
  clear c1
  go_loopw [4, 10] (fun _ a wr => ∃ (k : Nat) (hs : List G), a = .int .i64 k ∧ k ≤ n ∧ Hid (∀ x, x < n → gth hs x = if x < k then dec (gth gs x) else gth gs x) ∧ Blk wr L 81 #[K, .slice A n c, F] ∧ OwnedG wr (L + 1) 68 (.slice A n c) hs ∧ Below L w wr) (fun _ a _ => n - (intOf a).toNat)
  case atStart => exact ⟨0, gs, rfl, Nat.zero_le _, hide (fun x _ => by rw [if_neg (by omega)]), unhide HL, unhide H, Below.refl _ _⟩
  case round =>
    obtain ⟨k, hs, rfl, hkn, hx, hb, ho, hbel⟩ := hrel
    have c1 : wr.cell? ⟨L, 1, none⟩ = some (.slice A n c) := by rw [hb.cell]; rfl
    have hsl := hide ho.reads.len
    by_cases hlt : k < n
    · obtain ⟨g, rfl⟩ : ∃ g, A = some ⟨g, 0, none⟩ := by
        rcases ho.2 with ⟨hx, _⟩ | ⟨g, _, _, hx, _⟩
        · simp only [Value.slice.injEq] at hx; omega
        · simp only [Value.slice.injEq] at hx; exact ⟨g, hx.1⟩
      obtain ⟨_, _, hbg, _⟩ := ho.blk
      obtain ⟨e1, e2, e3, z1, z2, z3⟩ := ho.at3 k hlt
      obtain ⟨f, hf⟩ : ∃ f, (gth hs k).1 = f := ⟨_, rfl⟩
      obtain ⟨d, hd⟩ : ∃ f, (gth hs k).2.1 = f := ⟨_, rfl⟩
      obtain ⟨q, hq⟩ : ∃ f, (gth hs k).2.2 = f := ⟨_, rfl⟩
      rw [hf] at e1; rw [hd] at e2; rw [hq] at e3
      have hG := hide (show gth gs k = (f, d, q) by
        have := hx.out k hlt
        rw [if_neg (by omega)] at this
        rw [← this, ← hf, ← hd, ← hq])
      have hGh := hide (show gth hs k = (f, d, q) by rw [← hf, ← hd, ← hq])
      have hdb : 0 ≤ d ∧ d ≤ 1000 := by have := hN.out k hlt; rw [hG.out] at this; exact this
      clear hf hd hq
      obtain ⟨hd1, hd2⟩ := hdb
      have hwr : IntKind.i64.wrap (d - 1) = d - 1 := by rw [IntKind.wrap_i64]; omega
      have O4 := hide (ho.set1 hlt hGh.out (d - 1))
      have L4 := hide (hb.far (p := ⟨g, k * 3 + 1, none⟩) (show L ≠ g by omega) (.int .i64 (d - 1)))
      have B4 := hide (hbel.setCell (p := ⟨g, k * 3 + 1, none⟩) (show L ≤ g by omega) (.int .i64 (d - 1)))
      clear ho hb hbel e1 e3 z1 z3
      go_wp2_with fail
      go_roundw
      case rel => exact ⟨k + 1, hs.set k (f, d - 1, q), by go_num, by omega, hide (fun x h1 => by
        rw [gth_set _ _ _ _ (by rw [hsl.out]; omega)]
        by_cases e : x = k
        · rw [if_pos e, if_pos (by omega), e, hG.out]; rfl
        · rw [if_neg e, hx.out x h1]
          by_cases e2 : x < k
          · rw [if_pos e2, if_pos (by omega)]
          · rw [if_neg e2, if_neg (by omega)]), unhide L4, unhide O4, unhide B4⟩
      case measure => simp [intOf]; omega
    · obtain rfl : k = n := by omega
      have he := hide (show hs = gs.map dec from gext (by rw [hsl.out, List.length_map, hl.out]) (fun x hx1 => by
        rw [hsl.out] at hx1
        rw [hx.out x hx1, if_pos hx1, gth_map _ (by rw [hl.out]; exact hx1)]))
      have HO := hide ho; have HB := hide hb; have HBel := hide hbel
      have hsz := hbel.size
      clear ho hb hbel
      go_wp2_with fail
      refine (DelF_any A k c hs (L + 1) wr (unhide HO) (by omega) (by omega)).mono ?_
      rintro e w2 ⟨v, rfl, ho2, hb2⟩
      obtain ⟨A3, n3, c3, rfl, _⟩ := ho2.to
      have l2 := (unhide HB).below hb2 (by omega)
      have c2 : w2.cell? ⟨L, 1, none⟩ = some (.slice A k c) := by rw [l2.cell]; rfl
      have f2 : w2.frozen? ⟨L, 1, none⟩ = false := l2.frozen 1
      have L5 := hide (l2.set_ 1 (.slice A3 n3 c3))
      have O5 := hide (ho2.far (p := ⟨L, 1, none⟩) (show L < L + 1 by omega) (.slice A3 n3 c3))
      have B5 := hide (((unhide HBel).trans (hb2.mono (show L ≤ L + 1 by omega))).setCell (p := ⟨L, 1, none⟩) (Nat.le_refl _) (.slice A3 n3 c3))
      clear l2 ho2 hb2
      go_wp2_with fail
      go_end0
      exact ⟨A3, n3, c3, rfl, unhide L5, by rw [← he.out]; exact unhide O5, unhide B5⟩
end Go.Proofs.Ytdlbahoenhhkdaa
