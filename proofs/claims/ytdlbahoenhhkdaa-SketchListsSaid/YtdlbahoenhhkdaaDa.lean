import Derived.Test.YtdlbahoenhhkdaaD9
/-
  replaceLeast.
-/
namespace Go.Proofs.Ytdlbahoenhhkdaa
open Go.RowKit

def leastTo (gs : List G) : Nat → Nat
  | 0 => 0
  | k + 1 => if (gth gs k).2.1 < (gth gs (leastTo gs k)).2.1 then k else leastTo gs k
theorem leastTo_lt {gs : List G} : ∀ k, 0 < k → leastTo gs k < k := by
  intro k; induction k with
  | zero => intro h; omega
  | succ k ih =>
    intro _
    simp only [leastTo]
    split
    · omega
    · rcases Nat.eq_zero_or_pos k with h | h
      · subst h; simp [leastTo]
      · have := ih h; omega
theorem rise_del {gs : List G} (h : Rise gs) (m : Nat) (hm : m < gs.length) : Rise (gs.take m ++ gs.drop (m + 1)) := by
  have e : ∀ x, x < gs.length - 1 → gth (gs.take m ++ gs.drop (m + 1)) x = gth gs (if x < m then x else x + 1) := by
    intro x hx
    unfold gth
    simp only [List.getD]
    rw [List.getElem?_append]
    rw [List.length_take, show min m gs.length = m by omega]
    by_cases h1 : x < m
    · rw [if_pos h1, if_pos h1, List.getElem?_take, if_pos h1]
    · rw [if_neg h1, if_neg h1, List.getElem?_drop, show m + 1 + (x - m) = x + 1 by omega]
  intro i j hij hj
  have hl : (gs.take m ++ gs.drop (m + 1)).length = gs.length - 1 := by simp; omega
  rw [hl] at hj
  rw [e i (by omega), e j hj]
  apply h
  · split <;> split <;> omega
  · split <;> omega

set_option maxRecDepth 100000 in
set_option maxHeartbeats 2000000 in
theorem replace_any (L : Nat) (A : Option Addr) (n c : Nat) (gs : List G) (K F : Value) (key : Int) (w : World) (hL : Blk w L 81 #[K, .slice A n c, F]) (h : OwnedG w (L + 1) 68 (.slice A n c) gs) (hn : n ≤ 50) (h0 : 0 < n) (hN : Hid (∀ x, x < n → 0 ≤ (gth gs x).2.1 ∧ (gth gs x).2.1 ≤ 1000)) (hR : Hid (Rise gs))
    (m : Nat) (hm : m = leastTo gs n) (v : Int) (hv : v = (gth gs m).2.1) (g1 : List G) (hg1 : g1 = gs.take m ++ gs.drop (m + 1)) :
    Calls Try.prog 56 #[.pointer (some ⟨L, 0, none⟩), .int .i64 key] w fun e w' => ∃ (A' : Option Addr) (n' c' p : Nat), e = .returned (.tuple #[]) ∧ Hid (At g1 key p) ∧ Blk w' L 81 #[K, .slice A' n' c', F] ∧ OwnedG w' (L + 1) 68 (.slice A' n' c') (g1.take p ++ [(key, v + 1, v)] ++ g1.drop p) ∧ Below L w w' := by
  have hLw := hL.lt
  have hr := h.reads
  have hmx := hr.most; have hcap := hr.cap
  have hl := hide hr.len
  have c1 : w.cell? ⟨L, 1, none⟩ = some (.slice A n c) := by rw [hL.cell]; rfl
  obtain ⟨g, rfl⟩ : ∃ g, A = some ⟨g, 0, none⟩ := by
    rcases h.2 with ⟨hx, _⟩ | ⟨g, _, _, hx, _⟩
    · simp only [Value.slice.injEq] at hx; omega
    · simp only [Value.slice.injEq] at hx; exact ⟨g, hx.1⟩
  have hmn := hide (show m < n by rw [hm]; exact leastTo_lt n h0)
  have HM := hide hm; have HV := hide hv; have HG := hide hg1
  have H := hide h
  have HL := hide hL
  clear hr h hL hm hv hg1
  go_enter Try.func56, Try.ntmps56
  go_wp2_with fail
  clear c1
  go_loopw [4, 5, 6, 13] (fun a _ _ b wr => ∃ (k t : Nat), a = .int .i64 t ∧ b = .int .i64 k ∧ k ≤ n ∧ t < n ∧ Hid (t = leastTo gs k) ∧ Below w.heap.size w wr) (fun _ _ _ b _ => n - (intOf b).toNat)
  case atStart => exact ⟨0, 0, rfl, rfl, Nat.zero_le _, h0, hide rfl, Below.refl _ _⟩
  case round =>
    obtain ⟨k, t, rfl, rfl, hkn, htn, ht, hbel⟩ := hrel
    have hsz := hbel.size
    have ho := (unhide H).below hbel (Nat.le_refl _)
    have hb := (unhide HL).below hbel hLw
    by_cases hlt : k < n
    · obtain ⟨e1, e2, e3, _⟩ := ho.at3 k hlt
      obtain ⟨_, x2, _⟩ := ho.at3 t htn
      obtain ⟨f, hf⟩ : ∃ f, (gth gs k).1 = f := ⟨_, rfl⟩
      obtain ⟨d, hd⟩ : ∃ f, (gth gs k).2.1 = f := ⟨_, rfl⟩
      obtain ⟨q, hq⟩ : ∃ f, (gth gs k).2.2 = f := ⟨_, rfl⟩
      obtain ⟨y, hy⟩ : ∃ f, (gth gs t).2.1 = f := ⟨_, rfl⟩
      rw [hf] at e1; rw [hd] at e2; rw [hq] at e3; rw [hy] at x2
      have hbg := ho.lt g rfl
      have hb1 := hb.alloc (.cells #[.int .i64 f, .int .i64 d, .int .i64 q] 68)
      have c1 : (wr.alloc (.cells #[.int .i64 f, .int .i64 d, .int .i64 q] 68)).cell? ⟨L, 1, none⟩ = some (.slice (some ⟨g, 0, none⟩) n c) := by rw [hb1.cell]; rfl
      have x3 : (wr.alloc (.cells #[.int .i64 f, .int .i64 d, .int .i64 q] 68)).cell? ⟨g, t * 3 + 1, none⟩ = some (.int .i64 y) := by
        rw [← x2]; exact ((Below.refl wr.heap.size wr).alloc (Nat.le_refl _) _).cell hbg.2
      have B1 := hide (hbel.alloc (by omega) (.cells #[.int .i64 f, .int .i64 d, .int .i64 q] 68))
      have hst := hide (show leastTo gs (k + 1) = if d < y then k else t from by
        simp only [leastTo]; rw [← ht.out, hd, hy])
      clear hf hd hq hy x2 ho hb hb1 hbel
      by_cases hdy : d < y
      · go_wp2_with fail
        go_big_quiet (fail)
        go_wp2_with fail
        go_roundw
        case rel => exact ⟨k + 1, k, rfl, by go_num, by omega, by omega, hide (by rw [hst.out, if_pos hdy]), by first | exact unhide B1 | exact Below.drewN' (unhide B1) _⟩
        case measure => simp [intOf]; omega
      · have hdy' : decide (d < y) = false := by simpa using hdy
        go_wp2_with fail
        go_big_quiet (fail)
        go_wp2_with fail
        go_roundw
        case rel => exact ⟨k + 1, t, rfl, by go_num, by omega, by omega, hide (by rw [hst.out, if_neg (by omega)]), by first | exact unhide B1 | exact Below.drewN' (unhide B1) _⟩
        case measure => simp [intOf]; omega
    · obtain rfl : k = n := by omega
      obtain rfl : t = m := by rw [ht.out, HM.out]
      obtain ⟨_, e2, _⟩ := ho.at3 t htn
      rw [← HV.out] at e2
      have hvb := hN.out t htn
      rw [← HV.out] at hvb
      obtain ⟨hv1, hv2⟩ := hvb
      have c1 : wr.cell? ⟨L, 1, none⟩ = some (.slice (some ⟨g, 0, none⟩) k c) := by rw [hb.cell]; rfl
      have HO := hide ho; have HB := hide hb; have HBel := hide hbel
      clear ho hb hbel
      go_wp2_with fail
      refine (Delete_any (some ⟨g, 0, none⟩) k c t gs (L + 1) wr (unhide HO) (by omega) htn).mono ?_
      rintro e w2 ⟨v2, rfl, ho2, hb2⟩
      rw [← HG.out] at ho2
      obtain ⟨A3, n3, c3, rfl, _⟩ := ho2.to
      have l2 := (unhide HB).below hb2 (by omega)
      have c2 : w2.cell? ⟨L, 1, none⟩ = some (.slice (some ⟨g, 0, none⟩) k c) := by rw [l2.cell]; rfl
      have f2 : w2.frozen? ⟨L, 1, none⟩ = false := l2.frozen 1
      have L5 := hide (l2.set_ 1 (.slice A3 n3 c3))
      have O5 := hide (ho2.far (p := ⟨L, 1, none⟩) (show L < L + 1 by omega) (.slice A3 n3 c3))
      have B5 := hide ((((unhide HBel).mono (by omega)).trans (hb2.mono (show L ≤ L + 1 by omega))).setCell (p := ⟨L, 1, none⟩) (Nat.le_refl _) (.slice A3 n3 c3))
      have hn3 : n3 ≤ 50 := by
        have e1 := ho2.reads.len
        rw [HG.out] at e1
        simp only [List.length_append, List.length_take, List.length_drop, hl.out] at e1
        omega
      clear l2 ho2 hb2
      go_wp2_with fail
      refine (put_any L A3 n3 c3 g1 key (v + 1) v K F _ (unhide L5) (unhide O5) hn3 (hide (by rw [HG.out]; exact rise_del hR.out t (by rw [hl.out]; exact htn)))).mono ?_
      rintro e w3 ⟨A4, n4, c4, p, rfl, hp, l4, o4, b4⟩
      have L6 := hide l4; have O6 := hide o4; have B6 := hide ((unhide B5).trans b4)
      clear l4 o4 b4
      go_wp2_with fail
      go_end0
      exact ⟨A4, n4, c4, p, rfl, hp, unhide L6, unhide O6, unhide B6⟩
end Go.Proofs.Ytdlbahoenhhkdaa
