/-
  Apart of the program.
-/
import Derived.Test.YtccfhcoioakmpaaM3
import Derived.Test.YtccfhcoioakmpaaC4
namespace Go.Proofs.Ytccfhcoioakmpaa
open Go.RowKit

theorem ints_blk2 {w : World} {g B n c : Nat} {cs : Array Value} {zs : List Int} {t : TypeId} (h : w.heap[g]? = some (.cells cs t (0, 0))) (hc : cs.toList = zs.map (Value.int .i64)) (hB : g < B) (hn : zs.length = n) (hnc : n ≤ c) (hm : c ≤ 9223372036854775807) : Ints w B (some ⟨g, 0, none⟩) n c zs :=
  ⟨hn, hnc, hm, (fun e => by cases e), fun k hk => ⟨g, 0, rfl, hB, by
    have hkl : k < zs.length := by omega
    rw [Nat.zero_add, cell_row_ h, ← Array.getElem?_toList, hc]
    simp [nth, List.getD, hkl]⟩⟩
def apartErr : Value := .tuple #[.agg #[.int .i64 0, .int .i64 0, .int .i64 0], .int .i64 2]
def far (x y : Int) : Bool := allIn (-100) 100 [x, y]
theorem far_iff {x y : Int} : far x y = true ↔ (-100 ≤ x ∧ x ≤ 100) ∧ -100 ≤ y ∧ y ≤ 100 := by
  simp [far, allIn]

set_option maxRecDepth 4000 in
set_option maxHeartbeats 3200000 in
theorem Apart_any (A : Option Addr) (n c : Nat) (gs : List G) (x y : Int) (w : World) (h : Gs w w.heap.size A n c gs) :
    Calls Try.prog 43 #[.slice A n c, .agg #[.int .i64 x, .int .i64 y]] w fun e w' => e = .returned (if plF gs && far x y then apartV (firstOut x y gs) else apartErr) ∧ Below w.heap.size w w' := by
  have hm := h.most; have hcap := h.cap
  have hl := hide h.len
  have H := hide h; clear h
  obtain ⟨W0, hW0⟩ : ∃ W0, W0 = (w.alloc (.cells #[.int .i64 x, .int .i64 y] 43)).alloc (.cells #[.int .i64 0, .int .i64 0, .int .i64 0] 57) := ⟨_, rfl⟩
  have HB0 := hide (show Below w.heap.size w W0 from by rw [hW0]; exact ((Below.refl _ w).alloc (Nat.le_refl _) _).alloc (by simp) _)
  have hs0 : W0.heap.size = w.heap.size + 1 + 1 := by rw [hW0]; simp
  have HX := hide (show W0.heap[w.heap.size]? = some (.cells #[.int .i64 x, .int .i64 y] 43 (0, 0)) from by
    rw [hW0]; exact (Below.heap_alloc _ _ _ (by simp)).trans (heap_new_ _ _))
  have HR := hide (show W0.heap[w.heap.size + 1]? = some (.cells #[.int .i64 0, .int .i64 0, .int .i64 0] 57 (0, 0)) from by
    rw [hW0]; have := heap_new_ (w.alloc (.cells #[.int .i64 x, .int .i64 y] 43)) (.cells #[.int .i64 0, .int .i64 0, .int .i64 0] 57); rwa [World.size_alloc] at this)
  have HG := hide (show Gs W0 W0.heap.size A n c gs from ((unhide H).below (unhide HB0)).more (by omega))
  rcases hp : plF gs
  · have HP := hide hp; clear hp
    go_enter Try.func43, Try.ntmps43
    go_wp2_with fail
    rw [← hW0]
    have HW := hide hW0; clear hW0
    refine (isPlate_is _ _ _ _ _ (unhide HG) _ HP).mono ?_
    rintro e w1 ⟨rfl, b1⟩
    have hr1 := (b1.block _ (by omega)).trans (unhide HR)
    obtain ⟨u0, u1, u2⟩ := three_at hr1
    have fr0 := free_at hr1 0; have fr1 := free_at hr1 1; have fr2 := free_at hr1 2
    have HR1 := hide hr1; have HBf := hide ((unhide HB0).trans (b1.mono (by omega))); clear hr1 b1
    go_wp2_with fail
    have HPq := hide (put3 (unhide HR1) (.int .i64 0) (.int .i64 0) (.int .i64 0))
    have HBq := hide (below_put3 (unhide HBf) (b := w.heap.size + 1) (by omega) (.int .i64 0) (.int .i64 0) (.int .i64 0))
    obtain ⟨s0, s1, s2⟩ := three_at (unhide HPq)
    exact bodyPost_ret (v := .tuple #[.agg #[.int .i64 0, .int .i64 0, .int .i64 0], .int .i64 2]) (by simp [results, Try.results43, go_sem, s0, s1, s2]) rfl ⟨by rfl, unhide HBq⟩
  have HP := hide hp; clear hp
  rcases hf : far x y
  · have HF := hide hf; clear hf
    go_enter Try.func43, Try.ntmps43
    go_wp2_with fail
    rw [← hW0]
    have HW := hide hW0; clear hW0
    refine (isPlate_is _ _ _ _ _ (unhide HG) _ HP).mono ?_
    rintro e w1 ⟨rfl, b1⟩
    have hr1 := (b1.block _ (by omega)).trans (unhide HR)
    have HI := hide (ints_blk2 (zs := [x, y]) (n := 2) (c := 2) (B := w1.heap.size) ((b1.block _ (by omega)).trans (unhide HX)) rfl (by have := b1.size; omega) rfl (by omega) (by omega))
    obtain ⟨u0, u1, u2⟩ := three_at hr1
    have fr0 := free_at hr1 0; have fr1 := free_at hr1 1; have fr2 := free_at hr1 2
    have HR1 := hide hr1; have HBf := hide ((unhide HB0).trans (b1.mono (by omega))); clear hr1 b1
    go_wp2_with fail
    refine (allWithin_is _ _ _ _ _ _ _ _ (unhide HI) _ HF).mono ?_
    rintro e w2 ⟨rfl, rfl⟩
    go_wp2_with fail
    have HPq := hide (put3 (unhide HR1) (.int .i64 0) (.int .i64 0) (.int .i64 0))
    have HBq := hide (below_put3 (unhide HBf) (b := w.heap.size + 1) (by omega) (.int .i64 0) (.int .i64 0) (.int .i64 0))
    obtain ⟨s0, s1, s2⟩ := three_at (unhide HPq)
    exact bodyPost_ret (v := .tuple #[.agg #[.int .i64 0, .int .i64 0, .int .i64 0], .int .i64 2]) (by simp [results, Try.results43, go_sem, s0, s1, s2]) rfl ⟨by rfl, unhide HBq⟩
  have HF := hide hf
  have hxy := far_iff.1 hf
  obtain ⟨hx, hy⟩ := hxy
  obtain ⟨hx1, hx2⟩ := hx; obtain ⟨hy1, hy2⟩ := hy
  clear hf
  have HO := hide (plF_ok HP.out)
  go_enter Try.func43, Try.ntmps43
  go_wp2_with fail
  rw [← hW0]
  have HW := hide hW0; clear hW0
  refine (isPlate_is _ _ _ _ _ (unhide HG) _ HP).mono ?_
  rintro e w1 ⟨rfl, b1⟩
  have HX1 := hide ((b1.block _ (by omega)).trans (unhide HX))
  have HR1 := hide ((b1.block _ (by omega)).trans (unhide HR))
  have hs1 : w.heap.size + 1 + 1 ≤ w1.heap.size := by have := b1.size; omega
  have HB1 := hide ((unhide HB0).trans (b1.mono (by omega)))
  have HI := hide (ints_blk2 (zs := [x, y]) (n := 2) (c := 2) (B := w1.heap.size) (unhide HX1) rfl (by omega) rfl (by omega) (by omega))
  clear b1
  go_wp2_with fail
  refine (allWithin_is _ _ _ _ _ _ _ _ (unhide HI) _ HF).mono ?_
  rintro e w2 ⟨rfl, rfl⟩
  go_wp2_with fail
  go_loopw [19] (fun i wr => ∃ k : Nat, k ≤ n ∧ i = .int .i64 k ∧ Hid (∀ j, j < k → inS (gth gs j) x y 1 = true) ∧ Below w1.heap.size w1 wr) (fun i _ => n - (intOf i).toNat)
  case atStart => exact ⟨0, Nat.zero_le _, rfl, (fun j hj => by omega), Below.refl _ _⟩
  case round =>
    obtain ⟨k, hk, rfl, HE, hb⟩ := hrel
    have HB := hide hb; clear hb
    have hbs := (unhide HB).size
    have HBW := hide ((unhide HB1).trans ((unhide HB).mono (by omega)))
    have hxr := ((unhide HB).block _ (by omega)).trans (unhide HX1)
    have hr1 := ((unhide HB).block _ (by omega)).trans (unhide HR1)
    by_cases hlt : k < n
    · have hkl : k < gs.length := by rw [hl.out]; exact hlt
      obtain ⟨b, off, rfl, hbb, e1, e2, e3⟩ := ((unhide H).below (unhide HBW)).at_ k hlt
      have hg := (okS_iff _).1 (HO.out _ (gth_mem hkl))
      have hyes := hide (fun hn => firstOut_yes (x := x) (y := y) hkl HE.out hn)
      revert hyes HE
      obtain ⟨⟨f, d, m⟩, hgk⟩ : ∃ f, gth gs k = f := ⟨_, rfl⟩
      have HGK := hide hgk
      rw [hgk] at e1 e2 e3 hg ⊢
      clear hgk
      simp only at e1 e2 e3 hg ⊢
      intro HE hyes
      obtain ⟨g1, g2, _, g4, g5⟩ := hg
      have p1 := mul_bd (M := 4) (N := 100) g1 ⟨hx1, hx2⟩
      have p2 := mul_bd (M := 4) (N := 100) g2 ⟨hy1, hy2⟩
      obtain ⟨p11, p12⟩ := p1; obtain ⟨p21, p22⟩ := p2
      clear g1 g2
      obtain ⟨y0, y1⟩ := two_at (W := wr.alloc (.cells #[.int .i64 f, .int .i64 d, .int .i64 m] 57)) ((Below.heap_alloc _ _ _ (by omega)).trans hxr)
      have hr2 := (Below.heap_alloc wr (.cells #[.int .i64 f, .int .i64 d, .int .i64 m] 57) _ (by omega)).trans hr1
      obtain ⟨u0, u1, u2⟩ := three_at hr2
      have fr0 := free_at hr2 0; have fr1 := free_at hr2 1; have fr2 := free_at hr2 2
      have HR2 := hide hr2
      have HB2 := hide ((unhide HB).alloc (unhide HB).size (.cells #[.int .i64 f, .int .i64 d, .int .i64 m] 57))
      have HBf := hide ((unhide HBW).alloc (unhide HBW).size (.cells #[.int .i64 f, .int .i64 d, .int .i64 m] 57))
      clear hr1 hr2 hxr
      by_cases hq : f * x + d * y ≤ m
      · have HE2 := hide (show ∀ j, j < k + 1 → inS (gth gs j) x y 1 = true from fun j hj => by
          rcases Nat.lt_or_ge j k with h1 | h1
          · exact HE.out j h1
          · obtain rfl : j = k := by omega
            rw [HGK.out]; simp only [inS, decide_eq_true_eq]; omega)
        go_wp2_with fail
        go_roundw
        case rel => exact ⟨k + 1, by omega, by go_num, HE2, unhide HB2⟩
        case measure => simp [intOf]; omega
      · have HFO := hide (hyes.out (by simp only [inS, decide_eq_false_iff_not]; omega))
        go_wp2_with fail
        have HPq := hide (put3 (unhide HR2) (.int .i64 f) (.int .i64 d) (.int .i64 m))
        have HBq := hide (below_put3 (unhide HBf) (b := w.heap.size + 1) (by omega) (.int .i64 f) (.int .i64 d) (.int .i64 m))
        obtain ⟨s0, s1, s2⟩ := three_at (unhide HPq)
        refine bodyPost_ret (v := .tuple #[.agg #[.int .i64 f, .int .i64 d, .int .i64 m], .int .i64 0]) (by simp [results, Try.results43, go_sem, s0, s1, s2]) rfl ⟨?_, unhide HBq⟩
        rw [HFO.out]; rfl
    · obtain rfl : k = n := by omega
      have HFO := hide (firstOut_no (x := x) (y := y) (gs := gs) (fun j hj => HE.out j (by rw [← hl.out]; exact hj)))
      obtain ⟨u0, u1, u2⟩ := three_at hr1
      have fr0 := free_at hr1 0; have fr1 := free_at hr1 1; have fr2 := free_at hr1 2
      have HR2 := hide hr1; clear hr1 hxr
      go_wp2_with fail
      have HPq := hide (put3 (unhide HR2) (.int .i64 0) (.int .i64 0) (.int .i64 0))
      have HBq := hide (below_put3 (unhide HBW) (b := w.heap.size + 1) (by omega) (.int .i64 0) (.int .i64 0) (.int .i64 0))
      obtain ⟨s0, s1, s2⟩ := three_at (unhide HPq)
      refine bodyPost_ret (v := .tuple #[.agg #[.int .i64 0, .int .i64 0, .int .i64 0], .int .i64 4]) (by simp [results, Try.results43, go_sem, s0, s1, s2]) rfl ⟨?_, unhide HBq⟩
      rw [HFO.out]; rfl
end Go.Proofs.Ytccfhcoioakmpaa
