/-
  Apart, of the reference and of the program.
-/
import Derived.Test.YtccfhcoioakmpaaM2
namespace Go.Proofs.Ytccfhcoioakmpaa
open Go.RowKit

/-- The first side that a point does not keep. -/
def firstOut (x y : Int) (gs : List G) : Option G := gs.find? (fun g => !(inS g x y 1))
def sideV (g : G) : Value := .agg #[.int .i64 g.1, .int .i64 g.2.1, .int .i64 g.2.2]
def apartV (o : Option G) : Value := match o with | some g => .tuple #[.agg #[.int .i64 g.1, .int .i64 g.2.1, .int .i64 g.2.2], .int .i64 0] | none => .tuple #[.agg #[.int .i64 0, .int .i64 0, .int .i64 0], .int .i64 4]
theorem firstOut_yes {x y : Int} {gs : List G} {k : Nat} (hk : k < gs.length) (h : ∀ j, j < k → inS (gth gs j) x y 1 = true) (hn : inS (gth gs k) x y 1 = false) : firstOut x y gs = some (gth gs k) := by
  unfold firstOut
  have e : gs = gs.take k ++ gth gs k :: gs.drop (k + 1) := by
    have : gth gs k = gs[k] := by simp [gth, List.getD, hk]
    rw [this, ← List.drop_eq_getElem_cons hk, List.take_append_drop]
  rw [e, List.find?_append]
  have h0 : (gs.take k).find? (fun g => !(inS g x y 1)) = none := by
    rw [List.find?_eq_none]
    intro a ha
    obtain ⟨j, hj, rfl⟩ := List.getElem_of_mem ha
    have hjk : j < k := by rw [List.length_take] at hj; omega
    have := h j hjk
    rw [List.getElem_take]
    have e2 : gth gs j = gs[j]'(by omega) := by simp [gth, List.getD, show j < gs.length by omega]
    rw [← e2, this]; simp
  rw [h0]
  have e3 : gth (gs.take k ++ gth gs k :: gs.drop (k + 1)) k = gth gs k := by rw [← e]
  rw [← e] 
  simp [hn]
theorem firstOut_no {x y : Int} {gs : List G} (h : ∀ j, j < gs.length → inS (gth gs j) x y 1 = true) : firstOut x y gs = none := by
  unfold firstOut
  rw [List.find?_eq_none]
  intro a ha
  obtain ⟨j, hj, rfl⟩ := List.getElem_of_mem ha
  have := h j hj
  have e2 : gth gs j = gs[j] := by simp [gth, List.getD, hj]
  rw [← e2, this]; simp
theorem cell_two (w : World) (a b : Int) (e : TypeId) : (w.alloc (.cells #[.int .i64 a, .int .i64 b] e)).cell? ⟨w.heap.size, 0, none⟩ = some (.int .i64 a) ∧ (w.alloc (.cells #[.int .i64 a, .int .i64 b] e)).cell? ⟨w.heap.size, 1, none⟩ = some (.int .i64 b) := by
  refine ⟨?_, ?_⟩ <;> (rw [cell_row_ (heap_new_ _ _)]; rfl)

theorem set_at {W : World} {b k : Nat} {cs : Array Value} {t : TypeId} (h : W.heap[b]? = some (.cells cs t (0, 0))) (v : Value) : (W.setCell ⟨b, k, none⟩ v).heap[b]? = some (.cells (cs.setIfInBounds k v) t (0, 0)) := by
  obtain ⟨hlt, hk⟩ := Array.getElem?_eq_some_iff.1 h
  show (W.heap.modify b _)[b]? = _
  rw [Array.getElem?_eq_getElem (by rw [Array.size_modify]; exact hlt), Array.getElem_modify_self, hk]
  rfl
theorem put3 {W : World} {b : Nat} {u0 u1 u2 : Value} {t : TypeId} (h : W.heap[b]? = some (.cells #[u0, u1, u2] t (0, 0))) (v0 v1 v2 : Value) :
    (((W.setCell ⟨b, 0, none⟩ v0).setCell ⟨b, 1, none⟩ v1).setCell ⟨b, 2, none⟩ v2).heap[b]? = some (.cells #[v0, v1, v2] t (0, 0)) :=
  set_at (set_at (set_at h v0) v1) v2
theorem put2 {W : World} {b : Nat} {u0 u1 : Value} {t : TypeId} (h : W.heap[b]? = some (.cells #[u0, u1] t (0, 0))) (v0 v1 : Value) :
    ((W.setCell ⟨b, 0, none⟩ v0).setCell ⟨b, 1, none⟩ v1).heap[b]? = some (.cells #[v0, v1] t (0, 0)) :=
  set_at (set_at h v0) v1
theorem below_put3 {W0 W : World} {B b : Nat} (h : Below B W0 W) (hb : B ≤ b) (v0 v1 v2 : Value) : Below B W0 (((W.setCell ⟨b, 0, none⟩ v0).setCell ⟨b, 1, none⟩ v1).setCell ⟨b, 2, none⟩ v2) :=
  ((h.setCell (p := ⟨b, 0, none⟩) hb v0).setCell (p := ⟨b, 1, none⟩) hb v1).setCell (p := ⟨b, 2, none⟩) hb v2
theorem below_put2 {W0 W : World} {B b : Nat} (h : Below B W0 W) (hb : B ≤ b) (v0 v1 : Value) : Below B W0 ((W.setCell ⟨b, 0, none⟩ v0).setCell ⟨b, 1, none⟩ v1) :=
  (h.setCell (p := ⟨b, 0, none⟩) hb v0).setCell (p := ⟨b, 1, none⟩) hb v1
theorem three_at {W : World} {b : Nat} {v0 v1 v2 : Value} {t : TypeId} (h : W.heap[b]? = some (.cells #[v0, v1, v2] t (0, 0))) : W.cell? ⟨b, 0, none⟩ = some v0 ∧ W.cell? ⟨b, 1, none⟩ = some v1 ∧ W.cell? ⟨b, 2, none⟩ = some v2 := by
  refine ⟨?_, ?_, ?_⟩ <;> (rw [cell_row_ h]; rfl)
theorem two_at {W : World} {b : Nat} {v0 v1 : Value} {t : TypeId} (h : W.heap[b]? = some (.cells #[v0, v1] t (0, 0))) : W.cell? ⟨b, 0, none⟩ = some v0 ∧ W.cell? ⟨b, 1, none⟩ = some v1 := by
  refine ⟨?_, ?_⟩ <;> (rw [cell_row_ h]; rfl)
theorem free_at {W : World} {b : Nat} {cs : Array Value} {t : TypeId} (h : W.heap[b]? = some (.cells cs t (0, 0))) (o : Nat) : W.frozen? ⟨b, o, none⟩ = false := by simp [World.frozen?, h]

set_option maxRecDepth 4000 in
set_option maxHeartbeats 1600000 in
theorem RApart_any (A : Option Addr) (n c : Nat) (gs : List G) (x y : Int) (w : World) (h : Gs w w.heap.size A n c gs) (hok : Hid (OkAll gs)) (hx : -100 ≤ x ∧ x ≤ 100) (hy : -100 ≤ y ∧ y ≤ 100) :
    Calls Try.prog 49 #[.slice A n c, .agg #[.int .i64 x, .int .i64 y]] w fun e w' => e = .returned (apartV (firstOut x y gs)) ∧ Below w.heap.size w w' := by
  have hm := h.most; have hcap := h.cap
  have hl := hide h.len
  have H := hide h; clear h
  obtain ⟨W0, hW0⟩ : ∃ W0, W0 = (w.alloc (.cells #[.int .i64 x, .int .i64 y] 43)).alloc (.cells #[.int .i64 0, .int .i64 0, .int .i64 0] 56) := ⟨_, rfl⟩
  have HB0 := hide (show Below w.heap.size w W0 from by rw [hW0]; exact ((Below.refl _ w).alloc (Nat.le_refl _) _).alloc (by simp) _)
  have hs0 : W0.heap.size = w.heap.size + 1 + 1 := by rw [hW0]; simp
  have hx0 : W0.cell? ⟨w.heap.size, 0, none⟩ = some (.int .i64 x) := by
    rw [hW0]; exact (((Below.refl _ _).alloc (Nat.le_refl _) _).cell (p := ⟨w.heap.size, 0, none⟩) (by simp)).trans (cell_two w x y 43).1
  have hx1 : W0.cell? ⟨w.heap.size, 1, none⟩ = some (.int .i64 y) := by
    rw [hW0]; exact (((Below.refl _ _).alloc (Nat.le_refl _) _).cell (p := ⟨w.heap.size, 1, none⟩) (by simp)).trans (cell_two w x y 43).2
  have hr0 : W0.heap[w.heap.size + 1]? = some (.cells #[.int .i64 0, .int .i64 0, .int .i64 0] 56 (0, 0)) := by
    rw [hW0]; have := heap_new_ (w.alloc (.cells #[.int .i64 x, .int .i64 y] 43)) (.cells #[.int .i64 0, .int .i64 0, .int .i64 0] 56); rwa [World.size_alloc] at this
  go_enter Try.func49, Try.ntmps49
  go_wp2_with fail
  rw [← hW0]
  have HW := hide hW0; clear hW0
  go_loopw [10] (fun i wr => ∃ k : Nat, k ≤ n ∧ i = .int .i64 k ∧ Hid (∀ j, j < k → inS (gth gs j) x y 1 = true) ∧ Below W0.heap.size W0 wr) (fun i _ => n - (intOf i).toNat)
  case atStart => exact ⟨0, Nat.zero_le _, rfl, (fun j hj => by omega), Below.refl _ _⟩
  case round =>
    obtain ⟨k, hk, rfl, HE, hb⟩ := hrel
    have HB := hide hb; clear hb
    have hbs := (unhide HB).size
    have HBW := hide ((unhide HB0).trans ((unhide HB).mono (by omega)))
    by_cases hlt : k < n
    · have hkl : k < gs.length := by rw [hl.out]; exact hlt
      obtain ⟨b, off, rfl, hbb, e1, e2, e3⟩ := ((unhide H).below (unhide HBW)).at_ k hlt
      have hg := (okS_iff _).1 (hok.out _ (gth_mem hkl))
      have hyes := hide (fun hn => firstOut_yes (x := x) (y := y) hkl HE.out hn)
      revert hyes HE
      obtain ⟨⟨f, d, m⟩, hgk⟩ : ∃ f, gth gs k = f := ⟨_, rfl⟩
      have HGK := hide hgk
      rw [hgk] at e1 e2 e3 hg ⊢
      clear hgk
      simp only at e1 e2 e3 hg ⊢
      intro HE hyes
      have HI := hide hg
      have HB1 := hide ((unhide HBW).alloc (unhide HBW).size (.cells #[.int .i64 f, .int .i64 d, .int .i64 m] 56))
      have HB1' := hide ((unhide HB).alloc (unhide HB).size (.cells #[.int .i64 f, .int .i64 d, .int .i64 m] 56))
      have y0 := ((unhide HB1').cell (p := ⟨w.heap.size, 0, none⟩) (by simp only; omega)).trans hx0
      have y1 := ((unhide HB1').cell (p := ⟨w.heap.size, 1, none⟩) (by simp only; omega)).trans hx1
      clear hg
      rcases hq : inS (f, d, m) x y 1
      · have HQ := hide hq; clear hq
        have HF := hide (hyes.out HQ.out)
        go_wp2_with fail
        refine (keeps_any f d m x y 1 _ ⟨(unhide HI).1, (unhide HI).2.1, (unhide HI).2.2.2⟩ (by omega) (by omega) (by omega) _ HQ).mono ?_
        rintro r w1 ⟨rfl, b1⟩
        have b2 := (unhide HB1').trans (b1.mono (by simp; omega))
        have hr1 : w1.heap[w.heap.size + 1]? = some (.cells #[.int .i64 0, .int .i64 0, .int .i64 0] 56 (0, 0)) := (b2.block _ (by omega)).trans hr0
        have z0 : w1.cell? ⟨wr.heap.size, 0, none⟩ = some (.int .i64 f) := (b1.cell (p := ⟨wr.heap.size, 0, none⟩) (by simp)).trans (gth_alloc3 wr f d m 56).1
        have z1 : w1.cell? ⟨wr.heap.size, 1, none⟩ = some (.int .i64 d) := (b1.cell (p := ⟨wr.heap.size, 1, none⟩) (by simp)).trans (gth_alloc3 wr f d m 56).2.1
        have z2 : w1.cell? ⟨wr.heap.size, 2, none⟩ = some (.int .i64 m) := (b1.cell (p := ⟨wr.heap.size, 2, none⟩) (by simp)).trans (gth_alloc3 wr f d m 56).2.2
        have u0 : w1.cell? ⟨w.heap.size + 1, 0, none⟩ = some (.int .i64 0) := by rw [cell_row_ hr1]; rfl
        have u1 : w1.cell? ⟨w.heap.size + 1, 1, none⟩ = some (.int .i64 0) := by rw [cell_row_ hr1]; rfl
        have u2 : w1.cell? ⟨w.heap.size + 1, 2, none⟩ = some (.int .i64 0) := by rw [cell_row_ hr1]; rfl
        have hfr : ∀ o, w1.frozen? ⟨w.heap.size + 1, o, none⟩ = false := fun o => by simp [World.frozen?, hr1]
        have fr0 := hfr 0; have fr1 := hfr 1; have fr2 := hfr 2
        have HBf := hide ((unhide HB1).trans (b1.mono (unhide HB1).size))
        have HR1 := hide hr1
        clear b1 b2 hfr hr1
        go_wp2_with fail
        have HP := hide (put3 (unhide HR1) (.int .i64 f) (.int .i64 d) (.int .i64 m))
        have HBq := hide (below_put3 (unhide HBf) (b := w.heap.size + 1) (by omega) (.int .i64 f) (.int .i64 d) (.int .i64 m))
        obtain ⟨s0, s1, s2⟩ := three_at (unhide HP)
        refine bodyPost_ret (v := .tuple #[.agg #[.int .i64 f, .int .i64 d, .int .i64 m], .int .i64 0]) (by simp [results, Try.results49, go_sem, s0, s1, s2]) rfl ⟨?_, unhide HBq⟩
        rw [HF.out]; rfl
      · have HQ := hide hq; clear hq
        have HE2 := hide (show ∀ j, j < k + 1 → inS (gth gs j) x y 1 = true from fun j hj => by
          rcases Nat.lt_or_ge j k with h1 | h1
          · exact HE.out j h1
          · obtain rfl : j = k := by omega
            rw [HGK.out]; exact HQ.out)
        go_wp2_with fail
        refine (keeps_any f d m x y 1 _ ⟨(unhide HI).1, (unhide HI).2.1, (unhide HI).2.2.2⟩ (by omega) (by omega) (by omega) _ HQ).mono ?_
        rintro r w1 ⟨rfl, b1⟩
        have HB2 := hide ((unhide HB1').trans (b1.mono (by simp; omega)))
        clear b1
        go_wp2_with fail
        go_roundw
        case rel => exact ⟨k + 1, by omega, by go_num, HE2, unhide HB2⟩
        case measure => simp [intOf]; omega
    · obtain rfl : k = n := by omega
      have HF := hide (firstOut_no (x := x) (y := y) (gs := gs) (fun j hj => HE.out j (by rw [← hl.out]; exact hj)))
      have hr1 : wr.heap[w.heap.size + 1]? = some (.cells #[.int .i64 0, .int .i64 0, .int .i64 0] 56 (0, 0)) := ((unhide HB).block _ (by omega)).trans hr0
      obtain ⟨u0, u1, u2⟩ := three_at hr1
      have fr0 := free_at hr1 0; have fr1 := free_at hr1 1; have fr2 := free_at hr1 2
      have HR1 := hide hr1; clear hr1
      go_wp2_with fail
      have HP := hide (put3 (unhide HR1) (.int .i64 0) (.int .i64 0) (.int .i64 0))
      have HBq := hide (below_put3 (unhide HBW) (b := w.heap.size + 1) (by omega) (.int .i64 0) (.int .i64 0) (.int .i64 0))
      obtain ⟨s0, s1, s2⟩ := three_at (unhide HP)
      refine bodyPost_ret (v := .tuple #[.agg #[.int .i64 0, .int .i64 0, .int .i64 0], .int .i64 4]) (by simp [results, Try.results49, go_sem, s0, s1, s2]) rfl ⟨?_, unhide HBq⟩
      rw [HF.out]; rfl
end Go.Proofs.Ytccfhcoioakmpaa
