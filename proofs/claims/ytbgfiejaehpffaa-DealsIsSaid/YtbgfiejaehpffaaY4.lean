/-
  settle by halves; Halves of the program.
-/
import Derived.Test.YtbgfiejaehpffaaY3
namespace Go.Proofs.Ytbgfiejaehpffaa
open Go.RowKit

theorem ndB_iff (fs : List F) : ∀ k, k ≤ fs.length → (ndB fs k = true ↔ (fs.take k).Nodup)
  | 0, _ => by simp [ndB]
  | k + 1, h => by
    rw [ndB, take_succ (by omega), List.nodup_append, Bool.and_eq_true, ndB_iff fs k (by omega)]
    simp only [Bool.not_eq_true', List.any_eq_false, eqP, decide_eq_true_eq]
    constructor
    · rintro ⟨h1, h2⟩
      refine ⟨h1, by simp, ?_⟩
      intro a ha b hb
      simp at hb
      subst hb
      exact fun e => h2 a ha e.symm
    · rintro ⟨h1, _, h2⟩
      exact ⟨h1, fun a ha e => h2 a ha _ (by simp) e.symm⟩
structure Off (fs : List F) : Prop where
  pos : 1 ≤ fs.length
  most : fs.length ≤ 8
  pr : ∀ q, q ∈ fs → (0 ≤ q.1 ∧ q.1 ≤ 30) ∧ (0 ≤ q.2 ∧ q.2 ≤ 30)
  nd : fs.Nodup
theorem offB_iff (fs : List F) : offB fs = true ↔ Off fs := by
  unfold offB prsB
  simp only [Bool.and_eq_true, decide_eq_true_eq, List.all_eq_true]
  rw [ndB_iff fs fs.length (Nat.le_refl _), List.take_length]
  constructor
  · rintro ⟨⟨⟨h1, h2⟩, h3⟩, h4⟩
    exact ⟨h1, h2, fun q hq => (prB_iff q).1 (h3 q hq), h4⟩
  · rintro ⟨h1, h2, h3, h4⟩
    exact ⟨⟨⟨h1, h2⟩, fun q hq => (prB_iff q).2 (h3 q hq)⟩, h4⟩
theorem Off.small {fs : List F} (h : Off fs) : ∀ q, q ∈ fs → smallP 1000 q := fun q hq => by have := h.pr q hq; unfold smallP; omega

/-- What both gain at the corners, the limits there. -/
def gainsL (fs : List F) (f : F) : List F := (edgeR fs).map (subF f)
def limG (fs : List F) (f : F) : List G := limsF (gainsL fs f)
theorem gains_th (L : List F) (f : F) {k : Nat} (h : k < L.length) : fth (L.map (subF f)) k = subF f (fth L k) := fth_map _ _ _ h
theorem edgL_mem {fs : List F} {l : G} : ∀ {m : Nat}, l ∈ edgL fs m → ∃ k, k < m ∧ l = lim (fth fs k) (fth fs (k + 1))
  | 0, h => by simp [edgL] at h
  | m + 1, h => by
    rw [edgL, List.mem_append] at h
    rcases h with h | h
    · obtain ⟨k, hk, e⟩ := edgL_mem h; exact ⟨k, by omega, e⟩
    · exact ⟨m, by omega, by simpa using h⟩
theorem mem_edgL {fs : List F} {k : Nat} : ∀ {m : Nat}, k < m → lim (fth fs k) (fth fs (k + 1)) ∈ edgL fs m
  | 0, h => by omega
  | m + 1, h => by
    rw [edgL, List.mem_append]
    by_cases e : k = m
    · subst e; exact .inr (by simp)
    · exact .inl (mem_edgL (by omega))
theorem okL_lims {fs : List F} {L : List F} (hO : Off fs) (hC : Cor fs (fth L) L.length) (f : F) (hf : (0 ≤ f.1 ∧ f.1 ≤ 30) ∧ (0 ≤ f.2 ∧ f.2 ≤ 30)) : ∀ l, l ∈ limsF (L.map (subF f)) → okL l := by
  intro l hl
  have hlen : (L.map (subF f)).length = L.length := by simp
  have hpos := hC.pos
  have hb : ∀ k, k < L.length → (0 ≤ (fth L k).1 ∧ (fth L k).1 ≤ 30) ∧ (0 ≤ (fth L k).2 ∧ (fth L k).2 ≤ 30) := fun k hk => hO.pr _ (hC.mem k hk)
  unfold limsF lim2 at hl
  rw [hlen] at hl
  rcases List.mem_append.1 hl with hl | hl
  · have h0 := hb 0 hpos
    have h1 := hb (L.length - 1) (by omega)
    rw [gains_th L f hpos, gains_th L f (by omega)] at hl
    simp only [List.mem_cons, List.not_mem_nil, or_false] at hl
    rcases hl with rfl | rfl
    · simp only [okL, subF]; omega
    · simp only [okL, subF]; omega
  · obtain ⟨k, hk, rfl⟩ := edgL_mem hl
    have h0 := hb k (by omega)
    have h1 := hb (k + 1) (by omega)
    have hr := hC.rise k (by omega)
    rw [gains_th L f (by omega), gains_th L f (by omega)]
    generalize fth L k = p at h0 hr
    generalize fth L (k + 1) = q at h1 hr
    simp only [okL, lim, thA, thB, thC, subF]
    have e1 := mul_bd (a := p.2 - f.2 - (q.2 - f.2)) (b := p.1 - f.1) (M := 60) (N := 30) (by omega) (by omega)
    have e2 := mul_bd (a := q.1 - f.1 - (p.1 - f.1)) (b := p.2 - f.2) (M := 60) (N := 30) (by omega) (by omega)
    omega
theorem subF_small {L : List F} {f : F} (h : ∀ k, k < L.length → smallP 30 (fth L k)) (hf : smallP 30 f) : ∀ k, k < L.length → smallP 1000 (fth (L.map (subF f)) k) := by
  intro k hk
  rw [gains_th L f hk]
  have := h k hk
  unfold smallP subF at *
  simp only
  omega
def Z4 : Array Value := #[.int .i64 0, .int .i64 0, .int .i64 0, .int .i64 0]

set_option maxRecDepth 100000 in
set_option maxHeartbeats 8000000 in
theorem settle2_no1 (A : Option Addr) (n c : Nat) (fs : List F) (fx fy : Int) (w : World) (h : Fs w w.heap.size A n c fs) (hv : Hid (offB fs = false)) :
    Calls Try.prog 69 #[.int .i64 2, .slice A n c, .agg #[.int .i64 fx, .int .i64 fy]] w fun e w' => e = .returned (.tuple #[.agg #[.int .i64 0, .int .i64 0, .int .i64 0, .int .i64 0], .int .i64 2]) ∧ Below w.heap.size w w' := by
  obtain ⟨W0, hW0⟩ : ∃ W0, W0 = (w.alloc (.cells #[.int .i64 fx, .int .i64 fy] 30)).alloc (.cells #[.int .i64 0, .int .i64 0, .int .i64 0, .int .i64 0] 37) := ⟨_, rfl⟩
  have HB0 := hide (show Below w.heap.size w W0 from by rw [hW0]; exact ((Below.refl _ w).alloc (Nat.le_refl _) _).alloc (by simp) _)
  have HF0 := hide (show W0.heap[w.heap.size]? = some (.cells #[.int .i64 fx, .int .i64 fy] 30 (0, 0)) from by rw [hW0, Below.heap_alloc _ _ _ (by simp)]; exact heap_new_ w _)
  have HR0 := hide (show W0.heap[w.heap.size + 1]? = some (.cells #[.int .i64 0, .int .i64 0, .int .i64 0, .int .i64 0] 37 (0, 0)) from by
    rw [hW0]
    have := heap_new_ (w.alloc (.cells #[.int .i64 fx, .int .i64 fy] 30)) (.cells #[.int .i64 0, .int .i64 0, .int .i64 0, .int .i64 0] 37)
    rwa [World.size_alloc] at this)
  have HI0 := hide ((h.below (unhide HB0)).more (unhide HB0).size)
  have hW : (w.alloc (.cells #[.int .i64 fx, .int .i64 fy] 30)).alloc (.cells #[.int .i64 0, .int .i64 0, .int .i64 0, .int .i64 0] 37) = W0 := hW0.symm
  clear hW0 h
  have HA := hide (areOffers_any A n c fs W0 (unhide HI0) false hv)
  go_enter Try.func69, Try.ntmps69
  go_wp2_with fail
  refine (unhide HA).mono ?_
  rintro e w1 ⟨rfl, b1⟩
  have HB1 := hide ((unhide HB0).trans (b1.mono (unhide HB0).size))
  have HF1 := hide ((b1.block _ (Array.getElem?_eq_some_iff.1 (unhide HF0)).1).trans (unhide HF0))
  have HR1 := hide ((b1.block _ (Array.getElem?_eq_some_iff.1 (unhide HR0)).1).trans (unhide HR0))
  clear b1 hW
  have f0 := free_at (unhide HR1) 0; have f1 := free_at (unhide HR1) 1; have f2 := free_at (unhide HR1) 2; have f3 := free_at (unhide HR1) 3
  obtain ⟨q0, q1, q2, q3⟩ := four_at (unhide HR1)
  have HP := hide (put4 (unhide HR1) (.int .i64 0) (.int .i64 0) (.int .i64 0) (.int .i64 0))
  have HBz := hide (below_put4 (unhide HB1) (b := w.heap.size + 1) (by omega) (.int .i64 0) (.int .i64 0) (.int .i64 0) (.int .i64 0))
  go_wp2_with fail
  obtain ⟨s0, s1, s2, s3⟩ := four_at (unhide HP)
  exact bodyPost_ret (v := .tuple #[.agg #[.int .i64 0, .int .i64 0, .int .i64 0, .int .i64 0], .int .i64 2]) (by simp [results, Try.results69, go_sem, s0, s1, s2, s3]) rfl ⟨rfl, unhide HBz⟩

set_option maxRecDepth 100000 in
set_option maxHeartbeats 8000000 in
theorem settle2_no2 (A : Option Addr) (n c : Nat) (fs : List F) (fx fy : Int) (w : World) (h : Fs w w.heap.size A n c fs) (ho : Hid (offB fs = true)) (hv : Hid (prB (fx, fy) = false)) :
    Calls Try.prog 69 #[.int .i64 2, .slice A n c, .agg #[.int .i64 fx, .int .i64 fy]] w fun e w' => e = .returned (.tuple #[.agg #[.int .i64 0, .int .i64 0, .int .i64 0, .int .i64 0], .int .i64 2]) ∧ Below w.heap.size w w' := by
  obtain ⟨W0, hW0⟩ : ∃ W0, W0 = (w.alloc (.cells #[.int .i64 fx, .int .i64 fy] 30)).alloc (.cells #[.int .i64 0, .int .i64 0, .int .i64 0, .int .i64 0] 37) := ⟨_, rfl⟩
  have HB0 := hide (show Below w.heap.size w W0 from by rw [hW0]; exact ((Below.refl _ w).alloc (Nat.le_refl _) _).alloc (by simp) _)
  have HF0 := hide (show W0.heap[w.heap.size]? = some (.cells #[.int .i64 fx, .int .i64 fy] 30 (0, 0)) from by rw [hW0, Below.heap_alloc _ _ _ (by simp)]; exact heap_new_ w _)
  have HR0 := hide (show W0.heap[w.heap.size + 1]? = some (.cells #[.int .i64 0, .int .i64 0, .int .i64 0, .int .i64 0] 37 (0, 0)) from by
    rw [hW0]
    have := heap_new_ (w.alloc (.cells #[.int .i64 fx, .int .i64 fy] 30)) (.cells #[.int .i64 0, .int .i64 0, .int .i64 0, .int .i64 0] 37)
    rwa [World.size_alloc] at this)
  have HI0 := hide ((h.below (unhide HB0)).more (unhide HB0).size)
  have hW : (w.alloc (.cells #[.int .i64 fx, .int .i64 fy] 30)).alloc (.cells #[.int .i64 0, .int .i64 0, .int .i64 0, .int .i64 0] 37) = W0 := hW0.symm
  clear hW0 h
  have HA := hide (areOffers_any A n c fs W0 (unhide HI0) true ho)
  have HPr := hide (fun W => isPair_any fx fy W false hv)
  go_enter Try.func69, Try.ntmps69
  go_wp2_with fail
  refine (unhide HA).mono ?_
  rintro e w1 ⟨rfl, b1⟩
  have HB1 := hide ((unhide HB0).trans (b1.mono (unhide HB0).size))
  have HF1 := hide ((b1.block _ (Array.getElem?_eq_some_iff.1 (unhide HF0)).1).trans (unhide HF0))
  have HR1 := hide ((b1.block _ (Array.getElem?_eq_some_iff.1 (unhide HR0)).1).trans (unhide HR0))
  clear b1 hW
  obtain ⟨x0, x1⟩ := two_at (unhide HF1)
  go_wp2_with fail
  refine ((unhide HPr) _).mono ?_
  rintro e w2 ⟨rfl, b2⟩
  have HB2 := hide ((unhide HB1).trans (b2.mono (unhide HB1).size))
  have HF2 := hide ((b2.block _ (Array.getElem?_eq_some_iff.1 (unhide HF1)).1).trans (unhide HF1))
  have HR2 := hide ((b2.block _ (Array.getElem?_eq_some_iff.1 (unhide HR1)).1).trans (unhide HR1))
  clear b2 x0 x1
  have f0 := free_at (unhide HR2) 0; have f1 := free_at (unhide HR2) 1; have f2 := free_at (unhide HR2) 2; have f3 := free_at (unhide HR2) 3
  obtain ⟨q0, q1, q2, q3⟩ := four_at (unhide HR2)
  have HP := hide (put4 (unhide HR2) (.int .i64 0) (.int .i64 0) (.int .i64 0) (.int .i64 0))
  have HBz := hide (below_put4 (unhide HB2) (b := w.heap.size + 1) (by omega) (.int .i64 0) (.int .i64 0) (.int .i64 0) (.int .i64 0))
  go_wp2_with fail
  obtain ⟨s0, s1, s2, s3⟩ := four_at (unhide HP)
  exact bodyPost_ret (v := .tuple #[.agg #[.int .i64 0, .int .i64 0, .int .i64 0, .int .i64 0], .int .i64 2]) (by simp [results, Try.results69, go_sem, s0, s1, s2, s3]) rfl ⟨rfl, unhide HBz⟩

set_option maxRecDepth 100000 in
set_option maxHeartbeats 8000000 in
theorem settle2_none (A : Option Addr) (n c : Nat) (fs : List F) (fx fy : Int) (w : World) (h : Fs w w.heap.size A n c fs) (ho : Hid (offB fs = true)) (hv : Hid (prB (fx, fy) = true)) (hroom : Hid ((limG fs (fx, fy)).any noRoom = true)) :
    Calls Try.prog 69 #[.int .i64 2, .slice A n c, .agg #[.int .i64 fx, .int .i64 fy]] w fun e w' => e = .returned (.tuple #[.agg #[.int .i64 0, .int .i64 0, .int .i64 0, .int .i64 0], .int .i64 4]) ∧ Below w.heap.size w w' := by
  have HO := hide ((offB_iff fs).1 ho.out)
  have HLn := hide h.len
  obtain ⟨W0, hW0⟩ : ∃ W0, W0 = (w.alloc (.cells #[.int .i64 fx, .int .i64 fy] 30)).alloc (.cells #[.int .i64 0, .int .i64 0, .int .i64 0, .int .i64 0] 37) := ⟨_, rfl⟩
  have HB0 := hide (show Below w.heap.size w W0 from by rw [hW0]; exact ((Below.refl _ w).alloc (Nat.le_refl _) _).alloc (by simp) _)
  have HF0 := hide (show W0.heap[w.heap.size]? = some (.cells #[.int .i64 fx, .int .i64 fy] 30 (0, 0)) from by rw [hW0, Below.heap_alloc _ _ _ (by simp)]; exact heap_new_ w _)
  have HR0 := hide (show W0.heap[w.heap.size + 1]? = some (.cells #[.int .i64 0, .int .i64 0, .int .i64 0, .int .i64 0] 37 (0, 0)) from by
    rw [hW0]
    have := heap_new_ (w.alloc (.cells #[.int .i64 fx, .int .i64 fy] 30)) (.cells #[.int .i64 0, .int .i64 0, .int .i64 0, .int .i64 0] 37)
    rwa [World.size_alloc] at this)
  have HI0 := hide ((h.below (unhide HB0)).more (unhide HB0).size)
  have hW : (w.alloc (.cells #[.int .i64 fx, .int .i64 fy] 30)).alloc (.cells #[.int .i64 0, .int .i64 0, .int .i64 0, .int .i64 0] 37) = W0 := hW0.symm
  clear hW0 h
  have HA := hide (areOffers_any A n c fs W0 (unhide HI0) true ho)
  have HPr := hide (fun W => isPair_any fx fy W true hv)
  have HFv := hide ((prB_iff (fx, fy)).1 hv.out)
  go_enter Try.func69, Try.ntmps69
  go_wp2_with fail
  refine (unhide HA).mono ?_
  rintro e w1 ⟨rfl, b1⟩
  have HB1 := hide ((unhide HB0).trans (b1.mono (unhide HB0).size))
  have HF1 := hide ((b1.block _ (Array.getElem?_eq_some_iff.1 (unhide HF0)).1).trans (unhide HF0))
  have HR1 := hide ((b1.block _ (Array.getElem?_eq_some_iff.1 (unhide HR0)).1).trans (unhide HR0))
  have HI1 := hide (((unhide HI0).below b1).more b1.size)
  clear b1 hW
  obtain ⟨x0, x1⟩ := two_at (unhide HF1)
  go_wp2_with fail
  refine ((unhide HPr) _).mono ?_
  rintro e w2 ⟨rfl, b2⟩
  have HB2 := hide ((unhide HB1).trans (b2.mono (unhide HB1).size))
  have HF2 := hide ((b2.block _ (Array.getElem?_eq_some_iff.1 (unhide HF1)).1).trans (unhide HF1))
  have HR2 := hide ((b2.block _ (Array.getElem?_eq_some_iff.1 (unhide HR1)).1).trans (unhide HR1))
  have HI2 := hide (((unhide HI1).below b2).more b2.size)
  have HCo := hide (corners_any A n c fs w2 (unhide HI2) (by have := HO.out.pos; have := HLn.out; omega) (by have := HO.out.most; have := HLn.out; omega) (hide HO.out.small) (hide HO.out.nd))
  clear b2 x0 x1
  go_wp2_with fail
  refine (unhide HCo).mono ?_
  rintro e w3 ⟨v3, L, rfl, ho3, hc3, hl3, b3⟩
  have HB3 := hide ((unhide HB2).trans (b3.mono (unhide HB2).size))
  have HF3 := hide ((b3.block _ (Array.getElem?_eq_some_iff.1 (unhide HF2)).1).trans (unhide HF2))
  have HR3 := hide ((b3.block _ (Array.getElem?_eq_some_iff.1 (unhide HR2)).1).trans (unhide HR2))
  have HC3 := hide hc3
  have HEd := hide (show edgeR fs = L from hc3.list (fun q hq => by have := HO.out.pr q hq; omega))
  obtain ⟨A3, n3, c3, rfl, hf3⟩ := ho3.to
  have hn3 : L.length = n3 := hf3.len
  have HN3 := hide hn3
  have hpos3 := hc3.pos
  have HM8 := hide (show n3 ≤ 8 from by have := HO.out.most; have := HLn.out; omega)
  have HLb := hide (show ∀ k, k < L.length → smallP 30 (fth L k) from fun k hk => by have := HO.out.pr _ (hc3.mem k hk); unfold smallP; omega)
  have HEa := hide (each_any 82 #[.pointer (some ⟨w.heap.size, 0, none⟩)] (subF (fx, fy)) A3 n3 c3 L w3 hf3 (by have := HM8.out; omega) enter82 (by
    obtain ⟨x0, x1⟩ := two_at (unhide HF3)
    refine gain_map fx fy w.heap.size w3 L x0 x1 (fun q hq => ?_) (by have := HFv.out; unfold smallP; simp only at this ⊢; omega)
    obtain ⟨k, hk, rfl⟩ := mem_pth hq
    have := HLb.out k hk
    rw [pth_fth]
    unfold smallP at *; omega))
  clear b3 ho3 hc3 hl3 hf3
  go_wp2_with fail
  refine (unhide HEa).mono ?_
  rintro e w4 ⟨gb, hgb, rfl, hpb, b4⟩
  have HB4 := hide ((unhide HB3).trans (b4.mono (unhide HB3).size))
  have HF4 := hide ((b4.block _ (Array.getElem?_eq_some_iff.1 (unhide HF3)).1).trans (unhide HF3))
  have HR4 := hide ((b4.block _ (Array.getElem?_eq_some_iff.1 (unhide HR3)).1).trans (unhide HR3))
  have HG4 := hide (show Fs w4 w4.heap.size (some ⟨gb, 0, none⟩) n3 n3 (L.map (subF (fx, fy))) from by
    have := hpb.fs (m := n3) (c := n3) (B := w4.heap.size) (by simp; omega) (Nat.le_refl _) (by have := HM8.out; omega) hpb.lt
    rwa [List.take_of_length_le (by simp; omega)] at this)
  have HLi := hide (limits_any (some ⟨gb, 0, none⟩) n3 n3 (L.map (subF (fx, fy))) w4 (unhide HG4) (fun k hk => subF_small HLb.out (by have := HFv.out; unfold smallP; simp only at this ⊢; omega) k (by omega)) (by omega) (by have := HM8.out; omega))
  have HLG := hide (show limsF (L.map (subF (fx, fy))) = limG fs (fx, fy) from by unfold limG gainsL; rw [HEd.out])
  rw [HLG.out] at HLi
  clear b4 hpb hgb
  go_wp2_with fail
  refine (unhide HLi).mono ?_
  rintro e w5 ⟨v5, rfl, ho5, b5⟩
  have HB5 := hide ((unhide HB4).trans (b5.mono (unhide HB4).size))
  have HF5 := hide ((b5.block _ (Array.getElem?_eq_some_iff.1 (unhide HF4)).1).trans (unhide HF4))
  have HR5 := hide ((b5.block _ (Array.getElem?_eq_some_iff.1 (unhide HR4)).1).trans (unhide HR4))
  obtain ⟨A5, n5, c5, rfl, hg5⟩ := ho5.to
  have HGs5 := hide hg5
  have HRm := hide (isRoom_any A5 n5 c5 (limG fs (fx, fy)) w5 hg5 false (hide (by rw [hroom.out]; rfl)))
  clear b5 ho5 hg5
  go_wp2_with fail
  refine (unhide HRm).mono ?_
  rintro e w6 ⟨rfl, b6⟩
  have HB6 := hide ((unhide HB5).trans (b6.mono (unhide HB5).size))
  have HF6 := hide ((b6.block _ (Array.getElem?_eq_some_iff.1 (unhide HF5)).1).trans (unhide HF5))
  have HR6 := hide ((b6.block _ (Array.getElem?_eq_some_iff.1 (unhide HR5)).1).trans (unhide HR5))
  have HGs6 := hide (((unhide HGs5).below b6).more b6.size)
  clear b6 hn3 hpos3
  have f0 := free_at (unhide HR6) 0; have f1 := free_at (unhide HR6) 1; have f2 := free_at (unhide HR6) 2; have f3 := free_at (unhide HR6) 3
  obtain ⟨q0, q1, q2, q3⟩ := four_at (unhide HR6)
  have HP := hide (put4 (unhide HR6) (.int .i64 0) (.int .i64 0) (.int .i64 0) (.int .i64 0))
  have HBz := hide (below_put4 (unhide HB6) (b := w.heap.size + 1) (by omega) (.int .i64 0) (.int .i64 0) (.int .i64 0) (.int .i64 0))
  go_wp2_with fail
  obtain ⟨s0, s1, s2, s3⟩ := four_at (unhide HP)
  exact bodyPost_ret (v := .tuple #[.agg #[.int .i64 0, .int .i64 0, .int .i64 0, .int .i64 0], .int .i64 4]) (by simp [results, Try.results69, go_sem, s0, s1, s2, s3]) rfl ⟨rfl, unhide HBz⟩

set_option maxRecDepth 100000 in
set_option maxHeartbeats 16000000 in
theorem settle2_ok (A : Option Addr) (n c : Nat) (fs : List F) (fx fy : Int) (w : World) (h : Fs w w.heap.size A n c fs) (ho : Hid (offB fs = true)) (hv : Hid (prB (fx, fy) = true)) (hroom : Hid ((limG fs (fx, fy)).any noRoom = false))
    (r : Rat) (hr : Hid (IsMin 1 1 (limG fs (fx, fy)) r)) (un ud vn vd : Int) (hu : Hid (Fr (r + (fx : Rat)) un ud)) (hvv : Hid (Fr (r + (fy : Rat)) vn vd)) :
    Calls Try.prog 69 #[.int .i64 2, .slice A n c, .agg #[.int .i64 fx, .int .i64 fy]] w fun e w' => e = .returned (.tuple #[.agg #[.int .i64 un, .int .i64 ud, .int .i64 vn, .int .i64 vd], .int .i64 0]) ∧ Below w.heap.size w w' := by
  have HO := hide ((offB_iff fs).1 ho.out)
  have HLn := hide h.len
  obtain ⟨W0, hW0⟩ : ∃ W0, W0 = (w.alloc (.cells #[.int .i64 fx, .int .i64 fy] 30)).alloc (.cells #[.int .i64 0, .int .i64 0, .int .i64 0, .int .i64 0] 37) := ⟨_, rfl⟩
  have HB0 := hide (show Below w.heap.size w W0 from by rw [hW0]; exact ((Below.refl _ w).alloc (Nat.le_refl _) _).alloc (by simp) _)
  have HF0 := hide (show W0.heap[w.heap.size]? = some (.cells #[.int .i64 fx, .int .i64 fy] 30 (0, 0)) from by rw [hW0, Below.heap_alloc _ _ _ (by simp)]; exact heap_new_ w _)
  have HR0 := hide (show W0.heap[w.heap.size + 1]? = some (.cells #[.int .i64 0, .int .i64 0, .int .i64 0, .int .i64 0] 37 (0, 0)) from by
    rw [hW0]
    have := heap_new_ (w.alloc (.cells #[.int .i64 fx, .int .i64 fy] 30)) (.cells #[.int .i64 0, .int .i64 0, .int .i64 0, .int .i64 0] 37)
    rwa [World.size_alloc] at this)
  have HI0 := hide ((h.below (unhide HB0)).more (unhide HB0).size)
  have hW : (w.alloc (.cells #[.int .i64 fx, .int .i64 fy] 30)).alloc (.cells #[.int .i64 0, .int .i64 0, .int .i64 0, .int .i64 0] 37) = W0 := hW0.symm
  clear hW0 h
  have HA := hide (areOffers_any A n c fs W0 (unhide HI0) true ho)
  have HPr := hide (fun W => isPair_any fx fy W true hv)
  have HFv := hide ((prB_iff (fx, fy)).1 hv.out)
  go_enter Try.func69, Try.ntmps69
  go_wp2_with fail
  refine (unhide HA).mono ?_
  rintro e w1 ⟨rfl, b1⟩
  have HB1 := hide ((unhide HB0).trans (b1.mono (unhide HB0).size))
  have HF1 := hide ((b1.block _ (Array.getElem?_eq_some_iff.1 (unhide HF0)).1).trans (unhide HF0))
  have HR1 := hide ((b1.block _ (Array.getElem?_eq_some_iff.1 (unhide HR0)).1).trans (unhide HR0))
  have HI1 := hide (((unhide HI0).below b1).more b1.size)
  clear b1 hW
  obtain ⟨x0, x1⟩ := two_at (unhide HF1)
  go_wp2_with fail
  refine ((unhide HPr) _).mono ?_
  rintro e w2 ⟨rfl, b2⟩
  have HB2 := hide ((unhide HB1).trans (b2.mono (unhide HB1).size))
  have HF2 := hide ((b2.block _ (Array.getElem?_eq_some_iff.1 (unhide HF1)).1).trans (unhide HF1))
  have HR2 := hide ((b2.block _ (Array.getElem?_eq_some_iff.1 (unhide HR1)).1).trans (unhide HR1))
  have HI2 := hide (((unhide HI1).below b2).more b2.size)
  have HCo := hide (corners_any A n c fs w2 (unhide HI2) (by have := HO.out.pos; have := HLn.out; omega) (by have := HO.out.most; have := HLn.out; omega) (hide HO.out.small) (hide HO.out.nd))
  clear b2 x0 x1
  go_wp2_with fail
  refine (unhide HCo).mono ?_
  rintro e w3 ⟨v3, L, rfl, ho3, hc3, hl3, b3⟩
  have HB3 := hide ((unhide HB2).trans (b3.mono (unhide HB2).size))
  have HF3 := hide ((b3.block _ (Array.getElem?_eq_some_iff.1 (unhide HF2)).1).trans (unhide HF2))
  have HR3 := hide ((b3.block _ (Array.getElem?_eq_some_iff.1 (unhide HR2)).1).trans (unhide HR2))
  have HC3 := hide hc3
  have HEd := hide (show edgeR fs = L from hc3.list (fun q hq => by have := HO.out.pr q hq; omega))
  obtain ⟨A3, n3, c3, rfl, hf3⟩ := ho3.to
  have hn3 : L.length = n3 := hf3.len
  have HN3 := hide hn3
  have hpos3 := hc3.pos
  have HM8 := hide (show n3 ≤ 8 from by have := HO.out.most; have := HLn.out; omega)
  have HLb := hide (show ∀ k, k < L.length → smallP 30 (fth L k) from fun k hk => by have := HO.out.pr _ (hc3.mem k hk); unfold smallP; omega)
  have HEa := hide (each_any 82 #[.pointer (some ⟨w.heap.size, 0, none⟩)] (subF (fx, fy)) A3 n3 c3 L w3 hf3 (by have := HM8.out; omega) enter82 (by
    obtain ⟨x0, x1⟩ := two_at (unhide HF3)
    refine gain_map fx fy w.heap.size w3 L x0 x1 (fun q hq => ?_) (by have := HFv.out; unfold smallP; simp only at this ⊢; omega)
    obtain ⟨k, hk, rfl⟩ := mem_pth hq
    have := HLb.out k hk
    rw [pth_fth]
    unfold smallP at *; omega))
  clear b3 ho3 hc3 hl3 hf3
  go_wp2_with fail
  refine (unhide HEa).mono ?_
  rintro e w4 ⟨gb, hgb, rfl, hpb, b4⟩
  have HB4 := hide ((unhide HB3).trans (b4.mono (unhide HB3).size))
  have HF4 := hide ((b4.block _ (Array.getElem?_eq_some_iff.1 (unhide HF3)).1).trans (unhide HF3))
  have HR4 := hide ((b4.block _ (Array.getElem?_eq_some_iff.1 (unhide HR3)).1).trans (unhide HR3))
  have HG4 := hide (show Fs w4 w4.heap.size (some ⟨gb, 0, none⟩) n3 n3 (L.map (subF (fx, fy))) from by
    have := hpb.fs (m := n3) (c := n3) (B := w4.heap.size) (by simp; omega) (Nat.le_refl _) (by have := HM8.out; omega) hpb.lt
    rwa [List.take_of_length_le (by simp; omega)] at this)
  have HLi := hide (limits_any (some ⟨gb, 0, none⟩) n3 n3 (L.map (subF (fx, fy))) w4 (unhide HG4) (fun k hk => subF_small HLb.out (by have := HFv.out; unfold smallP; simp only at this ⊢; omega) k (by omega)) (by omega) (by have := HM8.out; omega))
  have HLG := hide (show limsF (L.map (subF (fx, fy))) = limG fs (fx, fy) from by unfold limG gainsL; rw [HEd.out])
  rw [HLG.out] at HLi
  clear b4 hpb hgb
  go_wp2_with fail
  refine (unhide HLi).mono ?_
  rintro e w5 ⟨v5, rfl, ho5, b5⟩
  have HB5 := hide ((unhide HB4).trans (b5.mono (unhide HB4).size))
  have HF5 := hide ((b5.block _ (Array.getElem?_eq_some_iff.1 (unhide HF4)).1).trans (unhide HF4))
  have HR5 := hide ((b5.block _ (Array.getElem?_eq_some_iff.1 (unhide HR4)).1).trans (unhide HR4))
  obtain ⟨A5, n5, c5, rfl, hg5⟩ := ho5.to
  have HGs5 := hide hg5
  have HRm := hide (isRoom_any A5 n5 c5 (limG fs (fx, fy)) w5 hg5 true (hide (by rw [hroom.out]; rfl)))
  clear b5 ho5 hg5
  go_wp2_with fail
  refine (unhide HRm).mono ?_
  rintro e w6 ⟨rfl, b6⟩
  have HB6 := hide ((unhide HB5).trans (b6.mono (unhide HB5).size))
  have HF6 := hide ((b6.block _ (Array.getElem?_eq_some_iff.1 (unhide HF5)).1).trans (unhide HF5))
  have HR6 := hide ((b6.block _ (Array.getElem?_eq_some_iff.1 (unhide HR5)).1).trans (unhide HR5))
  have HGs6 := hide (((unhide HGs5).below b6).more b6.size)
  clear b6 hn3 hpos3
  have hE0 := fun w => (show (binOp .eql 87 (.int .i64 2) (.int .i64 0)).run Try.prog w = .ok (.bool false) w from by kernel_rfl)
  have hE1 := fun w => (show (binOp .eql 87 (.int .i64 2) (.int .i64 1)).run Try.prog w = .ok (.bool false) w from by kernel_rfl)
  have hE2 := fun w => (show (binOp .eql 87 (.int .i64 2) (.int .i64 2)).run Try.prog w = .ok (.bool true) w from by kernel_rfl)
  obtain ⟨W7, hW7⟩ : ∃ W7, W7 = w6.alloc (.cells #[.int .i64 0, .int .i64 0, .int .i64 0, .int .i64 0] 37) := ⟨_, rfl⟩
  have hB7 : Below w6.heap.size w6 W7 := by rw [hW7]; exact (Below.refl _ _).alloc (Nat.le_refl _) _
  have HB7 := hide ((unhide HB6).trans (hB7.mono (unhide HB6).size))
  have HF7 := hide ((hB7.block _ (Array.getElem?_eq_some_iff.1 (unhide HF6)).1).trans (unhide HF6))
  have HR7 := hide ((hB7.block _ (Array.getElem?_eq_some_iff.1 (unhide HR6)).1).trans (unhide HR6))
  have HQ7 := hide (show W7.heap[w6.heap.size]? = some (.cells #[.int .i64 0, .int .i64 0, .int .i64 0, .int .i64 0] 37 (0, 0)) from by rw [hW7]; exact heap_new_ _ _)
  have HGs7 := hide (((unhide HGs6).below hB7).more hB7.size)
  have hW : w6.alloc (.cells #[.int .i64 0, .int .i64 0, .int .i64 0, .int .i64 0] 37) = W7 := hW7.symm
  have HGE := hide (show w.heap.size + 1 < w6.heap.size from (Array.getElem?_eq_some_iff.1 (unhide HR6)).1)
  clear hW7 hB7
  have HWh := hide (fun W => whole_any 1 W (by omega))
  have hone : Fr (1 : Rat) 1 1 := ⟨rfl, rfl⟩
  have hb1 : Bd 4000 60 (1 : Rat) := ⟨by decide, by decide⟩
  have hokl := okL_lims HO.out HC3.out (fx, fy) HFv.out
  rw [HLG.out] at hokl
  have hbr : Bd 14400000 28800000 r := by
    obtain ⟨l, hl, hp, e⟩ := hr.out.1
    rw [← e]; exact bd_v hb1 hb1 (hokl l hl) hp
  obtain ⟨rn, rd, hrf⟩ := exists_fr r
  have hrr : Fr ((1 : Rat) * r) rn rd := by rw [Rat.one_mul]; exact hrf
  have hn5 : n5 ≤ 1000 := by
    have h1 := (unhide HGs7).len
    have h2 : (limG fs (fx, fy)).length = 2 + ((edgeR fs).length - 1) := by unfold limG limsF gainsL; rw [List.length_append, edgL_len]; simp [lim2]
    have h3 := HM8.out; have h4 := HN3.out
    rw [HEd.out] at h2; omega
  have HLO := hide (fun W (hg : Gs W W.heap.size A5 n5 c5 (limG fs (fx, fy))) => lastOn_any 1 1 1 1 1 1 (hide hone) (hide hone) (hide hb1) (hide hb1) A5 n5 c5 (limG fs (fx, fy)) W hg (hide hokl) hn5 r hr rn rd rn rd (hide hrr) (hide hrr))
  have hfx : Bd 30 1 ((fx : Int) : Rat) := (Bd.int fx).mono (by have := HFv.out; (try simp only at this); omega) (Nat.le_refl 1)
  have hfy : Bd 30 1 ((fy : Int) : Rat) := (Bd.int fy).mono (by have := HFv.out; (try simp only at this); omega) (Nat.le_refl 1)
  have HWx := hide (fun W => whole_any fx W (by have := HFv.out; (try simp only at this); omega))
  have HWy := hide (fun W => whole_any fy W (by have := HFv.out; (try simp only at this); omega))
  have HPx := hide (fun W => plus_q W (hide hrf) (hide (fr_int fx)) (hide hbr) (hide hfx) (hide ⟨by decide, by decide, by decide⟩) (hide rfl) hu)
  have HPy := hide (fun W => plus_q W (hide hrf) (hide (fr_int fy)) (hide hbr) (hide hfy) (hide ⟨by decide, by decide, by decide⟩) (hide rfl) hvv)
  clear hone hb1 hokl hbr hrf hrr hn5 hfx hfy
  go_wp2_with fail
  refine ((unhide HWh) _).mono ?_
  rintro e w8 ⟨rfl, b8⟩
  clear hW
  have HB8 := hide ((unhide HB7).trans (b8.mono (unhide HB7).size))
  have HF8 := hide ((b8.block _ (Array.getElem?_eq_some_iff.1 (unhide HF7)).1).trans (unhide HF7))
  have HR8 := hide ((b8.block _ (Array.getElem?_eq_some_iff.1 (unhide HR7)).1).trans (unhide HR7))
  have HQ8 := hide ((b8.block _ (Array.getElem?_eq_some_iff.1 (unhide HQ7)).1).trans (unhide HQ7))
  have HGs8 := hide (((unhide HGs7).below b8).more b8.size)
  clear b8
  go_wp2_with fail
  refine ((unhide HWh) _).mono ?_
  rintro e w9 ⟨rfl, b9⟩
  have HB9 := hide ((unhide HB8).trans (b9.mono (unhide HB8).size))
  have HF9 := hide ((b9.block _ (Array.getElem?_eq_some_iff.1 (unhide HF8)).1).trans (unhide HF8))
  have HR9 := hide ((b9.block _ (Array.getElem?_eq_some_iff.1 (unhide HR8)).1).trans (unhide HR8))
  have HQ9 := hide ((b9.block _ (Array.getElem?_eq_some_iff.1 (unhide HQ8)).1).trans (unhide HQ8))
  have HGs9 := hide (((unhide HGs8).below b9).more b9.size)
  clear b9
  go_wp2_with fail
  refine ((unhide HLO) _ (unhide HGs9)).mono ?_
  rintro e wa ⟨rfl, ba⟩
  have HBa := hide ((unhide HB9).trans (ba.mono (unhide HB9).size))
  have HFa := hide ((ba.block _ (Array.getElem?_eq_some_iff.1 (unhide HF9)).1).trans (unhide HF9))
  have HRa := hide ((ba.block _ (Array.getElem?_eq_some_iff.1 (unhide HR9)).1).trans (unhide HR9))
  have hqa := (ba.block _ (Array.getElem?_eq_some_iff.1 (unhide HQ9)).1).trans (unhide HQ9)
  clear ba
  have f0 := free_at hqa 0; have f1 := free_at hqa 1; have f2 := free_at hqa 2; have f3 := free_at hqa 3
  obtain ⟨q0, q1, q2, q3⟩ := four_at hqa
  obtain ⟨Wb, hWb⟩ : ∃ Wb, Wb = (((wa.setCell ⟨w6.heap.size, 0, none⟩ (.int .i64 rn)).setCell ⟨w6.heap.size, 1, none⟩ (.int .i64 rd)).setCell ⟨w6.heap.size, 2, none⟩ (.int .i64 rn)).setCell ⟨w6.heap.size, 3, none⟩ (.int .i64 rd) := ⟨_, rfl⟩
  have hqb : Wb.heap[w6.heap.size]? = some (.cells #[.int .i64 rn, .int .i64 rd, .int .i64 rn, .int .i64 rd] 37 (0, 0)) := by rw [hWb]; exact put4 hqa _ _ _ _
  have hBb : Below w6.heap.size wa Wb := by rw [hWb]; exact below_put4 (Below.refl _ _) (Nat.le_refl _) _ _ _ _
  have HBb := hide ((unhide HBa).trans (hBb.mono (by have := HGE.out; omega)))
  have hfb := (hBb.block _ (by have := HGE.out; omega)).trans (unhide HFa)
  have HRb := hide ((hBb.block _ (by have := HGE.out; omega)).trans (unhide HRa))
  have HS := hide (show ∀ W', Below Wb.heap.size Wb W' → ((W'.cell? ⟨w.heap.size, 0, none⟩ = some (.int .i64 fx) ∧ W'.cell? ⟨w.heap.size, 1, none⟩ = some (.int .i64 fy)) ∧ (W'.cell? ⟨w6.heap.size, 0, none⟩ = some (.int .i64 rn) ∧ W'.cell? ⟨w6.heap.size, 1, none⟩ = some (.int .i64 rd) ∧ W'.cell? ⟨w6.heap.size, 2, none⟩ = some (.int .i64 rn) ∧ W'.cell? ⟨w6.heap.size, 3, none⟩ = some (.int .i64 rd))) from fun W' hb' =>
    ⟨two_at ((hb'.block _ (Array.getElem?_eq_some_iff.1 hfb).1).trans hfb), four_at ((hb'.block _ (Array.getElem?_eq_some_iff.1 hqb).1).trans hqb)⟩)
  have HWd := hide (show Below Wb.heap.size Wb Wb.drew from (Below.refl _ _).drew)
  have hWb' : (((wa.setCell ⟨w6.heap.size, 0, none⟩ (.int .i64 rn)).setCell ⟨w6.heap.size, 1, none⟩ (.int .i64 rd)).setCell ⟨w6.heap.size, 2, none⟩ (.int .i64 rn)).setCell ⟨w6.heap.size, 3, none⟩ (.int .i64 rd) = Wb := hWb.symm
  clear hWb hBb hqb hfb hqa
  go_upto_region 15 with fail
  clear hWb' f0 f1 f2 f3 q0 q1 q2 q3
  refine wp_region_quietT 13 (fun W' => Below Wb.heap.size Wb W') (by kernel_rfl) (by kernel_rfl) (unhide HWd) ?_
  simp only [List.take_succ_cons, List.take_zero, List.drop_succ_cons, List.drop_zero]
  repeat (first
    | go_big_quiet_skip
    | (go_big_quiet_want
       apply Exists.intro
       refine ⟨fun W hW => ?_, ?_⟩
       · obtain ⟨⟨k1, k2⟩, ⟨m1, m2, m3, m4⟩⟩ := (unhide HS) W hW
         go_simp
         first | rfl | ((with_reducible refine ((unhide HWx) W).mono ?_); exact fun _ _ h => ⟨h.1, hW.trans (h.2.mono hW.size)⟩) | ((with_reducible refine ((unhide HWy) W).mono ?_); exact fun _ _ h => ⟨h.1, hW.trans (h.2.mono hW.size)⟩) | ((with_reducible refine ((unhide HPx) W).mono ?_); exact fun _ _ h => ⟨h.1, hW.trans (h.2.mono hW.size)⟩) | ((with_reducible refine ((unhide HPy) W).mono ?_); exact fun _ _ h => ⟨h.1, hW.trans (h.2.mono hW.size)⟩)
       go_big_quiet_on
       simp only [Act.put, List.setIfInBounds_toArray, List.set_cons_zero, List.set_cons_succ]))
  refine wpQuiet_nil ?_
  intro wc hWc
  have HBc := hide ((unhide HBb).trans (hWc.mono (unhide HBb).size))
  have hr3 := (hWc.block _ (Array.getElem?_eq_some_iff.1 (unhide HRb)).1).trans (unhide HRb)
  clear hWc
  have f0 := free_at hr3 0; have f1 := free_at hr3 1; have f2 := free_at hr3 2; have f3 := free_at hr3 3
  obtain ⟨q0, q1, q2, q3⟩ := four_at hr3
  have HP := hide (put4 hr3 (.int .i64 un) (.int .i64 ud) (.int .i64 vn) (.int .i64 vd))
  have HBz := hide (below_put4 (unhide HBc) (b := w.heap.size + 1) (by omega) (.int .i64 un) (.int .i64 ud) (.int .i64 vn) (.int .i64 vd))
  clear hr3
  go_wp2_with fail
  obtain ⟨s0, s1, s2, s3⟩ := four_at (unhide HP)
  exact bodyPost_ret (v := .tuple #[.agg #[.int .i64 un, .int .i64 ud, .int .i64 vn, .int .i64 vd], .int .i64 0]) (by simp [results, Try.results69, go_sem, s0, s1, s2, s3]) rfl ⟨rfl, unhide HBz⟩
end Go.Proofs.Ytbgfiejaehpffaa
