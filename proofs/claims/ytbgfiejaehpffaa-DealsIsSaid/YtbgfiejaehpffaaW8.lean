/-
  Blocks of pairs that are known whole; each of the program, and what it is given.
-/
import Derived.Test.YtbgfiejaehpffaaW6
import Derived.Laws.MakeOwn
namespace Go.Proofs.Ytbgfiejaehpffaa
open Go.RowKit

/-- Block g holds just the fractions L. -/
def PB (w : World) (g : Nat) (t : TypeId) (L : List F) : Prop := w.heap[g]? = some (.cells (cells2_ L).toArray t (0, 0))
section
variable {w w' : World} {g : Nat} {t : TypeId} {L : List F}
theorem PB.lt (h : PB w g t L) : g < w.heap.size := (Array.getElem?_eq_some_iff.1 h).1
theorem PB.cell (h : PB w g t L) {k : Nat} (hk : k < L.length) : w.cell? ⟨g, k * 2, none⟩ = some (.int .i64 (fth L k).1) ∧ w.cell? ⟨g, k * 2 + 1, none⟩ = some (.int .i64 (fth L k).2) := by
  have := cells2_at L k hk
  rw [cell_row_ h, cell_row_ h]
  simpa using this
theorem PB.free (h : PB w g t L) (o : Nat) : w.frozen? ⟨g, o, none⟩ = false := free_at h o
theorem PB.below {B : Nat} (h : PB w g t L) (hb : Below B w w') (hg : g < B) : PB w' g t L := (hb.block g hg).trans h
theorem PB.drewN (h : PB w g t L) (n : Nat) : PB (w.drewN n) g t L := h
theorem cells2_set : ∀ (L : List F) (k : Nat) (a b : Int), k < L.length → cells2_ (L.set k (a, b)) = ((cells2_ L).set (k * 2) (.int .i64 a)).set (k * 2 + 1) (.int .i64 b) := by
  intro L
  induction L with
  | nil => intro k a b h; simp at h
  | cons f l ih =>
    intro k a b h
    rcases k with _ | k
    · rfl
    · rw [List.set_cons_succ, cells2_cons, cells2_cons, ih k a b (by simpa using h), show (k + 1) * 2 = k * 2 + 1 + 1 from by omega]
      rfl
theorem PB.put (h : PB w g t L) {k : Nat} (hk : k < L.length) (a b : Int) : PB ((w.setCell ⟨g, k * 2, none⟩ (.int .i64 a)).setCell ⟨g, k * 2 + 1, none⟩ (.int .i64 b)) g t (L.set k (a, b)) := by
  have := set_at (k := k * 2 + 1) (set_at (k := k * 2) h (.int .i64 a)) (.int .i64 b)
  unfold PB
  rw [cells2_set L k a b hk, this]
  simp
theorem PB.fs (h : PB w g t L) {m c B : Nat} (hm : m ≤ L.length) (hc : m ≤ c) (hc2 : c ≤ 9223372036854775807) (hB : g < B) : Fs w B (some ⟨g, 0, none⟩) m c (L.take m) :=
  ⟨by simp; omega, hc, hc2, (fun e => by cases e), fun k hk => ⟨g, 0, rfl, hB, by
    have e : fth (L.take m) k = fth L k := by simp [fth, List.getD, List.getElem?_take, hk]
    have := h.cell (k := k) (by omega)
    rw [Nat.zero_add, e]; exact this⟩⟩
end
theorem fth_set {L : List F} {k : Nat} (f : F) (h : k < L.length) : fth (L.set k f) k = f := by simp [fth, List.getD, h]
theorem fth_set_ne {L : List F} {k j : Nat} (f : F) (h : j ≠ k) : fth (L.set k f) j = fth L j := by
  simp only [fth, List.getD]
  rw [List.getElem?_set_ne (by omega)]
theorem below_set2 {W0 W : World} {B b : Nat} (h : Below B W0 W) (hb : B ≤ b) (o0 o1 : Nat) (v0 v1 : Value) : Below B W0 ((W.setCell ⟨b, o0, none⟩ v0).setCell ⟨b, o1, none⟩ v1) :=
  (h.setCell (p := ⟨b, o0, none⟩) hb v0).setCell (p := ⟨b, o1, none⟩) hb v1

theorem made2 (n : Nat) : (madeCells (Value.agg #[.int .i64 0, .int .i64 0]).cells (n * 2)) = (cells2_ (List.replicate n (0, 0))).toArray := by
  have e : cells2_ (List.replicate n (0, 0)) = List.replicate (n * 2) (Value.int .i64 0) := by
    induction n with
    | zero => rfl
    | succ n ih => rw [List.replicate_succ, cells2_cons, ih, show (n + 1) * 2 = n * 2 + 1 + 1 from by omega]; rfl
  rw [e]
  apply Array.toList_inj.1
  apply List.ext_getElem
  · simp [madeCells]
  · intro i h1 h2
    simp [madeCells, Value.cells]
    have : i % 2 = 0 ∨ i % 2 = 1 := by omega
    rcases this with h | h <;> rw [h] <;> rfl
theorem make30 (n : Nat) (hn : n ≤ 1000000) (W : World) : (Instr.makeSlice 22 (.int .i64 (n : Int)) (.int .i64 (n : Int))).run Try.prog W = .ok (.slice (some ⟨W.heap.size, 0, none⟩) n n) (W.alloc (.cells (cells2_ (List.replicate n (0, 0))).toArray 30)) := by
  obtain ⟨i0, h0, hz0, hz1, hz2⟩ := info_parts info30
  have := run_make (P := Try.prog) W 22 30 i0 _ Try.underlying22 h0 hz0 .i64 .i64 n n (by omega) (Int.le_refl _) (by rw [hz2]; omega) (by omega)
  rw [hz1] at this
  rw [← made2]
  simpa using this


theorem fth_map (f : F → F) (fs : List F) (k : Nat) (h : k < fs.length) : fth (fs.map f) k = f (fth fs k) := by simp [fth, List.getD, h]
theorem mem_fth {fs : List F} {k : Nat} (h : k < fs.length) : fth fs k ∈ fs := by simp [fth, List.getD, h]
/-- What each has done after k rounds. -/
def doneE (f : F → F) (fs : List F) (k : Nat) : List F := (fs.take k).map f ++ List.replicate (fs.length - k) (0, 0)
theorem doneE_len (f : F → F) (fs : List F) {k : Nat} (h : k ≤ fs.length) : (doneE f fs k).length = fs.length := by simp [doneE]; omega
theorem doneE_zero (f : F → F) (fs : List F) : doneE f fs 0 = List.replicate fs.length (0, 0) := by simp [doneE]
theorem doneE_all (f : F → F) (fs : List F) : doneE f fs fs.length = fs.map f := by simp [doneE]
theorem doneE_set (f : F → F) (fs : List F) {k : Nat} (h : k < fs.length) : (doneE f fs k).set k (f (fth fs k)) = doneE f fs (k + 1) := by
  apply List.ext_getElem
  · rw [List.length_set, doneE_len f fs (Nat.le_of_lt h), doneE_len f fs h]
  · intro i h1 h2
    rw [List.length_set, doneE_len f fs (Nat.le_of_lt h)] at h1
    rw [List.getElem_set]
    simp only [doneE]
    by_cases e : k = i
    · subst e
      rw [if_pos rfl, List.getElem_append_left (by simp; omega)]
      simp [fth, List.getD, h]
    · rw [if_neg e]
      by_cases hl : i < k
      · rw [List.getElem_append_left (by simp; omega), List.getElem_append_left (by simp; omega)]; simp
      · rw [List.getElem_append_right (by simp; omega), List.getElem_append_right (by simp; omega)]; simp

/-- The function value maps x to f x, in whatever world behind w. -/
def MapAt (g : Nat) (cb : Array Value) (f : F → F) (w : World) (L : List F) : Prop :=
  ∀ (x : F) (W : World), x ∈ L → Below w.heap.size w W → Calls Try.prog g (#[.agg #[.int .i64 x.1, .int .i64 x.2]] ++ cb) W fun e W' => e = .returned (.agg #[.int .i64 (f x).1, .int .i64 (f x).2]) ∧ Below W.heap.size W W'

set_option maxRecDepth 100000 in
set_option maxHeartbeats 3200000 in
theorem each_any (g : Nat) (cb : Array Value) (f : F → F) (A : Option Addr) (n c : Nat) (fs : List F) (w : World) (h : Fs w w.heap.size A n c fs) (hn : n ≤ 100000)
    (eg : ∀ args w, (callFunc g args).run Try.prog w = .ok (.enter g args) w) (hf : MapAt g cb f w fs) :
    Calls Try.prog 64 #[.slice A n c, .func (.func g) #[] cb] w fun e w' => ∃ b, w.heap.size ≤ b ∧ e = .returned (.slice (some ⟨b, 0, none⟩) n n) ∧ PB w' b 30 (fs.map f) ∧ Below w.heap.size w w' := by
  have hm := h.most; have hcap := h.cap
  have HI := hide h
  have HL := hide h.len
  have HF := hide hf
  clear h hf
  obtain ⟨W0, hW0⟩ : ∃ W0, W0 = w.alloc (.cells (cells2_ (List.replicate n (0, 0))).toArray 30) := ⟨_, rfl⟩
  have HB0 := hide (show Below w.heap.size w W0 from by rw [hW0]; exact (Below.refl _ w).alloc (Nat.le_refl _) _)
  have HP0 := hide (show PB W0 w.heap.size 30 (doneE f fs 0) from by rw [hW0, doneE_zero, HL.out]; exact heap_new_ w _)
  have hmk := make30 n (by omega) w
  rw [← hW0] at hmk
  clear hW0
  go_enter Try.func64, Try.ntmps64
  go_wp2_with fail
  clear hmk
  go_loopw [6, 7, 13] (fun _ _ i wr => ∃ k : Nat, k ≤ n ∧ i = .int .i64 k ∧ Hid (PB wr w.heap.size 30 (doneE f fs k)) ∧ Hid (Below w.heap.size w wr)) (fun _ _ i _ => n - (intOf i).toNat)
  case atStart => exact ⟨0, Nat.zero_le _, rfl, HP0, HB0⟩
  case round =>
    obtain ⟨k, hk, rfl, HP, HB⟩ := hrel
    by_cases hlt : k < n
    · obtain ⟨bb, off, rfl, hbb, hc1, hc2⟩ := ((unhide HI).below (unhide HB)).at_ k hlt
      have hx := mem_fth (fs := fs) (k := k) (by rw [HL.out]; exact hlt)
      have hds := doneE_set f fs (k := k) (by rw [HL.out]; exact hlt)
      obtain ⟨⟨u, v⟩, e⟩ : ∃ p, fth fs k = p := ⟨_, rfl⟩
      rw [e] at hx hc1 hc2 hds
      clear e
      simp only at hc1 hc2
      have hfc := fun W hW => (unhide HF) (u, v) W hx hW
      simp only at hfc
      obtain ⟨⟨s, t⟩, e⟩ : ∃ p, f (u, v) = p := ⟨_, rfl⟩
      rw [e] at hfc hds
      clear e
      simp only at hfc
      have HFC := hide hfc
      have HDS := hide hds
      clear hfc hx hds
      obtain ⟨W1, hW1⟩ : ∃ W1, W1 = wr.alloc (.cells #[.int .i64 u, .int .i64 v] 30) := ⟨_, rfl⟩
      have hB1 : Below wr.heap.size wr W1 := by rw [hW1]; exact (Below.refl _ _).alloc (Nat.le_refl _) _
      obtain ⟨v0, v1⟩ := two_at (show W1.heap[wr.heap.size]? = some (.cells #[.int .i64 u, .int .i64 v] 30 (0, 0)) from by rw [hW1]; exact heap_new_ _ _)
      have HB1 := hide ((unhide HB).trans (hB1.mono (unhide HB).size))
      have HP1 := hide ((unhide HP).below hB1 (unhide HP).lt)
      have hW : wr.alloc (.cells #[.int .i64 u, .int .i64 v] 30) = W1 := hW1.symm
      clear hW1 hB1
      go_upto_region 5 with fail
      clear hW hc1 hc2
      go_wp2_with fail
      refine ((unhide HFC) W1 (unhide HB1)).mono ?_
      rintro e w2 ⟨rfl, b2⟩
      have HP2 := hide ((unhide HP1).below b2 (unhide HP1).lt)
      have HB2 := hide ((unhide HB1).trans (b2.mono (unhide HB1).size))
      clear b2 v0 v1
      have hkl : k < (doneE f fs k).length := by rw [doneE_len f fs (by rw [HL.out]; exact hk), HL.out]; exact hlt
      obtain ⟨p0, p1⟩ := (unhide HP2).cell hkl
      have f0 := (unhide HP2).free (k * 2); have f1 := (unhide HP2).free (k * 2 + 1)
      have HP3 := hide ((unhide HP2).put hkl s t)
      rw [HDS.out] at HP3
      have HB3 := hide (below_set2 (unhide HB2) (Nat.le_refl w.heap.size) (k * 2) (k * 2 + 1) (.int .i64 s) (.int .i64 t))
      clear hkl
      go_wp2_with fail
      go_roundw
      case rel => exact ⟨k + 1, by omega, by go_num, HP3, HB3⟩
      case measure => simp [intOf]; omega
    · have HP3 := hide (show PB wr w.heap.size 30 (fs.map f) from by rw [← doneE_all, HL.out, show n = k by omega]; exact unhide HP)
      go_wp2_with fail
      go_ret
      exact ⟨_, Nat.le_refl _, rfl, unhide HP3, unhide HB⟩
end Go.Proofs.Ytbgfiejaehpffaa
