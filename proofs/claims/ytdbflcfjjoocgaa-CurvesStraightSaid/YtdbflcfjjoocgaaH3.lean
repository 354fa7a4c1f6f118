/-
  fracs of the program.
-/
import Derived.Test.YtdbflcfjjoocgaaH2
namespace Go.Proofs.Ytdbflcfjjoocgaa
open Go.RowKit

/-- L up to k, then zeros. -/
def partQ (L : List F) (k : Nat) : List F := (List.range L.length).map fun j => if j < k then fth L j else (0, 0)
theorem partQ_len (L : List F) (k : Nat) : (partQ L k).length = L.length := by simp [partQ]
theorem partQ_0 (L : List F) : partQ L 0 = List.replicate L.length (0, 0) := by
  apply List.ext_getElem <;> simp [partQ]
theorem partQ_set (L : List F) {k : Nat} : (partQ L k).set k (fth L k) = partQ L (k + 1) := by
  apply List.ext_getElem
  · simp [partQ]
  · intro i h1 h2
    rw [List.getElem_set]
    simp only [partQ, List.getElem_map, List.getElem_range]
    by_cases e : k = i
    · subst e; simp
    · rw [if_neg e]
      by_cases h : i < k
      · rw [if_pos h, if_pos (by omega)]
      · rw [if_neg h, if_neg (by omega)]
theorem partQ_all (L : List F) : partQ L L.length = L := by
  apply List.ext_getElem
  · simp [partQ]
  · intro i h1 h2
    simp [partQ, h2, fth, List.getD]

set_option maxRecDepth 100000 in
set_option maxHeartbeats 2000000 in
theorem fracs_any (A : Option Addr) (n c : Nat) (L : List F) (w : World) (h : Fs w w.heap.size A n c L) (hn : n ≤ 1000) :
    Calls Try.prog 49 #[.slice A n c] w fun e w' => e = .returned (.slice (some ⟨w.heap.size, 0, none⟩) n n) ∧ PB w' w.heap.size 26 L ∧ Below w.heap.size w w' := by
  have hm := h.most; have hcap := h.cap
  have hl := hide h.len
  have H := hide h; clear h
  have hmk := make26 n (by omega)
  go_enter Try.func49, Try.ntmps49
  go_upto_region 2 with fail
  clear hmk
  have HPB := hide (show PB (w.alloc (.cells (cells2_ (List.replicate n (0, 0))).toArray 26)) w.heap.size 26 (partQ L 0) from by rw [partQ_0, hl.out]; exact heap_new_ w _)
  have HB1 := hide (show Below w.heap.size w (w.alloc (.cells (cells2_ (List.replicate n (0, 0))).toArray 26)) from (Below.refl _ _).alloc (Nat.le_refl _) _)
  generalize w.alloc (.cells (cells2_ (List.replicate n (0, 0))).toArray 26) = W1 at HPB HB1 ⊢
  go_wp2_with fail
  go_loopw [4, 5, 11] (fun _ _ i wr => ∃ k : Nat, k ≤ n ∧ i = .int .i64 k ∧ PB wr w.heap.size 26 (partQ L k) ∧ Below w.heap.size w wr) (fun _ _ i _ => n - (intOf i).toNat)
  case atStart => exact ⟨0, Nat.zero_le _, rfl, unhide HPB, unhide HB1⟩
  case round =>
    obtain ⟨k, hk, rfl, hpb, hb⟩ := hrel
    have HPK := hide hpb; have HBK := hide hb
    clear hpb hb HPB HB1
    by_cases hlt : k < n
    · have HST := hide (partQ_set L (k := k))
      have hkl : k < L.length := by rw [hl.out]; exact hlt
      obtain ⟨b1, off, rfl, hbb, e1, e2⟩ := ((unhide H).below (unhide HBK)).at_ k hlt
      obtain ⟨⟨u, v⟩, hgk⟩ : ∃ f, fth L k = f := ⟨_, rfl⟩
      rw [hgk] at e1 e2
      simp only at e1 e2
      have HG := hide hgk; clear hgk
      have hw := (unhide HPK).lt
      have hpa : PB (wr.alloc (.cells #[.int .i64 u, .int .i64 v] 81)) w.heap.size 26 (partQ L k) := (unhide HPK).below ((Below.refl _ _).alloc (Nat.le_refl _) _) hw
      have HBa := hide ((unhide HBK).alloc (unhide HBK).size (.cells #[.int .i64 u, .int .i64 v] 81))
      obtain ⟨q0, q1⟩ := hpa.cell (k := k) (by rw [partQ_len]; exact hkl)
      have f0 := hpa.free (k * 2); have f1 := hpa.free (k * 2 + 1)
      have HP3 := hide (show PB _ w.heap.size 26 (partQ L (k + 1)) from by have := hpa.put (k := k) (by rw [partQ_len]; exact hkl) u v; rw [← HG.out, HST.out] at this; exact this)
      have HB3 := hide (below_set2 (unhide HBa) (b := w.heap.size) (Nat.le_refl _) (k * 2) (k * 2 + 1) (.int .i64 u) (.int .i64 v))
      clear hpa hkl hw
      go_wp2_with fail
      go_roundw
      case rel => exact ⟨k + 1, by omega, by go_num, unhide HP3, unhide HB3⟩
      case measure => simp [intOf]; omega
    · obtain rfl : n = k := by omega
      have HF := hide (show partQ L n = L from by rw [← hl.out]; exact partQ_all L)
      go_wp2_with fail
      go_ret
      exact ⟨rfl, by rw [← HF.out]; exact unhide HPK, unhide HBK⟩
end Go.Proofs.Ytdbflcfjjoocgaa
