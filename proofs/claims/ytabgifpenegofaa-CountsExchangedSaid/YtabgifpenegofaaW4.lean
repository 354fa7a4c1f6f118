/-
  Keys: arrays of three lines; keyOf of the program.
-/
import Derived.Test.YtabgifpenegofaaW3
namespace Go.Proofs.Ytabgifpenegofaa
open Go.RowKit

/-- An array of three lines. -/
def kyA (K : Nat → Nat → Int) : Array Value := #[.int .i64 (K 0 0), .int .i64 (K 0 1), .int .i64 (K 0 2), .int .i64 (K 1 0), .int .i64 (K 1 1), .int .i64 (K 1 2), .int .i64 (K 2 0), .int .i64 (K 2 1), .int .i64 (K 2 2)]
theorem kyA_at (K : Nat → Nat → Int) (i j : Nat) (hi : i < 3) (hj : j < 3) : (kyA K)[i * 3 + j]? = some (.int .i64 (K i j)) := by
  rcases (show i = 0 ∨ i = 1 ∨ i = 2 by omega) with rfl | rfl | rfl <;> rcases (show j = 0 ∨ j = 1 ∨ j = 2 by omega) with rfl | rfl | rfl <;> rfl
theorem kyA_at0 (K : Nat → Nat → Int) (i : Nat) (hi : i < 3) : (kyA K)[i * 3]? = some (.int .i64 (K i 0)) := by
  rcases (show i = 0 ∨ i = 1 ∨ i = 2 by omega) with rfl | rfl | rfl <;> rfl
theorem kyA_size (K : Nat → Nat → Int) : (kyA K).size = 9 := rfl
theorem kyA_ext {K L : Nat → Nat → Int} (h : ∀ i j, i < 3 → j < 3 → K i j = L i j) : kyA K = kyA L := by
  unfold kyA
  rw [h 0 0 (by omega) (by omega), h 0 1 (by omega) (by omega), h 0 2 (by omega) (by omega), h 1 0 (by omega) (by omega), h 1 1 (by omega) (by omega), h 1 2 (by omega) (by omega), h 2 0 (by omega) (by omega), h 2 1 (by omega) (by omega), h 2 2 (by omega) (by omega)]
theorem kyA_all (K : Nat → Nat → Int) : (kyA K).all (·.oneCell') = true := by simp [kyA, Value.oneCell']
theorem info79 (K : Nat → Nat → Int) : (Try.prog.info? 79).map (·.size) = some (kyA K).size := by rw [kyA_size]; kernel_rfl
theorem kyA_row (K : Nat → Nat → Int) (i : Nat) (hi : i < 3) : (kyA K).extract (i * 3) (i * 3 + 3) = lnA (K i) := by
  rcases (show i = 0 ∨ i = 1 ∨ i = 2 by omega) with rfl | rfl | rfl <;> rfl
theorem kyA_set (K L : Nat → Nat → Int) (i j : Nat) (v : Int) (hi : i < 3) (hj : j < 3) (hv : v = L i j) (h : ∀ a b, ¬ (a = i ∧ b = j) → L a b = K a b) : (kyA K).setIfInBounds (i * 3 + j) (.int .i64 v) = kyA L := by
  subst hv
  apply Array.ext_getElem?
  intro p
  rw [Array.getElem?_setIfInBounds]
  by_cases hp : p < 9
  · obtain ⟨a, b, ha, hb, rfl⟩ : ∃ a b, a < 3 ∧ b < 3 ∧ p = a * 3 + b := ⟨p / 3, p % 3, by omega, by omega, by omega⟩
    rw [kyA_at K a b ha hb, kyA_at L a b ha hb]
    by_cases e : i * 3 + j = a * 3 + b
    · obtain rfl : i = a := by omega
      obtain rfl : j = b := by omega
      rw [if_pos rfl, if_pos (by rw [kyA_size]; omega)]
    · rw [if_neg e, h a b (by omega)]
  · rw [if_neg (by omega), Array.getElem?_eq_none (by rw [kyA_size]; omega), Array.getElem?_eq_none (by rw [kyA_size]; omega)]
theorem kyA_put (K L : Nat → Nat → Int) (i : Nat) (f : Nat → Int) (hi : i < 3) (hv : ∀ j, j < 3 → L i j = f j) (h : ∀ a b, a ≠ i → L a b = K a b) :
    (((kyA K).setIfInBounds (i * 3) (.int .i64 (f 0))).setIfInBounds (i * 3 + 1) (.int .i64 (f 1))).setIfInBounds (i * 3 + 2) (.int .i64 (f 2)) = kyA L := by
  have e1 := kyA_set K (fun a b => if a = i ∧ b = 0 then f 0 else K a b) i 0 (f 0) hi (by omega) (by simp) (fun a b hab => by simp [hab])
  have e2 := kyA_set (fun a b => if a = i ∧ b = 0 then f 0 else K a b) (fun a b => if a = i ∧ b = 1 then f 1 else if a = i ∧ b = 0 then f 0 else K a b) i 1 (f 1) hi (by omega) (by simp) (fun a b hab => by simp [hab])
  have e3 := kyA_set (fun a b => if a = i ∧ b = 1 then f 1 else if a = i ∧ b = 0 then f 0 else K a b) (fun a b => if a = i ∧ b = 2 then f 2 else if a = i ∧ b = 1 then f 1 else if a = i ∧ b = 0 then f 0 else K a b) i 2 (f 2) hi (by omega) (by simp) (fun a b hab => by simp [hab])
  rw [Nat.add_zero] at e1
  rw [e1, e2, e3]
  apply kyA_ext
  intro a b ha hb
  by_cases e : a = i
  · subst e
    rw [hv b hb]
    rcases (show b = 0 ∨ b = 1 ∨ b = 2 by omega) with rfl | rfl | rfl <;> simp
  · rw [h a b e]; simp [e]
theorem kyA_zero : (#[.int .i64 0, .int .i64 0, .int .i64 0, .int .i64 0, .int .i64 0, .int .i64 0, .int .i64 0, .int .i64 0, .int .i64 0] : Array Value) = kyA fun _ _ => 0 := rfl
/-- The first k rows of a table. -/
def upTo (K : Nat → Nat → Int) (k i j : Nat) : Int := if i < k then K i j else 0

set_option maxRecDepth 100000 in
set_option maxHeartbeats 1000000 in
theorem keyOf_any (A : Option Addr) (n c m : Nat) (t : List (List Int)) (w : World) (h : Rows_ w w.heap.size A n c t) (ht : Hid (Tb t n m)) :
    Calls Try.prog 72 #[.slice A n c] w fun e w' => e = .returned (.agg (kyA (at2 t))) ∧ Below w.heap.size w w' := by
  have hm := h.most; have hcap := h.cap
  have hl := hide h.len
  have n1 := ht.out.n1; have n3 := ht.out.n3
  obtain ⟨b, off, rfl⟩ := h.addr (show 0 < n by omega)
  have hz := hide kyA_zero
  have HI := hide (info79 (at2 t))
  have HA := hide (kyA_all (at2 t))
  obtain ⟨W0, hW0⟩ : ∃ W0, W0 = (w.alloc (.cells (kyA fun _ _ => 0) 79)).alloc (.cells (kyA fun _ _ => 0) 79) := ⟨_, rfl⟩
  have HB0 := hide (show Below w.heap.size w W0 from by rw [hW0]; exact ((Below.refl _ w).alloc (Nat.le_refl _) _).alloc (by simp) _)
  have HR := hide (show Blk W0 w.heap.size 79 (kyA fun _ _ => 0) from by rw [hW0]; exact (Blk.new _ _ _).alloc _)
  have HL := hide (show Blk W0 (w.heap.size + 1) 79 (kyA fun _ _ => 0) from by
    rw [hW0]
    have := Blk.new (w.alloc (.cells (kyA fun _ _ => 0) 79)) 79 (kyA fun _ _ => 0)
    simpa using this)
  go_enter Try.func72, Try.ntmps72
  go_upto_region 2 with fail
  rw [hz.out, ← hW0]
  clear hW0
  go_wp2_with fail
  go_loopw [4, 5, 8] (fun _ _ i wr => ∃ k : Nat, k ≤ n ∧ i = .int .i64 k ∧ Hid (Blk wr w.heap.size 79 (kyA fun _ _ => 0)) ∧ Hid (Blk wr (w.heap.size + 1) 79 (kyA (upTo (at2 t) k))) ∧ Hid (Below w.heap.size w wr)) (fun _ _ i _ => n - (intOf i).toNat)
  case atStart => exact ⟨0, Nat.zero_le _, rfl, HR, hide (by rw [kyA_ext (L := fun _ _ => 0) (fun i j _ _ => by simp [upTo])]; exact unhide HL), HB0⟩
  case round =>
    obtain ⟨k, hk, rfl, HRk, HLk, HBk⟩ := hrel
    by_cases hlt : k < n
    · have hr := h.below (unhide HBk)
      obtain ⟨A1, n1', c1, hc1, hi1⟩ := hr.get hlt
      have L1 := hide hi1.len
      have hn1 : n1' ≤ 3 := by have := L1.out; have := ht.out.rows k hlt; have := ht.out.m3; omega
      have hi1' := hi1.more (unhide HBk).size
      clear hr hi1
      go_wp2_with fail
      refine (lineOf_any _ _ _ _ _ hi1' hn1).mono ?_
      rintro e w2 ⟨rfl, b2⟩
      have HB2 := hide ((unhide HBk).trans (b2.mono (unhide HBk).size))
      have HR2 := hide ((unhide HRk).below b2 (unhide HRk).lt)
      have HL2 := hide ((unhide HLk).below b2 (unhide HLk).lt)
      clear b2
      have c0 := (unhide HL2).cell (k * 3); have c1 := (unhide HL2).cell (k * 3 + 1); have c2 := (unhide HL2).cell (k * 3 + 2)
      have f0 := (unhide HL2).frozen (k * 3); have f1 := (unhide HL2).frozen (k * 3 + 1); have f2 := (unhide HL2).frozen (k * 3 + 2)
      rw [kyA_at0 _ k (by omega)] at c0
      rw [kyA_at _ k 1 (by omega) (by omega)] at c1
      rw [kyA_at _ k 2 (by omega) (by omega)] at c2
      rw [show lnA (nth (row t k)) = #[.int .i64 (at2 t k 0), .int .i64 (at2 t k 1), .int .i64 (at2 t k 2)] from rfl]
      have HP := hide (kyA_put (upTo (at2 t) k) (upTo (at2 t) (k + 1)) k (at2 t k) (by omega) (fun j _ => by simp [upTo]) (fun a b hab => by
        unfold upTo
        by_cases e : a < k
        · rw [if_pos e, if_pos (by omega)]
        · rw [if_neg e, if_neg (by omega)]))
      go_wp2_with fail
      go_roundw
      case rel =>
        refine ⟨k + 1, by omega, by go_num, hide (((unhide HR2).far (by simp) _).far (by simp) _ |>.far (by simp) _), hide ?_, hide ((((unhide HB2).setCell (by simp) _).setCell (by simp) _).setCell (by simp) _)⟩
        rw [← HP.out]
        exact (((unhide HL2).set_ _ _).set_ _ _).set_ _ _
      case measure => simp [intOf]; omega
    · have HE := hide (show kyA (upTo (at2 t) k) = kyA (at2 t) from kyA_ext fun i j _ _ => by
        unfold upTo
        by_cases e : i < k
        · rw [if_pos e]
        · rw [if_neg e]; unfold at2; rw [row_out (by have := hl.out; omega)]; rfl)
      have HLe := hide (show Blk wr (w.heap.size + 1) 79 (kyA (at2 t)) from by rw [← HE.out]; exact unhide HLk)
      go_wp2_with (first
        | (refine wpList_load_row rfl 79 _ rfl (w.heap.size + 1) rfl 79 (kyA (at2 t)) (0, 0) _ (unhide HLe) Try.underlying79 rfl HI.out ?_)
        | (refine wpList_store_row rfl 79 _ _ rfl w.heap.size (kyA (at2 t)) rfl rfl 79 _ (unhide HRk) HI.out rfl HA.out ?_))
      refine bodyPost_ret (v := .agg (kyA (at2 t))) (results_cell_row rfl _ _ w.heap.size 79 _ (0, 0) _ rfl (setRow_heap wr w.heap.size (kyA fun _ _ => 0) (kyA (at2 t)) 79 (0, 0) (unhide HRk)) Try.underlying79 rfl HI.out) rfl ⟨rfl, below_setRow (unhide HBk) (Nat.le_refl _) _⟩
end Go.Proofs.Ytabgifpenegofaa
