/-
  areCounts, the sum of a line, lineOf of the program.
-/
import Derived.Test.YtabgifpenegofaaT1
import Derived.Test.YtabgifpenegofaaF2
import Derived.Laws.CopyOwn
import Derived.Laws.Tables
namespace Go.Proofs.Ytabgifpenegofaa
open Go.RowKit

set_option maxHeartbeats 400000 in
theorem areCounts_any (A : Option Addr) (n c : Nat) (xs : List Int) (lim : Int) (w : World) (B : Nat) (h : Ints w B A n c xs) (hlim : 0 ≤ lim ∧ lim ≤ 1000) :
    Calls Try.prog 76 #[.slice A n c, .int .i64 lim] w fun e w' => e = .returned (.bool (areC lim xs)) ∧ w = w' := by
  have hm := h.most; have hcap := h.cap
  have hl := hide h.len
  obtain ⟨l1, l2⟩ := hlim
  by_cases h1 : n < 1
  · have HF := hide (show areC lim xs = false from by unfold areC; rw [hl.out]; simp; omega)
    go_enter Try.func76, Try.ntmps76
    go_wp2_with fail
    go_ret
    exact ⟨ret_bool HF.out.symm, rfl⟩
  · by_cases h3 : 3 < n
    · have HF := hide (show areC lim xs = false from by unfold areC; rw [hl.out]; simp; omega)
      have h1' : decide ((n : Int) < 1) = false := by simp; omega
      go_enter Try.func76, Try.ntmps76
      go_wp2_with fail
      go_ret
      exact ⟨ret_bool HF.out.symm, rfl⟩
    · have h1' : decide ((n : Int) < 1) = false := by simp; omega
      have h3' : decide (3 < (n : Int)) = false := by simp; omega
      go_enter Try.func76, Try.ntmps76
      go_wp2_with fail
      go_loop [1, 6, 17] (fun l _ i => ∃ k : Nat, ∃ z : Int, k ≤ n ∧ i = .int .i64 k ∧ l = .int .i64 z ∧ (0 ≤ z ∧ z ≤ 1000) ∧ Hid (z = lim - (xs.take k).sum) ∧ Hid (NnTo xs k)) (fun _ _ i => n - (intOf i).toNat)
      case atStart => exact ⟨0, lim, Nat.zero_le _, rfl, rfl, ⟨l1, l2⟩, hide (by simp), hide (fun j hj => absurd hj (by omega))⟩
      case round =>
        obtain ⟨k, z, hk, rfl, rfl, ⟨z1, z2⟩, HZ, HN⟩ := hrel
        by_cases hlt : k < n
        · obtain ⟨b, off, rfl, hb, hc⟩ := h.at_ k hlt
          have hkl : k < xs.length := by have := hl.out; omega
          have HS := hide (sum_snoc xs k hkl)
          by_cases c1 : nth xs k < 0
          · have HF := hide (areC_no hkl (lim := lim) (.inl c1))
            go_wp2_with fail
            go_ret
            exact ⟨ret_bool HF.out.symm, rfl⟩
          · by_cases c2 : z < nth xs k
            · have HF := hide (areC_no hkl (lim := lim) (.inr (by have := HZ.out; omega)))
              have c1' : decide (nth xs k < 0) = false := by simp; omega
              go_wp2_with fail
              go_ret
              exact ⟨ret_bool HF.out.symm, rfl⟩
            · have c1' : decide (nth xs k < 0) = false := by simp; omega
              have c2' : decide (z < nth xs k) = false := by simp; omega
              go_wp2_with fail
              go_round
              case rel => exact ⟨k + 1, z - nth xs k, by omega, by go_num, by go_num, by omega, hide (by rw [HS.out, HZ.out]; omega), hide (HN.out.succ (by omega))⟩
              case measure => simp [intOf]; omega
        · have HF := hide (show areC lim xs = true from by
            obtain rfl : k = xs.length := by have := hl.out; omega
            refine areC_iff.2 ⟨by have := hl.out; omega, by have := hl.out; omega, HN.out.all, ?_⟩
            have := HZ.out
            rw [List.take_length] at this
            omega)
          go_wp2_with fail
          go_ret
          exact ⟨ret_bool HF.out.symm, rfl⟩
theorem areCounts_is (A : Option Addr) (n c : Nat) (xs : List Int) (lim : Int) (w : World) (B : Nat) (h : Ints w B A n c xs) (hlim : 0 ≤ lim ∧ lim ≤ 1000) (b : Bool) (hb : Hid (areC lim xs = b)) :
    Calls Try.prog 76 #[.slice A n c, .int .i64 lim] w fun e w' => e = .returned (.bool b) ∧ w = w' := by rw [← hb.out]; exact areCounts_any A n c xs lim w B h hlim

/-- An array of three numbers. -/
def lnA (f : Nat → Int) : Array Value := #[.int .i64 (f 0), .int .i64 (f 1), .int .i64 (f 2)]
theorem lnA_at (f : Nat → Int) (k : Nat) (hk : k < 3) : (lnA f)[k]? = some (.int .i64 (f k)) := by
  rcases (show k = 0 ∨ k = 1 ∨ k = 2 by omega) with rfl | rfl | rfl <;> rfl
theorem lnA_size (f : Nat → Int) : (lnA f).size = 3 := rfl
theorem lnA_ext {f g : Nat → Int} (h : ∀ i, i < 3 → f i = g i) : lnA f = lnA g := by
  unfold lnA; rw [h 0 (by omega), h 1 (by omega), h 2 (by omega)]
theorem lnA_set (f f' : Nat → Int) (k : Nat) (v : Int) (hk : k < 3) (hv : v = f' k) (h : ∀ i, i ≠ k → f' i = f i) : (lnA f).setIfInBounds k (.int .i64 v) = lnA f' := by
  subst hv
  rcases (show k = 0 ∨ k = 1 ∨ k = 2 by omega) with rfl | rfl | rfl
  · unfold lnA; rw [h 1 (by omega), h 2 (by omega)]; rfl
  · unfold lnA; rw [h 0 (by omega), h 2 (by omega)]; rfl
  · unfold lnA; rw [h 0 (by omega), h 1 (by omega)]; rfl
theorem lnA_all (f : Nat → Int) : (lnA f).all (·.oneCell') = true := by simp [lnA, Value.oneCell']
theorem info75 (f : Nat → Int) : (Try.prog.info? 75).map (·.size) = some (lnA f).size := by rw [lnA_size]; kernel_rfl
theorem plain3 : Try.prog.plainKey 3 = true := by kernel_rfl
theorem run_index_ln (f : Nat → Int) (k : Nat) (hk : k < 3) (w : World) : (Instr.index 75 (.agg (lnA f)) (.int .i64 (k : Int))).run Try.prog w = .ok (.int .i64 (f k)) w := by
  have h1 : (k : Int) < 3 := by omega
  have hp : (part 3 (lnA f) k).run Try.prog w = .ok (.int .i64 (f k)) w := run_part_plain w plain3 (lnA_at f k hk)
  simp [Instr.index, run_underlying Try.underlying75, asIntOf, h1, Try.sizeOf3, hp]
  omega
/-- What the first k of them sum to. -/
def s3 (f : Nat → Int) : Nat → Int
  | 0 => 0
  | k + 1 => s3 f k + f k
theorem s3_3 (f : Nat → Int) : s3 f 3 = f 0 + f 1 + f 2 := by simp [s3]
theorem s3_bd {f : Nat → Int} {M : Int} (hf : ∀ i, i < 3 → -M ≤ f i ∧ f i ≤ M) : ∀ k, k ≤ 3 → -(3 * M) ≤ s3 f k ∧ s3 f k ≤ 3 * M := by
  intro k hk
  have h0 := hf 0 (by omega); have h1 := hf 1 (by omega); have h2 := hf 2 (by omega)
  rcases (show k = 0 ∨ k = 1 ∨ k = 2 ∨ k = 3 by omega) with rfl | rfl | rfl | rfl <;> simp only [s3] <;> omega

set_option maxHeartbeats 1000000 in
theorem sum_any (f : Nat → Int) (w : World) (hf : ∀ i, i < 3 → -1000000 ≤ f i ∧ f i ≤ 1000000) :
    Calls Try.prog 85 #[.agg (lnA f)] w fun e w' => e = .returned (.int .i64 (f 0 + f 1 + f 2)) ∧ Below w.heap.size w w' := by
  have HI := hide (info75 f)
  have HB := hide (Blk.new w 75 (lnA f))
  go_enter Try.func85, Try.ntmps85
  go_wp2_with (refine wpList_load_row rfl 75 _ rfl w.heap.size rfl 75 (lnA f) (0, 0) _ (unhide HB) Try.underlying75 rfl HI.out ?_)
  have HF := hide hf
  clear hf
  go_loop [3, 5, 7] (fun s _ i => ∃ k : Nat, k ≤ 3 ∧ i = .int .i64 k ∧ s = .int .i64 (s3 f k)) (fun _ _ i => 3 - (intOf i).toNat)
  case atStart => exact ⟨0, by omega, rfl, rfl⟩
  case round =>
    obtain ⟨k, hk, rfl, rfl⟩ := hrel
    obtain ⟨p1, p2⟩ := s3_bd HF.out k hk
    by_cases hlt : k < 3
    · have hix := fun W => run_index_ln f k hlt W
      obtain ⟨q1, q2⟩ := HF.out k hlt
      have hlt' : decide ((k : Int) < 3) = true := by simp; omega
      go_wp2_with fail
      go_round
      case rel => exact ⟨k + 1, by omega, by go_num, rfl⟩
      case measure => simp [intOf]; omega
    · obtain rfl : k = 3 := by omega
      go_wp2_with fail
      go_ret
      exact ⟨ret_int (s3_3 f), (Below.refl _ _).alloc (Nat.le_refl _) _⟩

theorem oneInts (xs : List Int) : ∀ v ∈ xs.map (Value.int .i64), v.oneCell' = true := fun v hv => by
  obtain ⟨x, _, rfl⟩ := List.mem_map.1 hv
  rfl
theorem info3s : (Try.prog.info? 3).map (·.size) = some 1 := by kernel_rfl
theorem lnA_zero : (#[.int .i64 0, .int .i64 0, .int .i64 0] : Array Value) = lnA fun _ => 0 := rfl
theorem splice_ln (xs : List Int) (h : xs.length ≤ 3) : (splice (lnA fun _ => 0).toList 0 (xs.map (Value.int .i64))).toArray = lnA (nth xs) := by
  match xs, h with
  | [], _ => rfl
  | [a], _ => rfl
  | [a, b], _ => rfl
  | [a, b, c], _ => rfl
end Go.Proofs.Ytabgifpenegofaa
