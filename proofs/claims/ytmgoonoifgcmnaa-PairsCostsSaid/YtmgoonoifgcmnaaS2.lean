/-
  areArrowsDifferent: no two arrows are the same.
-/
import Derived.Test.YtmgoonoifgcmnaaS1
import Derived.Test.YtmgoonoifgcmnaaV1
namespace Go.Proofs.Ytmgoonoifgcmnaa
open Go.RowKit

/-- The arrow from i to j is not the same as one from k < i, as long. -/
def arK (xs : List Int) (j i : Nat) : Bool := (List.range i).all fun k => decide (nth xs j - nth xs i ≠ nth xs (k + (j - i)) - nth xs k)
def arJ (xs : List Int) (j m : Nat) : Bool := (List.range m).all fun i => arK xs j i
def arT (xs : List Int) (m : Nat) : Bool := (List.range m).all fun j => arJ xs j j
def arB (xs : List Int) : Bool := arT xs xs.length
theorem arK_iff {xs : List Int} {j i : Nat} : arK xs j i = true ↔ ∀ k, k < i → nth xs j - nth xs i ≠ nth xs (k + (j - i)) - nth xs k := by simp [arK]
theorem arJ_iff {xs : List Int} {j m : Nat} : arJ xs j m = true ↔ ∀ i, i < m → arK xs j i = true := by simp [arJ]
theorem arT_iff {xs : List Int} {m : Nat} : arT xs m = true ↔ ∀ j, j < m → arJ xs j j = true := by simp [arT]
theorem arJ_succ (xs : List Int) (j m : Nat) : arJ xs j (m + 1) = (arJ xs j m && arK xs j m) := by simp [arJ, List.range_succ]
theorem arT_succ (xs : List Int) (m : Nat) : arT xs (m + 1) = (arT xs m && arJ xs m m) := by simp [arT, List.range_succ]
/-- Arrows that have been seen ahead of the one from i to j. -/
def Seen (xs : List Int) (j i : Nat) (x y : Int) : Prop := ∃ j' i' : Nat, i' < j' ∧ (j' < j ∨ (j' = j ∧ i' < i)) ∧ x = (j' : Int) - i' ∧ y = nth xs j' - nth xs i'
theorem seen_iff {xs : List Int} {j i : Nat} (h : i < j) : Seen xs j i ((j : Int) - i) (nth xs j - nth xs i) ↔ arK xs j i = false := by
  rw [← Bool.not_eq_true, arK_iff]
  constructor
  · rintro ⟨j', i', h1, h2, h3, h4⟩ hall
    have h5 : i' < i := by omega
    have := hall i' h5
    rw [show i' + (j - i) = j' by omega] at this
    exact this h4
  · intro hn
    simp only [Classical.not_forall] at hn
    obtain ⟨k, hk, he⟩ := hn
    exact ⟨k + (j - i), k, by omega, .inl (by omega), by omega, by simpa using he⟩
theorem seen_step {xs : List Int} {j i : Nat} (h : i < j) (x y : Int) : Seen xs j (i + 1) x y ↔ (x = (j : Int) - i ∧ y = nth xs j - nth xs i) ∨ Seen xs j i x y := by
  constructor
  · rintro ⟨j', i', h1, h2, h3, h4⟩
    by_cases e : j' = j ∧ i' = i
    · obtain ⟨rfl, rfl⟩ := e
      exact .inl ⟨h3, h4⟩
    · exact .inr ⟨j', i', h1, by omega, h3, h4⟩
  · rintro (⟨h3, h4⟩ | ⟨j', i', h1, h2, h3, h4⟩)
    · exact ⟨j, i, h, .inr ⟨rfl, by omega⟩, h3, h4⟩
    · exact ⟨j', i', h1, by omega, h3, h4⟩
theorem seen_next {xs : List Int} {j : Nat} (x y : Int) : Seen xs (j + 1) 0 x y ↔ Seen xs j j x y := by
  constructor <;> rintro ⟨j', i', h1, h2, h3, h4⟩ <;> exact ⟨j', i', h1, by omega, h3, h4⟩
theorem seen_none {xs : List Int} (x y : Int) : ¬ Seen xs 0 0 x y := by rintro ⟨j', i', h1, h2, _⟩; omega
/-- Small numbers. -/
def SmP (n : Nat) (xs : List Int) : Prop := ∀ k, k < n → -1000 ≤ nth xs k ∧ nth xs k ≤ 1000
theorem i64_small {a : Int} (h : -100000 ≤ a ∧ a ≤ 100000) : I64 a := ⟨by omega, by omega⟩

set_option maxRecDepth 100000 in
set_option maxHeartbeats 2000000 in
theorem areArrows_any (A : Option Addr) (n c : Nat) (xs : List Int) (w : World) (h : Ints w w.heap.size A n c xs) (hn : n ≤ 20) (hs : Hid (SmP n xs)) (b : Bool) (hb : Hid (arB xs = b)) :
    Calls Try.prog 101 #[.slice A n c] w fun e w' => e = .returned (.bool b) ∧ Below w.heap.size w w' := by
  rw [← hb.out]
  have hm := h.most; have hcap := h.cap
  have hl := hide h.len
  have H := hide h
  clear h
  have HM0 := hide (MSet.made w)
  have HB0 := hide (show Below w.heap.size w (w.alloc (.map #[] 0)) from (Below.refl _ w).alloc (Nat.le_refl _) _)
  have hmk := fun (W : World) => run_makeMap (P := Try.prog) 97 W
  go_enter Try.func101, Try.ntmps101
  go_wp2_with fail
  go_loopw [4, 10] (fun _ i wr => ∃ (j : Nat) (M : Int → Int → Bool), j ≤ n ∧ i = .int .i64 (j : Nat) ∧ Hid (MSet wr w.heap.size (j * 20) M) ∧ Hid (∀ x y, M x y = true ↔ Seen xs j 0 x y) ∧ Hid (arT xs j = true) ∧ Hid (Below w.heap.size w wr)) (fun _ i _ => n - (intOf i).toNat)
  case atStart => exact ⟨0, _, Nat.zero_le _, rfl, hide ((unhide HM0).mono (by omega)), hide (fun x y => by simp [seen_none]), hide rfl, HB0⟩
  case round =>
    obtain ⟨j, M, hj, rfl, HM, HS, HA, HB⟩ := hrel
    by_cases hlt : j < n
    · go_wp2_with fail
      go_loopw [5, 6, 14] (fun _ _ i wr' => ∃ (k : Nat) (M : Int → Int → Bool), k ≤ j ∧ i = .int .i64 (k : Nat) ∧ Hid (MSet wr' w.heap.size (j * 20 + k) M) ∧ Hid (∀ x y, M x y = true ↔ Seen xs j k x y) ∧ Hid (arJ xs j k = true) ∧ Hid (Below w.heap.size w wr')) (fun _ _ i _ => j - (intOf i).toNat)
      case atStart => exact ⟨0, M, Nat.zero_le _, rfl, HM, HS, hide rfl, HB⟩
      case round =>
        obtain ⟨k, M, hk, rfl, HM, HS, HAJ, HB⟩ := hrel
        by_cases hlt2 : k < j
        · have HI := hide ((unhide H).below (unhide HB))
          obtain ⟨b1, off, rfl, hbb, hc1⟩ := (unhide HI).at_ j hlt
          obtain ⟨b2, off2, e, _, hc2⟩ := (unhide HI).at_ k (by omega)
          cases e
          have s1 := hs.out j hlt
          have s2 := hs.out k (by omega)
          have hbw := Nat.lt_of_lt_of_le hbb (unhide HB).size
          have hd1 : wr.drew.cell? ⟨b1, off + j, none⟩ = some (.int .i64 (nth xs j)) := hc1
          have hd2 : wr.drew.cell? ⟨b1, off + k, none⟩ = some (.int .i64 (nth xs k)) := hc2
          have he1 : (wr.drew.alloc (.cells #[.int .i64 0, .int .i64 0] 56)).cell? ⟨b1, off + j, none⟩ = some (.int .i64 (nth xs j)) := (World.cell?_alloc_lt _ _ _ hbw).trans hc1
          have he2 : (wr.drew.alloc (.cells #[.int .i64 0, .int .i64 0] 56)).cell? ⟨b1, off + k, none⟩ = some (.int .i64 (nth xs k)) := (World.cell?_alloc_lt _ _ _ hbw).trans hc2
          obtain ⟨y, hy⟩ : ∃ y, nth xs j - nth xs k = y := ⟨_, rfl⟩
          have hyb : -2000 ≤ y ∧ y ≤ 2000 := by omega
          have i1 : I64 ((j : Int) - k) := i64_small (by omega)
          have i2 : I64 y := i64_small (by omega)
          have HBd := hide (show Below w.heap.size w (wr.alloc (.cells #[.int .i64 ((j : Int) - k), .int .i64 y] 56)).drew from ((unhide HB).alloc (unhide HB).size _).drew)
          have HMd := hide (show MSet (wr.alloc (.cells #[.int .i64 ((j : Int) - k), .int .i64 y] 56)).drew w.heap.size (j * 20 + k) M from (unhide HM).below (((Below.refl wr.heap.size wr).alloc (Nat.le_refl _) _).drew))
          have hcap2 : j * 20 + k < 1000000 := by omega
          have HSI := hide (seen_iff (xs := xs) hlt2)
          have HSS := hide (seen_step (xs := xs) hlt2)
          rw [hy] at HSI HSS
          have z0 : (wr.alloc (.cells #[.int .i64 ((j : Int) - k), .int .i64 y] 56)).drew.cell? ⟨wr.heap.size, 0, none⟩ = some (.int .i64 ((j : Int) - k)) := by
            show (wr.alloc _).cell? _ = _; rw [World.cell?_alloc_at _ _ _ _ rfl]; rfl
          have z1 : (wr.alloc (.cells #[.int .i64 ((j : Int) - k), .int .i64 y] 56)).drew.cell? ⟨wr.heap.size, 1, none⟩ = some (.int .i64 y) := by
            show (wr.alloc _).cell? _ = _; rw [World.cell?_alloc_at _ _ _ _ rfl]; rfl
          cases hM : M ((j : Int) - k) y with
          | true =>
            have HF := hide (show arB xs = false from by
              have h1 := (HSI.out).1 (((HS.out) _ _).1 hM)
              rw [Bool.eq_false_iff]; intro e
              have h2 := arJ_iff.1 (arT_iff.1 e j (by rw [hl.out]; exact hlt)) k hlt2
              rw [h2] at h1; cases h1)
            go_wp2_with fail
            go_region
            clear hy
            go_wp2_with (at_lookup; refine wpList_mlook rfl _ _ rfl rfl (unhide HMd) rfl i1 i2 ?_; rw [hM])
            go_ret
            exact ⟨ret_bool HF.out.symm, unhide HBd⟩
          | false =>
            have HK := hide (show arJ xs j (k + 1) = true from by
              rw [arJ_succ, HAJ.out, Bool.true_and]
              cases hh : arK xs j k with
              | true => rfl
              | false => rw [((HS.out) _ _).2 ((HSI.out).2 hh)] at hM; cases hM)
            have HX := hide (show ∀ x' y', (decide (x' = (j : Int) - k ∧ y' = y) || M x' y') = true ↔ Seen xs j (k + 1) x' y' from fun x' y' => by
              rw [HSS.out, ← HS.out x' y', Bool.or_eq_true, decide_eq_true_eq])
            go_wp2_with fail
            go_region
            clear hy
            go_wp2_with (first
              | (at_lookup; refine wpList_mlook rfl _ _ rfl rfl (unhide HMd) rfl i1 i2 ?_; rw [hM])
              | (at_mapUpdate; refine wpList_mput rfl _ _ _ rfl rfl (unhide HMd) hcap2 rfl rfl i1 i2 ?_; intro w4 hm4 hg4
                 have HM4 := hide hm4
                 have HB4 := hide ((unhide HBd).grown hg4 (unhide HBd).size (fun r e => by cases e; exact Nat.le_refl _))
                 clear hm4 hg4))
            go_roundw
            case rel => exact ⟨k + 1, _, by omega, by go_num, hide ((unhide HM4).mono (by omega)), HX, HK, HB4⟩
            case measure => simp [intOf]; omega
        · have e : k = j := by omega
          have HK := hide (show arT xs (j + 1) = true from by
            rw [arT_succ, HA.out, Bool.true_and, ← HAJ.out, e])
          have HX := hide (show ∀ x' y', M x' y' = true ↔ Seen xs (j + 1) 0 x' y' from fun x' y' => by
            rw [HS.out, seen_next, e])
          have HM4 := hide ((unhide HM).mono (n' := (j + 1) * 20) (by omega))
          clear e
          go_wp2_with fail
          go_roundw
          case rel => exact ⟨j + 1, _, by omega, by go_num, HM4, HX, HK, HB⟩
          case measure => simp [intOf]; omega
    · have HF := hide (show arB xs = true from by unfold arB; rw [hl.out, show n = j by omega]; exact HA.out)
      go_wp2_with fail
      go_ret
      exact ⟨ret_bool HF.out.symm, unhide HB⟩
end Go.Proofs.Ytmgoonoifgcmnaa
