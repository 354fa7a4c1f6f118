/-
  places of the program and of the reference; IsRow of the reference.
-/
import Derived.Test.YtmgoonoifgcmnaaW2
import Derived.Test.YtmgoonoifgcmnaaX1
namespace Go.Proofs.Ytmgoonoifgcmnaa
open Go.RowKit

theorem RowAt.owned {W : World} {g : Nat} {xs : List Int} (h : RowAt W g xs) {base n : Nat} (hb : base ≤ g) (hn : xs.length = n) (hm : n ≤ 1000000) : Owned W base (.slice (some ⟨g, 0, none⟩) n n) xs := by
  subst hn
  refine ⟨by simp, .inr ⟨g, xs.length, _, rfl, hb, h, Nat.le_refl _, by unfold maxLen; omega, by simp, ?_⟩⟩
  simp [List.take_of_length_le]
theorem RowAt.below {W W' : World} {g : Nat} {xs : List Int} (h : RowAt W g xs) (hb : Below W.heap.size W W') : RowAt W' g xs := Blk.below h hb (Blk.lt h)
theorem row_zeros {W : World} {n : Nat} {Z : Array Value} (hz : Z.toList = List.replicate n (.int .i64 0)) : RowAt (W.alloc (.cells Z 3)) W.heap.size (List.replicate n 0) := by
  have hZr : Z = ((List.replicate n (0 : Int)).map (Value.int .i64)).toArray := by
    apply Array.ext'; rw [hz]; simp
  unfold RowAt; rw [← hZr]; exact Blk.new W 3 Z

/-- Where the numbers of a row come first. -/
def plcT (xs : List Int) (k : Nat) : List Int := (List.range k).map fun (j : Nat) => ixI xs ((j : Int) + 1)
def plcL (xs : List Int) : List Int := plcT xs (xs.length / 2)
theorem plcT_succ (xs : List Int) (k : Nat) : plcT xs (k + 1) = plcT xs k ++ [ixI xs ((k : Int) + 1)] := by simp [plcT, List.range_succ]
theorem plcT_set (xs : List Int) {k m : Nat} (h : k < m) : (plcT xs k ++ List.replicate (m - k) 0).set k (ixI xs ((k : Int) + 1)) = plcT xs (k + 1) ++ List.replicate (m - (k + 1)) 0 := by
  have e : m - k = (m - (k + 1)) + 1 := by omega
  rw [e, List.replicate_succ, List.set_append_right _ _ (by simp [plcT]), plcT_succ]
  simp [plcT]
theorem plcT_len (xs : List Int) (k : Nat) : (plcT xs k).length = k := by simp [plcT]

set_option maxHeartbeats 1000000 in
theorem places_any (A : Option Addr) (n c : Nat) (xs : List Int) (w : World) (h : Ints w w.heap.size A n c xs) (hn : n ≤ 1000) :
    Calls Try.prog 70 #[.slice A n c] w fun e w' => ∃ v, e = .returned v ∧ Owned w' w.heap.size v (plcL xs) ∧ Below w.heap.size w w' := by
  have hl := hide h.len
  have hm := h.most; have hcap := h.cap
  obtain ⟨m, hmn⟩ : ∃ m, n / 2 = m := ⟨_, rfl⟩
  have hmm : ((n : Int)).tdiv 2 = (m : Int) := by rw [Int.tdiv_eq_ediv_of_nonneg (by omega)]; omega
  have hmb : m ≤ 500 := by omega
  obtain ⟨Z, hZ1, hZ2, hmk⟩ := make_zeros m (by omega)
  have HE := hide (show plcL xs = plcT xs m from by unfold plcL; rw [hl.out, hmn])
  have HR0 := hide (show RowAt (w.alloc (.cells Z 3)) w.heap.size (plcT xs 0 ++ List.replicate (m - 0) 0) from by simpa [plcT] using row_zeros (W := w) hZ2)
  have HB0 := hide (show Below w.heap.size w (w.alloc (.cells Z 3)) from (Below.refl _ w).alloc (Nat.le_refl _) _)
  have H := hide h
  clear hmn hZ1 hZ2 h
  go_enter Try.func70, Try.ntmps70
  go_wp2_with fail
  go_loopw [4, 11] (fun _ i wr => ∃ k : Nat, k ≤ m ∧ i = .int .i64 (k : Nat) ∧ Hid (RowAt wr w.heap.size (plcT xs k ++ List.replicate (m - k) 0)) ∧ Hid (Below w.heap.size w wr)) (fun _ i _ => m - (intOf i).toNat)
  case atStart => exact ⟨0, Nat.zero_le _, rfl, HR0, HB0⟩
  case round =>
    obtain ⟨k, hk, rfl, HR, HB⟩ := hrel
    by_cases hlt : k < m
    · have HI := hide ((unhide H).below (unhide HB))
      have hlen : (plcT xs k ++ List.replicate (m - k) (0 : Int)).length = m := by simp [plcT_len]; omega
      have hcell := (unhide HR).cell (k := k) (by rw [hlen]; exact hlt)
      have hfr : wr.frozen? ⟨w.heap.size, k, none⟩ = false := Blk.frozen (unhide HR) k
      have HN := hide (show RowAt (wr.setCell ⟨w.heap.size, k, none⟩ (.int .i64 (ixI xs ((k : Int) + 1)))) w.heap.size (plcT xs (k + 1) ++ List.replicate (m - (k + 1)) 0) from by
        rw [← plcT_set xs hlt]; exact (unhide HR).set k _)
      have HBN := hide ((unhide HB).setCell (p := ⟨w.heap.size, k, none⟩) (Nat.le_refl _) (.int .i64 (ixI xs ((k : Int) + 1))))
      clear hlen
      go_wp2_with (go_at_call 98; refine (Index_any _ _ _ _ _ _ _ (unhide HI)).mono ?_; rintro e w' ⟨rfl, rfl⟩)
      go_roundw
      case rel => exact ⟨k + 1, by omega, by go_num, HN, HBN⟩
      case measure => simp [intOf]; omega
    · have e : m = k := by omega
      have HO := hide (show Owned wr w.heap.size (.slice (some ⟨w.heap.size, 0, none⟩) m m) (plcL xs) from by
        rw [HE.out]
        refine (show RowAt wr w.heap.size (plcT xs m) from ?_).owned (Nat.le_refl _) (plcT_len _ _) (by omega)
        have := unhide HR
        rw [← e] at this
        simpa using this)
      clear e
      go_wp2_with fail
      go_ret
      exact ⟨_, rfl, unhide HO, unhide HB⟩

set_option maxHeartbeats 1000000 in
theorem rplaces_any (A : Option Addr) (n c : Nat) (xs : List Int) (z : Int) (w : World) (h : Ints w w.heap.size A n c xs) (hn : n ≤ 100000) :
    Calls Try.prog 71 #[.slice A n c, .int .i64 z] w fun e w' => ∃ v, e = .returned v ∧ Owned w' w.heap.size v (plL xs z) ∧ Below w.heap.size w w' := by
  have hl := hide h.len
  have hm := h.most; have hcap := h.cap
  have H := hide h
  clear h
  go_enter Try.func71, Try.ntmps71
  go_wp2_with fail
  go_loopw [5, 6, 7, 10] (fun v _ _ i wr => ∃ k : Nat, k ≤ n ∧ i = .int .i64 (k : Nat) ∧ Hid (Owned wr w.heap.size v (plT xs z k)) ∧ Hid (Below w.heap.size w wr)) (fun _ _ _ i _ => n - (intOf i).toNat)
  case atStart => exact ⟨0, Nat.zero_le _, rfl, hide (World.ownsRow_nil _ _ _ _), hide (Below.refl _ _)⟩
  case round =>
    obtain ⟨k, hk, rfl, HO, HB⟩ := hrel
    by_cases hlt : k < n
    · obtain ⟨b, off, rfl, hb, hc⟩ := ((unhide H).below (unhide HB)).at_ k hlt
      by_cases he : nth xs k = z
      · have HY := hide (plT_yes (xs := xs) (z := z) (k := k) he)
        have d : (nth xs k == z) = true := by simpa using he
        have hpl : (plT xs z k).length ≤ 100000 := Nat.le_trans (plT_len xs z k) (by omega)
        have hbase := (unhide HB).size
        clear he
        go_wp2_with (at_builtin; refine wpList_app1 rfl _ _ rfl rfl rfl (unhide HO) hpl hbase ?_; intro v' w3 ho3 hb3)
        go_roundw
        case rel => exact ⟨k + 1, by omega, by go_num, hide (by rw [HY.out]; exact ho3), hide ((unhide HB).trans hb3)⟩
        case measure => simp [intOf]; omega
      · have HY := hide (plT_no (xs := xs) (z := z) (k := k) he)
        have d : (nth xs k == z) = false := by simpa using he
        clear he
        go_wp2_with fail
        go_roundw
        case rel => exact ⟨k + 1, by omega, by go_num, hide (by rw [HY.out]; exact unhide HO), HB⟩
        case measure => simp [intOf]; omega
    · have HL := hide (show plT xs z k = plL xs z from by unfold plL; rw [hl.out, show k = n by omega])
      go_wp2_with fail
      go_ret
      exact ⟨_, rfl, by rw [← HL.out]; exact unhide HO, unhide HB⟩
theorem rplaces_ints (A : Option Addr) (n c : Nat) (xs : List Int) (z : Int) (w : World) (h : Ints w w.heap.size A n c xs) (hn : n ≤ 100000) :
    Calls Try.prog 71 #[.slice A n c, .int .i64 z] w fun e w' => ∃ A' n' c', e = .returned (.slice A' n' c') ∧ Ints w' w'.heap.size A' n' c' (plL xs z) ∧ Below w.heap.size w w' :=
  (rplaces_any A n c xs z w h hn).mono fun _ _ ⟨_, he, ho, hb⟩ => by
    obtain ⟨A', c', rfl, hi⟩ := ho.ints
    exact ⟨A', _, c', he, hi, hb⟩

theorem RShift_any (s : Int) (w : World) (b : Bool) (hb : Hid (shB s = b)) : Calls Try.prog 21 #[.int .i64 s] w fun e w' => e = .returned (.bool b) ∧ w = w' := by
  by_cases h1 : s = 1
  · subst h1
    go_enter Try.func21, Try.ntmps21
    go_wp2_with fail
    go_ret
    exact ⟨ret_bool (by rw [← hb.out]; rfl), rfl⟩
  · have d : (s == 1) = false := by simpa using h1
    have HB := hide (show (s == 2) = b from by rw [← hb.out]; unfold shB; simp [h1, Bool.beq_eq_decide_eq])
    clear hb h1
    go_enter Try.func21, Try.ntmps21
    go_wp2_with fail
    go_ret
    exact ⟨ret_bool HB.out, rfl⟩
end Go.Proofs.Ytmgoonoifgcmnaa
