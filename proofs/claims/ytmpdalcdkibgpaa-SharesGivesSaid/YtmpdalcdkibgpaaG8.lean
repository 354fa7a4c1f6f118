import Derived.Test.YtmpdalcdkibgpaaG7
import Derived.Deep.RegionHeld3
namespace Go.Proofs.Ytmpdalcdkibgpaa
open Go.RowKit Go.Sort

theorem canG_ref {S : List Int} {f d : Nat} {m : Int} (hf : f < S.length) (hd : d < S.length) (h1 : 1 ≤ m) (h : nth S d + 2 * m ≤ nth S f) : canG S ((f : Int), (d : Int), m) = true := by
  rw [canG_val hf hd]
  have : m ≤ (nth S f - nth S d).tdiv 2 := by
    rw [Int.tdiv_eq_ediv_of_nonneg (by omega)]; omega
  simp [h1, this]
theorem canG_ref_no {S : List Int} {f d : Nat} {m : Int} (hS : Small 20 S) (hf : f < S.length) (hd : d < S.length) (h : f = d ∨ m < 1 ∨ 20 < m ∨ nth S f < nth S d + 2 * m) : canG S ((f : Int), (d : Int), m) = false := by
  rw [canG_val hf hd]
  obtain ⟨a1, a2⟩ := hS f; obtain ⟨b1, b2⟩ := hS d
  by_cases h1 : 1 ≤ m
  · have : ¬ m ≤ (nth S f - nth S d).tdiv 2 := by
      intro h2
      have h3 := half_le h1 h2
      rcases h with rfl | h | h | h <;> omega
    simp [this]
  · simp [h1]

set_option maxRecDepth 4000 in
set_option maxHeartbeats 40000000 in
theorem Given_any (A A' : Option Addr) (n c n' c' : Nat) (xs : List Int) (gs : List G) (w : World) (h : Ints w w.heap.size A n c xs) (h' : Gs w w.heap.size A' n' c' gs) (hn : n ≤ 6) (hn1 : 1 ≤ n) (hx : Hid (Small 20 xs)) :
    Calls Try.prog 69 #[.slice A n c, .slice A' n' c'] w fun e w' => ∃ A1 n1 c1 b ys, e = .returned (.tuple #[.slice A1 n1 c1, .bool b]) ∧ ((b = false ∧ n1 = 0 ∧ runG xs gs = none) ∨ (b = true ∧ n1 = n ∧ runG xs gs = some ys ∧ Ints w' w'.heap.size A1 n1 c1 ys)) ∧ Below w.heap.size w w' := by
  have hm' := h'.most; have hcap' := h'.cap
  have hl := hide h.len
  have HLG := hide h'.len
  have H := hide h'; clear h'
  have hm := h.most; have hcap := h.cap
  go_enter Try.func69, Try.ntmps69
  go_wp2_with (at_builtin
               refine wpList_app (base := w.heap.size) (B := w.heap.size) (xs := []) (ys := xs) (by rfl) (.tmp 9) (.tmp 10) (by rfl) (by rfl) (by rfl) (owned_new w _ (Nat.le_refl _)) (h.alloc (Nat.le_refl _) _) (by have := hl.out; simp; omega) (by simp) ?_
               intro v1 w1 ho1 hg1 _
               rw [List.nil_append] at ho1
               have hb1 : Below w.heap.size w w1 := ((Below.refl _ _).alloc (Nat.le_refl _) _).grown hg1 (by simp) (fun k hk => by simp [Value.ownBlock] at hk; omega)
               obtain ⟨g, c1, rfl, hg, hc1, hm1, ho2⟩ := ho1.head hl.out (by omega)
               clear ho1 hg1
               have HO := hide ho2; have HB1 := hide hb1; clear ho2 hb1 h)
  go_loopw [14] (fun i wr => ∃ (k : Nat) (S : List Int), k ≤ n' ∧ i = .int .i64 k ∧ Hid (runG xs (gs.take k) = some S) ∧ Owned wr w.heap.size (.slice (some ⟨g, 0, none⟩) n c1) S ∧ Hid (S.length = n) ∧ Hid (Small 20 S) ∧ Below w.heap.size w wr) (fun i _ => n' - (intOf i).toNat)
  case atStart => exact ⟨0, xs, Nat.zero_le _, rfl, rfl, unhide HO, hl, hx, unhide HB1⟩
  case round =>
    obtain ⟨k, S, hk, rfl, HRUN, how, HLS, HS, hbl⟩ := hrel
    have hbs := hbl.size
    have HOW := hide how; have HB := hide hbl; clear how hbl HB1 HO
    by_cases hlt : k < n'
    · obtain ⟨b, off, rfl, hbb, e1, e2, e3⟩ := ((unhide H).below (unhide HB)).at_ k hlt
      obtain ⟨f, hf⟩ : ∃ f, (gth gs k).1 = f := ⟨_, rfl⟩
      obtain ⟨d, hd⟩ : ∃ f, (gth gs k).2.1 = f := ⟨_, rfl⟩
      obtain ⟨m, hmm⟩ : ∃ f, (gth gs k).2.2 = f := ⟨_, rfl⟩
      rw [hf] at e1; rw [hd] at e2; rw [hmm] at e3
      have hgk := hide (show gth gs k = (f, d, m) from by rw [← hf, ← hd, ← hmm])
      have HBZ0 := hide ((unhide HB).alloc hbs (.cells #[.int .i64 f, .int .i64 d, .int .i64 m] 76))
      have HBZ := hide (show ∀ q, Below w.heap.size w ((wr.alloc (.cells #[.int .i64 f, .int .i64 d, .int .i64 m] 76)).drewN q) from fun q => Below.drewN' (unhide HBZ0) q)
      clear hf hd hmm hbs
      by_cases h1 : f < 0
      · 
        have HNO := hide (runG_fail (by rw [HLG.out]; exact hlt) HRUN.out (by rw [hgk.out]; exact canG_no (.inl h1)))
        clear HOW HS HRUN
        go_wp2_with fail
        go_big_quiet (fail)
        go_wp2_with fail
        go_ret2
        exact ⟨_, _, _, _, [], rfl, .inl ⟨rfl, rfl, HNO.out⟩, (by first | exact unhide HBZ0 | exact (unhide HBZ) _)⟩
      have d1 : decide (f < 0) = false := decide_eq_false h1
      by_cases h2 : (n : Int) ≤ f
      · 
        have HNO := hide (runG_fail (by rw [HLG.out]; exact hlt) HRUN.out (by rw [hgk.out]; exact canG_no (.inr (.inl (by rw [HLS.out]; exact h2)))))
        clear HOW HS HRUN
        go_wp2_with fail
        go_big_quiet (fail)
        go_wp2_with fail
        go_ret2
        exact ⟨_, _, _, _, [], rfl, .inl ⟨rfl, rfl, HNO.out⟩, (by first | exact unhide HBZ0 | exact (unhide HBZ) _)⟩
      have d2 : decide ((n : Int) ≤ f) = false := decide_eq_false h2
      by_cases h3 : d < 0
      · 
        have HNO := hide (runG_fail (by rw [HLG.out]; exact hlt) HRUN.out (by rw [hgk.out]; exact canG_no (.inr (.inr (.inl h3)))))
        clear HOW HS HRUN
        go_wp2_with fail
        go_big_quiet (fail)
        go_wp2_with fail
        go_ret2
        exact ⟨_, _, _, _, [], rfl, .inl ⟨rfl, rfl, HNO.out⟩, (by first | exact unhide HBZ0 | exact (unhide HBZ) _)⟩
      have d3 : decide (d < 0) = false := decide_eq_false h3
      by_cases h4 : (n : Int) ≤ d
      · 
        have HNO := hide (runG_fail (by rw [HLG.out]; exact hlt) HRUN.out (by rw [hgk.out]; exact canG_no (.inr (.inr (.inr (by rw [HLS.out]; exact h4))))))
        clear HOW HS HRUN
        go_wp2_with fail
        go_big_quiet (fail)
        go_wp2_with fail
        go_ret2
        exact ⟨_, _, _, _, [], rfl, .inl ⟨rfl, rfl, HNO.out⟩, (by first | exact unhide HBZ0 | exact (unhide HBZ) _)⟩
      have d4 : decide ((n : Int) ≤ d) = false := decide_eq_false h4
      obtain ⟨f, rfl⟩ : ∃ k : Nat, f = k := ⟨f.toNat, by omega⟩
      obtain ⟨d, rfl⟩ : ∃ k : Nat, d = k := ⟨d.toNat, by omega⟩
      have hfn := hide (show f < S.length from by rw [HLS.out]; omega)
      have hdn := hide (show d < S.length from by rw [HLS.out]; omega)
      have d2n : decide (n ≤ f) = false := by simp; omega
      have d4n : decide (n ≤ d) = false := by simp; omega
      by_cases h5 : f = d
      · 
        subst h5
        have d5 : ((f : Int) == (f : Int)) = true := by simp
        have HNO := hide (runG_fail (by rw [HLG.out]; exact hlt) HRUN.out (by rw [hgk.out]; exact canG_ref_no HS.out hfn.out hdn.out (.inl rfl)))
        clear HOW HS HRUN
        go_wp2_with fail
        go_big_quiet (fail)
        go_wp2_with fail
        go_ret2
        exact ⟨_, _, _, _, [], rfl, .inl ⟨rfl, rfl, HNO.out⟩, (by first | exact unhide HBZ0 | exact (unhide HBZ) _)⟩
      have d5 : ((f : Int) == (d : Int)) = false := by simpa using (show ¬ (f : Int) = d from by omega)
      have d5n : (f == d) = false := by simp [h5]
      have d5m : decide (f = d) = false := by simp [h5]
      have d5o : decide ((f : Int) = d) = false := by simp; omega
      by_cases h6 : m < 1
      · 
        have HNO := hide (runG_fail (by rw [HLG.out]; exact hlt) HRUN.out (by rw [hgk.out]; exact canG_ref_no HS.out hfn.out hdn.out (.inr (.inl h6))))
        clear HOW HS HRUN
        go_wp2_with fail
        go_big_quiet (fail)
        go_wp2_with fail
        go_ret2
        exact ⟨_, _, _, _, [], rfl, .inl ⟨rfl, rfl, HNO.out⟩, (by first | exact unhide HBZ0 | exact (unhide HBZ) _)⟩
      have d6 : decide (m < 1) = false := decide_eq_false h6
      by_cases h7 : 20 < m
      · 
        have HNO := hide (runG_fail (by rw [HLG.out]; exact hlt) HRUN.out (by rw [hgk.out]; exact canG_ref_no HS.out hfn.out hdn.out (.inr (.inr (.inl h7)))))
        clear HOW HS HRUN
        go_wp2_with fail
        go_big_quiet (fail)
        go_wp2_with fail
        go_ret2
        exact ⟨_, _, _, _, [], rfl, .inl ⟨rfl, rfl, HNO.out⟩, (by first | exact unhide HBZ0 | exact (unhide HBZ) _)⟩
      have d7 : decide (20 < m) = false := decide_eq_false h7
      have hfn2 : f < n := by omega
      have hdn2 : d < n := by omega
      have ho1 := (unhide HOW).alloc (.cells #[.int .i64 (f : Int), .int .i64 (d : Int), .int .i64 m] 76)
      have hcf := ho1.cell_ HLS.out hfn2
      have hcd := ho1.cell_ HLS.out hdn2
      obtain ⟨x1, x2⟩ := HS.out f; obtain ⟨y1, y2⟩ := HS.out d
      clear ho1
      by_cases h8 : nth S f < nth S d + 2 * m
      · 
        have HNO := hide (runG_fail (by rw [HLG.out]; exact hlt) HRUN.out (by rw [hgk.out]; exact canG_ref_no HS.out hfn.out hdn.out (.inr (.inr (.inr h8)))))
        clear HOW HS HRUN
        go_wp2_with fail
        go_big_quiet (fail)
        go_wp2_with fail
        go_ret2
        exact ⟨_, _, _, _, [], rfl, .inl ⟨rfl, rfl, HNO.out⟩, (by first | exact unhide HBZ0 | exact (unhide HBZ) _)⟩

      have d8 : decide (nth S f < nth S d + 2 * m) = false := decide_eq_false h8
      have hcan := hide (canG_ref (m := m) hfn.out hdn.out (by omega) (by omega))
      have hrun2 := hide (show runG xs (gs.take (k + 1)) = some (doG S ((f : Int), (d : Int), m)) from by rw [runG_step (by rw [HLG.out]; exact hlt) HRUN.out (by rw [hgk.out]; exact hcan.out), hgk.out])
      have hS2 := hide (doG_small HS.out hcan.out)
      have hlS2 := hide (show (doG S ((f : Int), (d : Int), m)).length = n from by rw [doG_length]; exact HLS.out)
      have hdo := hide (show doG S ((f : Int), (d : Int), m) = (S.set f (nth S f - m)).set d (nth S d + m) from by rw [doG]; simp)
      have hgs : g < wr.heap.size := ((World.ownsRow.lt (unhide HOW) g rfl)).2
      have hbw := (unhide HB).size
      have ho1 := (unhide HOW).alloc (.cells #[.int .i64 (f : Int), .int .i64 (d : Int), .int .i64 m] 76)
      have hff := ho1.free_ HLS.out f
      have st1 := (unhide HOW).store HLS.out f (nth S f - m)
      have st1a := st1.alloc (.cells #[.int .i64 (f : Int), .int .i64 (d : Int), .int .i64 m] 76)
      have hl2 : (S.set f (nth S f - m)).length = n := by rw [List.length_set]; exact HLS.out
      have hct := st1a.cell_ hl2 hdn2
      rw [nth_set_ne _ h5] at hct
      have hft := st1a.free_ hl2 d
      have fin := hide (show ∀ q, Owned (((((wr.alloc (.cells #[.int .i64 (f : Int), .int .i64 (d : Int), .int .i64 m] 76)).drewN q).setCell ⟨g, f, none⟩ (.int .i64 (nth S f - m))).setCell ⟨g, d, none⟩ (.int .i64 (nth S d + m))).drew) w.heap.size (.slice (some ⟨g, 0, none⟩) n c1) ((S.set f (nth S f - m)).set d (nth S d + m)) from fun q =>
        (((ho1.below (Below.ofDraws q) (Nat.le_refl _)).store HLS.out f _).store hl2 d _).drew)
      have hbel := hide (show ∀ q, Below w.heap.size w (((((wr.alloc (.cells #[.int .i64 (f : Int), .int .i64 (d : Int), .int .i64 m] 76)).drewN q).setCell ⟨g, f, none⟩ (.int .i64 (nth S f - m))).setCell ⟨g, d, none⟩ (.int .i64 (nth S d + m))).drew) from fun q =>
        ((((unhide HBZ) q).setCell (p := ⟨g, f, none⟩) hg _).setCell (p := ⟨g, d, none⟩) hg _).drew)
      have HL2 := hide hl2
      have hft0 := (unhide HOW).free_ HLS.out d
      clear st1 st1a hl2 ho1 HRUN
      go_wp2_with fail
      go_big_quiet (fail)
      go_wp2_with fail
      clear d1 d2 d3 d4 d2n d4n d5 d5n d5m d5o d6 d7 d8
      go_region
      go_wp2_with fail
      go_region
      go_wp2_with fail
      go_roundw
      case rel => exact ⟨k + 1, doG S ((f : Int), (d : Int), m), by omega, by go_num, hrun2, by rw [hdo.out]; exact (unhide fin) _, hlS2, hS2, (unhide hbel) _⟩
      case measure => simp [intOf]; omega
    · obtain rfl : k = n' := by omega
      go_wp2_with fail
      go_ret2
      rw [List.take_of_length_le (by rw [HLG.out]; exact Nat.le_refl _)] at HRUN
      exact ⟨_, _, _, _, S, rfl, .inr ⟨rfl, rfl, HRUN.out, (unhide HOW).asInts⟩, unhide HB⟩
end Go.Proofs.Ytmpdalcdkibgpaa
