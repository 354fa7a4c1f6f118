/-
  The iterator over the whole points of a plate: what it yields, and its word.
-/
import Derived.Test.YtccfhcoioakmpaaC2
import Derived.Test.YtccfhcoioakmpaaIt
namespace Go.Proofs.Ytccfhcoioakmpaa
open Go.RowKit Go.Shelf
attribute [local go_sem] Oper.semAt_some

def seg (x lo : Int) (m : Nat) : List (Int × Int) := (List.range m).map fun (j : Nat) => (x, lo + j)
def colM (x : Int) (gs : List G) : Nat := ((colF x gs).2 + 1 - (colF x gs).1).toNat
def colL (gs : List G) (x : Int) : List (Int × Int) := seg x (colF x gs).1 (colM x gs)
def ptsTo (gs : List G) (k : Nat) : List (Int × Int) := (List.range k).flatMap fun (i : Nat) => colL gs ((i : Int) - 320)
/-- The whole points of a plate, rising. -/
def ptsF (gs : List G) : List (Int × Int) := ptsTo gs 641

theorem seg_succ (x lo : Int) (m : Nat) : seg x lo (m + 1) = seg x lo m ++ [(x, lo + m)] := by simp [seg, List.range_succ]
theorem ptsTo_succ (gs : List G) (k : Nat) : ptsTo gs (k + 1) = ptsTo gs k ++ colL gs ((k : Int) - 320) := by simp [ptsTo, List.range_succ, List.flatMap_append]
theorem ptsTo_pre (gs : List G) {j k : Nat} (h : j ≤ k) : ptsTo gs j <+: ptsTo gs k := by
  obtain ⟨d, rfl⟩ : ∃ d, k = j + d := ⟨k - j, by omega⟩
  clear h
  induction d with
  | zero => exact List.prefix_refl _
  | succ d ih => rw [← Nat.add_assoc, ptsTo_succ]; exact ih.trans (List.prefix_append _ _)
theorem seg_pre (x lo : Int) {j k : Nat} (h : j ≤ k) : seg x lo j <+: seg x lo k := by
  obtain ⟨d, rfl⟩ : ∃ d, k = j + d := ⟨k - j, by omega⟩
  clear h
  induction d with
  | zero => exact List.prefix_refl _
  | succ d ih => rw [← Nat.add_assoc, seg_succ]; exact ih.trans (List.prefix_append _ _)
theorem pts_pre (gs : List G) {k j : Nat} (hk : k < 641) (hj : j < colM ((k : Int) - 320) gs) :
    (ptsTo gs k ++ seg ((k : Int) - 320) (colF ((k : Int) - 320) gs).1 j) ++ [((k : Int) - 320, (colF ((k : Int) - 320) gs).1 + j)] <+: ptsF gs := by
  refine List.IsPrefix.trans ?_ (ptsTo_pre gs (show k + 1 ≤ 641 by omega))
  rw [List.append_assoc, ← seg_succ, ptsTo_succ]
  exact List.prefix_append_right_inj _ |>.2 (seg_pre _ _ hj)

theorem colStep_bd {x : Int} {p : Int × Int} {g : G} (hx : -320 ≤ x ∧ x ≤ 320) (hg : okS g = true) (hp : (-320 ≤ p.1 ∧ p.1 ≤ 1400) ∧ -1400 ≤ p.2 ∧ p.2 ≤ 320) :
    (-320 ≤ (colStep x p g).1 ∧ (colStep x p g).1 ≤ 1400) ∧ -1400 ≤ (colStep x p g).2 ∧ (colStep x p g).2 ≤ 320 := by
  obtain ⟨g1, g2, _, g4, g5⟩ := (okS_iff g).1 hg
  have p1 := mul_bd (M := 4) (N := 320) g1 hx
  have q := ediv_bd (a := g.2.2 - g.1 * x) (b := g.2.1) (M := 1320) (by omega)
  unfold colStep
  split
  · refine ⟨hp.1, ?_⟩; simp only; split <;> omega
  · split
    · refine ⟨?_, hp.2⟩; simp only; split <;> omega
    · exact hp
theorem colN_bd {x : Int} (hx : -320 ≤ x ∧ x ≤ 320) : ∀ (gs : List G) (p : Int × Int), OkAll gs → (-320 ≤ p.1 ∧ p.1 ≤ 1400) ∧ -1400 ≤ p.2 ∧ p.2 ≤ 320 →
    (-320 ≤ (gs.foldl (colStep x) p).1 ∧ (gs.foldl (colStep x) p).1 ≤ 1400) ∧ -1400 ≤ (gs.foldl (colStep x) p).2 ∧ (gs.foldl (colStep x) p).2 ≤ 320
  | [], _, _, h => h
  | g :: gs, p, ho, h => colN_bd hx gs _ (fun a ha => ho a (List.mem_cons_of_mem _ ha)) (colStep_bd hx (ho g (by simp)) h)
theorem colF_bd {x : Int} {gs : List G} (hx : -320 ≤ x ∧ x ≤ 320) (ho : OkAll gs) :
    (-320 ≤ (colF x gs).1 ∧ (colF x gs).1 ≤ 1400) ∧ -1400 ≤ (colF x gs).2 ∧ (colF x gs).2 ≤ 320 := by
  unfold colF
  split
  · simp
  · exact colN_bd hx gs _ ho (by simp)

abbrev encP (q : Int × Int) : Array Value := #[.agg #[.int .i64 q.1, .int .i64 q.2]]

set_option maxRecDepth 100000 in
set_option maxHeartbeats 4000000 in
theorem points_seq (gs : List G) (A : Option Addr) (n c Bp n₀ : Nat) (S : Nat → Prop) (w : World) (hg : Gs w n₀ A n c gs) (hok : Hid (OkAll gs)) (hBp : w.cell? ⟨Bp, 0, none⟩ = some (.slice A n c)) (hBl : Bp < w.heap.size) (hn : n₀ ≤ w.heap.size)
    (hS : ∀ k, k < n₀ ∨ k = Bp → S k) (hS2 : ∀ k, S k → k < w.heap.size) :
    Seqs Try.prog 95 #[.pointer (some ⟨Bp, 0, none⟩)] encP (ptsF gs) S w := by
  intro l J Jx W hW hJ hJx hY h0
  have hc0 := (hW.cell (p := ⟨Bp, 0, none⟩) hBl).trans hBp
  have HG := hide (hg.keep fun p hp => hW.cell (p := p) (by omega))
  have HJ := hide hJ; have HY := hide hY; have HS2 := hide (fun k hk => Nat.lt_of_lt_of_le (hS2 k hk) hW.size)
  have HS := hide hS
  have hnW : n₀ ≤ W.heap.size := Nat.le_trans hn hW.size
  clear hJ hJx hY hBp hW hg hS hS2
  refine callsIn_of_wp Try.func95 rfl trivial ?_ rfl
  simp only [Try.ntmps95, List.size_toArray, List.length_cons, List.length_nil, Nat.reduceAdd, Nat.reduceSub, Array.replicate_succ, Array.replicate_zero, List.push_toArray, List.append_toArray, List.nil_append, List.cons_append]
  gi_wp2
  gi_loopw [3] (fun i wr => ∃ k : Nat, k ≤ 641 ∧ i = .int .i64 ((k : Int) - 320) ∧ J (ptsTo gs k) wr ∧ Kept S W wr) (fun i _ => (321 - intOf i).toNat)
  case atStart => exact ⟨0, by omega, rfl, h0, Kept.refl _ _⟩
  case round =>
    obtain ⟨k, hk, rfl, hj, hkp⟩ := hrel
    have HJ0 := hide hj; have HK := hide hkp; clear hj hkp
    by_cases hlt : k < 641
    · obtain ⟨x, hx⟩ : ∃ x : Int, (k : Int) - 320 = x := ⟨_, rfl⟩
      have HX := hide hx
      have hx1 : -320 ≤ x := by omega
      have hx2 : x ≤ 320 := by omega
      rw [hx]
      clear hx
      have hc1 := ((unhide HK).cell (p := ⟨Bp, 0, none⟩) ((unhide HS) _ (.inr rfl))).trans hc0
      have hsz := (unhide HK).size
      have HG1 := hide (show Gs wr wr.heap.size A n c gs from ((unhide HG).keep fun p hp => (unhide HK).cell ((unhide HS) _ (.inl hp))).more (by omega))
      have hbd := colF_bd (x := x) (gs := gs) ⟨hx1, hx2⟩ hok.out
      have hpre := hide (fun j (hj : j < colM x gs) => HX.out ▸ pts_pre gs hlt (j := j) (HX.out.symm ▸ hj))
      have hend := hide (show ptsTo gs (k + 1) = ptsTo gs k ++ seg x (colF x gs).1 (colM x gs) from by rw [ptsTo_succ, HX.out]; rfl)
      have hm := hide (show colM x gs = ((colF x gs).2 + 1 - (colF x gs).1).toNat from rfl)
      revert hbd hpre hend hm
      obtain ⟨lo, hlo⟩ : ∃ z, (colF x gs).1 = z := ⟨_, rfl⟩
      obtain ⟨hi, hhi⟩ : ∃ z, (colF x gs).2 = z := ⟨_, rfl⟩
      obtain ⟨m, hmm⟩ : ∃ z, colM x gs = z := ⟨_, rfl⟩
      have HC := hide (column_any A n c gs x wr (unhide HG1) hok ⟨hx1, hx2⟩)
      rw [hlo, hhi] at HC
      rw [hlo, hhi, hmm]
      clear hlo hhi hmm
      intro hbd hpre hend hm
      obtain ⟨⟨b1, b2⟩, b3, b4⟩ := hbd
      gi_wp2_with fail
      refine ⟨trivial, rfl, (callsIn_wide.2 (unhide HC)).mono ?_⟩
      rintro e w' ⟨rfl, hb1⟩
      have HJ1 := hide (own_below (unhide HJ) (unhide HJ0) hb1)
      have HK1 := hide ((unhide HK).trans (Kept.below hb1 (fun k hk => Nat.lt_of_lt_of_le ((unhide HS2) k hk) hsz)))
      clear hb1
      gi_wp2_with fail
      gi_loopw [6] (fun i wr' => ∃ j : Nat, j ≤ m ∧ i = .int .i64 (lo + j) ∧ J (ptsTo gs k ++ seg x lo j) wr' ∧ Kept S W wr') (fun i _ => (hi + 1 - intOf i).toNat)
      case atStart => exact ⟨0, Nat.zero_le _, by simp, by simpa [seg] using unhide HJ1, unhide HK1⟩
      case round =>
        obtain ⟨j, hj, rfl, hj2, hk2⟩ := hrel
        have HJ2 := hide hj2; have HK2 := hide hk2; clear hj2 hk2
        have hm0 := hm.out
        by_cases hjm : j < m
        · have hle : lo + j ≤ hi := by omega
          obtain ⟨fn, tmps, assign, body, hy, hR⟩ := (unhide HY) _ (x, lo + (j : Int)) wr (hpre.out j hjm) (unhide HJ2)
          have HR := hide hR
          clear hR
          gi_wp2_with fail
          refine ⟨rfl, (unhide HR).mono ?_⟩
          rintro e W3 (⟨rfl, hJ3, hk3⟩ | ⟨rfl, hJx3⟩)
          · have HJ3 := hide (show J (ptsTo gs k ++ seg x lo (j + 1)) W3 from by rw [seg_succ, ← List.append_assoc]; exact hJ3)
            have HK3 := hide ((unhide HK2).trans hk3)
            clear hJ3 hk3
            gi_wp2_with fail
            go_roundw
            case rel => exact ⟨j + 1, by omega, by go_num, unhide HJ3, unhide HK3⟩
            case measure => simp [intOf]; omega
          · gi_wp2_with fail
            refine bodyPost_ret (results_none rfl _ _ _) rfl ?_
            exact ⟨⟨_, rfl⟩, .inr hJx3⟩
        · obtain rfl : j = m := by omega
          have hle : ¬ lo + (j : Int) ≤ hi := by omega
          have HJ3 := hide (show J (ptsTo gs (k + 1)) wr from by rw [hend.out]; exact unhide HJ2)
          have hxk := HX.out
          gi_wp2_with fail
          go_roundw
          case rel => exact ⟨k + 1, by omega, by rw [← hxk]; go_num, unhide HJ3, unhide HK2⟩
          case measure => simp [intOf]; omega
    · obtain rfl : k = 641 := by omega
      gi_wp2_with fail
      go_end0
      exact ⟨⟨_, rfl⟩, .inl (unhide HJ0)⟩
end Go.Proofs.Ytccfhcoioakmpaa
