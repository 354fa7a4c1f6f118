import Derived.Test.YtmpdalcdkibgpaaM6
import Derived.Deep.RegionHeld3
namespace Go.Proofs.Ytmpdalcdkibgpaa
open Go.RowKit Go.Sort

/-- The length of a slice. -/
def lenOf : Value → Nat | .slice _ n _ => n | _ => 0
theorem OwnedG.kept {w w' : World} {base : Nat} {e : TypeId} {v : Value} {gs : List G} (h : OwnedG w base e v gs) {row : Option Nat} (hg : w.grownBy w' row) (hne : v.ownBlock = none ∨ v.ownBlock ≠ row) : OwnedG w' base e v gs := World.ownsRow.kept h hg hne
theorem Owned.kept {w w' : World} {base : Nat} {v : Value} {xs : List Int} (h : Owned w base v xs) {row : Option Nat} (hg : w.grownBy w' row) (hne : v.ownBlock = none ∨ v.ownBlock ≠ row) : Owned w' base v xs := World.ownsRow.kept h hg hne
/-- A slice of numbers and a slice of structs never share a block. -/
theorem apartG {w : World} {base base' g n c : Nat} {v : Value} {xs : List Int} {gs : List G} (h : Owned w base (.slice (some ⟨g, 0, none⟩) n c) xs) (h' : OwnedG w base' 73 v gs) : v.ownBlock ≠ some g := by
  intro e
  rcases h.2 with ⟨h0, _⟩ | ⟨g1, _, cur1, hv1, _, hh1, _⟩
  · cases h0
  · cases hv1
    rcases h'.2 with ⟨h0, _⟩ | ⟨g2, _, cur2, hv2, _, hh2, _⟩
    · subst h0; simp [Value.ownBlock] at e
    · subst hv2
      simp [Value.ownBlock] at e
      subst e
      rw [hh1] at hh2
      simp at hh2

theorem do_at (g n c1 : Nat) (S : List Int) (j k : Nat) (d : Int) (wr W0 : World) (base : Nat) (gs : List G) (v : Value) (h : Nat) (hh : h = wr.heap.size) (hW : ∃ q, W0 = wr.drewN q) (hO : Owned wr base (.slice (some ⟨g, 0, none⟩) n c1) S) (hG : OwnedG wr base 73 v gs)
    (hl : S.length = n) (hcap : n ≤ c1) (hm : c1 ≤ 9223372036854775807) (hx : Hid (Small 20 S)) (hf : j < n) (ht : k < n) (hne : j ≠ k) (hm1 : 1 ≤ d) (hm2 : d ≤ 20) (hg : base ≤ g) (hb : base ≤ wr.heap.size) :
    Calls Try.prog 68 #[.slice (some ⟨g, 0, none⟩) n c1, .agg #[.int .i64 j, .int .i64 k, .int .i64 d]] ((((W0.alloc (.cells #[.int .i64 0, .int .i64 0, .int .i64 0] 73)).setCell ⟨h, 0, none⟩ (.int .i64 j)).setCell ⟨h, 1, none⟩ (.int .i64 k)).setCell ⟨h, 2, none⟩ (.int .i64 d)) fun e w3 =>
      e = .returned (.tuple #[]) ∧ Owned w3 base (.slice (some ⟨g, 0, none⟩) n c1) (doG S ((j : Int), (k : Int), d)) ∧ OwnedG w3 base 73 v gs ∧ w3.cell? ⟨h, 0, none⟩ = some (.int .i64 j) ∧ w3.cell? ⟨h, 1, none⟩ = some (.int .i64 k) ∧ w3.cell? ⟨h, 2, none⟩ = some (.int .i64 d) ∧ Below base wr w3 := by
  obtain ⟨q, rfl⟩ := hW
  subst hh
  have e1 : ((((wr.drewN q).alloc (.cells #[.int .i64 0, .int .i64 0, .int .i64 0] 73)).setCell ⟨wr.heap.size, 0, none⟩ (.int .i64 (j : Int))).setCell ⟨wr.heap.size, 1, none⟩ (.int .i64 (k : Int))).setCell ⟨wr.heap.size, 2, none⟩ (.int .i64 d) = (wr.drewN q).alloc (.cells #[.int .i64 (j : Int), .int .i64 (k : Int), .int .i64 d] 73) := by
    rw [World.setCell_alloc_at (w := wr.drewN q) _ _ _ _ _ (by rfl), World.setCell_alloc_at (w := wr.drewN q) _ _ _ _ _ (by rfl), World.setCell_alloc_at (w := wr.drewN q) _ _ _ _ _ (by rfl)]
    rfl
  rw [e1]
  have hbel : Below wr.heap.size wr ((wr.drewN q).alloc (.cells #[.int .i64 (j : Int), .int .i64 (k : Int), .int .i64 d] 73)) := (Below.ofDraws q).alloc (Nat.le_refl _) _
  have hO1 := hO.below hbel (Nat.le_refl _)
  have hG1 := hG.below hbel (Nat.le_refl _)
  have hap := apartG hO1 hG1
  have hgl : g < wr.heap.size := (World.ownsRow.lt hO g rfl).2
  have hsz : ((wr.drewN q).alloc (.cells #[.int .i64 (j : Int), .int .i64 (k : Int), .int .i64 d] 73)).heap.size = wr.heap.size + 1 := by simp
  refine (do_any g n c1 S j k d _ base hO1 hl hcap hm hx hf ht hne hm1 hm2 hg (Nat.le_trans hb hbel.size)).mono ?_
  rintro e w3 ⟨he, ho3, hb3, hg3⟩
  have cell : ∀ i u, ((wr.drewN q).alloc (.cells #[.int .i64 (j : Int), .int .i64 (k : Int), .int .i64 d] 73)).cell? ⟨wr.heap.size, i, none⟩ = some u → w3.cell? ⟨wr.heap.size, i, none⟩ = some u := fun i u hu =>
    (World.cell?_of_block (hg3.block wr.heap.size (by rw [hsz]; omega) (fun e => by cases e; omega))).trans hu
  exact ⟨he, ho3, hG1.kept hg3 (.inr hap), cell 0 _ ((World.cell?_alloc_at (w := wr.drewN q) _ _ _ _ (by rfl)).trans (by rfl)), cell 1 _ ((World.cell?_alloc_at (w := wr.drewN q) _ _ _ _ (by rfl)).trans (by rfl)),
    cell 2 _ ((World.cell?_alloc_at (w := wr.drewN q) _ _ _ _ (by rfl)).trans (by rfl)), (hbel.mono hb).trans hb3⟩

set_option maxHeartbeats 4000000 in
theorem findGives_any (A A' : Option Addr) (n c c' : Nat) (xs ys : List Int) (w : World) (h : Ints w w.heap.size A n c xs) (h' : Ints w w.heap.size A' n c' ys) (hn1 : 1 ≤ n) (hn6 : n ≤ 6) (hsy : Hid (Small 20 ys)) (hinv : Hid (Inv xs ys n)) (hfal : Hid (isFal ys = true)) :
    Calls Try.prog 66 #[.slice A n c, .slice A' n c'] w fun e w' => ∃ A1 n1 c1 gs, e = .returned (.slice A1 n1 c1) ∧ Gs w' w'.heap.size A1 n1 c1 gs ∧ Hid (runG xs gs = some ys) ∧ Hid (gs.length ≤ n) ∧ Below w.heap.size w w' := by
  have hl := hide h.len
  have Ib := hide h'; clear h'
  go_enter Try.func66, Try.ntmps66
  go_wp2_with fail
  refine (clone_any _ _ _ _ _ _ h (by omega)).mono ?_
  rintro e w1 ⟨v, rfl, ho, hb1⟩
  obtain ⟨g, c1, rfl, hg, hc1, hm1, ho'⟩ := ho.head hl.out (by omega)
  clear ho
  have HO := hide ho'; have HB1 := hide hb1; clear ho' hb1 h
  go_wp2_with fail
  go_loopw [5] (fun v wr => ∃ (A1 : Option Addr) (n1 c2 : Nat) (S : List Int) (gs : List G), v = .slice A1 n1 c2 ∧ OwnedG wr w.heap.size 73 (.slice A1 n1 c2) gs ∧ Hid (gs.length = n1) ∧ Owned wr w.heap.size (.slice (some ⟨g, 0, none⟩) n c1) S ∧ Hid (Inv S ys n) ∧ Hid (runG xs gs = some S) ∧ Hid (gs.length + dif S ys n ≤ n) ∧ Below w.heap.size w wr) (fun v _ => 6 - lenOf v)
  case atStart => exact ⟨none, 0, 0, xs, [], rfl, World.ownsRow_nil _ _ _ _, rfl, unhide HO, hinv, rfl, by have := dif_le xs ys n; simpa [Hid] using this, unhide HB1⟩
  case round =>
    obtain ⟨A1, n1, c2, S, gs, rfl, hog, hlg, hos, hI, hrun, hdif, hbl⟩ := hrel
    have HOG := hide hog; have HOS := hide hos; have HB := hide hbl; clear hog hos hbl
    have HIs := hide (unhide HOS).asInts
    have Jb := hide (((unhide Ib).below (unhide HB)).more (unhide HB).size)
    go_wp2_with fail
    refine (firstPoorer_any _ _ _ _ _ _ _ _ _ _ (unhide HIs) (unhide Jb)).mono ?_
    rintro e w2 ⟨z, rfl, ⟨q, rfl⟩, hz⟩
    rcases hz.out with ⟨rfl, hlt⟩ | ⟨k, rfl, hk, hlt, hlow⟩
    · have HE := hide (inv_end hI.out hlt)
      have HLT := hide hlt; clear hlt hz
      go_wp2_with fail
      go_ret
      obtain ⟨A4, n4, c4, e4, hgs⟩ := (unhide HOG).to
      cases e4
      exact ⟨_, _, _, gs, rfl, hgs.below (Below.ofDraws q), hide (by rw [hrun.out, HE.out]), hide (by have := hdif.out; omega), (unhide HB).trans (Below.ofDraws q |>.mono (unhide HB).size)⟩
    · obtain ⟨i0, hi0, hi0n⟩ := inv_some hI.out hk hlt hlow
      have HLT := hide hlt; clear hlt hz
      have hsome := hide (show ∃ i, i ≤ k - 1 ∧ nth S i ≠ nth ys i from ⟨i0, by omega, hi0n⟩)
      have hk1 : 1 ≤ k := by omega
      have hd1 := dif_pos (S := S) (Y := ys) (n := n) (k := k) (by omega) hk
      have hn1lt : n1 < n := by have := hdif.out; have := hlg.out; omega
      clear hi0n hi0 hd1
      go_wp2_with fail
      go_loopw [8] (fun i wr2 => ∃ j : Nat, j < k ∧ i = .int .i64 j ∧ Hid (∃ i, i ≤ j ∧ nth S i ≠ nth ys i) ∧ ∃ q, wr2 = wr.drewN q) (fun i _ => (intOf i).toNat)
      case atStart => exact ⟨k - 1, by omega, by go_num, hsome, q, rfl⟩
      case round =>
        obtain ⟨j, hj, rfl, hex, q2, rfl⟩ := hrel
        obtain ⟨b3, o3, e3, _, cS⟩ := (unhide HIs).at_ j (by omega)
        simp only [Option.some.injEq, Addr.mk.injEq, and_true] at e3
        obtain ⟨rfl, rfl⟩ := e3
        rw [Nat.zero_add] at cS
        obtain ⟨b4, o4, e4, _, cY⟩ := (unhide Jb).at_ j (by omega)
        by_cases heq : nth S j = nth ys j
        · have hb : (nth S j == nth ys j) = true := by simp [heq]
          have hj1 : 1 ≤ j := by
            obtain ⟨i, hi, hin⟩ := hex.out
            rcases Nat.eq_zero_or_pos j with h0 | h0
            · subst h0; obtain rfl : i = 0 := by omega
              exact absurd heq hin
            · exact h0
          have hex2 := hide (show ∃ i, i ≤ j - 1 ∧ nth S i ≠ nth ys i from by
            obtain ⟨i, hi, hin⟩ := hex.out
            exact ⟨i, by rcases Nat.lt_or_ge i j with h0 | h0
                         · omega
                         · obtain rfl : i = j := by omega
                           exact absurd heq hin, hin⟩)
          clear heq
          subst e4
          go_wp2_with fail
          go_quiet (fail)
          go_wp2_with fail
          go_roundw
          case rel => exact ⟨j - 1, by omega, by go_num, hex2, (by first | exact ⟨_, rfl⟩ | exact quiet_q _ _ _)⟩
          case measure => simp [intOf]; omega
        · have hb : (nth S j == nth ys j) = false := by simp [heq]
          obtain ⟨d, hd⟩ : ∃ d, d = min (nth S j - nth ys j) (nth ys k - nth S k) := ⟨_, rfl⟩
          obtain ⟨hcan, hinv2, hdif2⟩ := inv_step hI.out hfal.out hk HLT.out hlow hj heq hd
          have HD := hide hd; have HCAN := hide hcan; have HINV2 := hide hinv2; have HDIF2 := hide hdif2
          clear hd hcan hinv2 hdif2 heq
          subst e4
          obtain ⟨b5, o5, e5, _, cSk⟩ := (unhide HIs).at_ k hk
          simp only [Option.some.injEq, Addr.mk.injEq, and_true] at e5
          obtain ⟨rfl, rfl⟩ := e5
          rw [Nat.zero_add] at cSk
          obtain ⟨b6, o6, e6, _, cYk⟩ := (unhide Jb).at_ k hk
          simp only [Option.some.injEq, Addr.mk.injEq, and_true] at e6
          obtain ⟨rfl, rfl⟩ := e6
          obtain ⟨s1, s2⟩ := hI.out.small j; obtain ⟨s3, s4⟩ := hI.out.small k; obtain ⟨t1, t2⟩ := hsy.out j; obtain ⟨t3, t4⟩ := hsy.out k
          have i1 : (0 : Int) ≤ (j : Int) := by omega
          have i2 : (j : Int) < (n : Int) := by omega
          have i3 : (0 : Int) ≤ (k : Int) := by omega
          have i4 : (k : Int) < (n : Int) := by omega
          have i5 : (j : Int) < (k : Int) := by omega
          go_wp2_with fail
          go_quiet (fail)
          go_wp2_with fail
          have w1' := World.new_ne wr ⟨g, j, none⟩ cS
          have w2' := World.new_ne wr ⟨b4, o4 + j, none⟩ cY
          have w3' := World.new_ne wr ⟨g, k, none⟩ cSk
          have w4' := World.new_ne wr ⟨b4, o4 + k, none⟩ cYk
          have z1 : ∀ q, ((wr.drewN q).alloc (.cells #[.int .i64 0, .int .i64 0, .int .i64 0] 73)).cell? ⟨g, j, none⟩ = some (.int .i64 (nth S j)) := fun q => (World.cell?_alloc_lt (wr.drewN q) _ _ (World.block_lt_of_cell? wr _ cS)).trans cS
          have z2 : ∀ q, ((wr.drewN q).alloc (.cells #[.int .i64 0, .int .i64 0, .int .i64 0] 73)).cell? ⟨b4, o4 + j, none⟩ = some (.int .i64 (nth ys j)) := fun q => (World.cell?_alloc_lt (wr.drewN q) _ _ (World.block_lt_of_cell? wr _ cY)).trans cY
          have z3 : ∀ q, ((wr.drewN q).alloc (.cells #[.int .i64 0, .int .i64 0, .int .i64 0] 73)).cell? ⟨g, k, none⟩ = some (.int .i64 (nth S k)) := fun q => (World.cell?_alloc_lt (wr.drewN q) _ _ (World.block_lt_of_cell? wr _ cSk)).trans cSk
          have z4 : ∀ q, ((wr.drewN q).alloc (.cells #[.int .i64 0, .int .i64 0, .int .i64 0] 73)).cell? ⟨b4, o4 + k, none⟩ = some (.int .i64 (nth ys k)) := fun q => (World.cell?_alloc_lt (wr.drewN q) _ _ (World.block_lt_of_cell? wr _ cYk)).trans cYk
          have y0 : ∀ q, ((wr.drewN q).alloc (.cells #[.int .i64 0, .int .i64 0, .int .i64 0] 73)).cell? ⟨wr.heap.size, 0, none⟩ = some (.int .i64 0) := fun q => (World.cell?_alloc_at (w := wr.drewN q) _ _ _ _ (by rfl)).trans (by rfl)
          have x0 : ∀ q, ((wr.drewN q).alloc (.cells #[.int .i64 0, .int .i64 0, .int .i64 0] 73)).frozen? ⟨wr.heap.size, 0, none⟩ = false := fun q => World.frozen?_alloc_at _ _ _ _ rfl
          have y1 : ∀ q, ((wr.drewN q).alloc (.cells #[.int .i64 0, .int .i64 0, .int .i64 0] 73)).cell? ⟨wr.heap.size, 1, none⟩ = some (.int .i64 0) := fun q => (World.cell?_alloc_at (w := wr.drewN q) _ _ _ _ (by rfl)).trans (by rfl)
          have x1 : ∀ q, ((wr.drewN q).alloc (.cells #[.int .i64 0, .int .i64 0, .int .i64 0] 73)).frozen? ⟨wr.heap.size, 1, none⟩ = false := fun q => World.frozen?_alloc_at _ _ _ _ rfl
          have y2 : ∀ q, ((wr.drewN q).alloc (.cells #[.int .i64 0, .int .i64 0, .int .i64 0] 73)).cell? ⟨wr.heap.size, 2, none⟩ = some (.int .i64 0) := fun q => (World.cell?_alloc_at (w := wr.drewN q) _ _ _ _ (by rfl)).trans (by rfl)
          have x2 : ∀ q, ((wr.drewN q).alloc (.cells #[.int .i64 0, .int .i64 0, .int .i64 0] 73)).frozen? ⟨wr.heap.size, 2, none⟩ = false := fun q => World.frozen?_alloc_at _ _ _ _ rfl
          go_region
          go_wp2_with fail
          clear z1 z2 z3 z4 y0 y1 y2 x0 x1 x2 w1' w2' w3' w4' cS cY cSk cYk
          have hd1 : 1 ≤ d := by obtain ⟨_, _, _, _, _, _, _, h1, _⟩ := canG_ok HCAN.out; exact h1
          have hd20 : d ≤ 20 := by have := HD.out; omega
          rw [← HD.out]
          refine (do_at g n c1 S j k d wr _ w.heap.size gs (.slice A1 n1 c2) wr.heap.size rfl ⟨_, rfl⟩ (unhide HOS) (unhide HOG) hI.out.len hc1 hm1 (hide hI.out.small) (by omega) hk (by omega) hd1 hd20 hg (unhide HB).size).mono ?_
          rintro e w3 ⟨rfl, ho3, hg3, q0, q1, q2', hb3⟩
          have HO3 := hide ho3; have HG3 := hide hg3; have HB3 := hide ((unhide HB).trans hb3)
          have hrun2 := hide (show runG xs (gs ++ [((j : Int), (k : Int), d)]) = some (doG S ((j : Int), (k : Int), d)) from by rw [runG_snoc, hrun.out]; simp [HCAN.out])
          have hap := hide (apartG ho3 hg3)
          clear ho3 hg3 hb3
          go_wp2_with (at_builtin
                       refine wpList_appG (by rfl) (.tmp 56) (.tmp 58) 34 73 (by rfl) Try.underlying34 info73 (by rfl) (by simp [Act.eval]) (unhide HG3) (by have := hlg.out; omega) (unhide HB3).size ?_
                       intro v4 w4 ho4 hb4 hg4
                       obtain ⟨A5, n5, c5, e5, _⟩ := ho4.to
                       have HG4 := hide ho4; have E5 := hide e5
                       have HO4 := hide ((unhide HO3).kept hg4 (.inr (fun e => (unhide hap) (by rw [← e]; rfl))))
                       have HB4 := hide ((unhide HB3).trans hb4)
                       clear ho4 hb4 hg4 e5)
          have hlen5 := hide (show (gs ++ [((j : Int), (k : Int), d)]).length = n5 from by
            have h1 := (HG4.out).gs
            obtain ⟨A9, c9, e9, _⟩ := h1
            rw [E5.out] at e9
            cases e9; rfl)
          go_roundw
          case rel => exact ⟨A5, n5, c5, doG S ((j : Int), (k : Int), d), gs ++ [((j : Int), (k : Int), d)], E5.out, E5.out ▸ HG4.out, hlen5, unhide HO4, HINV2, hrun2, hide (by have := HDIF2.out; have := hdif.out; simp; omega), unhide HB4⟩
          case measure => have := hlen5.out; have := hlg.out; rw [E5.out]; simp [lenOf] at *; omega
end Go.Proofs.Ytmpdalcdkibgpaa
