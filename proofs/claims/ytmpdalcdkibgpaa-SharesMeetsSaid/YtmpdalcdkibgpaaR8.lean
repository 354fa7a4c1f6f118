import Derived.Test.YtmpdalcdkibgpaaR7
import Derived.Lib.SliceRun
namespace Go.Proofs.Ytmpdalcdkibgpaa
open Go.RowKit Go.Sort

def may (cmp : List Int → List Int → Bool) (best : Option (List Int)) (c : List Int) : Bool := match best with | none => true | some d => cmp c d
/-- One step of a search for the best: 'ok' says which may be taken, 'cmp' which is no worse than the one so far. -/
def pick (ok : List Int → Bool) (cmp : List Int → List Int → Bool) (best : Option (List Int)) (c : List Int) : Option (List Int) :=
  if ok c && may cmp best c then some c else best
theorem pick_best {ok : List Int → Bool} {cmp : List Int → List Int → Bool} {M : List Int} (P : List Int → Prop) (hM : ok M = true) (h1 : ∀ c, P c → ok c = true → cmp M c = true) (h2 : ∀ c, P c → ok c = true → cmp c M = true → c = M) :
    ∀ (L : List (List Int)) (best : Option (List Int)), (∀ c ∈ L, P c) → (∀ d, best = some d → P d ∧ ok d = true) → (M ∈ L ∨ best = some M) → L.foldl (pick ok cmp) best = some M := by
  intro L
  induction L with
  | nil =>
    intro best _ _ h
    rcases h with h | h
    · simp at h
    · exact h
  | cons c L ih =>
    intro best hL hb h
    rw [List.foldl_cons]
    have hc := hL c (by simp)
    refine ih _ (fun d hd => hL d (by simp [hd])) (fun d hd => ?_) ?_
    · unfold pick at hd
      by_cases hk : (ok c && may cmp best c) = true
      · rw [if_pos hk] at hd
        cases hd
        rw [Bool.and_eq_true] at hk
        exact ⟨hc, hk.1⟩
      · rw [if_neg hk] at hd
        exact hb d hd
    · rcases h with h | h
      · rcases List.mem_cons.1 h with rfl | h
        · right
          unfold pick; rw [if_pos]
          rw [hM, Bool.true_and]
          cases best with
          | none => rfl
          | some d => exact h1 d (hb d rfl).1 (hb d rfl).2
        · exact .inl h
      · right
        unfold pick
        by_cases hk : (ok c && may cmp best c) = true
        · rw [if_pos hk]
          rw [Bool.and_eq_true, h] at hk
          rw [h2 c hc hk.1 hk.2]
        · rw [if_neg hk]
          exact h
def okM (a b c : List Int) : Bool := unevR a c && unevR b c
def okJ (a b c : List Int) : Bool := unevR c a && unevR c b
def cmpM (c d : List Int) : Bool := unevR c d
def cmpJ (c d : List Int) : Bool := unevR d c
def bestM (a b : List Int) (m k : Nat) : Option (List Int) := ((allN m).take k).foldl (pick (okM a b) cmpM) none
def bestJ (a b : List Int) (m k : Nat) : Option (List Int) := ((allN m).take k).foldl (pick (okJ a b) cmpJ) none
theorem bestM_all {a b : List Int} {m : Nat} (ha : IsP a m) (hb : IsP b m) : bestM a b m (allN m).length = some (meetF a b) := by
  have hM := meet_isP ha hb
  rw [bestM, List.take_length]
  refine pick_best (fun c => IsP c m) ?_ (fun c hc hk => ?_) (fun c hc hk hcm => ?_) _ _ (fun c hc => allN_isP ha.pos ha.le hc) (fun d hd => by cases hd) (.inl hM.mem)
  · rw [okM, Bool.and_eq_true, unevR_dom ha hM, unevR_dom hb hM]
    exact ⟨dom_meet_left ha hb, by rw [meet_comm]; exact dom_meet_left hb ha⟩
  · rw [okM, Bool.and_eq_true, unevR_dom ha hc, unevR_dom hb hc] at hk
    rw [cmpM, unevR_dom hM hc]
    exact dom_meet ha hb hk.1 hk.2
  · rw [okM, Bool.and_eq_true, unevR_dom ha hc, unevR_dom hb hc] at hk
    rw [cmpM, unevR_dom hc hM] at hcm
    exact dom_antisymm hc hM hcm (dom_meet ha hb hk.1 hk.2)
theorem bestJ_all {a b : List Int} {m : Nat} (ha : IsP a m) (hb : IsP b m) : bestJ a b m (allN m).length = some (joinF a b) := by
  have hM := join_isP ha hb
  rw [bestJ, List.take_length]
  refine pick_best (fun c => IsP c m) ?_ (fun c hc hk => ?_) (fun c hc hk hcm => ?_) _ _ (fun c hc => allN_isP ha.pos ha.le hc) (fun d hd => by cases hd) (.inl hM.mem)
  · rw [okJ, Bool.and_eq_true, unevR_dom hM ha, unevR_dom hM hb]
    exact ⟨dom_join_left ha hb, by rw [join_comm]; exact dom_join_left hb ha⟩
  · rw [okJ, Bool.and_eq_true, unevR_dom hc ha, unevR_dom hc hb] at hk
    rw [cmpJ, unevR_dom hc hM]
    exact dom_join ha hb hc hk.1 hk.2
  · rw [okJ, Bool.and_eq_true, unevR_dom hc ha, unevR_dom hc hb] at hk
    rw [cmpJ, unevR_dom hM hc] at hcm
    exact dom_antisymm hc hM (dom_join ha hb hc hk.1 hk.2) hcm

/-- The slot holds the best so far: nil, or a slice. -/
def BestIs (w : World) (m : Nat) (A : Option Addr) (n c : Nat) (o : Option (List Int)) : Prop :=
  (o = none ∧ A = none ∧ n = 0 ∧ c = 0) ∨ ∃ d b off, o = some d ∧ IsP d m ∧ A = some ⟨b, off, none⟩ ∧ Ints w w.heap.size A n c d
theorem BestIs.below {w w' : World} {m n c : Nat} {A : Option Addr} {o : Option (List Int)} (h : BestIs w m A n c o) (hb : Below w.heap.size w w') : BestIs w' m A n c o := by
  rcases h with h | ⟨d, b, off, h1, h2, h3, h4⟩
  · exact .inl h
  · exact .inr ⟨d, b, off, h1, h2, h3, (h4.below hb).more hb.size⟩

theorem bestM_succ {a b : List Int} {m k : Nat} (h : k < (allN m).length) : bestM a b m (k + 1) = pick (okM a b) cmpM (bestM a b m k) (row (allN m) k) := by
  rw [bestM, bestM, take_row _ _ h, List.foldl_append]
  rfl
set_option maxHeartbeats 4000000 in
theorem RMeet_any (A A' : Option Addr) (n c n' c' : Nat) (xs ys : List Int) (w : World) (h : Ints w w.heap.size A n c xs) (h' : Ints w w.heap.size A' n' c' ys) (m : Nat) (hx : Hid (IsP xs m)) (hy : Hid (IsP ys m)) :
    Calls Try.prog 48 #[.slice A n c, .slice A' n' c'] w fun e w' => ∃ A1 n1 c1, e = .returned (.slice A1 n1 c1) ∧ Ints w' w'.heap.size A1 n1 c1 (meetF xs ys) ∧ Below w.heap.size w w' := by
  have hm12 := hx.out.le; have hm1 := hx.out.pos
  have Ia := hide h; have Ib := hide h'; clear h h'
  go_enter Try.func48, Try.ntmps48
  go_wp2_with fail
  refine (sum12 _ _ _ _ _ _ (unhide Ia) m hx).mono ?_
  rintro e w0 ⟨rfl, rfl⟩
  go_wp2_with fail
  refine (all12 m _ hm12).mono ?_
  rintro e w1 ⟨A2, K, c2, rfl, hr, hb1⟩
  have HB1 := hide hb1
  have I1 := hide (((unhide Ia).below hb1).more hb1.size); have I2 := hide (((unhide Ib).below hb1).more hb1.size)
  have hK := hide hr.len
  have hmK := hr.most; have hcK := hr.cap
  have HR := hide hr
  have qe : ∀ (w : World) (a : Option Addr) (n c n' c' : Nat), (binOp .eql 22 (.slice a n c) (.slice none n' c')).run Try.prog w = .ok (.bool a.isNone) w := fun w a n c n' c' => Lib.run_eql_slice_nil w _ _ a n c n' c' Try.underlying22
  have QE := hide qe; clear qe
  clear hb1 hr Ia Ib
  go_wp2_with fail
  go_loopw [12, 5] (fun i v wr => ∃ (k : Nat) (A1 : Option Addr) (n1 c1 : Nat), k ≤ K ∧ i = .int .i64 k ∧ v = .slice A1 n1 c1 ∧ BestIs wr m A1 n1 c1 (bestM xs ys m k) ∧ Below w1.heap.size w1 wr) (fun i _ _ => K - (intOf i).toNat)
  case atStart => exact ⟨0, none, 0, 0, Nat.zero_le _, rfl, rfl, .inl ⟨rfl, rfl, rfl, rfl⟩, Below.refl _ _⟩
  case round =>
    obtain ⟨k, A1, n1, c1, hk, rfl, rfl, hbest, hb⟩ := hrel
    have HBest := hide hbest; have HB := hide hb; clear hbest hb
    by_cases hlt : k < K
    · have La := hide (((unhide I1).below (unhide HB)).more (unhide HB).size)
      have Lb := hide (((unhide I2).below (unhide HB)).more (unhide HB).size)
      have Jl := hide ((unhide HR).below (unhide HB))
      obtain ⟨b5, o5, rfl⟩ := (unhide Jl).addr (by omega)
      obtain ⟨Ac, nc, cc, hcell, hic⟩ := (unhide Jl).get hlt
      have hcp := hide (allN_isP hm1 hm12 (row_in (l := allN m) (k := k) (by rw [hK.out]; exact hlt)))
      obtain ⟨b6, o6, rfl, _⟩ := hic.at_ 0 (by have := hic.len; have := hcp.out.len; omega)
      have Lc := hide (hic.more (unhide HB).size); clear hic
      have hsucc := bestM_succ (a := xs) (b := ys) (m := m) (k := k) (by rw [hK.out]; exact hlt)
      unfold pick at hsucc
      have qe := unhide QE
      rcases u1 : unevR xs (row (allN m) k)
      · have HN := hide (show bestM xs ys m (k + 1) = bestM xs ys m k from by rw [hsucc, okM, u1]; rfl)
        have U1 := hide u1; clear u1 hsucc
        go_wp2_with fail
        refine (unevP _ _ _ _ _ _ _ _ _ (unhide La) (unhide Lc) m hx hcp false (hide U1.out)).mono ?_
        rintro e w10 ⟨rfl, b10'⟩
        replace HB := hide ((unhide HB).trans (b10'.mono (unhide HB).size))
        replace HBest := hide ((unhide HBest).below b10')
        replace La := hide (((unhide La).below b10').more b10'.size)
        replace Lb := hide (((unhide Lb).below b10').more b10'.size)
        replace Lc := hide (((unhide Lc).below b10').more b10'.size)
        clear b10'
        go_wp2_with fail
        go_roundw
        case rel => exact ⟨k + 1, _, n1, c1, by omega, by go_num, rfl, by rw [HN.out]; exact unhide HBest, unhide HB⟩
        case measure => simp [intOf]; omega
      rcases u2 : unevR ys (row (allN m) k)
      · have HN := hide (show bestM xs ys m (k + 1) = bestM xs ys m k from by rw [hsucc, okM, u1, u2]; rfl)
        have U1 := hide u1; have U2 := hide u2; clear u1 u2 hsucc
        go_wp2_with fail
        refine (unevP _ _ _ _ _ _ _ _ _ (unhide La) (unhide Lc) m hx hcp true (hide U1.out)).mono ?_
        rintro e w10 ⟨rfl, b10'⟩
        replace HB := hide ((unhide HB).trans (b10'.mono (unhide HB).size))
        replace HBest := hide ((unhide HBest).below b10')
        replace La := hide (((unhide La).below b10').more b10'.size)
        replace Lb := hide (((unhide Lb).below b10').more b10'.size)
        replace Lc := hide (((unhide Lc).below b10').more b10'.size)
        clear b10'
        go_wp2_with fail
        refine (unevP _ _ _ _ _ _ _ _ _ (unhide Lb) (unhide Lc) m hy hcp false (hide U2.out)).mono ?_
        rintro e w11 ⟨rfl, b11'⟩
        replace HB := hide ((unhide HB).trans (b11'.mono (unhide HB).size))
        replace HBest := hide ((unhide HBest).below b11')
        replace La := hide (((unhide La).below b11').more b11'.size)
        replace Lb := hide (((unhide Lb).below b11').more b11'.size)
        replace Lc := hide (((unhide Lc).below b11').more b11'.size)
        clear b11'
        go_wp2_with fail
        go_roundw
        case rel => exact ⟨k + 1, _, n1, c1, by omega, by go_num, rfl, by rw [HN.out]; exact unhide HBest, unhide HB⟩
        case measure => simp [intOf]; omega
      rcases unhide HBest with ⟨hq, rfl, rfl, rfl⟩ | ⟨d, b7, o7, hq, hdp0, rfl, hid⟩
      · have HN := hide (show bestM xs ys m (k + 1) = some (row (allN m) k) from by rw [hsucc, okM, u1, u2, hq]; rfl)
        have U1 := hide u1; have U2 := hide u2; clear u1 u2 hsucc hq
        go_wp2_with fail
        refine (unevP _ _ _ _ _ _ _ _ _ (unhide La) (unhide Lc) m hx hcp true (hide U1.out)).mono ?_
        rintro e w10 ⟨rfl, b10'⟩
        replace HB := hide ((unhide HB).trans (b10'.mono (unhide HB).size))
        replace HBest := hide ((unhide HBest).below b10')
        replace La := hide (((unhide La).below b10').more b10'.size)
        replace Lb := hide (((unhide Lb).below b10').more b10'.size)
        replace Lc := hide (((unhide Lc).below b10').more b10'.size)
        clear b10'
        go_wp2_with fail
        refine (unevP _ _ _ _ _ _ _ _ _ (unhide Lb) (unhide Lc) m hy hcp true (hide U2.out)).mono ?_
        rintro e w11 ⟨rfl, b11'⟩
        replace HB := hide ((unhide HB).trans (b11'.mono (unhide HB).size))
        replace HBest := hide ((unhide HBest).below b11')
        replace La := hide (((unhide La).below b11').more b11'.size)
        replace Lb := hide (((unhide Lb).below b11').more b11'.size)
        replace Lc := hide (((unhide Lc).below b11').more b11'.size)
        clear b11'
        have hnew := hide (show BestIs _ m (some ⟨b6, o6, none⟩) nc cc (some (row (allN m) k)) from .inr ⟨_, b6, o6, rfl, hcp.out, rfl, unhide Lc⟩)
        go_wp2_with fail
        go_roundw
        case rel => exact ⟨k + 1, _, nc, cc, by omega, by go_num, rfl, by rw [HN.out]; exact unhide hnew, unhide HB⟩
        case measure => simp [intOf]; omega
      · have hdp := hide hdp0; have Ld := hide hid; clear hdp0 hid
        rcases u3 : unevR (row (allN m) k) d
        · have HN := hide (show bestM xs ys m (k + 1) = bestM xs ys m k from by rw [hsucc, okM, u1, u2, hq]; simp only [may, cmpM, u3]; rfl)
          have U1 := hide u1; have U2 := hide u2; have U3 := hide u3; clear u1 u2 u3 hsucc hq
          go_wp2_with fail
          refine (unevP _ _ _ _ _ _ _ _ _ (unhide La) (unhide Lc) m hx hcp true (hide U1.out)).mono ?_
          rintro e w10 ⟨rfl, b10'⟩
          replace HB := hide ((unhide HB).trans (b10'.mono (unhide HB).size))
          replace HBest := hide ((unhide HBest).below b10')
          replace La := hide (((unhide La).below b10').more b10'.size)
          replace Lb := hide (((unhide Lb).below b10').more b10'.size)
          replace Lc := hide (((unhide Lc).below b10').more b10'.size)
          replace Ld := hide (((unhide Ld).below b10').more b10'.size)
          clear b10'
          go_wp2_with fail
          refine (unevP _ _ _ _ _ _ _ _ _ (unhide Lb) (unhide Lc) m hy hcp true (hide U2.out)).mono ?_
          rintro e w11 ⟨rfl, b11'⟩
          replace HB := hide ((unhide HB).trans (b11'.mono (unhide HB).size))
          replace HBest := hide ((unhide HBest).below b11')
          replace La := hide (((unhide La).below b11').more b11'.size)
          replace Lb := hide (((unhide Lb).below b11').more b11'.size)
          replace Lc := hide (((unhide Lc).below b11').more b11'.size)
          replace Ld := hide (((unhide Ld).below b11').more b11'.size)
          clear b11'
          go_wp2_with fail
          refine (unevP _ _ _ _ _ _ _ _ _ (unhide Lc) (unhide Ld) m hcp hdp false (hide U3.out)).mono ?_
          rintro e w12 ⟨rfl, b12'⟩
          replace HB := hide ((unhide HB).trans (b12'.mono (unhide HB).size))
          replace HBest := hide ((unhide HBest).below b12')
          replace La := hide (((unhide La).below b12').more b12'.size)
          replace Lb := hide (((unhide Lb).below b12').more b12'.size)
          replace Lc := hide (((unhide Lc).below b12').more b12'.size)
          replace Ld := hide (((unhide Ld).below b12').more b12'.size)
          clear b12'
          go_wp2_with fail
          go_roundw
          case rel => exact ⟨k + 1, _, n1, c1, by omega, by go_num, rfl, by rw [HN.out]; exact unhide HBest, unhide HB⟩
          case measure => simp [intOf]; omega
        · have HN := hide (show bestM xs ys m (k + 1) = some (row (allN m) k) from by rw [hsucc, okM, u1, u2, hq]; simp only [may, cmpM, u3]; rfl)
          have U1 := hide u1; have U2 := hide u2; have U3 := hide u3; clear u1 u2 u3 hsucc hq
          go_wp2_with fail
          refine (unevP _ _ _ _ _ _ _ _ _ (unhide La) (unhide Lc) m hx hcp true (hide U1.out)).mono ?_
          rintro e w10 ⟨rfl, b10'⟩
          replace HB := hide ((unhide HB).trans (b10'.mono (unhide HB).size))
          replace HBest := hide ((unhide HBest).below b10')
          replace La := hide (((unhide La).below b10').more b10'.size)
          replace Lb := hide (((unhide Lb).below b10').more b10'.size)
          replace Lc := hide (((unhide Lc).below b10').more b10'.size)
          replace Ld := hide (((unhide Ld).below b10').more b10'.size)
          clear b10'
          go_wp2_with fail
          refine (unevP _ _ _ _ _ _ _ _ _ (unhide Lb) (unhide Lc) m hy hcp true (hide U2.out)).mono ?_
          rintro e w11 ⟨rfl, b11'⟩
          replace HB := hide ((unhide HB).trans (b11'.mono (unhide HB).size))
          replace HBest := hide ((unhide HBest).below b11')
          replace La := hide (((unhide La).below b11').more b11'.size)
          replace Lb := hide (((unhide Lb).below b11').more b11'.size)
          replace Lc := hide (((unhide Lc).below b11').more b11'.size)
          replace Ld := hide (((unhide Ld).below b11').more b11'.size)
          clear b11'
          go_wp2_with fail
          refine (unevP _ _ _ _ _ _ _ _ _ (unhide Lc) (unhide Ld) m hcp hdp true (hide U3.out)).mono ?_
          rintro e w12 ⟨rfl, b12'⟩
          replace HB := hide ((unhide HB).trans (b12'.mono (unhide HB).size))
          replace HBest := hide ((unhide HBest).below b12')
          replace La := hide (((unhide La).below b12').more b12'.size)
          replace Lb := hide (((unhide Lb).below b12').more b12'.size)
          replace Lc := hide (((unhide Lc).below b12').more b12'.size)
          replace Ld := hide (((unhide Ld).below b12').more b12'.size)
          clear b12'
          have hnew := hide (show BestIs _ m (some ⟨b6, o6, none⟩) nc cc (some (row (allN m) k)) from .inr ⟨_, b6, o6, rfl, hcp.out, rfl, unhide Lc⟩)
          go_wp2_with fail
          go_roundw
          case rel => exact ⟨k + 1, _, nc, cc, by omega, by go_num, rfl, by rw [HN.out]; exact unhide hnew, unhide HB⟩
          case measure => simp [intOf]; omega
    · obtain rfl : k = K := by omega
      go_wp2_with fail
      go_ret
      have hall := bestM_all hx.out hy.out
      rw [hK.out] at hall
      rcases unhide HBest with ⟨hq, _⟩ | ⟨d, b7, o7, hq, _, _, hid⟩
      · rw [hall] at hq; cases hq
      · rw [hall] at hq
        cases hq
        exact ⟨_, _, _, rfl, hid, (unhide HB1).trans ((unhide HB).mono (unhide HB1).size)⟩

theorem bestJ_succ {a b : List Int} {m k : Nat} (h : k < (allN m).length) : bestJ a b m (k + 1) = pick (okJ a b) cmpJ (bestJ a b m k) (row (allN m) k) := by
  rw [bestJ, bestJ, take_row _ _ h, List.foldl_append]
  rfl
set_option maxHeartbeats 4000000 in
theorem RJoin_any (A A' : Option Addr) (n c n' c' : Nat) (xs ys : List Int) (w : World) (h : Ints w w.heap.size A n c xs) (h' : Ints w w.heap.size A' n' c' ys) (m : Nat) (hx : Hid (IsP xs m)) (hy : Hid (IsP ys m)) :
    Calls Try.prog 49 #[.slice A n c, .slice A' n' c'] w fun e w' => ∃ A1 n1 c1, e = .returned (.slice A1 n1 c1) ∧ Ints w' w'.heap.size A1 n1 c1 (joinF xs ys) ∧ Below w.heap.size w w' := by
  have hm12 := hx.out.le; have hm1 := hx.out.pos
  have Ia := hide h; have Ib := hide h'; clear h h'
  go_enter Try.func49, Try.ntmps49
  go_wp2_with fail
  refine (sum12 _ _ _ _ _ _ (unhide Ia) m hx).mono ?_
  rintro e w0 ⟨rfl, rfl⟩
  go_wp2_with fail
  refine (all12 m _ hm12).mono ?_
  rintro e w1 ⟨A2, K, c2, rfl, hr, hb1⟩
  have HB1 := hide hb1
  have I1 := hide (((unhide Ia).below hb1).more hb1.size); have I2 := hide (((unhide Ib).below hb1).more hb1.size)
  have hK := hide hr.len
  have hmK := hr.most; have hcK := hr.cap
  have HR := hide hr
  have qe : ∀ (w : World) (a : Option Addr) (n c n' c' : Nat), (binOp .eql 22 (.slice a n c) (.slice none n' c')).run Try.prog w = .ok (.bool a.isNone) w := fun w a n c n' c' => Lib.run_eql_slice_nil w _ _ a n c n' c' Try.underlying22
  have QE := hide qe; clear qe
  clear hb1 hr Ia Ib
  go_wp2_with fail
  go_loopw [12, 5] (fun i v wr => ∃ (k : Nat) (A1 : Option Addr) (n1 c1 : Nat), k ≤ K ∧ i = .int .i64 k ∧ v = .slice A1 n1 c1 ∧ BestIs wr m A1 n1 c1 (bestJ xs ys m k) ∧ Below w1.heap.size w1 wr) (fun i _ _ => K - (intOf i).toNat)
  case atStart => exact ⟨0, none, 0, 0, Nat.zero_le _, rfl, rfl, .inl ⟨rfl, rfl, rfl, rfl⟩, Below.refl _ _⟩
  case round =>
    obtain ⟨k, A1, n1, c1, hk, rfl, rfl, hbest, hb⟩ := hrel
    have HBest := hide hbest; have HB := hide hb; clear hbest hb
    by_cases hlt : k < K
    · have La := hide (((unhide I1).below (unhide HB)).more (unhide HB).size)
      have Lb := hide (((unhide I2).below (unhide HB)).more (unhide HB).size)
      have Jl := hide ((unhide HR).below (unhide HB))
      obtain ⟨b5, o5, rfl⟩ := (unhide Jl).addr (by omega)
      obtain ⟨Ac, nc, cc, hcell, hic⟩ := (unhide Jl).get hlt
      have hcp := hide (allN_isP hm1 hm12 (row_in (l := allN m) (k := k) (by rw [hK.out]; exact hlt)))
      obtain ⟨b6, o6, rfl, _⟩ := hic.at_ 0 (by have := hic.len; have := hcp.out.len; omega)
      have Lc := hide (hic.more (unhide HB).size); clear hic
      have hsucc := bestJ_succ (a := xs) (b := ys) (m := m) (k := k) (by rw [hK.out]; exact hlt)
      unfold pick at hsucc
      have qe := unhide QE
      rcases u1 : unevR (row (allN m) k) xs
      · have HN := hide (show bestJ xs ys m (k + 1) = bestJ xs ys m k from by rw [hsucc, okJ, u1]; rfl)
        have U1 := hide u1; clear u1 hsucc
        go_wp2_with fail
        refine (unevP _ _ _ _ _ _ _ _ _ (unhide Lc) (unhide La) m hcp hx false (hide U1.out)).mono ?_
        rintro e w10 ⟨rfl, b10'⟩
        replace HB := hide ((unhide HB).trans (b10'.mono (unhide HB).size))
        replace HBest := hide ((unhide HBest).below b10')
        replace La := hide (((unhide La).below b10').more b10'.size)
        replace Lb := hide (((unhide Lb).below b10').more b10'.size)
        replace Lc := hide (((unhide Lc).below b10').more b10'.size)
        clear b10'
        go_wp2_with fail
        go_roundw
        case rel => exact ⟨k + 1, _, n1, c1, by omega, by go_num, rfl, by rw [HN.out]; exact unhide HBest, unhide HB⟩
        case measure => simp [intOf]; omega
      rcases u2 : unevR (row (allN m) k) ys
      · have HN := hide (show bestJ xs ys m (k + 1) = bestJ xs ys m k from by rw [hsucc, okJ, u1, u2]; rfl)
        have U1 := hide u1; have U2 := hide u2; clear u1 u2 hsucc
        go_wp2_with fail
        refine (unevP _ _ _ _ _ _ _ _ _ (unhide Lc) (unhide La) m hcp hx true (hide U1.out)).mono ?_
        rintro e w10 ⟨rfl, b10'⟩
        replace HB := hide ((unhide HB).trans (b10'.mono (unhide HB).size))
        replace HBest := hide ((unhide HBest).below b10')
        replace La := hide (((unhide La).below b10').more b10'.size)
        replace Lb := hide (((unhide Lb).below b10').more b10'.size)
        replace Lc := hide (((unhide Lc).below b10').more b10'.size)
        clear b10'
        go_wp2_with fail
        refine (unevP _ _ _ _ _ _ _ _ _ (unhide Lc) (unhide Lb) m hcp hy false (hide U2.out)).mono ?_
        rintro e w11 ⟨rfl, b11'⟩
        replace HB := hide ((unhide HB).trans (b11'.mono (unhide HB).size))
        replace HBest := hide ((unhide HBest).below b11')
        replace La := hide (((unhide La).below b11').more b11'.size)
        replace Lb := hide (((unhide Lb).below b11').more b11'.size)
        replace Lc := hide (((unhide Lc).below b11').more b11'.size)
        clear b11'
        go_wp2_with fail
        go_roundw
        case rel => exact ⟨k + 1, _, n1, c1, by omega, by go_num, rfl, by rw [HN.out]; exact unhide HBest, unhide HB⟩
        case measure => simp [intOf]; omega
      rcases unhide HBest with ⟨hq, rfl, rfl, rfl⟩ | ⟨d, b7, o7, hq, hdp0, rfl, hid⟩
      · have HN := hide (show bestJ xs ys m (k + 1) = some (row (allN m) k) from by rw [hsucc, okJ, u1, u2, hq]; rfl)
        have U1 := hide u1; have U2 := hide u2; clear u1 u2 hsucc hq
        go_wp2_with fail
        refine (unevP _ _ _ _ _ _ _ _ _ (unhide Lc) (unhide La) m hcp hx true (hide U1.out)).mono ?_
        rintro e w10 ⟨rfl, b10'⟩
        replace HB := hide ((unhide HB).trans (b10'.mono (unhide HB).size))
        replace HBest := hide ((unhide HBest).below b10')
        replace La := hide (((unhide La).below b10').more b10'.size)
        replace Lb := hide (((unhide Lb).below b10').more b10'.size)
        replace Lc := hide (((unhide Lc).below b10').more b10'.size)
        clear b10'
        go_wp2_with fail
        refine (unevP _ _ _ _ _ _ _ _ _ (unhide Lc) (unhide Lb) m hcp hy true (hide U2.out)).mono ?_
        rintro e w11 ⟨rfl, b11'⟩
        replace HB := hide ((unhide HB).trans (b11'.mono (unhide HB).size))
        replace HBest := hide ((unhide HBest).below b11')
        replace La := hide (((unhide La).below b11').more b11'.size)
        replace Lb := hide (((unhide Lb).below b11').more b11'.size)
        replace Lc := hide (((unhide Lc).below b11').more b11'.size)
        clear b11'
        have hnew := hide (show BestIs _ m (some ⟨b6, o6, none⟩) nc cc (some (row (allN m) k)) from .inr ⟨_, b6, o6, rfl, hcp.out, rfl, unhide Lc⟩)
        go_wp2_with fail
        go_roundw
        case rel => exact ⟨k + 1, _, nc, cc, by omega, by go_num, rfl, by rw [HN.out]; exact unhide hnew, unhide HB⟩
        case measure => simp [intOf]; omega
      · have hdp := hide hdp0; have Ld := hide hid; clear hdp0 hid
        rcases u3 : unevR d (row (allN m) k)
        · have HN := hide (show bestJ xs ys m (k + 1) = bestJ xs ys m k from by rw [hsucc, okJ, u1, u2, hq]; simp only [may, cmpJ, u3]; rfl)
          have U1 := hide u1; have U2 := hide u2; have U3 := hide u3; clear u1 u2 u3 hsucc hq
          go_wp2_with fail
          refine (unevP _ _ _ _ _ _ _ _ _ (unhide Lc) (unhide La) m hcp hx true (hide U1.out)).mono ?_
          rintro e w10 ⟨rfl, b10'⟩
          replace HB := hide ((unhide HB).trans (b10'.mono (unhide HB).size))
          replace HBest := hide ((unhide HBest).below b10')
          replace La := hide (((unhide La).below b10').more b10'.size)
          replace Lb := hide (((unhide Lb).below b10').more b10'.size)
          replace Lc := hide (((unhide Lc).below b10').more b10'.size)
          replace Ld := hide (((unhide Ld).below b10').more b10'.size)
          clear b10'
          go_wp2_with fail
          refine (unevP _ _ _ _ _ _ _ _ _ (unhide Lc) (unhide Lb) m hcp hy true (hide U2.out)).mono ?_
          rintro e w11 ⟨rfl, b11'⟩
          replace HB := hide ((unhide HB).trans (b11'.mono (unhide HB).size))
          replace HBest := hide ((unhide HBest).below b11')
          replace La := hide (((unhide La).below b11').more b11'.size)
          replace Lb := hide (((unhide Lb).below b11').more b11'.size)
          replace Lc := hide (((unhide Lc).below b11').more b11'.size)
          replace Ld := hide (((unhide Ld).below b11').more b11'.size)
          clear b11'
          go_wp2_with fail
          refine (unevP _ _ _ _ _ _ _ _ _ (unhide Ld) (unhide Lc) m hdp hcp false (hide U3.out)).mono ?_
          rintro e w12 ⟨rfl, b12'⟩
          replace HB := hide ((unhide HB).trans (b12'.mono (unhide HB).size))
          replace HBest := hide ((unhide HBest).below b12')
          replace La := hide (((unhide La).below b12').more b12'.size)
          replace Lb := hide (((unhide Lb).below b12').more b12'.size)
          replace Lc := hide (((unhide Lc).below b12').more b12'.size)
          replace Ld := hide (((unhide Ld).below b12').more b12'.size)
          clear b12'
          go_wp2_with fail
          go_roundw
          case rel => exact ⟨k + 1, _, n1, c1, by omega, by go_num, rfl, by rw [HN.out]; exact unhide HBest, unhide HB⟩
          case measure => simp [intOf]; omega
        · have HN := hide (show bestJ xs ys m (k + 1) = some (row (allN m) k) from by rw [hsucc, okJ, u1, u2, hq]; simp only [may, cmpJ, u3]; rfl)
          have U1 := hide u1; have U2 := hide u2; have U3 := hide u3; clear u1 u2 u3 hsucc hq
          go_wp2_with fail
          refine (unevP _ _ _ _ _ _ _ _ _ (unhide Lc) (unhide La) m hcp hx true (hide U1.out)).mono ?_
          rintro e w10 ⟨rfl, b10'⟩
          replace HB := hide ((unhide HB).trans (b10'.mono (unhide HB).size))
          replace HBest := hide ((unhide HBest).below b10')
          replace La := hide (((unhide La).below b10').more b10'.size)
          replace Lb := hide (((unhide Lb).below b10').more b10'.size)
          replace Lc := hide (((unhide Lc).below b10').more b10'.size)
          replace Ld := hide (((unhide Ld).below b10').more b10'.size)
          clear b10'
          go_wp2_with fail
          refine (unevP _ _ _ _ _ _ _ _ _ (unhide Lc) (unhide Lb) m hcp hy true (hide U2.out)).mono ?_
          rintro e w11 ⟨rfl, b11'⟩
          replace HB := hide ((unhide HB).trans (b11'.mono (unhide HB).size))
          replace HBest := hide ((unhide HBest).below b11')
          replace La := hide (((unhide La).below b11').more b11'.size)
          replace Lb := hide (((unhide Lb).below b11').more b11'.size)
          replace Lc := hide (((unhide Lc).below b11').more b11'.size)
          replace Ld := hide (((unhide Ld).below b11').more b11'.size)
          clear b11'
          go_wp2_with fail
          refine (unevP _ _ _ _ _ _ _ _ _ (unhide Ld) (unhide Lc) m hdp hcp true (hide U3.out)).mono ?_
          rintro e w12 ⟨rfl, b12'⟩
          replace HB := hide ((unhide HB).trans (b12'.mono (unhide HB).size))
          replace HBest := hide ((unhide HBest).below b12')
          replace La := hide (((unhide La).below b12').more b12'.size)
          replace Lb := hide (((unhide Lb).below b12').more b12'.size)
          replace Lc := hide (((unhide Lc).below b12').more b12'.size)
          replace Ld := hide (((unhide Ld).below b12').more b12'.size)
          clear b12'
          have hnew := hide (show BestIs _ m (some ⟨b6, o6, none⟩) nc cc (some (row (allN m) k)) from .inr ⟨_, b6, o6, rfl, hcp.out, rfl, unhide Lc⟩)
          go_wp2_with fail
          go_roundw
          case rel => exact ⟨k + 1, _, nc, cc, by omega, by go_num, rfl, by rw [HN.out]; exact unhide hnew, unhide HB⟩
          case measure => simp [intOf]; omega
    · obtain rfl : k = K := by omega
      go_wp2_with fail
      go_ret
      have hall := bestJ_all hx.out hy.out
      rw [hK.out] at hall
      rcases unhide HBest with ⟨hq, _⟩ | ⟨d, b7, o7, hq, _, _, hid⟩
      · rw [hall] at hq; cases hq
      · rw [hall] at hq
        cases hq
        exact ⟨_, _, _, rfl, hid, (unhide HB1).trans ((unhide HB).mono (unhide HB1).size)⟩
end Go.Proofs.Ytmpdalcdkibgpaa
