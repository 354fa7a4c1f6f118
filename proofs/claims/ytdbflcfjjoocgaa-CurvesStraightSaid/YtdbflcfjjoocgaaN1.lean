/-
  Means of the program: the averages of the knots.
-/
import Derived.Test.YtdbflcfjjoocgaaH6
import Derived.Test.YtdbflcfjjoocgaaG4
namespace Go.Proofs.Ytdbflcfjjoocgaa
open Go.RowKit

theorem run_appQ {w : World} {base B m c : Nat} {v : Value} {xs ys : List F} {A : Option Addr} (ty : TypeId) (ho : OwnQ w base 26 v xs) (hi : Fs w B A m c ys) (hl : xs.length + ys.length ≤ 1000000) (hbase : base ≤ w.heap.size) :
    ∃ v' w', (Builtin.append_ #[27, 27] ty #[v, .slice A m c]).run Try.prog w = .ok v' w' ∧ OwnQ w' base 26 v' (xs ++ ys) ∧ w.grownBy w' v.ownBlock ∧ (v'.ownBlock = v.ownBlock ∨ v'.ownBlock = some w.heap.size) := by
  obtain ⟨i0, h0, hz0, hz1, hz2⟩ := info_parts info26
  have hm := hi.len
  cases A with
  | none =>
    have hc := hi.bare rfl; have hcap := hi.cap
    obtain rfl : m = 0 := by omega
    obtain rfl : c = 0 := by omega
    obtain rfl : ys = [] := List.eq_nil_of_length_eq_zero hm
    exact ⟨v, w, run_append_owned_none (P := Try.prog) w base 27 ty 26 i0 2 Try.underlying27 h0 v _ _ ho, by simpa using ho, World.grownBy.refl w _, .inl rfl⟩
  | some a =>
    have hnews : ∀ j u, (cells2_ ys)[j]? = some u → w.cell? (a.add j) = some u := by
      intro j u hu
      have hj : j < (cells2_ ys).length := (List.getElem?_eq_some_iff.1 hu).1
      rw [cells2_length] at hj
      obtain ⟨b, off, e, _, hc1, hc2⟩ := hi.at_ (j / 2) (by omega)
      cases e
      have hat := cells2_at ys (j / 2) (by omega)
      rw [Addr.add_lit]
      have hp : j % 2 = 0 ∨ j % 2 = 1 := by omega
      rcases hp with hp | hp
      · have e : j / 2 * 2 = j := by omega
        rw [e] at hc1 hat
        rw [hc1, ← hu, hat.1]
      · have e : j / 2 * 2 + 1 = j := by omega
        rw [e] at hat
        rw [show off + j / 2 * 2 + 1 = off + j from by omega] at hc2
        rw [hc2, ← hu, hat.2]
    obtain ⟨v', w', hrun, h2, h3, _, h5⟩ := run_append_own_at (P := Try.prog) w base 27 ty 26 i0 (.agg #[.int .i64 0, .int .i64 0]) 2 16 Try.underlying27 h0 hz0 hz1 hz2 rfl (by omega) v _ _ ho a m c (cells2_ ys) (by rw [cells2_length, hm]) hnews (cells2_one ys)
      (by unfold maxLen; omega) (by omega) hbase
    refine ⟨v', w', hrun, ?_, h3, h5⟩
    unfold OwnQ
    rw [List.length_append, hm, cells2_app]
    exact h2
theorem wpList_appQ {w : World} {ops : Array Oper} {rest : List Oper} {o : Oper} {a : Act} {Q : Exit → Act → World → Prop} (hg : o.guard = none) (s x : Operand)
    (hop : o.op = .call { callee := .builtin .append, args := #[s, x], argTypes := #[27, 27] })
    {base B m c : Nat} {v : Value} {xs ys : List F} {A : Option Addr} (hs : a.eval s = v) (hx : a.eval x = .slice A m c) (ho : OwnQ w base 26 v xs) (hi : Fs w B A m c ys) (hl : xs.length + ys.length ≤ 1000000) (hbase : base ≤ w.heap.size)
    (h : ∀ v' w', OwnQ w' base 26 v' (xs ++ ys) → w.grownBy w' v.ownBlock → (v'.ownBlock = v.ownBlock ∨ v'.ownBlock = some w.heap.size) → wpList Try.prog ops Q rest (a.put o.dst v') w') : wpList Try.prog ops Q (o :: rest) a w :=
  wpList_plain hg fun _ hK => by
    obtain ⟨v', w', hrun, h2, h3, h4⟩ := run_appQ o.type ho hi hl hbase
    unfold Oper.wp execOp
    simp only [hop, resolve, invoke, builtin, Sem.run_bind, Sem.run_pure, Result.andThen_ok, List.map_toArray, List.map_cons, List.map_nil, hs, hx, hrun]
    exact hK _ _ (h v' w' h2 h3 h4)


theorem fs_one (w : World) (u v : Int) : Fs (w.alloc (.cells #[.int .i64 u, .int .i64 v] 26)) (w.heap.size + 1) (some ⟨w.heap.size, 0, none⟩) 1 1 [(u, v)] := by
  obtain ⟨c0, c1⟩ := two_at (heap_new_ w (.cells #[.int .i64 u, .int .i64 v] 26))
  refine ⟨rfl, Nat.le_refl _, by omega, (fun e => by cases e), fun j hj => ?_⟩
  obtain rfl : j = 0 := by omega
  exact ⟨_, _, rfl, by omega, c0, c1⟩
theorem HasQ.snoc1 {L : List F} {G : Nat → Rat} {k : Nat} {n m : Int} (h : HasQ L G 0 k) (hl : L.length = k) (hf : Fr (G k) n m) : HasQ (L ++ [(n, m)]) G 0 (k + 1) := by
  intro j h1 h2
  by_cases e : j = k
  · subst e
    have : fth (L ++ [(n, m)]) j = (n, m) := by unfold fth; simp [List.getD, ← hl]
    rw [this]; exact hf
  · have : fth (L ++ [(n, m)]) j = fth L j := by unfold fth; simp only [List.getD]; rw [List.getElem?_append_left (by omega)]
    rw [this]; exact h j h1 (by omega)
/-- The sum of r knots from number i on. -/
def kS (ks : List Int) (i : Nat) : Nat → Int
  | 0 => 0
  | r + 1 => kS ks i r + nth ks (i + r)
theorem kS_bd {ks : List Int} {i : Nat} : ∀ r, (∀ j, j < i + r → 0 ≤ nth ks j ∧ nth ks j ≤ 12) → 0 ≤ kS ks i r ∧ kS ks i r ≤ 12 * r
  | 0, _ => by simp [kS]
  | r + 1, h => by
    have h1 := kS_bd (ks := ks) (i := i) r (fun j hj => h j (by omega))
    have h2 := h (i + r) (by omega)
    rw [kS]
    have e : ((r + 1 : Nat) : Int) = (r : Int) + 1 := by omega
    rw [e]; omega
/-- The average of the knots of a pole. -/
def mQ (d : Nat) (ks : List Int) (i : Nat) : Rat := Rat.divInt (kS ks (i + 1) d) (d : Int)

set_option maxRecDepth 100000 in
set_option maxHeartbeats 8000000 in
theorem Means_ok (d : Nat) (A A' : Option Addr) (n c n' c' : Nat) (ks ps : List Int) (w : World) (hk : Ints w w.heap.size A n c ks) (hp : Ints w w.heap.size A' n' c' ps) (hC : Hid (OkC d ks ps)) (hd : 0 < d) :
    Calls Try.prog 24 #[.agg #[.int .i64 (d : Int), .slice A n c, .slice A' n' c']] w fun e w' => ∃ A1 c1 L, e = .returned (.tuple #[.slice A1 n' c1, .int .i64 0]) ∧ Fs w' w'.heap.size A1 n' c1 L ∧ Hid (HasQ L (mQ d ks) 0 n') ∧ Below w.heap.size w w' := by
  obtain ⟨W0, hW0⟩ : ∃ W0, W0 = w.alloc (.cells #[.int .i64 (d : Int), .slice A n c, .slice A' n' c'] 31) := ⟨_, rfl⟩
  have HB0 := hide (show Below w.heap.size w W0 from by rw [hW0]; exact (Below.refl _ w).alloc (Nat.le_refl _) _)
  have HC0 := hide (show W0.heap[w.heap.size]? = some (.cells #[.int .i64 (d : Int), .slice A n c, .slice A' n' c'] 31 (0, 0)) from by rw [hW0]; exact heap_new_ w _)
  have HK := hide ((hk.below (unhide HB0)).more (unhide HB0).size)
  have HP := hide ((hp.below (unhide HB0)).more (unhide HB0).size)
  have hn8 := hC.out.n8; rw [hp.len] at hn8
  have hnn := hC.out.len; rw [hp.len, hk.len] at hnn
  have hd3 := hC.out.d3
  have HNN := hide hnn; clear hnn
  have HLK := hide hk.len; have HLP := hide hp.len
  have hcap := hk.cap; have hmost := hk.most
  have HOK := hide (show okC (d : Int) ks ps = true from (okC_iff _ _ _).2 ⟨d, rfl, hC.out⟩)
  clear hk hp
  obtain ⟨x0, x1, x2⟩ := three_at (unhide HC0)
  have hW1 : w.alloc (.cells #[.int .i64 (d : Int), .slice A n c, .slice A' n' c'] 31) = W0 := hW0.symm
  clear hW0
  go_enter Try.func24, Try.ntmps24
  go_upto_region 1 with fail
  clear hW1
  go_wp2_with fail
  refine (isCurve_any (d : Int) _ _ _ _ _ _ ks ps W0 (unhide HK) (unhide HP) true HOK).mono ?_
  rintro e w1 ⟨rfl, b1⟩
  have HB1 := hide ((unhide HB0).trans (b1.mono (unhide HB0).size))
  have HC1 := hide ((b1.block _ (Array.getElem?_eq_some_iff.1 (unhide HC0)).1).trans (unhide HC0))
  have HK1 := hide (((unhide HK).below b1).more b1.size)
  clear b1 x0 x1 x2 HK HP HC0 HB0
  obtain ⟨x0, x1, x2⟩ := three_at (unhide HC1)
  have hdz : decide ((d : Int) = 0) = false := decide_eq_false (by omega)
  have hd0 : d ≠ 0 := by omega
  have hdz2 : decide (d = 0) = false := decide_eq_false hd0
  have hdz3 : (d == 0) = false := by simp [hd0]
  have hdz4 : ((d : Int) == 0) = false := by simp [hd0]
  go_wp2_with fail
  clear x0 x1 x2
  go_loopw [4, 18] (fun s4 s18 wr => ∃ (k : Nat) (A1 : Option Addr) (c1 : Nat) (L : List F), k ≤ n' ∧ s4 = .slice A1 k c1 ∧ s18 = .int .i64 (k : Int) ∧ Hid (OwnQ wr w1.heap.size 26 (.slice A1 k c1) L ∧ L.length = k) ∧ Hid (HasQ L (mQ d ks) 0 k) ∧ Hid (Below w1.heap.size w1 wr)) (fun _ s18 _ => n' - (intOf s18).toNat)
  case atStart => exact ⟨0, none, 0, [], Nat.zero_le _, rfl, rfl, hide ⟨World.ownsRow_nil _ _ _ _, rfl⟩, hide (fun i _ h => absurd h (Nat.not_lt_zero i)), hide (Below.refl _ _)⟩
  case round =>
    obtain ⟨k, A1, c1, L, hk, rfl, rfl, HO, HQ, HBk⟩ := hrel
    obtain ⟨x0, x1, x2⟩ := three_at (((unhide HBk).block _ (Array.getElem?_eq_some_iff.1 (unhide HC1)).1).trans (unhide HC1))
    by_cases hlt : k < n'
    · have hk8 : (k : Int) < ((n' : Nat) : Int) := by omega
      have hk0 : (0 : Int) ≤ (k : Int) := by omega
      have HKr := hide (((unhide HK1).below (unhide HBk)))
      obtain ⟨bp, off, hA, hbp, _⟩ := (unhide HKr).at_ 0 (by have := HNN.out; omega)
      subst hA
      have HCE := hide (show ∀ j, j < d → wr.cell? ⟨bp, off + (k + 1) + j, none⟩ = some (.int .i64 (nth ks (k + 1 + j))) from fun j hj => by
        obtain ⟨b2, o2, e2, _, e3⟩ := (unhide HKr).at_ (k + 1 + j) (by have := HNN.out; omega)
        cases e2
        rw [Nat.add_assoc off]; exact e3)
      have i1 : (0 : Int) ≤ (k : Int) + 1 := by omega
      have i2 : (k : Int) + 1 ≤ (k : Int) + 1 + (d : Int) := by omega
      have i3 : (k : Int) + 1 + (d : Int) ≤ ((c : Nat) : Int) := by have := HNN.out; omega
      have w1' : IntKind.i64.wrap ((k : Int) + 1) = (k : Int) + 1 := IntWalk.i64_in _ (by have := HNN.out; omega)
      have w2' : IntKind.i64.wrap ((k : Int) + 1 + (d : Int)) = (k : Int) + 1 + (d : Int) := IntWalk.i64_in _ (by have := HNN.out; omega)
      obtain ⟨qn, qd, hqf⟩ := exists_fr (mQ d ks k)
      have HQF := hide hqf; clear hqf
      have hkb := kS_bd (ks := ks) (i := k + 1) d (fun j hj => hC.out.knot j (by rw [HLK.out, HNN.out]; omega))
      have HQC := hide (fun W => quotient_any (kS ks (k + 1) d) (d : Int) W (by omega) (by omega) (by omega) qn qd (show Hid (Fr (Rat.divInt (kS ks (k + 1) d) (d : Int)) qn qd) from HQF))
      have HKB := hide (show ∀ j, j ≤ d → 0 ≤ kS ks (k + 1) j ∧ kS ks (k + 1) j ≤ 12 * j from fun j hj => kS_bd (ks := ks) (i := k + 1) j (fun i hi => hC.out.knot i (by rw [HLK.out, HNN.out]; omega)))
      have hfi := field81 qn qd
      clear hkb
      obtain ⟨w2, ew2⟩ : ∃ x, x = wr := ⟨_, rfl⟩
      subst ew2
      go_wp2_with fail
      clear x0 x1 x2
      go_loopw [6, 32] (fun s6 s32 wr => ∃ j : Nat, j ≤ d ∧ s6 = .int .i64 (kS ks (k + 1) j) ∧ s32 = .int .i64 (j : Int) ∧ wr = w2) (fun _ s32 _ => d - (intOf s32).toNat)
      case atStart => exact ⟨0, Nat.zero_le _, rfl, rfl, (by first | trivial | rfl)⟩
      case round =>
        obtain ⟨j, hj, rfl, rfl, hw⟩ := hrel
        obtain rfl : w2 = wr := hw.symm
        by_cases hlj : j < d
        · have e1 := (unhide HCE) j hlj
          have i4 : (j : Int) < ((k + 1 + d - (k + 1) : Nat) : Int) := by omega
          have i5 : (j : Int) < (d : Int) := by omega
          have w3' : IntKind.i64.wrap (kS ks (k + 1) j + nth ks (k + 1 + j)) = kS ks (k + 1) j + nth ks (k + 1 + j) := IntWalk.i64_in _ (by have h1 := HKB.out j hj; have h2 := hC.out.knot (k + 1 + j) (by rw [HLK.out, HNN.out]; omega); omega)
          go_wp2_with fail
          go_roundw
          all_goals first
            | (case rel => exact ⟨j + 1, by omega, rfl, by go_num, (by first | trivial | rfl)⟩)
            | (case measure => simp [intOf]; omega)
        · obtain rfl : d = j := by omega
          obtain ⟨x0, x1, x2⟩ := three_at (((unhide HBk).block _ (Array.getElem?_eq_some_iff.1 (unhide HC1)).1).trans (unhide HC1))
          go_wp2_with fail
          refine ((unhide HQC) _).mono ?_
          rintro e w3 ⟨rfl, b3⟩
          have HO3 := hide (show OwnQ (w3.alloc (.cells #[.int .i64 qn, .int .i64 qd] 26)) w1.heap.size 26 (.slice A1 k c1) L from (HO.out.1.below b3 (Nat.le_refl _)).below ((Below.refl w3.heap.size w3).alloc (Nat.le_refl _) _) (Nat.le_refl _))
          have HB3 := hide ((unhide HBk).trans (b3.mono (unhide HBk).size))
          have HBd := hide (show L.length + [((qn, qd) : F)].length ≤ 1000000 from by have := HO.out.2; simp; omega)
          have HLT := hide (show w1.heap.size ≤ (w3.alloc (.cells #[.int .i64 qn, .int .i64 qd] 26)).heap.size from by have := (unhide HB3).size; rw [World.size_alloc]; omega)
          have HB3a := hide ((unhide HB3).alloc (unhide HB3).size (.cells #[.int .i64 qn, .int .i64 qd] 26))
          have HLS := hide (show (L ++ [((qn, qd) : F)]).length = k + 1 from by rw [List.length_append, HO.out.2]; rfl)
          clear b3 x0 x1 x2
          go_wp2_with (at_builtin
                       refine wpList_appQ (base := w1.heap.size) (ys := [(qn, qd)]) (by rfl) (.tmp 40) (.tmp 46) (by rfl) (by rfl) (by rfl) (unhide HO3) (fs_one w3 qn qd) HBd.out HLT.out ?_
                       intro v2 w4 hor2 hg2 _
                       obtain ⟨A3, c3, e3, _⟩ := hor2.fs
                       rw [HLS.out] at e3
                       subst e3
                       have HO2 := hide hor2
                       have HB2 := hide ((unhide HB3a).grown hg2 HLT.out (fun k hk => (World.ownsRow.lt (unhide HO3) k hk).1))
                       clear hor2 hg2)
          go_roundw
          case rel => exact ⟨k + 1, A3, c3, L ++ [(qn, qd)], by omega, rfl, by go_num, hide ⟨unhide HO2, HLS.out⟩, hide (HQ.out.snoc1 HO.out.2 HQF.out), HB2⟩
          case measure => simp [intOf]; omega
    · obtain rfl : n' = k := by omega
      obtain ⟨A3, c3, e3, hf3⟩ := HO.out.1.fs
      rw [HO.out.2] at e3
      cases e3
      have HF := hide hf3
      rw [HO.out.2] at hf3
      have HF := hide hf3; clear hf3
      go_wp2_with fail
      refine bodyPost_ret (v := .tuple #[.slice A1 n' c1, .int .i64 0]) (by simp [results, Try.results24, go_sem]) rfl ?_
      exact ⟨A1, c1, L, rfl, unhide HF, HQ, (unhide HB1).trans ((unhide HBk).mono (unhide HB1).size)⟩
end Go.Proofs.Ytdbflcfjjoocgaa
