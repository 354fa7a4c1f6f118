/-
  The least of some fractions: slices.MinFunc at compare.
-/
import Derived.Test.YtbgfiejaehpffaaX2
import Derived.Test.YtbgfiejaehpffaaQ5
namespace Go.Proofs.Ytbgfiejaehpffaa
open Go.RowKit

/-- The fractions of L from a to below b are those of G. -/
def HasQ (L : List F) (G : Nat → Rat) (a b : Nat) : Prop := ∀ j, a ≤ j → j < b → Fr (G j) (fth L j).1 (fth L j).2
theorem HasQ.set {L : List F} {G : Nat → Rat} {a b k : Nat} {n m : Int} (h : HasQ L G a b) (hk : k < L.length) (hf : Fr (G k) n m) : HasQ (L.set k (n, m)) G a b := by
  intro j h1 h2
  by_cases e : j = k
  · subst e; rw [fth_set _ hk]; exact hf
  · rw [fth_set_ne _ e]; exact h j h1 h2
theorem HasQ.set_out {L : List F} {G : Nat → Rat} {a b k : Nat} {f : F} (h : HasQ L G a b) (hk : k < a) : HasQ (L.set k f) G a b := by
  intro j h1 h2
  rw [fth_set_ne _ (by omega)]; exact h j h1 h2
theorem HasQ.snoc {L : List F} {G : Nat → Rat} {k : Nat} {n m : Int} (h : HasQ L G 0 k) (hk : k < L.length) (hf : Fr (G k) n m) : HasQ (L.set k (n, m)) G 0 (k + 1) := by
  intro j h1 h2
  by_cases e : j = k
  · subst e; rw [fth_set _ hk]; exact hf
  · rw [fth_set_ne _ e]; exact h j h1 (by omega)
theorem HasQ.sub {L : List F} {G : Nat → Rat} {a b a' b' : Nat} (h : HasQ L G a b) (ha : a ≤ a') (hb : b' ≤ b) : HasQ L G a' b' := fun j h1 h2 => h j (by omega) (by omega)
theorem HasQ.ext {L : List F} {G G' : Nat → Rat} {a b : Nat} (h : HasQ L G a b) (he : ∀ j, a ≤ j → j < b → G j = G' j) : HasQ L G' a b := fun j h1 h2 => by rw [← he j h1 h2]; exact h j h1 h2
theorem run_appR {w : World} {base B m c : Nat} {v : Value} {xs ys : List F} {A : Option Addr} (ty : TypeId) (ho : OwnQ w base 32 v xs) (hi : Fs w B A m c ys) (hl : xs.length + ys.length ≤ 1000000) (hbase : base ≤ w.heap.size) :
    ∃ v' w', (Builtin.append_ #[76, 76] ty #[v, .slice A m c]).run Try.prog w = .ok v' w' ∧ OwnQ w' base 32 v' (xs ++ ys) ∧ w.grownBy w' v.ownBlock ∧ (v'.ownBlock = v.ownBlock ∨ v'.ownBlock = some w.heap.size) := by
  obtain ⟨i0, h0, hz0, hz1, hz2⟩ := info_parts info32
  have hm := hi.len
  cases A with
  | none =>
    have hc := hi.bare rfl; have hcap := hi.cap
    obtain rfl : m = 0 := by omega
    obtain rfl : c = 0 := by omega
    obtain rfl : ys = [] := List.eq_nil_of_length_eq_zero hm
    exact ⟨v, w, run_append_owned_none (P := Try.prog) w base 76 ty 32 i0 2 Try.underlying76 h0 v _ _ ho, by simpa using ho, World.grownBy.refl w _, .inl rfl⟩
  | some a =>
    have hnews : ∀ j u, (cells2_ ys)[j]? = some u → w.cell? (a.add j) = some u := by
      intro j u hu
      have hj : j < (cells2_ ys).length := (List.getElem?_eq_some_iff.1 hu).1
      rw [cells2_length] at hj
      obtain ⟨b, off, e, _, hc1, hc2⟩ := hi.at_ (j / 2) (by omega)
      cases e
      have hat := cells2_at ys (j / 2) (by omega)
      rw [Addr.add_lit]
      have hp : j % 2 = 0 ∨ j % 2 = 1 := by omega
      rcases hp with hp | hp
      · have e : j / 2 * 2 = j := by omega
        rw [e] at hc1 hat
        rw [hc1, ← hu, hat.1]
      · have e : j / 2 * 2 + 1 = j := by omega
        rw [e] at hat
        rw [show off + j / 2 * 2 + 1 = off + j from by omega] at hc2
        rw [hc2, ← hu, hat.2]
    obtain ⟨v', w', hrun, h2, h3, _, h5⟩ := run_append_own_at (P := Try.prog) w base 76 ty 32 i0 (.agg #[.int .i64 0, .int .i64 0]) 2 16 Try.underlying76 h0 hz0 hz1 hz2 rfl (by omega) v _ _ ho a m c (cells2_ ys) (by rw [cells2_length, hm]) hnews (cells2_one ys)
      (by unfold maxLen; omega) (by omega) hbase
    refine ⟨v', w', hrun, ?_, h3, h5⟩
    unfold OwnQ
    rw [List.length_append, hm, cells2_app]
    exact h2
theorem wpList_appR {w : World} {ops : Array Oper} {rest : List Oper} {o : Oper} {a : Act} {Q : Exit → Act → World → Prop} (hg : o.guard = none) (s x : Operand)
    (hop : o.op = .call { callee := .builtin .append, args := #[s, x], argTypes := #[76, 76] })
    {base B m c : Nat} {v : Value} {xs ys : List F} {A : Option Addr} (hs : a.eval s = v) (hx : a.eval x = .slice A m c) (ho : OwnQ w base 32 v xs) (hi : Fs w B A m c ys) (hl : xs.length + ys.length ≤ 1000000) (hbase : base ≤ w.heap.size)
    (h : ∀ v' w', OwnQ w' base 32 v' (xs ++ ys) → w.grownBy w' v.ownBlock → (v'.ownBlock = v.ownBlock ∨ v'.ownBlock = some w.heap.size) → wpList Try.prog ops Q rest (a.put o.dst v') w') : wpList Try.prog ops Q (o :: rest) a w :=
  wpList_plain hg fun _ hK => by
    obtain ⟨v', w', hrun, h2, h3, h4⟩ := run_appR o.type ho hi hl hbase
    unfold Oper.wp execOp
    simp only [hop, resolve, invoke, builtin, Sem.run_bind, Sem.run_pure, Result.andThen_ok, List.map_toArray, List.map_cons, List.map_nil, hs, hx, hrun]
    exact hK _ _ (h v' w' h2 h3 h4)


theorem fr_one (w : World) (u v : Int) : Fs (w.alloc (.cells #[.int .i64 u, .int .i64 v] 32)) (w.heap.size + 1) (some ⟨w.heap.size, 0, none⟩) 1 1 [(u, v)] := by
  obtain ⟨c0, c1⟩ := two_at (heap_new_ w (.cells #[.int .i64 u, .int .i64 v] 32))
  refine ⟨rfl, Nat.le_refl _, by omega, (fun e => by cases e), fun j hj => ?_⟩
  obtain rfl : j = 0 := by omega
  exact ⟨_, _, rfl, by omega, c0, c1⟩
theorem HasQ.snoc1 {L : List F} {G : Nat → Rat} {k : Nat} {n m : Int} (h : HasQ L G 0 k) (hl : L.length = k) (hf : Fr (G k) n m) : HasQ (L ++ [(n, m)]) G 0 (k + 1) := by
  intro j h1 h2
  by_cases e : j = k
  · subst e
    have : fth (L ++ [(n, m)]) j = (n, m) := by unfold fth; simp [List.getD, ← hl]
    rw [this]; exact hf
  · have : fth (L ++ [(n, m)]) j = fth L j := by unfold fth; simp only [List.getD]; rw [List.getElem?_append_left (by omega)]
    rw [this]; exact h j h1 (by omega)

theorem enter95 : ∀ args w, (callFunc 95 args).run Try.prog w = .ok (.enter 95 args) w := enters_of Try.func95 (by kernel_rfl) rfl
theorem fr_lt0 {p q : Rat} {a b c d : Int} (hp : Fr p a b) (hq : Fr q c d) : a * d - c * b < 0 ↔ p < q := by
  rw [← fr_lt hp hq]; omega
theorem compare_q {p q : Rat} {a b c d : Int} {N1 D1 N2 D2 : Nat} (w : World) (hp : Hid (Fr p a b)) (hq : Hid (Fr q c d)) (bp : Hid (Bd N1 D1 p)) (bq : Hid (Bd N2 D2 q)) (hD : Hid (N1 * D2 ≤ 4000000000000000000 ∧ N2 * D1 ≤ 4000000000000000000)) (s : Int) (hs : Hid (a * d - c * b = s)) :
    Calls Try.prog 95 #[.agg #[.int .i64 a, .int .i64 b], .agg #[.int .i64 c, .int .i64 d]] w fun e w' => e = .returned (.int .i64 s) ∧ Below w.heap.size w w' := by
  obtain ⟨rfl, rfl⟩ := hp.out
  obtain ⟨rfl, rfl⟩ := hq.out
  obtain ⟨h1, h2⟩ := hD.out
  have n1 := nb1 bp.out bq.out; have n2 := nb1 bq.out bp.out
  rw [← hs.out]
  exact compare_any _ _ _ _ w ⟨by omega, by omega⟩ ⟨by omega, by omega⟩

set_option maxRecDepth 100000 in
set_option maxHeartbeats 6000000 in
theorem minFunc_any (A : Option Addr) (n c : Nat) (L : List F) (G : Nat → Rat) (N D : Nat) (w : World) (h : Fs w w.heap.size A n c L) (hn : 0 < n) (HQ : Hid (HasQ L G 0 n)) (HBd : Hid (∀ k, k < n → Bd N D (G k))) (hND : Hid (N * D ≤ 4000000000000000000))
    (r : Rat) (hr : Hid ((∃ k, k < n ∧ G k = r) ∧ ∀ k, k < n → r ≤ G k)) (u v : Int) (hf : Hid (Fr r u v)) :
    Calls Try.prog 100 #[.slice A n c, .func (.func 95) #[] #[]] w fun e w' => e = .returned (.agg #[.int .i64 u, .int .i64 v]) ∧ Below w.heap.size w w' := by
  have hm := h.most; have hcap := h.cap
  obtain ⟨W0, hW0⟩ : ∃ W0, W0 = w.alloc (.cells #[.int .i64 0, .int .i64 0] 32) := ⟨_, rfl⟩
  have hB0 : Below w.heap.size w W0 := by rw [hW0]; exact (Below.refl _ w).alloc (Nat.le_refl _) _
  have HB0 := hide hB0
  have HR0 := hide (show W0.heap[w.heap.size]? = some (.cells #[.int .i64 0, .int .i64 0] 32 (0, 0)) from by rw [hW0]; exact heap_new_ w _)
  have HI := hide ((h.below hB0).more hB0.size)
  have hW : w.alloc (.cells #[.int .i64 0, .int .i64 0] 32) = W0 := hW0.symm
  clear hW0 hB0
  obtain ⟨b, off, rfl, hb, hc1, hc2⟩ := (unhide HI).at_ 0 hn
  have hf0 := HQ.out 0 (Nat.le_refl _) hn
  generalize fth L 0 = p0 at hc1 hc2 hf0
  obtain ⟨x0, y0⟩ := p0
  simp only [Nat.zero_mul, Nat.add_zero] at hc1 hc2 hf0
  obtain ⟨W1, hW1⟩ : ∃ W1, W1 = W0.alloc (.cells #[.int .i64 x0, .int .i64 y0] 32) := ⟨_, rfl⟩
  have hB1 : Below W0.heap.size W0 W1 := by rw [hW1]; exact (Below.refl _ W0).alloc (Nat.le_refl _) _
  have HM1 := hide (show W1.heap[W0.heap.size]? = some (.cells #[.int .i64 x0, .int .i64 y0] 32 (0, 0)) from by rw [hW1]; exact heap_new_ _ _)
  have HB1 := hide ((unhide HB0).trans (hB1.mono (unhide HB0).size))
  have HR1 := hide ((hB1.block _ (Array.getElem?_eq_some_iff.1 (unhide HR0)).1).trans (unhide HR0))
  have HI1 := hide ((unhide HI).below hB1)
  have HN := hide (show W0.heap.size ≠ w.heap.size from by have := (Array.getElem?_eq_some_iff.1 (unhide HR0)).1; omega)
  have HF0 := hide hf0
  have hWb : W0.alloc (.cells #[.int .i64 x0, .int .i64 y0] 32) = W1 := hW1.symm
  have HL := hide h.len
  clear hW1 hB1 hf0 h
  have hn1 : ¬ ((n : Int) < 1) := by omega
  go_enter Try.func100, Try.ntmps100
  go_upto_region 4 with fail
  clear hW hWb hc1 hc2 HI
  go_wp2_with fail
  go_loopw [6] (fun i wr => ∃ k : Nat, k + 1 ≤ n ∧ i = .int .i64 ((k : Int) + 1) ∧ Hid (∃ j a b, j < k + 1 ∧ Fr (G j) a b ∧ (∀ i, i < k + 1 → G j ≤ G i) ∧ wr.heap[W0.heap.size]? = some (.cells #[.int .i64 a, .int .i64 b] 32 (0, 0))) ∧ Hid (Below w.heap.size w wr ∧ Below W0.heap.size W1 wr)) (fun i _ => n - (intOf i).toNat)
  case atStart => exact ⟨0, hn, by simp, hide ⟨0, x0, y0, by omega, HF0.out, fun i hi => (show i = 0 by omega) ▸ Rat.le_refl, unhide HM1⟩, hide ⟨unhide HB1, Below.refl _ _⟩⟩
  case round =>
    obtain ⟨k, hk, rfl, HJ, HB⟩ := hrel
    obtain ⟨j, a, bb, hj, hfj, hmin, hmb⟩ := HJ.out
    have HMB := hide hmb
    have HFJ := hide hfj
    have HMN := hide hmin
    have hgt : W0.heap.size < wr.heap.size := (Array.getElem?_eq_some_iff.1 hmb).1
    have HGT := hide hgt
    clear hmb hfj hmin HJ hgt
    by_cases hlt : k + 1 < n
    · have hfk := HQ.out (k + 1) (Nat.zero_le _) hlt
      have HS := hide (show ∀ W', Below wr.heap.size wr W' → ((W'.cell? ⟨b, off + (k + 1) * 2, none⟩ = some (.int .i64 (fth L (k + 1)).1) ∧ W'.cell? ⟨b, off + (k + 1) * 2 + 1, none⟩ = some (.int .i64 (fth L (k + 1)).2)) ∧ (W'.cell? ⟨W0.heap.size, 0, none⟩ = some (.int .i64 a) ∧ W'.cell? ⟨W0.heap.size, 1, none⟩ = some (.int .i64 bb))) from fun W' hb' => by
        obtain ⟨b2, off2, e2, _, h2, h3⟩ := (((unhide HI1).below HB.out.2).below (hb'.mono (Nat.le_of_lt HGT.out))).at_ (k + 1) hlt
        simp only [Option.some.injEq, Addr.mk.injEq, and_true] at e2
        obtain ⟨rfl, rfl⟩ := e2
        exact ⟨⟨h2, h3⟩, two_at ((hb'.block _ HGT.out).trans (unhide HMB))⟩)
      generalize fth L (k + 1) = p at hfk HS
      obtain ⟨x, y⟩ := p
      simp only at hfk HS
      have HFK := hide hfk
      clear hfk
      obtain ⟨s, hs⟩ : ∃ s, x * bb - a * y = s := ⟨_, rfl⟩
      have HCC := hide (fun W => compare_q (N1 := N) (D1 := D) (N2 := N) (D2 := D) W HFK HFJ (hide (HBd.out _ hlt)) (hide (HBd.out _ (by omega))) (hide ⟨hND.out, hND.out⟩) s (hide hs))
      have hsg := fr_lt0 HFK.out HFJ.out
      rw [hs] at hsg
      have HWd := hide (show Below wr.heap.size wr wr.drew from (Below.refl _ _).drew)
      have hk1 : (k : Int) + 1 < (n : Int) := by omega
      have hk0 : (0 : Int) ≤ (k : Int) + 1 := by omega
      have hk7 : ((k : Int) + 1).toNat = k + 1 := by omega
      clear hs
      by_cases hlt2 : G (k + 1) < G j
      · have hs0 : s < 0 := hsg.2 hlt2
        have HT := hide hlt2
        clear hsg hlt2
        go_upto_region 7 with fail
        refine wp_region_quietC (fun W' => Below wr.heap.size wr W') (by kernel_rfl) (by kernel_rfl) (unhide HWd) ?_
        repeat (first
          | go_big_quiet_skip
          | (go_big_quiet_want
             apply Exists.intro
             refine ⟨fun W hW => ?_, ?_⟩
             · obtain ⟨⟨k1, k2⟩, ⟨m1, m2⟩⟩ := (unhide HS) W hW
               go_simp
               first | rfl | exact ((unhide HCC) W).mono fun _ _ h => ⟨h.1, hW.trans (h.2.mono hW.size)⟩
             go_big_quiet_on
             simp only [Act.put, List.setIfInBounds_toArray, List.set_cons_zero, List.set_cons_succ]))
        refine wpQuiet_nil ?_
        intro wc hWc
        have HBc := hide (show Below w.heap.size w wc ∧ Below W0.heap.size W1 wc from ⟨HB.out.1.trans (hWc.mono HB.out.1.size), HB.out.2.trans (hWc.mono (Nat.le_of_lt HGT.out))⟩)
        obtain ⟨⟨k1, k2⟩, ⟨m1, m2⟩⟩ := (unhide HS) wc hWc
        have HMC := hide ((hWc.block _ HGT.out).trans (unhide HMB))
        clear hWc
        have f0 := free_at (unhide HMC) 0; have f1 := free_at (unhide HMC) 1
        have HM2 := hide (put2 (unhide HMC) (.int .i64 x) (.int .i64 y))
        have HB2 := hide (show Below w.heap.size w ((wc.setCell ⟨W0.heap.size, 0, none⟩ (.int .i64 x)).setCell ⟨W0.heap.size, 1, none⟩ (.int .i64 y)) ∧ Below W0.heap.size W1 ((wc.setCell ⟨W0.heap.size, 0, none⟩ (.int .i64 x)).setCell ⟨W0.heap.size, 1, none⟩ (.int .i64 y)) from
          ⟨below_put2 HBc.out.1 (unhide HB0).size _ _, below_put2 HBc.out.2 (Nat.le_refl _) _ _⟩)
        go_wp2_with fail
        go_roundw
        case rel => exact ⟨k + 1, by omega, by go_num, hide ⟨k + 1, x, y, by omega, HFK.out, fun i hi => (by
            by_cases e : i = k + 1
            · rw [e]; exact Rat.le_refl
            · exact Rat.le_trans (Rat.le_of_lt HT.out) (HMN.out i (by omega))), unhide HM2⟩, HB2⟩
        case measure => simp [intOf]; omega
      · have hs0 : ¬ s < 0 := fun h => hlt2 (hsg.1 h)
        have HT := hide hlt2
        clear hsg hlt2
        go_upto_region 7 with fail
        refine wp_region_quietC (fun W' => Below wr.heap.size wr W') (by kernel_rfl) (by kernel_rfl) (unhide HWd) ?_
        repeat (first
          | go_big_quiet_skip
          | (go_big_quiet_want
             apply Exists.intro
             refine ⟨fun W hW => ?_, ?_⟩
             · obtain ⟨⟨k1, k2⟩, ⟨m1, m2⟩⟩ := (unhide HS) W hW
               go_simp
               first | rfl | exact ((unhide HCC) W).mono fun _ _ h => ⟨h.1, hW.trans (h.2.mono hW.size)⟩
             go_big_quiet_on
             simp only [Act.put, List.setIfInBounds_toArray, List.set_cons_zero, List.set_cons_succ]))
        refine wpQuiet_nil ?_
        intro wc hWc
        have HBc := hide (show Below w.heap.size w wc ∧ Below W0.heap.size W1 wc from ⟨HB.out.1.trans (hWc.mono HB.out.1.size), HB.out.2.trans (hWc.mono (Nat.le_of_lt HGT.out))⟩)
        have HMC := hide ((hWc.block _ HGT.out).trans (unhide HMB))
        clear hWc
        go_wp2_with fail
        go_roundw
        case rel => exact ⟨k + 1, by omega, by go_num, hide ⟨j, a, bb, by omega, HFJ.out, fun i hi => (by
            by_cases e : i = k + 1
            · rw [e]; exact Rat.not_lt.1 HT.out
            · exact HMN.out i (by omega)), unhide HMC⟩, HBc⟩
        case measure => simp [intOf]; omega
    · have HKN := hide (show n = k + 1 by omega)
      have hge : ¬ ((k : Int) + 1 < (n : Int)) := by omega
      clear hlt
      have HE := hide (show a = u ∧ bb = v from by
        obtain ⟨⟨i, hi, e⟩, hall⟩ := hr.out
        have : G j = r := Rat.le_antisymm (by rw [← e]; exact HMN.out i (by have := HKN.out; omega)) (hall j (by have := HKN.out; omega))
        have h1 := HFJ.out
        rw [this] at h1
        exact ⟨h1.1.symm.trans hf.out.1, h1.2.symm.trans hf.out.2⟩)
      obtain ⟨rfl, rfl⟩ := HE.out
      clear HE
      obtain ⟨m1, m2⟩ := two_at (unhide HMB)
      have HR2 := hide ((HB.out.2.block _ (Array.getElem?_eq_some_iff.1 HR0.out).1).trans (unhide HR1))
      have f0 := free_at (unhide HR2) 0; have f1 := free_at (unhide HR2) 1
      obtain ⟨q0, q1⟩ := two_at (unhide HR2)
      have HP := hide (put2 (unhide HR2) (.int .i64 a) (.int .i64 bb))
      have HB2 := hide (below_put2 HB.out.1 (Nat.le_refl w.heap.size) (.int .i64 a) (.int .i64 bb))
      have hwn : W0.heap.size ≠ w.heap.size := HN.out
      go_wp2_with fail
      obtain ⟨s0, s1⟩ := two_at (unhide HP)
      exact bodyPost_ret (v := .agg #[.int .i64 a, .int .i64 bb]) (by simp [results, Try.results100, go_sem, s0, s1]) rfl ⟨rfl, unhide HB2⟩
end Go.Proofs.Ytbgfiejaehpffaa
