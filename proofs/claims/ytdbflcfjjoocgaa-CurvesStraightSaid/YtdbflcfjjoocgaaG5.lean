/-
  placeOf of the program: the piece that has t.
-/
import Derived.Test.YtdbflcfjjoocgaaG4
namespace Go.Proofs.Ytdbflcfjjoocgaa
open Go.RowKit

/-- The piece p has t = tn / td: the last of the pieces that are not empty and begin at most there. -/
structure Pl (ks : List Int) (n : Nat) (tn td : Int) (p : Nat) : Prop where
  lt : p < n
  ne : nth ks p ≠ nth ks (p + 1)
  le : nth ks p * td ≤ tn
  last : ∀ i, p < i → i < n → nth ks i = nth ks (i + 1) ∨ tn < nth ks i * td
theorem Pl.uniq {ks : List Int} {n : Nat} {tn td : Int} {p p' : Nat} (h : Pl ks n tn td p) (h' : Pl ks n tn td p') : p = p' := by
  rcases Nat.lt_trichotomy p p' with e | e | e
  · rcases h.last p' e h'.lt with a | a
    · exact absurd a h'.ne
    · have := h'.le; omega
  · exact e
  · rcases h'.last p e h.lt with a | a
    · exact absurd a h.ne
    · have := h.le; omega
theorem Pl.find {ks : List Int} {n : Nat} {tn td : Int} : ∀ m, m ≤ n → (∀ i, m ≤ i → i < n → nth ks i = nth ks (i + 1) ∨ tn < nth ks i * td) → (∃ i, i < m ∧ nth ks i ≠ nth ks (i + 1) ∧ nth ks i * td ≤ tn) → ∃ p, Pl ks n tn td p := by
  intro m
  induction m with
  | zero => rintro _ _ ⟨i, hi, _⟩; omega
  | succ m ih =>
    intro hm hl ⟨i, hi, h1, h2⟩
    by_cases hc : nth ks m ≠ nth ks (m + 1) ∧ nth ks m * td ≤ tn
    · exact ⟨m, by omega, hc.1, hc.2, fun j h3 h4 => hl j (by omega) h4⟩
    · refine ih (by omega) (fun j h3 h4 => ?_) ⟨i, ?_, h1, h2⟩
      · by_cases e : j = m
        · subst e
          by_cases e2 : nth ks j = nth ks (j + 1)
          · exact .inl e2
          · exact .inr (by by_cases e3 : nth ks j * td ≤ tn; exact absurd ⟨e2, e3⟩ hc; omega)
        · exact hl j (by omega) h4
      · by_cases e : i = m
        · subst e; exact absurd ⟨h1, h2⟩ hc
        · omega
theorem OkC.mono {d : Nat} {ks ps : List Int} (h : OkC d ks ps) : ∀ i j, i ≤ j → j < ks.length → nth ks i ≤ nth ks j := by
  intro i j hij
  induction j with
  | zero => intro _; rw [Nat.le_zero.1 hij]; exact Int.le_refl _
  | succ j ih =>
    intro hj
    by_cases e : i = j + 1
    · subst e; exact Int.le_refl _
    · have := ih (by omega) (by omega); have := h.rise j hj; omega
/-- Within the span a piece has t. -/
theorem OkC.place {d : Nat} {ks ps : List Int} (h : OkC d ks ps) {tn td : Int} (h1 : nth ks d * td ≤ tn) : ∃ p, Pl ks ps.length tn td p ∧ d ≤ p := by
  have hdn := h.dn
  have hsp := h.span
  -- the last knot that is the first of the span
  have key : ∀ m, d + m ≤ ps.length → (∃ i, d ≤ i ∧ i < d + m ∧ nth ks i = nth ks d ∧ nth ks i ≠ nth ks (i + 1)) ∨ (∀ i, d ≤ i → i ≤ d + m → nth ks i = nth ks d) := by
    intro m
    induction m with
    | zero => intro _; exact .inr (fun i h1 h2 => by rw [show i = d by omega])
    | succ m ih =>
      intro hm
      rcases ih (by omega) with ⟨i, a1, a2, a3⟩ | a
      · exact .inl ⟨i, a1, by omega, a3⟩
      · by_cases e : nth ks (d + m) = nth ks (d + m + 1)
        · refine .inr (fun i h1 h2 => ?_)
          by_cases e2 : i = d + m + 1
          · rw [e2, ← e]; exact a _ (by omega) (by omega)
          · exact a i h1 (by omega)
        · exact .inl ⟨d + m, by omega, by omega, a _ (by omega) (by omega), e⟩
  rcases key (ps.length - d) (by omega) with ⟨i, a1, a2, a3, a4⟩ | a
  · obtain ⟨p, hp⟩ := Pl.find (ks := ks) (n := ps.length) (tn := tn) (td := td) ps.length (Nat.le_refl _) (fun i h1 h2 => by omega) ⟨i, by omega, a4, by rw [a3]; exact h1⟩
    refine ⟨p, hp, ?_⟩
    by_cases e : d ≤ p
    · exact e
    · rcases hp.last i (by omega) (by omega) with b | b
      · exact absurd b a4
      · rw [a3] at b; omega
  · have := a ps.length (by omega) (by omega); omega

set_option maxRecDepth 100000 in
set_option maxHeartbeats 6000000 in
theorem placeOf_any (tn td : Int) (d : Nat) (A A' : Option Addr) (n c n' c' : Nat) (ks ps : List Int) (w : World) (hk : Ints w w.heap.size A n c ks) (hp : Ints w w.heap.size A' n' c' ps) (hC : Hid (OkC d ks ps)) (htd : 1 ≤ td ∧ td ≤ 12) (p : Nat) (hpl : Hid (Pl ks n' tn td p)) :
    Calls Try.prog 51 #[.agg #[.int .i64 tn, .int .i64 td], .agg #[.int .i64 (d : Int), .slice A n c, .slice A' n' c']] w fun e w' => e = .returned (.agg #[.int .i64 tn, .int .i64 td, .int .i64 (p : Int)]) ∧ Below w.heap.size w w' := by
  have hm := hp.most; have hcap := hp.cap
  have hmk := hk.most; have hcapk := hk.cap
  have hd := hC.out.dn; rw [hp.len] at hd
  have hn8 := hC.out.n8; rw [hp.len] at hn8
  have hnl := hC.out.len; rw [hp.len, hk.len] at hnl
  have hn1 : n' < n := by omega
  have hKB := hide (show ∀ i, i < n → 0 ≤ nth ks i ∧ nth ks i ≤ 12 from fun i hi => hC.out.knot i (by rw [hk.len]; exact hi))
  have hpn := hpl.out.lt
  clear hnl hC
  obtain ⟨htd1, htd2⟩ := htd
  obtain ⟨W0, hW0⟩ : ∃ W0, W0 = ((w.alloc (.cells #[.int .i64 tn, .int .i64 td] 26)).alloc (.cells #[.int .i64 (d : Int), .slice A n c, .slice A' n' c'] 31)).alloc (.cells #[.int .i64 0, .int .i64 0, .int .i64 0] 83) := ⟨_, rfl⟩
  have HB0 := hide (show Below w.heap.size w W0 from by rw [hW0]; exact (((Below.refl _ w).alloc (Nat.le_refl _) _).alloc (by simp) _).alloc (by simp; omega) _)
  have HT0 := hide (show W0.heap[w.heap.size]? = some (.cells #[.int .i64 tn, .int .i64 td] 26 (0, 0)) from by rw [hW0]; exact ((Below.heap_alloc _ _ _ (by simp; omega)).trans (Below.heap_alloc _ _ _ (by simp))).trans (heap_new_ w _))
  have HC0 := hide (show W0.heap[w.heap.size + 1]? = some (.cells #[.int .i64 (d : Int), .slice A n c, .slice A' n' c'] 31 (0, 0)) from by
    rw [hW0, Below.heap_alloc _ _ _ (by simp)]; have := heap_new_ (w.alloc (.cells #[.int .i64 tn, .int .i64 td] 26)) (.cells #[.int .i64 (d : Int), .slice A n c, .slice A' n' c'] 31); rwa [World.size_alloc] at this)
  have HR0 := hide (show W0.heap[w.heap.size + 1 + 1]? = some (.cells #[.int .i64 0, .int .i64 0, .int .i64 0] 83 (0, 0)) from by
    rw [hW0]; have := heap_new_ ((w.alloc (.cells #[.int .i64 tn, .int .i64 td] 26)).alloc (.cells #[.int .i64 (d : Int), .slice A n c, .slice A' n' c'] 31)) (.cells #[.int .i64 0, .int .i64 0, .int .i64 0] 83); rwa [World.size_alloc, World.size_alloc] at this)
  have HK := hide ((hk.below (unhide HB0)))
  clear hk hp
  obtain ⟨t0, t1⟩ := two_at (unhide HT0)
  obtain ⟨x0, x1, x2⟩ := three_at (unhide HC0)
  go_enter Try.func51, Try.ntmps51
  go_upto_region 1 with fail
  rw [← hW0]
  clear hW0
  go_wp2_with fail
  go_loopw [5] (fun i wr => ∃ k : Nat, p ≤ k ∧ k < n' ∧ i = .int .i64 k ∧ ∃ q, wr = W0.drewN q) (fun i _ => (intOf i).toNat)
  case atStart => exact ⟨n' - 1, by omega, by omega, by go_num, 0, rfl⟩
  case round =>
    obtain ⟨k, hk1, hk2, rfl, q, rfl⟩ := hrel
    obtain ⟨b1, off, rfl, hbb, e1⟩ := (unhide HK).at_ k (by omega)
    obtain ⟨b2, off2, e0, _, e2⟩ := (unhide HK).at_ (k + 1) (by omega)
    simp only [Option.some.injEq, Addr.mk.injEq, and_true] at e0
    obtain ⟨rfl, rfl⟩ := e0
    have hb1 := hKB.out k (by omega)
    have HPE := hide (show k = p → nth ks k ≠ nth ks (k + 1) ∧ nth ks k * td ≤ tn from fun e => by subst e; exact ⟨hpl.out.ne, hpl.out.le⟩)
    have HPL := hide (show p < k → nth ks k = nth ks (k + 1) ∨ tn < nth ks k * td from fun e => hpl.out.last k e hk2)
    revert e1 e2 hb1 HPE HPL
    obtain ⟨x, hx⟩ : ∃ x, nth ks k = x := ⟨_, rfl⟩
    obtain ⟨y, hy⟩ : ∃ x, nth ks (k + 1) = x := ⟨_, rfl⟩
    rw [hx, hy]
    clear hx hy
    rintro e1 e2 ⟨hx1, hx2⟩ HPE HPL
    have k1 := mul_bd (M := 12) (N := 12) (show -12 ≤ x ∧ x ≤ 12 by omega) (show -12 ≤ td ∧ td ≤ 12 by omega)
    revert k1 HPE HPL
    obtain ⟨z, hz⟩ : ∃ z, x * td = z := ⟨_, rfl⟩
    rw [hz]
    rintro HPE HPL ⟨k11, k12⟩
    have wz : IntKind.i64.wrap (x * td) = z := by rw [hz]; exact IntWalk.i64_in _ (by omega)
    have hnk : (k : Int) + 1 ≤ n := by omega
    have hwk : IntKind.i64.wrap ((k : Int) + 1) = (k : Int) + 1 := IntWalk.i64_in _ (by omega)
    by_cases h1 : x = y
    · have d1 : (x == y) = true := by simp [h1]
      have hkp : p < k := by
        rcases Nat.lt_or_ge p k with e | e
        · exact e
        · exact absurd h1 (HPE.out (by omega)).1
      have hk0 : 1 ≤ (k : Int) := by omega
      have HX := hide h1; clear h1
      clear HPE HPL
      go_wp2_with fail
      go_big_quiet (fail)
      go_wp2_with fail
      go_roundw
      case rel => exact ⟨k - 1, by omega, by omega, by go_num, (by first | exact ⟨_, rfl⟩ | exact quiet_q _ _ _)⟩
      case measure => simp [intOf]; omega
    · have d1 : (x == y) = false := by simp [h1]
      by_cases h2 : tn < z
      · have hkp : p < k := by
          rcases Nat.lt_or_ge p k with e | e
          · exact e
          · have := (HPE.out (by omega)).2; omega
        have hk0 : 1 ≤ (k : Int) := by omega
        have d2 : decide (tn < IntKind.i64.wrap (x * td)) = true := by rw [wz]; exact decide_eq_true h2
        have d3 : decide (tn < z) = true := decide_eq_true h2
        clear HPE HPL
        go_wp2_with fail
        go_big_quiet (fail)
        go_wp2_with fail
        go_roundw
        case rel => exact ⟨k - 1, by omega, by omega, by go_num, (by first | exact ⟨_, rfl⟩ | exact quiet_q _ _ _)⟩
        case measure => simp [intOf]; omega
      · have hkp : p = k := by
          rcases Nat.lt_or_ge p k with e | e
          · rcases HPL.out e with e | e
            · exact absurd e h1
            · exact absurd e h2
          · omega
        subst hkp
        have d2 : decide (tn < IntKind.i64.wrap (x * td)) = false := by rw [wz]; exact decide_eq_false h2
        have d3 : decide (tn < z) = false := decide_eq_false h2
        have hr1 := hide (show ∀ r, (W0.drewN r).heap[w.heap.size + 1 + 1]? = some (.cells #[.int .i64 0, .int .i64 0, .int .i64 0] 83 (0, 0)) from fun r => unhide HR0)
        have HBd := hide (show ∀ r, Below w.heap.size w (W0.drewN r) from fun r => below_dN (unhide HB0) r)
        clear HPE HPL
        go_wp2_with fail
        go_big_quiet (fail)
        go_upto_region 4 with fail
        have f0 := free_at (unhide HR0) 0; have f1 := free_at (unhide HR0) 1; have f2 := free_at (unhide HR0) 2
        obtain ⟨q0, q1, q2⟩ := three_at (unhide HR0)
        go_wp2_with fail
        have HP3 := fun r => put3 (unhide hr1 r) (.int .i64 tn) (.int .i64 td) (.int .i64 (p : Int))
        have HB3 := fun r => below_put3 (unhide HBd r) (b := w.heap.size + 1 + 1) (by omega) (.int .i64 tn) (.int .i64 td) (.int .i64 (p : Int))
        obtain ⟨s0, s1, s2⟩ := three_at (HP3 (q + nq))
        exact bodyPost_ret (v := .agg #[.int .i64 tn, .int .i64 td, .int .i64 (p : Int)]) (by simp [results, Try.results51, go_sem, s0, s1, s2]) rfl ⟨rfl, HB3 _⟩
end Go.Proofs.Ytdbflcfjjoocgaa
