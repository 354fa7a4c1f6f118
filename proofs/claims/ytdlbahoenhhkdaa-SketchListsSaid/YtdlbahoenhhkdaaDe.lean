import Derived.Test.YtdlbahoenhhkdaaDd
import Derived.Test.YtdlbahoenhhkdaaT2
/-
  The short list: how far a number on it may be from how often its key comes.
-/
namespace Go.Proofs.Ytdlbahoenhhkdaa
open Go.RowKit

def S (f : G → Int) (gs : List G) : Int := (gs.map f).sum
theorem S_nil (f : G → Int) : S f [] = 0 := rfl
theorem S_cons (f : G → Int) (g : G) (l : List G) : S f (g :: l) = f g + S f l := by simp [S]
theorem S_app (f : G → Int) (a b : List G) : S f (a ++ b) = S f a + S f b := by simp [S]
theorem S_ins (f : G → Int) (gs : List G) (p : Nat) (g : G) : S f (ins gs p g) = S f gs + f g := by
  have h := S_app f (gs.take p) (gs.drop p)
  rw [List.take_append_drop] at h
  unfold ins
  rw [S_app, S_app, h, S_cons, S_nil]
  omega
theorem S_set (f : G → Int) : ∀ (gs : List G) (p : Nat) (g : G), p < gs.length → S f (gs.set p g) = S f gs - f (gth gs p) + f g := by
  intro gs
  induction gs with
  | nil => intro p g h; simp at h
  | cons a l ih =>
    intro p g h
    rcases p with _ | p
    · simp only [List.set_cons_zero, S_cons]
      have : gth (a :: l) 0 = a := rfl
      rw [this]; omega
    · simp only [List.set_cons_succ, S_cons]
      rw [ih p g (by simpa using h)]
      have : gth (a :: l) (p + 1) = gth l p := rfl
      rw [this]; omega
theorem S_less (f : G → Int) (hf : ∀ g : G, g.2.1 = 0 → f g = 0) (gs : List G) : S f (nz (gs.map dec)) = S (fun g => f (dec g)) gs := by
  induction gs with
  | nil => rfl
  | cons g l ih =>
    rw [S_cons, ← ih, List.map_cons]
    unfold nz
    rw [List.filter_cons]
    by_cases e : (dec g).2.1 = 0
    · rw [if_neg (by simp [e]), hf _ e]; omega
    · rw [if_pos (by simp [e]), S_cons]
theorem S_congr {f h : G → Int} {gs : List G} (e : ∀ g ∈ gs, f g = h g) : S f gs = S h gs := by
  unfold S
  rw [List.map_congr_left e]
theorem S_sub (f h : G → Int) (gs : List G) : S (fun g => f g - h g) gs = S f gs - S h gs := by
  induction gs with
  | nil => rfl
  | cons g l ih => rw [S_cons, S_cons, S_cons, ih]; omega
theorem S_nonneg {f : G → Int} {gs : List G} (e : ∀ g ∈ gs, 0 ≤ f g) : 0 ≤ S f gs := by
  induction gs with
  | nil => exact Int.le_refl _
  | cons g l ih =>
    rw [S_cons]
    have := e g (by simp)
    have := ih fun x hx => e x (by simp [hx])
    omega
theorem S_one (gs : List G) : S (fun _ => 1) gs = gs.length := by
  induction gs with
  | nil => rfl
  | cons g l ih => rw [S_cons, ih]; simp; omega

def nF (key : Int) (g : G) : Int := if g.1 = key then g.2.1 else 0
def oF (key : Int) (g : G) : Int := if g.1 = key then 1 else 0
theorem val_zero {gs : List G} {key : Int} (f : Int → G → Int) (hf : ∀ g : G, g.1 ≠ key → f key g = 0) (h : ∀ g ∈ gs, g.1 ≠ key) : S (f key) gs = 0 := by
  induction gs with
  | nil => rfl
  | cons g l ih => rw [S_cons, hf g (h g (by simp)), ih fun x hx => h x (by simp [hx])]; rfl
theorem occ_le {gs : List G} (h : Rise gs) (key : Int) : 0 ≤ S (oF key) gs ∧ S (oF key) gs ≤ 1 := by
  rw [rise_iff] at h
  induction gs with
  | nil => exact ⟨Int.le_refl _, by rw [S_nil]; omega⟩
  | cons g l ih =>
    rw [List.pairwise_cons] at h
    have := ih h.2
    rw [S_cons]
    by_cases e : g.1 = key
    · have h0 : S (oF key) l = 0 := val_zero oF (fun g hg => by simp [oF, hg]) fun x hx => by have := h.1 x hx; omega
      rw [h0]; simp [oF, e]
    · have : oF key g = 0 := by simp [oF, e]
      omega
theorem off_list {gs : List G} (h : Rise gs) {key : Int} (hon : onB gs key (pos gs key) = false) : ∀ g ∈ gs, g.1 ≠ key := by
  intro g hg e
  obtain ⟨i, hi, rfl⟩ := mem_gth hg
  have hp := pos_at h key
  have hpi : pos gs key = i := by
    apply At.uniq hp
    refine ⟨by omega, fun x hx => ?_, fun x hx hx2 => ?_⟩
    · have := h x i hx hi; omega
    · rcases Nat.lt_or_ge i x with h5 | h5
      · have := h i x h5 hx2; omega
      · rw [show x = i by omega]; omega
  rw [hpi] at hon
  simp [onB, hi, e] at hon

/-- The short list behind k keys, D times lessened. -/
structure Sh (K : Nat) (xs : List Int) (k : Nat) (gs : List G) (D : Int) : Prop where
  nn : 0 ≤ D
  tot : S (fun g => g.2.1) gs + D * (K + 1) = k
  lo : ∀ key, S (nF key) gs ≤ cntTo xs key k
  hi : ∀ key, cntTo xs key k ≤ S (nF key) gs + D
  off : ∀ g ∈ gs, g.2.2 = 0
theorem Sh.nil (K : Nat) (xs : List Int) : Sh K xs 0 [] 0 := ⟨Int.le_refl _, by simp [S], fun key => by simp [S, cntTo], fun key => by simp [S, cntTo], fun g h => by simp at h⟩
theorem cntTo_succ (xs : List Int) (key : Int) (k : Nat) : cntTo xs key (k + 1) = cntTo xs key k + oF key (nth xs k, 0, 0) := by
  simp only [cntTo, oF]
theorem Sh.add {K k : Nat} {xs : List Int} {gs : List G} {D : Int} (h : Sh K xs k gs D) (hi : Inv K k gs) : ∃ D', Sh K xs (k + 1) (addL true K gs (nth xs k)) D' := by
  obtain ⟨x, hx⟩ : ∃ x, nth xs k = x := ⟨_, rfl⟩
  have hc := fun key => cntTo_succ xs key k
  rw [hx] at hc ⊢
  have hp := pos_at hi.rise x
  unfold addL
  cases hon : onB gs x (pos gs x) with
  | true =>
    rw [if_pos rfl]
    have ho : pos gs x < gs.length ∧ (gth gs (pos gs x)).1 = x := by simpa [onB] using hon
    refine ⟨D, h.nn, ?_, fun key => ?_, fun key => ?_, fun g hg => ?_⟩
    · unfold bump
      rw [S_set _ _ _ _ ho.1]
      have := h.tot
      simp only at this ⊢
      push_cast
      omega
    · have h1 := h.lo key
      rw [hc]
      unfold bump
      rw [S_set _ _ _ _ ho.1]
      simp only [nF, oF, ho.2] at h1 ⊢
      split <;> omega
    · have h1 := h.hi key
      rw [hc]
      unfold bump
      rw [S_set _ _ _ _ ho.1]
      simp only [nF, oF, ho.2] at h1 ⊢
      split <;> omega
    · unfold bump at hg
      obtain ⟨i, hil, rfl⟩ := mem_gth hg
      rw [List.length_set] at hil
      rw [gth_set _ _ _ _ ho.1]
      split
      · show (gth gs (pos gs x)).2.2 = 0
        exact h.off _ (gth_mem ho.1)
      · exact h.off _ (gth_mem hil)
  | false =>
    rw [if_neg (by simp)]
    have hno := off_list hi.rise hon
    by_cases hlt : gs.length < K
    · rw [if_pos hlt]
      refine ⟨D, h.nn, ?_, fun key => ?_, fun key => ?_, fun g hg => ?_⟩
      · rw [S_ins]
        have := h.tot
        push_cast
        omega
      · have h1 := h.lo key
        rw [hc, S_ins]
        simp only [nF, oF] at h1 ⊢
        split <;> omega
      · have h1 := h.hi key
        rw [hc, S_ins]
        simp only [nF, oF] at h1 ⊢
        split <;> omega
      · rcases ins_mem hg with hg | rfl
        · exact h.off _ hg
        · rfl
    · rw [if_neg hlt, if_pos rfl]
      have hK : gs.length = K := by have := hi.few; omega
      have hval : ∀ key, S (nF key) (nz (gs.map dec)) = S (nF key) gs - S (oF key) gs := by
        intro key
        rw [S_less _ (fun g hg => by simp [nF, hg]), ← S_sub]
        apply S_congr
        intro g _
        simp only [nF, oF, dec]
        split <;> omega
      refine ⟨D + 1, by have := h.nn; omega, ?_, fun key => ?_, fun key => ?_, fun g hg => ?_⟩
      · rw [S_less _ (fun g hg => hg)]
        have e : S (fun g => (dec g).2.1) gs = S (fun g => g.2.1) gs - S (fun _ => 1) gs := by
          rw [← S_sub]; rfl
        rw [e, S_one, hK]
        have := h.tot
        rw [Int.add_mul]
        push_cast
        omega
      · rw [hc, hval]
        have h1 := h.lo key
        have h2 := occ_le hi.rise key
        have h3 : 0 ≤ oF key (x, 0, 0) := by simp only [oF]; split <;> omega
        omega
      · rw [hc, hval]
        have h1 := h.hi key
        have h2 := occ_le hi.rise key
        by_cases e : x = key
        · subst e
          have h4 := val_zero oF (fun g hg => by simp [oF, hg]) hno
          have h3 : oF x (x, 0, 0) = 1 := by simp [oF]
          omega
        · have h3 : oF key (x, 0, 0) = 0 := by simp [oF, e]
          omega
      · unfold nz at hg
        rw [List.mem_filter, List.mem_map] at hg
        obtain ⟨⟨y, hy, rfl⟩, _⟩ := hg
        show y.2.2 = 0
        exact h.off _ hy
theorem lstL_sh {K : Nat} (hK : 0 < K) {xs : List Int} (hx : ∀ j, j < xs.length → 0 ≤ nth xs j ∧ nth xs j ≤ 15) : ∀ k, k ≤ xs.length → ∃ D, Sh K xs k (lstL true K xs k) D := by
  intro k; induction k with
  | zero => intro _; exact ⟨0, Sh.nil K xs⟩
  | succ k ih =>
    intro h
    obtain ⟨D, hD⟩ := ih (by omega)
    exact hD.add (lstL_inv true hK hx k (by omega))

theorem val_at {gs : List G} (h : Rise gs) {key : Int} {i : Nat} (hi : i < gs.length) (he : (gth gs i).1 = key) : S (nF key) gs = (gth gs i).2.1 := by
  rw [rise_iff] at h
  induction gs generalizing i with
  | nil => simp at hi
  | cons g l ih =>
    rw [List.pairwise_cons] at h
    rw [S_cons]
    rcases i with _ | i
    · have e0 : gth (g :: l) 0 = g := rfl
      rw [e0] at he ⊢
      have h0 : S (nF key) l = 0 := val_zero nF (fun g hg => by simp [nF, hg]) fun x hx => by have := h.1 x hx; omega
      rw [h0]; simp [nF, he]
    · have e0 : gth (g :: l) (i + 1) = gth l i := rfl
      rw [e0] at he ⊢
      have hi' : i < l.length := by simpa using hi
      rw [ih h.2 hi' he]
      have := h.1 _ (gth_mem hi')
      have e : g.1 ≠ key := by omega
      simp [nF, e]
theorem val_none {gs : List G} {key : Int} (h : ∀ i, i < gs.length → (gth gs i).1 ≠ key) : S (nF key) gs = 0 :=
  val_zero nF (fun g hg => by simp [nF, hg]) fun g hg => by obtain ⟨i, hi, rfl⟩ := mem_gth hg; exact h i hi

set_option maxHeartbeats 1000000 in
theorem of_any (A : Option Addr) (n c : Nat) (gs : List G) (key : Int) (w : World) (h : Gs w w.heap.size A n c gs) (hR : Hid (Rise gs)) :
    Calls Try.prog 49 #[.slice A n c, .int .i64 key] w fun e w' => ∃ d o, e = .returned (.agg #[.int .i64 key, .int .i64 d, .int .i64 o]) ∧ Hid (d = S (nF key) gs) ∧ Hid ((∃ g ∈ gs, g.1 = key ∧ g.2.1 = d ∧ g.2.2 = o) ∨ (d = 0 ∧ o = 0 ∧ ∀ g ∈ gs, g.1 ≠ key)) ∧ Below w.heap.size w w' := by
  have hm := h.most; have hcap := h.cap
  have hl := hide h.len
  have b0 : Below w.heap.size w (w.alloc (.cells #[.int .i64 0, .int .i64 0, .int .i64 0] 68)) := (Below.refl _ _).alloc (Nat.le_refl _) _
  have v0 := Blk.new w 68 #[.int .i64 0, .int .i64 0, .int .i64 0]
  have B0 := hide b0; have V0 := hide v0
  have H := hide h; clear h b0 v0
  go_enter Try.func49, Try.ntmps49
  go_wp2_with fail
  go_loopw [6, 9] (fun _ a wr => ∃ (k : Nat), k ≤ n ∧ a = .int .i64 k ∧ Hid (∀ j, j < k → (gth gs j).1 ≠ key) ∧ Blk wr w.heap.size 68 #[.int .i64 0, .int .i64 0, .int .i64 0] ∧ Below w.heap.size w wr) (fun _ a _ => n - (intOf a).toNat)
  case atStart => exact ⟨0, Nat.zero_le _, rfl, hide (fun j hj => by omega), unhide V0, unhide B0⟩
  case round =>
    obtain ⟨k, hk, rfl, hno, hv, hb⟩ := hrel
    have HB := hide hb
    have hvlt := hv.lt
    by_cases hlt : k < n
    · obtain ⟨b, off, rfl, hbb, e1, e2, e3⟩ := ((unhide H).below hb).at_ k hlt
      obtain ⟨f, hf⟩ : ∃ f, (gth gs k).1 = f := ⟨_, rfl⟩
      obtain ⟨d, hd⟩ : ∃ f, (gth gs k).2.1 = f := ⟨_, rfl⟩
      obtain ⟨o, ho⟩ : ∃ f, (gth gs k).2.2 = f := ⟨_, rfl⟩
      rw [hf] at e1; rw [hd] at e2; rw [ho] at e3
      have hv1 := hv.alloc (.cells #[.int .i64 f, .int .i64 d, .int .i64 o] 68)
      have B1 := hide (hb.alloc (by omega) (.cells #[.int .i64 f, .int .i64 d, .int .i64 o] 68))
      have V1 := hide hv1
      have HF := hide hf; have HD := hide hd; have HO := hide ho
      by_cases hfk : f = key
      · subst hfk
        have x0 : (wr.alloc (.cells #[.int .i64 f, .int .i64 d, .int .i64 o] 68)).cell? ⟨w.heap.size, 0, none⟩ = some (.int .i64 0) := by rw [hv1.cell]; rfl
        have x1 : (wr.alloc (.cells #[.int .i64 f, .int .i64 d, .int .i64 o] 68)).cell? ⟨w.heap.size, 1, none⟩ = some (.int .i64 0) := by rw [hv1.cell]; rfl
        have x2 : (wr.alloc (.cells #[.int .i64 f, .int .i64 d, .int .i64 o] 68)).cell? ⟨w.heap.size, 2, none⟩ = some (.int .i64 0) := by rw [hv1.cell]; rfl
        have y0 := hv1.frozen 0
        have y1 := hv1.frozen 1
        have y2 := hv1.frozen 2
        have V3 := hide (((hv1.set_ 0 (.int .i64 f)).set_ 1 (.int .i64 d)).set_ 2 (.int .i64 o))
        have B3 := hide ((((unhide B1).setCell (p := ⟨w.heap.size, 0, none⟩) (Nat.le_refl _) (.int .i64 f)).setCell (p := ⟨w.heap.size, 1, none⟩) (Nat.le_refl _) (.int .i64 d)).setCell (p := ⟨w.heap.size, 2, none⟩) (Nat.le_refl _) (.int .i64 o))
        have s0 := (unhide V3).cell 0
        have s1 := (unhide V3).cell 1
        have s2 := (unhide V3).cell 2
        simp only [Array.setIfInBounds] at s0 s1 s2
        clear hv hv1 hb hf hd ho hvlt
        go_wp2_with fail
        refine bodyPost_ret (v := .agg #[.int .i64 f, .int .i64 d, .int .i64 o]) (by simp [results, Try.results49, go_sem, s0, s1, s2]) rfl ?_
        exact ⟨d, o, rfl, hide (by rw [val_at hR.out (by rw [hl.out]; exact hlt) HF.out, HD.out]), hide (.inl ⟨gth gs k, gth_mem (by rw [hl.out]; exact hlt), HF.out, HD.out, HO.out⟩), unhide B3⟩
      · clear hv hv1 hb hf hd ho
        go_wp2_with fail
        go_roundw
        case rel => exact ⟨k + 1, by omega, by go_num, hide (fun j hj => by
          rcases Nat.lt_or_ge j k with h1 | h1
          · exact hno.out j h1
          · rw [show j = k by omega, HF.out]; exact hfk), unhide V1, unhide B1⟩
        case measure => simp [intOf]; omega
    · obtain rfl : k = n := by omega
      have x0 : wr.cell? ⟨w.heap.size, 0, none⟩ = some (.int .i64 0) := by rw [hv.cell]; rfl
      have x1 : wr.cell? ⟨w.heap.size, 1, none⟩ = some (.int .i64 0) := by rw [hv.cell]; rfl
      have x2 : wr.cell? ⟨w.heap.size, 2, none⟩ = some (.int .i64 0) := by rw [hv.cell]; rfl
      have y0 := hv.frozen 0
      have y1 := hv.frozen 1
      have y2 := hv.frozen 2
      have V3 := hide (((hv.set_ 0 (.int .i64 key)).set_ 1 (.int .i64 0)).set_ 2 (.int .i64 0))
      have B3 := hide ((((unhide HB).setCell (p := ⟨w.heap.size, 0, none⟩) (Nat.le_refl _) (.int .i64 key)).setCell (p := ⟨w.heap.size, 1, none⟩) (Nat.le_refl _) (.int .i64 0)).setCell (p := ⟨w.heap.size, 2, none⟩) (Nat.le_refl _) (.int .i64 0))
      have s0 := (unhide V3).cell 0
      have s1 := (unhide V3).cell 1
      have s2 := (unhide V3).cell 2
      simp only [Array.setIfInBounds] at s0 s1 s2
      clear hv hb hvlt
      go_wp2_with fail
      refine bodyPost_ret (v := .agg #[.int .i64 key, .int .i64 0, .int .i64 0]) (by simp [results, Try.results49, go_sem, s0, s1, s2]) rfl ?_
      have hno2 : ∀ i, i < gs.length → (gth gs i).1 ≠ key := fun i hi => hno.out i (by rw [hl.out] at hi; exact hi)
      exact ⟨0, 0, rfl, hide (val_none hno2).symm, hide (.inr ⟨rfl, rfl, fun g hg => by obtain ⟨i, hi, rfl⟩ := mem_gth hg; exact hno2 i hi⟩), unhide B3⟩
end Go.Proofs.Ytdlbahoenhhkdaa
