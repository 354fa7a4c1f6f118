import Derived.Test.YtmpdalcdkibgpaaP0
import Derived.Test.YtmpdalcdkibgpaaR2
import Derived.Test.YtmpdalcdkibgpaaG5
namespace Go.Proofs.Ytmpdalcdkibgpaa
open Go.RowKit Go.Sort

/-- The orders of n numbers that begin with o, d more to come. -/
def ex (n : Nat) : Nat → List Int → List (List Int)
  | 0, o => [o]
  | d + 1, o => (List.range n).flatMap fun (e : Nat) => if o.contains (e : Int) then [] else ex n d (o ++ [(e : Int)])
def exTo (n d : Nat) (o : List Int) (k : Nat) : List (List Int) := (List.range k).flatMap fun (e : Nat) => if o.contains (e : Int) then [] else ex n d (o ++ [(e : Int)])
theorem exTo_succ (n d : Nat) (o : List Int) (k : Nat) : exTo n d o (k + 1) = exTo n d o k ++ (if o.contains (k : Int) then [] else ex n d (o ++ [(k : Int)])) := by
  simp [exTo, List.range_succ, List.flatMap_append]
theorem ex_succ (n d : Nat) (o : List Int) : ex n (d + 1) o = exTo n d o n := rfl
/-- The length of the flat list. -/
def fz (n d : Nat) (o : List Int) : Nat := (ex n d o).flatten.length
def fzTo (n d : Nat) (o : List Int) (k : Nat) : Nat := (exTo n d o k).flatten.length
theorem fzTo_succ (n d : Nat) (o : List Int) (k : Nat) : fzTo n d o (k + 1) = fzTo n d o k + (if o.contains (k : Int) then 0 else fz n d (o ++ [(k : Int)])) := by
  unfold fzTo; rw [exTo_succ]; split <;> simp [fz]
theorem fzTo_mono (n d : Nat) (o : List Int) {j k : Nat} (h : j ≤ k) : fzTo n d o j ≤ fzTo n d o k := by
  induction k with
  | zero => obtain rfl : j = 0 := by omega
            exact Nat.le_refl _
  | succ k ih =>
    rcases Nat.lt_or_ge j (k + 1) with h1 | h1
    · have := ih (by omega); rw [fzTo_succ]; omega
    · obtain rfl : j = k + 1 := by omega
      exact Nat.le_refl _

theorem Contains_own {w : World} {base k c : Nat} {A : Option Addr} {o : List Int} (h : Owned w base (.slice A k c) o) (e : Int) (b : Bool) (hb : Hid (o.contains e = b)) :
    Calls Try.prog 106 #[.slice A k c, .int .i64 e] w fun r w' => r = .returned (.bool b) ∧ w' = w := by
  have h0 := h
  rcases h.2 with ⟨hv, hn⟩ | ⟨g, cap, cur, hv, _, hh, hn, hc, _, _⟩
  · cases hv
    obtain rfl : o = [] := List.eq_nil_of_length_eq_zero hn
    have hb' : false = b := hb.out
    subst hb'
    exact Try.slices_Contains_int_empty none 0 e w
  · cases hv
    refine (Try.slices_Contains_int g 0 _ _ o e w (Nat.le_refl _) (by unfold maxLen at hc; omega) (fun j hj => ?_)).mono fun r w' hr => ?_
    · rw [Nat.zero_add, h0.cellAt j (by omega)]
      simp [List.getD, List.getElem?_eq_getElem hj]
    · rw [List.take_length, hb.out] at hr
      exact hr
theorem Owned.cut {w : World} {base k c : Nat} {A : Option Addr} {o : List Int} {e : Int} (h : Owned w base (.slice A (k + 1) c) (o ++ [e])) (hk : o.length = k) : Owned w base (.slice A k c) o := by
  rcases h.2 with ⟨hv, hn⟩ | ⟨g, cap, cur, hv, hg, hh, hn, hc, hs, ht⟩
  · cases hv
  · simp only [Value.slice.injEq] at hv
    obtain ⟨rfl, hn2, rfl⟩ := hv
    refine ⟨by simp, .inr ⟨g, c, cur, by rw [hk], hg, hh, by omega, hc, hs, ?_⟩⟩
    have e1 := congrArg (List.take o.length) ht
    rw [List.take_take] at e1
    simp only [List.map_append, List.length_append, List.length_cons, List.length_nil] at e1
    rw [show min o.length ((o.length + (0 + 1)) * 1) = o.length * 1 from by omega, List.take_left' (by simp)] at e1
    exact e1
theorem own_ne {w : World} {base b t : Nat} {v u : Value} {xs : List Int} (h : Owned w base v xs) (hb : w.heap[b]? = some (.cells #[u] t (0, 0))) (hc : t ≠ 3 ∨ b < base) : v.ownBlock ≠ some b := by
  intro e
  rcases h.2 with ⟨rfl, _⟩ | ⟨g, cap, cur, rfl, hg, hh, _⟩
  · simp [Value.ownBlock] at e
  · simp [Value.ownBlock] at e
    subst e
    rcases hc with hc | hc
    · rw [hh] at hb; simp at hb; exact hc hb.2.symm
    · omega

/-- The variables that the closure holds: in blocks of their own. -/
structure OB (Bo Bn Bf Be n : Nat) (w : World) (vo vf : Value) : Prop where
  o : w.heap[Bo]? = some (.cells #[vo] 22 (0, 0))
  n : w.heap[Bn]? = some (.cells #[.int .i64 n] 3 (0, 0))
  f : w.heap[Bf]? = some (.cells #[vf] 22 (0, 0))
  e : w.heap[Be]? = some (.cells #[.func (.func 105) #[] #[.pointer (some ⟨Bo, 0, none⟩), .pointer (some ⟨Bn, 0, none⟩), .pointer (some ⟨Bf, 0, none⟩), .pointer (some ⟨Be, 0, none⟩)]] 1 (0, 0))
structure St (Bo Bn Bf Be n base : Nat) (w : World) (vo vf : Value) (o fl : List Int) : Prop where
  ob : OB Bo Bn Bf Be n w vo vf
  ho : Owned w base vo o
  hf : Owned w base vf fl
  ap : ∀ g, vo.ownBlock = some g → vf.ownBlock ≠ some g
  bn : Bn < base
  ne : Bo ≠ Bf
  size : base ≤ w.heap.size
namespace St
variable {Bo Bn Bf Be n base : Nat} {w w' : World} {vo vf v' : Value} {o fl o' fl' : List Int}
theorem alloc (h : St Bo Bn Bf Be n base w vo vf o fl) (b : Obj) : St Bo Bn Bf Be n base (w.alloc b) vo vf o fl := by
  have a1 := lt_of_block h.ob.o; have a2 := lt_of_block h.ob.n; have a3 := lt_of_block h.ob.f; have a4 := lt_of_block h.ob.e
  exact ⟨⟨(Below.heap_alloc _ _ _ a1).trans h.ob.o, (Below.heap_alloc _ _ _ a2).trans h.ob.n, (Below.heap_alloc _ _ _ a3).trans h.ob.f, (Below.heap_alloc _ _ _ a4).trans h.ob.e⟩, h.ho.alloc _, h.hf.alloc _, h.ap, h.bn, h.ne, by have := h.size; simp; omega⟩
theorem on (h : St Bo Bn Bf Be n base w vo vf o fl) : Bo ≠ Bn := by
  intro e; have h1 := h.ob.o; have h2 := h.ob.n; rw [e, h2] at h1; simp at h1
theorem oe (h : St Bo Bn Bf Be n base w vo vf o fl) : Bo ≠ Be := by
  intro e; have h1 := h.ob.o; have h2 := h.ob.e; rw [e, h2] at h1; simp at h1
theorem fn (h : St Bo Bn Bf Be n base w vo vf o fl) : Bf ≠ Bn := by
  intro e; have h1 := h.ob.f; have h2 := h.ob.n; rw [e, h2] at h1; simp at h1
theorem fe (h : St Bo Bn Bf Be n base w vo vf o fl) : Bf ≠ Be := by
  intro e; have h1 := h.ob.f; have h2 := h.ob.e; rw [e, h2] at h1; simp at h1
/-- What the blocks hold when a slice of the call's own has grown. -/
theorem grown (h : St Bo Bn Bf Be n base w vo vf o fl) {v : Value} {xs : List Int} (hv : Owned w base v xs) (hg : w.grownBy w' v.ownBlock) : OB Bo Bn Bf Be n w' vo vf := by
  have a1 := lt_of_block h.ob.o; have a2 := lt_of_block h.ob.n; have a3 := lt_of_block h.ob.f; have a4 := lt_of_block h.ob.e
  exact ⟨(hg.block _ a1 (own_ne hv h.ob.o (.inl (by decide))).symm).trans h.ob.o, (hg.block _ a2 (own_ne hv h.ob.n (.inr h.bn)).symm).trans h.ob.n, (hg.block _ a3 (own_ne hv h.ob.f (.inl (by decide))).symm).trans h.ob.f, (hg.block _ a4 (own_ne hv h.ob.e (.inl (by decide))).symm).trans h.ob.e⟩
theorem own_lt (h : Owned w base v' o) : ∀ g, v'.ownBlock = some g → base ≤ g ∧ g < w.heap.size := World.ownsRow.lt h
theorem set_o (h : OB Bo Bn Bf Be n w vo vf) (h1 : Bo ≠ Bn) (h2 : Bo ≠ Bf) (h3 : Bo ≠ Be) (u : Value) : OB Bo Bn Bf Be n (w.setCell ⟨Bo, 0, none⟩ u) u vf :=
  ⟨one_setCell h.o, (Below.heap_setCell _ _ _ _ h1.symm).trans h.n, (Below.heap_setCell _ _ _ _ h2.symm).trans h.f, (Below.heap_setCell _ _ _ _ h3.symm).trans h.e⟩
theorem set_f (h : OB Bo Bn Bf Be n w vo vf) (h1 : Bf ≠ Bn) (h2 : Bf ≠ Bo) (h3 : Bf ≠ Be) (u : Value) : OB Bo Bn Bf Be n (w.setCell ⟨Bf, 0, none⟩ u) vo u :=
  ⟨(Below.heap_setCell _ _ _ _ h2.symm).trans h.o, (Below.heap_setCell _ _ _ _ h1.symm).trans h.n, one_setCell h.f, (Below.heap_setCell _ _ _ _ h3.symm).trans h.e⟩
theorem put_o (h : St Bo Bn Bf Be n base w vo vf o fl) (hg : w.grownBy w' vo.ownBlock) (ho' : Owned w' base v' o') (hv : v'.ownBlock = vo.ownBlock ∨ v'.ownBlock = some w.heap.size) : St Bo Bn Bf Be n base (w'.setCell ⟨Bo, 0, none⟩ v') v' vf o' fl := by
  have g1 := h.grown h.ho hg
  have kf : Owned w' base vf fl := h.hf.kept hg (by
    rcases hx : vf.ownBlock with _ | b
    · exact .inl rfl
    · exact .inr (fun e => h.ap b e.symm hx))
  refine ⟨set_o g1 h.on h.ne h.oe v', ownsRow_setCell_other ho' (own_ne ho' g1.o (.inl (by decide))) _, ownsRow_setCell_other kf (own_ne kf g1.o (.inl (by decide))) _, ?_, h.bn, h.ne, by have := h.size; have := hg.size; simp [World.setCell]; omega⟩
  intro g hgv e
  rcases hv with hv | hv
  · exact h.ap g (hv ▸ hgv) e
  · rw [hv] at hgv
    have := (own_lt h.hf g e).2
    simp only [Option.some.injEq] at hgv
    omega
theorem put_f (h : St Bo Bn Bf Be n base w vo vf o fl) (hg : w.grownBy w' vf.ownBlock) (hf' : Owned w' base v' fl') (hv : v'.ownBlock = vf.ownBlock ∨ v'.ownBlock = some w.heap.size) : St Bo Bn Bf Be n base (w'.setCell ⟨Bf, 0, none⟩ v') vo v' o fl' := by
  have g1 := h.grown h.hf hg
  have ko : Owned w' base vo o := h.ho.kept hg (by
    rcases hx : vo.ownBlock with _ | b
    · exact .inl rfl
    · exact .inr (fun e => h.ap b hx e.symm))
  refine ⟨set_f g1 h.fn h.ne.symm h.fe v', ownsRow_setCell_other ko (own_ne ko g1.f (.inl (by decide))) _, ownsRow_setCell_other hf' (own_ne hf' g1.f (.inl (by decide))) _, ?_, h.bn, h.ne, by have := h.size; have := hg.size; simp [World.setCell]; omega⟩
  intro g hgv e
  rcases hv with hv | hv
  · exact h.ap g hgv (hv ▸ e)
  · rw [hv] at e
    have := (own_lt h.ho g hgv).2
    simp only [Option.some.injEq] at e
    omega
theorem cut {A : Option Addr} {k c : Nat} {e : Int} (h : St Bo Bn Bf Be n base w (.slice A (k + 1) c) vf (o ++ [e]) fl) (hk : o.length = k) : St Bo Bn Bf Be n base (w.setCell ⟨Bo, 0, none⟩ (.slice A k c)) (.slice A k c) vf o fl := by
  have ho' := h.ho.cut hk
  have eb : (Value.slice A k c).ownBlock = (Value.slice A (k + 1) c).ownBlock := by cases A <;> rfl
  refine ⟨set_o h.ob h.on h.ne h.oe _, ownsRow_setCell_other ho' (own_ne ho' h.ob.o (.inl (by decide))) _, ownsRow_setCell_other h.hf (own_ne h.hf h.ob.o (.inl (by decide))) _, fun g hg => h.ap g (eb ▸ hg), h.bn, h.ne, by have := h.size; simp [World.setCell]; omega⟩
end St
end Go.Proofs.Ytmpdalcdkibgpaa
