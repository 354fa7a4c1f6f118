/-
  Slices of structs of three numbers; limits of the program.
-/
import Derived.Test.YtbgfiejaehpffaaW8
import Derived.Maps.AppendAt
import Derived.Deep.RegionLaw
namespace Go.Proofs.Ytbgfiejaehpffaa
open Go.RowKit

abbrev G := Int × Int × Int
def gth (gs : List G) (k : Nat) : G := gs.getD k (0, 0, 0)
/-- A slice of structs of three numbers reads as the list gs. -/
structure Gs (w : World) (B : Nat) (A : Option Addr) (n c : Nat) (gs : List G) : Prop where
  len : gs.length = n
  cap : n ≤ c
  most : c ≤ 9223372036854775807
  bare : A = none → c = 0
  at_ : ∀ k, k < n → ∃ b off, A = some ⟨b, off, none⟩ ∧ b < B ∧ w.cell? ⟨b, off + k * 3, none⟩ = some (.int .i64 (gth gs k).1) ∧ w.cell? ⟨b, off + k * 3 + 1, none⟩ = some (.int .i64 (gth gs k).2.1) ∧ w.cell? ⟨b, off + k * 3 + 2, none⟩ = some (.int .i64 (gth gs k).2.2)
namespace Gs
variable {w w' : World} {B B' : Nat} {A : Option Addr} {n c : Nat} {gs : List G}
theorem keep (h : Gs w B A n c gs) (hk : ∀ p : Addr, p.block < B → w'.cell? p = w.cell? p) : Gs w' B A n c gs :=
  ⟨h.len, h.cap, h.most, h.bare, fun k hk' => by
    obtain ⟨b, off, e, hb, h1, h2, h3⟩ := h.at_ k hk'
    exact ⟨b, off, e, hb, (hk ⟨b, _, none⟩ hb).trans h1, (hk ⟨b, _, none⟩ hb).trans h2, (hk ⟨b, _, none⟩ hb).trans h3⟩⟩
theorem more (h : Gs w B A n c gs) (hB : B ≤ B') : Gs w B' A n c gs :=
  ⟨h.len, h.cap, h.most, h.bare, fun k hk' => by
    obtain ⟨b, off, e, hb, hc⟩ := h.at_ k hk'
    exact ⟨b, off, e, by omega, hc⟩⟩
theorem below (h : Gs w B A n c gs) (hb : Below B w w') : Gs w' B A n c gs := h.keep fun _ hp => hb.cell hp
theorem none_ (w : World) (B : Nat) : Gs w B none 0 0 [] := ⟨rfl, Nat.le_refl _, by omega, fun _ => rfl, fun k h => absurd h (by omega)⟩
end Gs
/-- The cells of structs of three numbers. -/
def cells3_ (gs : List G) : List Value := gs.flatMap fun g => [.int .i64 g.1, .int .i64 g.2.1, .int .i64 g.2.2]
theorem cells3_length (gs : List G) : (cells3_ gs).length = gs.length * 3 := by
  induction gs with
  | nil => rfl
  | cons g l ih => simp only [cells3_, List.flatMap_cons, List.length_append, List.length_cons, List.length_nil] at ih ⊢; omega
theorem cells3_cons (g : G) (l : List G) : cells3_ (g :: l) = .int .i64 g.1 :: .int .i64 g.2.1 :: .int .i64 g.2.2 :: cells3_ l := rfl
theorem cells3_at : ∀ (gs : List G) (k : Nat), k < gs.length → (cells3_ gs)[k * 3]? = some (.int .i64 (gth gs k).1) ∧ (cells3_ gs)[k * 3 + 1]? = some (.int .i64 (gth gs k).2.1) ∧ (cells3_ gs)[k * 3 + 2]? = some (.int .i64 (gth gs k).2.2) := by
  intro gs
  induction gs with
  | nil => intro k h; simp at h
  | cons g l ih =>
    intro k h
    rcases k with _ | k
    · simp [cells3_cons, gth, List.getD]
    · have := ih k (by simpa using h)
      have e : gth (g :: l) (k + 1) = gth l k := by simp [gth, List.getD]
      rw [cells3_cons, e, show (k + 1) * 3 = k * 3 + 1 + 1 + 1 from by omega]
      simpa using this
/-- A slice of structs of the call's own. -/
def OwnedG (w : World) (base : Nat) (e : TypeId) (v : Value) (gs : List G) : Prop := w.ownsRow base e 3 v gs.length (cells3_ gs)
theorem OwnedG.gs {w : World} {base : Nat} {e : TypeId} {v : Value} {gs : List G} (h : OwnedG w base e v gs) : ∃ A c, v = .slice A gs.length c ∧ Gs w w.heap.size A gs.length c gs := by
  have h0 := h
  rcases h.2 with ⟨rfl, h1⟩ | ⟨g, cap, cur, rfl, _, hh, hn, hc, _, _⟩
  · have hx : gs = [] := List.eq_nil_of_length_eq_zero h1
    subst hx
    exact ⟨none, 0, rfl, Gs.none_ _ _⟩
  · refine ⟨_, _, rfl, rfl, hn, (by unfold maxLen at hc; omega), (fun e => by cases e), fun k hk => ⟨g, 0, rfl, (Array.getElem?_eq_some_iff.1 hh).1, ?_⟩⟩
    have hc3 := cells3_at gs k hk
    refine ⟨?_, ?_, ?_⟩
    · rw [Nat.zero_add, h0.cellAt _ (by omega)]; exact hc3.1
    · rw [Nat.zero_add, h0.cellAt _ (by omega)]; exact hc3.2.1
    · rw [Nat.zero_add, h0.cellAt _ (by omega)]; exact hc3.2.2
theorem info73 : (Try.prog.info? 73).map (fun i => (i.zero, i.size, i.bytes)) = some (some (.agg #[.int .i64 0, .int .i64 0, .int .i64 0]), 3, 24) := by kernel_rfl
theorem cells3_app (gs hs : List G) : cells3_ (gs ++ hs) = cells3_ gs ++ cells3_ hs := by simp [cells3_]

theorem OwnedG.to {w : World} {base : Nat} {e : TypeId} {v : Value} {gs : List G} (h : OwnedG w base e v gs) : ∃ A n c, v = .slice A n c ∧ Gs w w.heap.size A n c gs := by
  obtain ⟨A, c, e, hg⟩ := h.gs
  exact ⟨A, _, c, e, hg⟩
theorem OwnedG.lt {w : World} {base : Nat} {e : TypeId} {v : Value} {gs : List G} (h : OwnedG w base e v gs) : ∀ k, v.ownBlock = some k → base ≤ k ∧ k < w.heap.size := World.ownsRow.lt h
theorem OwnedG.alloc {w : World} {base : Nat} {e : TypeId} {v : Value} {gs : List G} (h : OwnedG w base e v gs) (o : Obj) : OwnedG (w.alloc o) base e v gs := World.ownsRow.alloc h o
theorem OwnedG.below {w w' : World} {base B : Nat} {e : TypeId} {v : Value} {gs : List G} (h : OwnedG w base e v gs) (hb : Below B w w') (hB : w.heap.size ≤ B) : OwnedG w' base e v gs := by
  refine ⟨h.1, ?_⟩
  rcases h.2 with h0 | ⟨g, cap, cur, hv, hg, hh, r⟩
  · exact .inl h0
  · exact .inr ⟨g, cap, cur, hv, hg, by rw [hb.block g (by have := (Array.getElem?_eq_some_iff.1 hh).1; omega)]; exact hh, r⟩
theorem run_appG {w : World} {base : Nat} {t e : TypeId} {v : Value} {gs : List G} {g : G} (ty : TypeId) (ht : Try.prog.underlying t = some (.slice e)) (hi : (Try.prog.info? e).map (fun i => (i.zero, i.size, i.bytes)) = some (some (.agg #[.int .i64 0, .int .i64 0, .int .i64 0]), 3, 24))
    (ho : OwnedG w base e v gs) (hl : gs.length ≤ 1000000) (hbase : base ≤ w.heap.size) :
    ∃ v' w', (Builtin.append_ #[t, t] ty #[v, .slice (some ⟨w.heap.size, 0, none⟩) 1 1]).run Try.prog (w.alloc (.cells #[.int .i64 g.1, .int .i64 g.2.1, .int .i64 g.2.2] e)) = .ok v' w' ∧ OwnedG w' base e v' (gs ++ [g]) ∧ Below base w w' ∧ w.grownBy w' v.ownBlock := by
  obtain ⟨i0, h0, hz0, hz1, hz2⟩ := info_parts hi
  have hcell : ∀ j u, ([Value.int .i64 g.1, .int .i64 g.2.1, .int .i64 g.2.2] : List Value)[j]? = some u → (w.alloc (.cells #[.int .i64 g.1, .int .i64 g.2.1, .int .i64 g.2.2] e)).cell? ((⟨w.heap.size, 0, none⟩ : Addr).add j) = some u := by
    intro j u hu
    have hadd : (⟨w.heap.size, 0, none⟩ : Addr).add j = ⟨w.heap.size, j, none⟩ := by unfold Addr.add; split <;> simp_all
    rw [hadd, World.cell?_alloc_at _ _ _ _ rfl]
    simpa using hu
  obtain ⟨v', w', hrun, h2, h3, _, _⟩ := run_append_own_at (P := Try.prog) (w.alloc (.cells #[.int .i64 g.1, .int .i64 g.2.1, .int .i64 g.2.2] e)) base t ty e i0 (.agg #[.int .i64 0, .int .i64 0, .int .i64 0]) 3 24 ht h0 hz0 hz1 hz2 rfl (by omega) v _ _ (World.ownsRow.alloc ho _) ⟨w.heap.size, 0, none⟩ 1 1
    [.int .i64 g.1, .int .i64 g.2.1, .int .i64 g.2.2] rfl hcell (by intro u hu; simp at hu; rcases hu with rfl | rfl | rfl <;> rfl) (by unfold maxLen; omega) (by omega) (by simp; omega)
  refine ⟨v', w', hrun, ?_, ((Below.refl base w).alloc hbase _).grown h3 (by simp; omega) (fun k hk => (World.ownsRow.lt ho k hk).1), ⟨h3.os, h3.tape, h3.output, by have := h3.size; simp at this; omega, fun k hk hne => (h3.block k (by simp; omega) hne).trans (Below.heap_alloc _ _ _ hk)⟩⟩
  unfold OwnedG
  rw [List.length_append, cells3_app]
  exact h2
theorem wpList_appG {w : World} {ops : Array Oper} {rest : List Oper} {o : Oper} {a : Act} {Q : Exit → Act → World → Prop} (hg : o.guard = none) (s x : Operand) (t e : TypeId)
    (hop : o.op = .call { callee := .builtin .append, args := #[s, x], argTypes := #[t, t] }) (ht : Try.prog.underlying t = some (.slice e)) (hi : (Try.prog.info? e).map (fun i => (i.zero, i.size, i.bytes)) = some (some (.agg #[.int .i64 0, .int .i64 0, .int .i64 0]), 3, 24))
    {base : Nat} {v : Value} {gs : List G} {f d m : Int} (hs : a.eval s = v) (hx : a.eval x = .slice (some ⟨w.heap.size, 0, none⟩) 1 1) (ho : OwnedG w base e v gs) (hl : gs.length ≤ 1000000) (hbase : base ≤ w.heap.size)
    (h : ∀ v' w', OwnedG w' base e v' (gs ++ [(f, d, m)]) → Below base w w' → w.grownBy w' v.ownBlock → wpList Try.prog ops Q rest (a.put o.dst v') w') : wpList Try.prog ops Q (o :: rest) a (w.alloc (.cells #[.int .i64 f, .int .i64 d, .int .i64 m] e)) :=
  wpList_plain hg fun K hK => by
    obtain ⟨v', w', hrun, h2, h3, h4⟩ := run_appG (g := (f, d, m)) o.type ht hi ho hl hbase
    unfold Oper.wp execOp
    simp only [hop, resolve, invoke, builtin, Sem.run_bind, Sem.run_pure, Result.andThen_ok, List.map_toArray, List.map_cons, List.map_nil, hs, hx, hrun]
    exact hK _ _ (h v' w' h2 h3 h4)
theorem gtake (gs : List G) (k : Nat) (h : k < gs.length) : gs.take (k + 1) = gs.take k ++ [gth gs k] := by
  rw [List.take_succ_eq_append_getElem h]; simp [gth, List.getD, h]


theorem loose_move (P : Program) (d : Option Tmp) (x : Operand) (ty : TypeId) (pos : String) (af : Array Edge) : Loose P { dst := d, op := .move x, type := ty, pos := pos, after := af, guard := none } :=
  ⟨rfl, fun _ => .inl ⟨_, fun _ => rfl⟩⟩
def lim (p q : F) : G := (thA p q, thB p q, thC p q)
/-- The limits along the first k ways. -/
def edgL (fs : List F) : Nat → List G
  | 0 => []
  | k + 1 => edgL fs k ++ [lim (fth fs k) (fth fs (k + 1))]
theorem edgL_len (fs : List F) : ∀ k, (edgL fs k).length = k
  | 0 => rfl
  | k + 1 => by rw [edgL, List.length_append, edgL_len fs k]; rfl
def lim2 (fs : List F) : List G := [(0, 1, (fth fs 0).2), (1, 0, (fth fs (fs.length - 1)).1)]
def limsF (fs : List F) : List G := lim2 fs ++ edgL fs (fs.length - 1)

theorem own2 (w : World) (a b c d e f : Int) : OwnedG (w.alloc (.cells #[.int .i64 a, .int .i64 b, .int .i64 c, .int .i64 d, .int .i64 e, .int .i64 f] 73)) w.heap.size 73 (.slice (some ⟨w.heap.size, 0, none⟩) 2 2) [(a, b, c), (d, e, f)] :=
  ⟨rfl, .inr ⟨w.heap.size, 2, _, rfl, Nat.le_refl _, heap_new_ _ _, Nat.le_refl _, by unfold maxLen; omega, rfl, rfl⟩⟩

set_option maxRecDepth 100000 in
set_option maxHeartbeats 8000000 in
theorem limits_any (A : Option Addr) (n c : Nat) (fs : List F) (w : World) (h : Fs w w.heap.size A n c fs) (hs : ∀ k, k < n → smallP 1000 (fth fs k)) (hn : 0 < n) (hn2 : n ≤ 100) :
    Calls Try.prog 52 #[.slice A n c] w fun e w' => ∃ v, e = .returned v ∧ OwnedG w' w.heap.size 73 v (limsF fs) ∧ Below w.heap.size w w' := by
  have hm := h.most; have hcap := h.cap
  have HI := hide h
  have HL := hide h.len
  have HSm := hide hs
  obtain ⟨b, off, rfl, hb, hc1, hc2⟩ := h.at_ 0 hn
  obtain ⟨b2, off2, e2, _, hd1, hd2⟩ := h.at_ (n - 1) (by omega)
  simp only [Option.some.injEq, Addr.mk.injEq, and_true] at e2
  obtain ⟨rfl, rfl⟩ := e2
  obtain ⟨m, rfl⟩ : ∃ m, n = m + 1 := ⟨n - 1, by omega⟩
  have HLL := hide (show lim2 fs = [(0, 1, (fth fs 0).2), (1, 0, (fth fs m).1)] from by unfold lim2; rw [HL.out]; rfl)
  simp only [Nat.add_sub_cancel] at hd1 hd2
  generalize (fth fs 0).2 = y0 at HLL hc2
  generalize (fth fs m).1 = xm at HLL hd1
  have hc2' : w.cell? ⟨b, off + 1, none⟩ = some (.int .i64 y0) := by simpa using hc2
  clear hc1 hd2 hc2 h hs
  have hw1 : IntKind.i64.wrap (((m + 1 : Nat) : Int) - 1) = (m : Int) := by rw [show ((m + 1 : Nat) : Int) - 1 = m by omega]; exact wrap_in' (by omega)
  have hw2 : IntKind.i64.wrap ((m : Int) + 1 - 1) = (m : Int) := by rw [show (m : Int) + 1 - 1 = m by omega]; exact wrap_in' (by omega)
  have hm0 : (0 : Int) ≤ (m : Int) := by omega
  have hm1 : (m : Int) < (m : Int) + 1 := by omega
  have hm2 : m < m + 1 := by omega
  have hm3 : (0 : Int) < (m : Int) + 1 := by omega
  have hm4 : 0 < m + 1 := by omega
  go_enter Try.func52, Try.ntmps52
  go_upto_region 1 with fail
  go_quiet (fail)
  clear hw1 hw2 hm1 hm2 hm3 hm4 hm0 hc2' hd1
  obtain ⟨W0, hW0⟩ : ∃ W0, W0 = (w.drewN nq).alloc (.cells #[.int .i64 0, .int .i64 1, .int .i64 y0, .int .i64 1, .int .i64 0, .int .i64 xm] 73) := ⟨_, rfl⟩
  have HO := hide (show OwnedG W0 w.heap.size 73 (.slice (some ⟨w.heap.size, 0, none⟩) 2 2) (lim2 fs ++ edgL fs 0) from by rw [HLL.out, hW0]; exact own2 (w.drewN nq) 0 1 y0 1 0 xm)
  have HB0 := hide (show Below w.heap.size w W0 from by rw [hW0]; exact (below_dN (Below.refl _ w) nq).alloc (Nat.le_refl _) _)
  have hW : (w.drewN nq).alloc (.cells #[.int .i64 0, .int .i64 1, .int .i64 y0, .int .i64 1, .int .i64 0, .int .i64 xm] 73) = W0 := hW0.symm
  clear hW0
  go_wp2_with fail
  clear hW
  go_loopw [5, 6] (fun v i wr => ∃ k : Nat, k + 1 ≤ m + 1 ∧ i = .int .i64 ((k : Int) + 1) ∧ Hid (OwnedG wr w.heap.size 73 v (lim2 fs ++ edgL fs k)) ∧ Hid (Below w.heap.size w wr)) (fun _ i _ => m + 1 - (intOf i).toNat)
  case atStart => exact ⟨0, by omega, by simp, HO, HB0⟩
  case round =>
    obtain ⟨k, hk, rfl, HOk, HB⟩ := hrel
    by_cases hlt : k < m
    · obtain ⟨A1, n1, c1, rfl, hg1⟩ := (unhide HOk).to
      clear hg1
      have HIk := hide (((unhide HI).below (unhide HB)).more (unhide HB).size)
      have s1 := HSm.out k (by omega)
      have s2 := HSm.out (k + 1) (by omega)
      have HE := hide (show lim2 fs ++ edgL fs (k + 1) = (lim2 fs ++ edgL fs k) ++ [lim (fth fs k) (fth fs (k + 1))] from by rw [edgL, List.append_assoc])
      have HS := hide (show ∀ W', Below wr.heap.size wr W' → ((W'.cell? ⟨b, off + k * 2, none⟩ = some (.int .i64 (fth fs k).1) ∧ W'.cell? ⟨b, off + k * 2 + 1, none⟩ = some (.int .i64 (fth fs k).2)) ∧ (W'.cell? ⟨b, off + (k + 1) * 2, none⟩ = some (.int .i64 (fth fs (k + 1)).1) ∧ W'.cell? ⟨b, off + (k + 1) * 2 + 1, none⟩ = some (.int .i64 (fth fs (k + 1)).2))) from fun W' hb' => by
        obtain ⟨b2, off2, e2, _, h2, h3⟩ := ((unhide HIk).below hb').at_ k (by omega)
        simp only [Option.some.injEq, Addr.mk.injEq, and_true] at e2
        obtain ⟨rfl, rfl⟩ := e2
        obtain ⟨b2, off2, e2, _, h4, h5⟩ := ((unhide HIk).below hb').at_ (k + 1) (by omega)
        simp only [Option.some.injEq, Addr.mk.injEq, and_true] at e2
        obtain ⟨rfl, rfl⟩ := e2
        exact ⟨⟨h2, h3⟩, ⟨h4, h5⟩⟩)
      generalize fth fs k = p1 at s1 HE HS
      generalize fth fs (k + 1) = p2 at s2 HE HS
      obtain ⟨x, y⟩ := p1
      obtain ⟨u, v⟩ := p2
      simp only at HS
      obtain ⟨p, hp⟩ : ∃ p, thA (x, y) (u, v) = p := ⟨_, rfl⟩
      obtain ⟨q, hq⟩ : ∃ q, thB (x, y) (u, v) = q := ⟨_, rfl⟩
      obtain ⟨r, hr⟩ : ∃ r, thC (x, y) (u, v) = r := ⟨_, rfl⟩
      have HT := hide (fun W => through_any x y u v W s1 s2 p q r (hide hp) (hide hq) (hide hr))
      have HE2 := hide (show lim2 fs ++ edgL fs (k + 1) = (lim2 fs ++ edgL fs k) ++ [(p, q, r)] from by rw [HE.out]; unfold lim; rw [hp, hq, hr])
      clear hp hq hr HE s1 s2
      have hk1 : (k : Int) + 1 < ((m + 1 : Nat) : Int) := by omega
      have hk0 : (0 : Int) ≤ (k : Int) := by omega
      have hk2 : (0 : Int) ≤ (k : Int) + 1 := by omega
      have hk3 : (k : Int) < (m : Int) + 1 := by omega
      have hk4 : (k : Int) + 1 < (m : Int) + 1 := by omega
      have hk5 : k < m + 1 := by omega
      have hk6 : k + 1 < m + 1 := by omega
      have hk7 : ((k : Int) + 1).toNat = k + 1 := by omega
      have hwk : IntKind.i64.wrap ((k : Int) + 1 - 1) = (k : Int) := by rw [show (k : Int) + 1 - 1 = k by omega]; exact wrap_in' (by omega)
      have hwk2 : IntKind.i64.wrap (k : Int) = (k : Int) := wrap_in' (by omega)
      have hwk3 : IntKind.i64.wrap ((k : Int) + 1) = (k : Int) + 1 := wrap_in' (by omega)
      have hll : (lim2 fs ++ edgL fs k).length ≤ 1000000 := by rw [List.length_append, edgL_len]; simp [lim2]; omega
      have hln := hide hll; clear hll
      have HWd := hide (show Below wr.heap.size wr wr.drew from (Below.refl _ _).drew)
      go_upto_region 6 with fail
      refine wp_region_quietE 11 0 (fun W' => Below wr.heap.size wr W') (by kernel_rfl) (by kernel_rfl) (unhide HWd) (fun o ho => by obtain rfl := Option.some.inj ho; exact loose_move _ _ _ _ _ _) (fun o ho => by obtain rfl := Option.some.inj ho; exact fun _ _ _ _ h => h) ?_
      simp only [List.take_succ_cons, List.take_zero, List.drop_succ_cons, List.drop_zero]
      repeat (first
        | go_big_quiet_skip
        | (go_big_quiet_want
           apply Exists.intro
           refine ⟨fun W hW => ?_, ?_⟩
           · obtain ⟨⟨s0, s1⟩, ⟨k1, k2⟩⟩ := (unhide HS) W hW
             go_simp
             first | rfl | exact ((unhide HT) W).mono fun _ _ h => ⟨h.1, hW.trans (h.2.mono hW.size)⟩
           go_big_quiet_on
           simp only [Act.put, List.setIfInBounds_toArray, List.set_cons_zero, List.set_cons_succ]))
      refine wpQuiet_nil ?_
      intro wc hWc
      have HWc := hide ((unhide HB).trans (hWc.mono (unhide HB).size))
      have HOc := hide ((unhide HOk).below hWc (Nat.le_refl _))
      clear hWc
      have hbs := (unhide HWc).size
      go_wp2_with (at_builtin; refine wpList_appG rfl _ _ 71 73 rfl Try.underlying71 info73 rfl rfl (unhide HOc) hln.out hbs ?_; intro v' w2 ho2 hb2 _)
      rw [← HE2.out] at ho2
      have HO2 := hide ho2
      have HB2 := hide ((unhide HWc).trans hb2)
      clear ho2 hb2
      go_wp2_with fail
      go_roundw
      case rel => exact ⟨k + 1, by omega, by go_num, HO2, HB2⟩
      case measure => simp [intOf]; omega
    · obtain rfl : k = m := by omega
      have HR := hide (show lim2 fs ++ edgL fs k = limsF fs from by unfold limsF; rw [HL.out]; rfl)
      go_wp2_with fail
      go_ret
      exact ⟨_, rfl, by rw [← HR.out]; exact unhide HOk, unhide HB⟩
end Go.Proofs.Ytbgfiejaehpffaa
