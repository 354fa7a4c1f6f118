/-
  A slice of sides made and filled: Turn of the program.
-/
import Derived.Test.YtccfhcoioakmpaaM4
import Derived.Test.YtccfhcoioakmpaaD1
import Derived.Laws.MakeOwn
import Derived.OwnWalk
namespace Go.Proofs.Ytccfhcoioakmpaa
open Go.RowKit

theorem cells3_set : ∀ (gs : List G) (k : Nat) (g : G), k < gs.length → (((cells3_ gs).set (k * 3) (.int .i64 g.1)).set (k * 3 + 1) (.int .i64 g.2.1)).set (k * 3 + 2) (.int .i64 g.2.2) = cells3_ (gs.set k g)
  | [], k, g, h => by simp at h
  | a :: gs, 0, g, _ => by simp [cells3_cons]
  | a :: gs, k + 1, g, h => by
    have ih := cells3_set gs k g (by simpa using h)
    rw [cells3_cons, List.set_cons_succ, cells3_cons, ← ih, show (k + 1) * 3 = k * 3 + 1 + 1 + 1 from by omega]
    simp
theorem OwnedG.store {w : World} {base g n c : Nat} {e : TypeId} {xs : List G} (h : OwnedG w base e (.slice (some ⟨g, 0, none⟩) n c) xs) (hn : xs.length = n) {k : Nat} (hk : k < n) (f d m : Int) :
    OwnedG (((w.setCell ⟨g, k * 3, none⟩ (.int .i64 f)).setCell ⟨g, k * 3 + 1, none⟩ (.int .i64 d)).setCell ⟨g, k * 3 + 2, none⟩ (.int .i64 m)) base e (.slice (some ⟨g, 0, none⟩) n c) (xs.set k (f, d, m)) := by
  unfold OwnedG at h ⊢
  rw [hn] at h
  have h3 := (World.ownsRow.stored (World.ownsRow.stored (World.ownsRow.stored h (k * 3) (.int .i64 f)).1 (k * 3 + 1) (.int .i64 d)).1 (k * 3 + 2) (.int .i64 m)).1
  rw [List.length_set, hn, ← cells3_set xs k (f, d, m) (by omega)]
  exact h3
theorem OwnedG.free_ {w : World} {base g n c : Nat} {e : TypeId} {xs : List G} (h : OwnedG w base e (.slice (some ⟨g, 0, none⟩) n c) xs) (hn : xs.length = n) (j : Nat) : w.frozen? ⟨g, j, none⟩ = false := by
  unfold OwnedG at h
  rw [hn] at h
  exact World.ownsRow.frozenAt h j
theorem OwnedG.cells_ {w : World} {base g n c : Nat} {e : TypeId} {xs : List G} (h : OwnedG w base e (.slice (some ⟨g, 0, none⟩) n c) xs) (hn : xs.length = n) {k : Nat} (hk : k < n) :
    w.cell? ⟨g, k * 3, none⟩ = some (.int .i64 (gth xs k).1) ∧ w.cell? ⟨g, k * 3 + 1, none⟩ = some (.int .i64 (gth xs k).2.1) ∧ w.cell? ⟨g, k * 3 + 2, none⟩ = some (.int .i64 (gth xs k).2.2) := by
  unfold OwnedG at h
  rw [hn] at h
  have hc := cells3_at xs k (by omega)
  refine ⟨?_, ?_, ?_⟩
  · rw [World.ownsRow.cellAt h _ (by omega)]; exact hc.1
  · rw [World.ownsRow.cellAt h _ (by omega)]; exact hc.2.1
  · rw [World.ownsRow.cellAt h _ (by omega)]; exact hc.2.2
theorem OwnedG.low {w : World} {base b' : Nat} {e : TypeId} {v : Value} {fs : List G} (h : OwnedG w base e v fs) (hb : b' ≤ base) : OwnedG w b' e v fs := by
  refine ⟨h.1, ?_⟩
  rcases h.2 with h0 | ⟨g, cap, cur, hv, hg, r⟩
  · exact .inl h0
  · exact .inr ⟨g, cap, cur, hv, Nat.le_trans hb hg, r⟩
theorem made3 (n : Nat) : (madeCells (Value.agg #[.int .i64 0, .int .i64 0, .int .i64 0]).cells (n * 3)).toList = cells3_ (List.replicate n (0, 0, 0)) := by
  have e : cells3_ (List.replicate n (0, 0, 0)) = List.replicate (n * 3) (Value.int .i64 0) := by
    induction n with
    | zero => rfl
    | succ n ih => rw [List.replicate_succ, cells3_cons, ih, show (n + 1) * 3 = n * 3 + 1 + 1 + 1 from by omega]; rfl
  rw [e]
  apply List.ext_getElem
  · simp [madeCells]
  · intro i h1 h2
    simp [madeCells, Value.cells]
    have : i % 3 = 0 ∨ i % 3 = 1 ∨ i % 3 = 2 := by omega
    rcases this with h | h | h <;> rw [h] <;> rfl

theorem below_set3 {W0 W : World} {B b : Nat} (h : Below B W0 W) (hb : B ≤ b) (o0 o1 o2 : Nat) (v0 v1 v2 : Value) : Below B W0 (((W.setCell ⟨b, o0, none⟩ v0).setCell ⟨b, o1, none⟩ v1).setCell ⟨b, o2, none⟩ v2) :=
  ((h.setCell (p := ⟨b, o0, none⟩) hb v0).setCell (p := ⟨b, o1, none⟩) hb v1).setCell (p := ⟨b, o2, none⟩) hb v2
/-- A list that is filled up to k. -/
def partF (f : G → G) (gs : List G) (k : Nat) : List G := (List.range gs.length).map fun j => if j < k then f (gth gs j) else (0, 0, 0)
theorem partF_length (f : G → G) (gs : List G) (k : Nat) : (partF f gs k).length = gs.length := by simp [partF]
theorem partF_zero (f : G → G) (gs : List G) : partF f gs 0 = List.replicate gs.length (0, 0, 0) := by
  apply List.ext_getElem <;> simp [partF]
theorem partF_set (f : G → G) (gs : List G) {k : Nat} (_ : k < gs.length) : (partF f gs k).set k (f (gth gs k)) = partF f gs (k + 1) := by
  apply List.ext_getElem
  · simp [partF]
  · intro i h1 h2
    rw [List.getElem_set]
    simp only [partF, List.getElem_map, List.getElem_range]
    by_cases e : k = i
    · subst e; simp
    · rw [if_neg e]
      by_cases h : i < k
      · rw [if_pos h, if_pos (by omega)]
      · rw [if_neg h, if_neg (by omega)]
theorem partF_all (f : G → G) (gs : List G) : partF f gs gs.length = gs.map f := by
  apply List.ext_getElem
  · simp [partF]
  · intro i h1 h2
    have hi : i < gs.length := by simpa using h2
    simp [partF, hi, gth, List.getD]

set_option maxRecDepth 4000 in
set_option maxHeartbeats 3200000 in
theorem Turn_any (A : Option Addr) (n c : Nat) (gs : List G) (w : World) (h : Gs w w.heap.size A n c gs) (b : Bool) (hb : Hid (plF gs = b)) :
    Calls Try.prog 45 #[.slice A n c] w fun e w' => ∃ v, e = .returned (.tuple #[v, .int .i64 (if b then 0 else 2)]) ∧ OwnedG w' w.heap.size 57 v (if b then gs.map turnG else []) ∧ Below w.heap.size w w' := by
  have hm := h.most; have hcap := h.cap
  have hl := hide h.len
  have H := hide h; clear h
  cases b with
  | false =>
    go_enter Try.func45, Try.ntmps45
    go_wp2_with fail
    refine (isPlate_is _ _ _ _ _ (unhide H) _ hb).mono ?_
    rintro e w1 ⟨rfl, b1⟩
    have HB := hide b1; clear b1
    go_wp2_with fail
    go_ret2
    exact ⟨_, rfl, World.ownsRow_nil _ _ _ _, unhide HB⟩
  | true =>
    have hlen := plF_len hb.out
    have hn6 : n ≤ 6 := by have := hl.out; omega
    have HO := hide (plF_ok hb.out)
    obtain ⟨i0, hi0, hz0, hz1, hz2⟩ := info_parts info57
    have hby := hide (show i0.bytes * n ≤ 281474976710656 from by rw [hz2]; omega)
    have hml := hide (show n ≤ maxLen from by unfold maxLen; omega)
    have HI := hide hi0; have H0 := hide hz0; have H1 := hide hz1
    clear hi0 hz0 hz1 hz2 hlen
    go_enter Try.func45, Try.ntmps45
    go_wp2_with fail
    refine (isPlate_is _ _ _ _ _ (unhide H) _ hb).mono ?_
    rintro e w1 ⟨rfl, b1⟩
    have HB := hide b1; clear b1
    go_wp2_with (at_make
                 refine wpList_make_full _ rfl _ _ 27 (by rfl) w1.heap.size 57 i0 (.agg #[.int .i64 0, .int .i64 0, .int .i64 0]) 3 Try.underlying27 (unhide HI) (unhide H0) (unhide H1) .i64 .i64 _ _ n (by rfl) (by rfl) rfl rfl (unhide hby) (unhide hml) (Nat.le_refl _) ?_
                 intro w2 hown1 hg1)
    have HO1 := hide (show OwnedG w2 w1.heap.size 57 (.slice (some ⟨w1.heap.size, 0, none⟩) n n) (partF turnG gs 0) from by
      rw [partF_zero]
      unfold OwnedG
      rw [List.length_replicate, hl.out, ← made3]
      exact hown1)
    have HB1 := hide (show Below w.heap.size w w2 from (unhide HB).trans (((Below.refl _ _).grown hg1 (Nat.le_refl _) (fun k hk => by cases hk)).mono (unhide HB).size))
    have hs := (unhide HB).size
    have hs2 : w1.heap.size < w2.heap.size := ((World.ownsRow.lt (unhide HO1)) w1.heap.size rfl).2
    clear hown1 hg1
    go_loopw [15] (fun i wr => ∃ k : Nat, k ≤ n ∧ i = .int .i64 k ∧ OwnedG wr w1.heap.size 57 (.slice (some ⟨w1.heap.size, 0, none⟩) n n) (partF turnG gs k) ∧ Below w.heap.size w wr) (fun i _ => n - (intOf i).toNat)
    case atStart => exact ⟨0, Nat.zero_le _, rfl, unhide HO1, unhide HB1⟩
    case round =>
      obtain ⟨k, hk, rfl, ho, hbl⟩ := hrel
      have HOW := hide ho; have HBL := hide hbl; clear ho hbl
      by_cases hlt : k < n
      · have hkl : k < gs.length := by rw [hl.out]; exact hlt
        obtain ⟨b, off, rfl, hbb, e1, e2, e3⟩ := ((unhide H).below (unhide HBL)).at_ k hlt
        have hg := (okS_iff _).1 (HO.out _ (gth_mem hkl))
        have hst := hide (partF_set turnG gs hkl)
        revert hst
        obtain ⟨⟨f, d, m⟩, hgk⟩ : ∃ f, gth gs k = f := ⟨_, rfl⟩
        rw [hgk] at e1 e2 e3 hg ⊢
        clear hgk
        simp only [turnG] at e1 e2 e3 hg ⊢
        intro hst
        obtain ⟨⟨g11, g12⟩, ⟨g21, g22⟩, _, g4, g5⟩ := hg
        have ho1 := (unhide HOW).alloc (.cells #[.int .i64 f, .int .i64 d, .int .i64 m] 57)
        have hn : (partF turnG gs k).length = n := by rw [partF_length]; exact hl.out
        obtain ⟨y0, y1, y2⟩ := ho1.cells_ hn hlt
        have z0 := ho1.free_ hn (k * 3); have z1 := ho1.free_ hn (k * 3 + 1); have z2 := ho1.free_ hn (k * 3 + 2)
        have HST := hide (show OwnedG _ w1.heap.size 57 (.slice (some ⟨w1.heap.size, 0, none⟩) n n) (partF turnG gs (k + 1)) from by
          have := ho1.store hn hlt (-d) f m
          rw [← hst.out]; exact this)
        have HBN := hide (below_set3 ((unhide HBL).alloc (unhide HBL).size (.cells #[.int .i64 f, .int .i64 d, .int .i64 m] 57)) (b := w1.heap.size) hs (k * 3) (k * 3 + 1) (k * 3 + 2) (.int .i64 (-d)) (.int .i64 f) (.int .i64 m))
        clear ho1 hn
        go_wp2_with fail
        go_roundw
        case rel => exact ⟨k + 1, by omega, by go_num, unhide HST, unhide HBN⟩
        case measure => simp [intOf]; omega
      · obtain rfl : k = n := by omega
        have HF := hide (show partF turnG gs k = gs.map turnG from by rw [← hl.out]; exact partF_all _ _)
        go_wp2_with fail
        go_ret2
        exact ⟨_, rfl, by have := unhide HOW; rw [HF.out] at this; exact OwnedG.low this hs, unhide HBL⟩
end Go.Proofs.Ytccfhcoioakmpaa
