/-
  Move, of the program and of the reference.
-/
import Derived.Test.YtccfhcoioakmpaaM5
namespace Go.Proofs.Ytccfhcoioakmpaa
open Go.RowKit

def moveG (x y : Int) (g : G) : G := (g.1, g.2.1, g.2.2 + (g.1 * x + g.2.1 * y))
def movOk (x y : Int) (g : G) : Bool := allIn (-40) 40 [(moveG x y g).2.2]
def step5 (x y : Int) : Bool := allIn (-5) 5 [x, y]
theorem step5_iff {x y : Int} : step5 x y = true ↔ (-5 ≤ x ∧ x ≤ 5) ∧ -5 ≤ y ∧ y ≤ 5 := by simp [step5, allIn]
theorem movOk_iff {x y : Int} {g : G} : movOk x y g = true ↔ -40 ≤ g.2.2 + (g.1 * x + g.2.1 * y) ∧ g.2.2 + (g.1 * x + g.2.1 * y) ≤ 40 := by simp [movOk, moveG, allIn]
theorem movOk_no {x y : Int} {gs : List G} {k : Nat} (hk : k < gs.length) (h : movOk x y (gth gs k) = false) : gs.all (movOk x y) = false := all_no (p := movOk x y) hk h
def moveC (p s m : Bool) : Int := if p && s then (if m then 0 else 4) else 2
def moveL (x y : Int) (gs : List G) : List G := if plF gs && step5 x y && gs.all (movOk x y) then gs.map (moveG x y) else []

set_option maxRecDepth 4000 in
set_option maxHeartbeats 3200000 in
theorem Move_bad (A : Option Addr) (n c : Nat) (gs : List G) (x y : Int) (w : World) (h : Gs w w.heap.size A n c gs) (hb : Hid (plF gs = false ∨ step5 x y = false)) :
    Calls Try.prog 44 #[.slice A n c, .int .i64 x, .int .i64 y] w fun e w' => e = .returned (.tuple #[.slice none 0 0, .int .i64 2]) ∧ Below w.heap.size w w' := by
  have H := hide h; clear h
  rcases hp : plF gs
  · have HP := hide hp; clear hp
    go_enter Try.func44, Try.ntmps44
    go_wp2_with fail
    refine (isPlate_is _ _ _ _ _ (unhide H) _ HP).mono ?_
    rintro e w1 ⟨rfl, b1⟩
    have HB := hide b1; clear b1
    go_wp2_with fail
    go_ret2
    exact ⟨rfl, unhide HB⟩
  · have HS := hide (show step5 x y = false from by rcases hb.out with h1 | h1 <;> simp_all)
    have HP := hide hp; clear hp
    go_enter Try.func44, Try.ntmps44
    go_wp2_with fail
    refine (isPlate_is _ _ _ _ _ (unhide H) _ HP).mono ?_
    rintro e w1 ⟨rfl, b1⟩
    have HB := hide (b1.alloc b1.size (.cells #[.int .i64 x, .int .i64 y] 3)); clear b1
    have HI := hide (ints_new2 w1 w1.heap.size rfl x y)
    go_wp2_with fail
    refine (allWithin_is _ _ _ _ _ _ _ _ (unhide HI) _ HS).mono ?_
    rintro e w2 ⟨rfl, rfl⟩
    go_wp2_with fail
    go_ret2
    exact ⟨rfl, unhide HB⟩

set_option maxRecDepth 4000 in
set_option maxHeartbeats 6400000 in
theorem Move_yes (A : Option Addr) (n c : Nat) (gs : List G) (x y : Int) (w : World) (h : Gs w w.heap.size A n c gs) (hp : Hid (plF gs = true)) (hs : Hid (step5 x y = true)) (r : Int) (L : List G) (hr1 : Hid (gs.all (movOk x y) = true → r = 0 ∧ L = gs.map (moveG x y))) (hr2 : Hid (gs.all (movOk x y) = false → r = 4 ∧ L = [])) :
    Calls Try.prog 44 #[.slice A n c, .int .i64 x, .int .i64 y] w fun e w' => ∃ v, e = .returned (.tuple #[v, .int .i64 r]) ∧ OwnedG w' w.heap.size 57 v L ∧ Below w.heap.size w w' := by
  have hm := h.most; have hcap := h.cap
  have hl := hide h.len
  have H := hide h; clear h
  have hlen := plF_len hp.out
  have hn6 : n ≤ 6 := by have := hl.out; omega
  have HO := hide (plF_ok hp.out)
  obtain ⟨⟨hx1, hx2⟩, hy1, hy2⟩ := step5_iff.1 hs.out
  obtain ⟨i0, hi0, hz0, hz1, hz2⟩ := info_parts info57
  have hby := hide (show i0.bytes * n ≤ 281474976710656 from by rw [hz2]; omega)
  have hml := hide (show n ≤ maxLen from by unfold maxLen; omega)
  have HI := hide hi0; have H0 := hide hz0; have H1 := hide hz1
  clear hi0 hz0 hz1 hz2 hlen
  go_enter Try.func44, Try.ntmps44
  go_wp2_with fail
  refine (isPlate_is _ _ _ _ _ (unhide H) _ hp).mono ?_
  rintro e w1 ⟨rfl, b1⟩
  have HB0 := hide (b1.alloc b1.size (.cells #[.int .i64 x, .int .i64 y] 3)); clear b1
  have HJ := hide (ints_new2 w1 w1.heap.size rfl x y)
  go_wp2_with fail
  refine (allWithin_is _ _ _ _ _ _ _ _ (unhide HJ) _ hs).mono ?_
  rintro e w2 ⟨rfl, rfl⟩
  obtain ⟨w1', hw1'⟩ : ∃ W, W = w1.alloc (.cells #[.int .i64 x, .int .i64 y] 3) := ⟨_, rfl⟩
  have HB := hide (show Below w.heap.size w w1' from by rw [hw1']; exact unhide HB0)
  rw [← hw1']
  clear HB0 HJ hw1'
  go_wp2_with (at_make
               refine wpList_make_full _ rfl _ _ 27 (by rfl) w1'.heap.size 57 i0 (.agg #[.int .i64 0, .int .i64 0, .int .i64 0]) 3 Try.underlying27 (unhide HI) (unhide H0) (unhide H1) .i64 .i64 _ _ n (by rfl) (by rfl) rfl rfl (unhide hby) (unhide hml) (Nat.le_refl _) ?_
               intro w2 hown1 hg1)
  have HO1 := hide (show OwnedG w2 w1'.heap.size 57 (.slice (some ⟨w1'.heap.size, 0, none⟩) n n) (partF (moveG x y) gs 0) from by
    rw [partF_zero]
    unfold OwnedG
    rw [List.length_replicate, hl.out, ← made3]
    exact hown1)
  have HB1 := hide (show Below w.heap.size w w2 from (unhide HB).trans (((Below.refl _ _).grown hg1 (Nat.le_refl _) (fun k hk => by cases hk)).mono (unhide HB).size))
  have hsz := (unhide HB).size
  have hs2 : w1'.heap.size < w2.heap.size := ((World.ownsRow.lt (unhide HO1)) w1'.heap.size rfl).2
  clear hown1 hg1
  go_loopw [26] (fun i wr => ∃ k : Nat, k ≤ n ∧ i = .int .i64 k ∧ Hid ((gs.take k).all (movOk x y) = true) ∧ OwnedG wr w1'.heap.size 57 (.slice (some ⟨w1'.heap.size, 0, none⟩) n n) (partF (moveG x y) gs k) ∧ Below w.heap.size w wr) (fun i _ => n - (intOf i).toNat)
  case atStart => exact ⟨0, Nat.zero_le _, rfl, rfl, unhide HO1, unhide HB1⟩
  case round =>
    obtain ⟨k, hk, rfl, HM, ho, hbl⟩ := hrel
    have HOW := hide ho; have HBL := hide hbl; clear ho hbl
    by_cases hlt : k < n
    · have hkl : k < gs.length := by rw [hl.out]; exact hlt
      obtain ⟨b3, off, rfl, hbb, e1, e2, e3⟩ := ((unhide H).below (unhide HBL)).at_ k hlt
      have hg := (okS_iff _).1 (HO.out _ (gth_mem hkl))
      have hst := hide (partF_set (moveG x y) gs hkl)
      have hta := hide (all_take_succ (p := movOk x y) gs k hkl)
      have hno := hide (fun hh => movOk_no (x := x) (y := y) hkl hh)
      revert hst hta hno
      obtain ⟨⟨f, d, m⟩, hgk⟩ : ∃ f, gth gs k = f := ⟨_, rfl⟩
      rw [hgk] at e1 e2 e3 hg ⊢
      clear hgk
      simp only [moveG] at e1 e2 e3 hg ⊢
      intro hst hta hno
      obtain ⟨g1, g2, _, g4, g5⟩ := hg
      have p1 := mul_bd (M := 4) (N := 5) g1 ⟨hx1, hx2⟩
      have p2 := mul_bd (M := 4) (N := 5) g2 ⟨hy1, hy2⟩
      obtain ⟨p11, p12⟩ := p1; obtain ⟨p21, p22⟩ := p2
      obtain ⟨g11, g12⟩ := g1; obtain ⟨g21, g22⟩ := g2
      -- the box behind the store
      obtain ⟨wb, hwb⟩ : ∃ W, W = (wr.alloc (.cells #[.int .i64 f, .int .i64 d, .int .i64 (m + (f * x + d * y))] 57)) := ⟨_, rfl⟩
      have hnk : (partF (moveG x y) gs k).length = n := by rw [partF_length]; exact hl.out
      have HBx := hide ((unhide HBL).alloc (unhide HBL).size (.cells #[.int .i64 f, .int .i64 d, .int .i64 (m + (f * x + d * y))] 57))
      have HBy := hide ((unhide HBx).alloc (by have := (unhide HBL).size; simp; omega) (.cells #[.int .i64 (m + (f * x + d * y))] 3))
      have HJ := hide (ints_new1 (wr.alloc (.cells #[.int .i64 f, .int .i64 d, .int .i64 (m + (f * x + d * y))] 57)) (wr.heap.size + 1) (by simp) (m + (f * x + d * y)))
      rcases hq : movOk x y (f, d, m)
      · have HQ := hide hq; clear hq
        have HF := hide (hr2.out (hno.out HQ.out))
        have HQ2 := hide (show allIn (-40) 40 [m + (f * x + d * y)] = false from HQ.out)
        go_wp2_with fail
        refine (allWithin_is _ _ _ _ _ _ _ _ (unhide HJ) _ HQ2).mono ?_
        rintro e w3 ⟨rfl, rfl⟩
        go_wp2_with fail
        go_ret2
        obtain ⟨rfl, rfl⟩ := HF.out
        exact ⟨_, rfl, World.ownsRow_nil _ _ _ _, unhide HBy⟩
      · have HQ := hide hq; clear hq
        have HQ2 := hide (show allIn (-40) 40 [m + (f * x + d * y)] = true from HQ.out)
        have HM2 := hide (show (gs.take (k + 1)).all (movOk x y) = true from by rw [hta.out, HM.out, HQ.out]; rfl)
        have ho1 := ((unhide HOW).alloc (.cells #[.int .i64 f, .int .i64 d, .int .i64 (m + (f * x + d * y))] 57)).alloc (.cells #[.int .i64 (m + (f * x + d * y))] 3)
        obtain ⟨y0, y1, y2⟩ := ho1.cells_ hnk hlt
        have z0 := ho1.free_ hnk (k * 3); have z1 := ho1.free_ hnk (k * 3 + 1); have z2 := ho1.free_ hnk (k * 3 + 2)
        have HST := hide (show OwnedG _ w1'.heap.size 57 (.slice (some ⟨w1'.heap.size, 0, none⟩) n n) (partF (moveG x y) gs (k + 1)) from by
          have := ho1.store hnk hlt f d (m + (f * x + d * y))
          rw [← hst.out]; exact this)
        have HBN := hide (below_set3 (unhide HBy) (b := w1'.heap.size) hsz (k * 3) (k * 3 + 1) (k * 3 + 2) (.int .i64 f) (.int .i64 d) (.int .i64 (m + (f * x + d * y))))
        have b0 := gth_alloc3 wr f d (m + (f * x + d * y)) 57
        have bx := fun (o : Nat) => ((Below.refl _ _).alloc (Nat.le_refl _) (.cells #[.int .i64 (m + (f * x + d * y))] 3)).cell (p := ⟨wr.heap.size, o, none⟩) (w := wr.alloc (.cells #[.int .i64 f, .int .i64 d, .int .i64 (m + (f * x + d * y))] 57)) (by simp)
        have x0 := (bx 0).trans b0.1; have x1 := (bx 1).trans b0.2.1; have x2 := (bx 2).trans b0.2.2
        clear ho1 hnk b0 bx
        go_wp2_with fail
        refine (allWithin_is _ _ _ _ _ _ _ _ (unhide HJ) _ HQ2).mono ?_
        rintro e w3 ⟨rfl, rfl⟩
        go_wp2_with fail
        go_roundw
        case rel => exact ⟨k + 1, by omega, by go_num, HM2, unhide HST, unhide HBN⟩
        case measure => simp [intOf]; omega
    · obtain rfl : k = n := by omega
      have hT : gs.take k = gs := List.take_of_length_le (by rw [hl.out]; exact Nat.le_refl _)
      have HF := hide (hr1.out (by rw [← HM.out, hT]))
      have HF2 := hide (show partF (moveG x y) gs k = gs.map (moveG x y) from by rw [← hl.out]; exact partF_all _ _)
      clear hT
      go_wp2_with fail
      go_ret2
      obtain ⟨rfl, rfl⟩ := HF.out
      exact ⟨_, rfl, by rw [← HF2.out]; exact OwnedG.low (unhide HOW) hsz, unhide HBL⟩
end Go.Proofs.Ytccfhcoioakmpaa
