/-
  slices.ContainsFunc at limits; isRoom of the program.
-/
import Derived.Test.YtbgfiejaehpffaaX1
import Derived.Test.YtbgfiejaehpffaaW9
namespace Go.Proofs.Ytbgfiejaehpffaa
open Go.RowKit

/-- The function value tells p of each of L, in whatever world behind w. -/
def TellAt (g : Nat) (cb : Array Value) (p : G → Bool) (w : World) (L : List G) : Prop :=
  ∀ (x : G) (W : World), x ∈ L → Below w.heap.size w W → Calls Try.prog g (#[.agg #[.int .i64 x.1, .int .i64 x.2.1, .int .i64 x.2.2]] ++ cb) W fun e W' => e = .returned (.bool (p x)) ∧ Below W.heap.size W W'
theorem mem_gth {gs : List G} {k : Nat} (h : k < gs.length) : gth gs k ∈ gs := by simp [gth, List.getD, h]

set_option maxRecDepth 100000 in
set_option maxHeartbeats 1000000 in
theorem indexL_any (g : Nat) (cb : Array Value) (p : G → Bool) (A : Option Addr) (n c : Nat) (gs : List G) (w : World) (h : Gs w w.heap.size A n c gs)
    (eg : ∀ args w, (callFunc g args).run Try.prog w = .ok (.enter g args) w) (hp : TellAt g cb p w gs) :
    Calls Try.prog 74 #[.slice A n c, .func (.func g) #[] cb] w fun e w' => e = .returned (.int .i64 (ixP p gs 0)) ∧ Below w.heap.size w w' := by
  have hm := h.most; have hcap := h.cap
  have HI := hide h
  have HL := hide h.len
  have HP := hide hp
  clear h hp
  obtain ⟨r, hr⟩ : ∃ r, ixP p gs 0 = r := ⟨_, rfl⟩
  rw [hr]
  have HR := hide hr
  clear hr
  go_enter Try.func74, Try.ntmps74
  go_wp2_with fail
  go_loopw [8] (fun i wr => ∃ k : Nat, k ≤ n ∧ i = .int .i64 k ∧ Hid (ixP p (gs.drop k) k = r) ∧ Hid (Below w.heap.size w wr)) (fun i _ => n - (intOf i).toNat)
  case atStart => exact ⟨0, Nat.zero_le _, rfl, hide (by rw [List.drop_zero]; exact HR.out), hide (Below.refl _ _)⟩
  case round =>
    obtain ⟨k, hk, rfl, HK, HB⟩ := hrel
    by_cases hlt : k < n
    · obtain ⟨b, off, rfl, hb, hc1, hc2, hc3⟩ := ((unhide HI).below (unhide HB)).at_ k hlt
      have hs := ixP_step p gs (0, 0, 0) k (by rw [HL.out]; exact hlt)
      rw [HK.out] at hs
      rw [show gs.getD k (0, 0, 0) = gth gs k from rfl] at hs
      have hx := (unhide HP) (gth gs k) wr (mem_gth (by rw [HL.out]; exact hlt)) (unhide HB)
      generalize gth gs k = q at hs hc1 hc2 hc3 hx
      obtain ⟨x, y, z⟩ := q
      simp only at hs hc1 hc2 hc3 hx
      cases hpp : p (x, y, z) with
      | true =>
        rw [hpp] at hs hx
        rw [if_pos rfl] at hs
        have HS := hide hs
        have HC := hide hx
        clear hs hpp hx
        go_wp2_with fail
        refine (unhide HC).mono ?_
        rintro e w' ⟨rfl, b1⟩
        have HB1 := hide ((unhide HB).trans (b1.mono (unhide HB).size))
        clear b1
        go_wp2_with fail
        go_ret
        exact ⟨ret_int HS.out.symm, unhide HB1⟩
      | false =>
        rw [hpp] at hs hx
        rw [if_neg (by simp)] at hs
        have HS := hide hs
        have HC := hide hx
        clear hs hpp hx
        go_wp2_with fail
        refine (unhide HC).mono ?_
        rintro e w' ⟨rfl, b1⟩
        have HB1 := hide ((unhide HB).trans (b1.mono (unhide HB).size))
        clear b1
        go_wp2_with fail
        go_roundw
        case rel => exact ⟨k + 1, by omega, by go_num, hide HS.out.symm, HB1⟩
        case measure => simp [intOf]; omega
    · have HE := hide (show -1 = r from by rw [← HK.out, List.drop_eq_nil_of_le (by rw [HL.out]; omega)]; rfl)
      go_wp2_with fail
      go_ret
      exact ⟨ret_int HE.out, unhide HB⟩

theorem containsL_any (g : Nat) (cb : Array Value) (p : G → Bool) (A : Option Addr) (n c : Nat) (gs : List G) (w : World) (h : Gs w w.heap.size A n c gs)
    (eg : ∀ args w, (callFunc g args).run Try.prog w = .ok (.enter g args) w) (hp : TellAt g cb p w gs) (b : Bool) (hb : Hid (gs.any p = b)) :
    Calls Try.prog 51 #[.slice A n c, .func (.func g) #[] cb] w fun e w' => e = .returned (.bool b) ∧ Below w.heap.size w w' := by
  have HC := hide (indexL_any g cb p A n c gs w h eg hp)
  have hg := ixP_geq p gs
  rw [hb.out] at hg
  generalize ixP p gs 0 = r at HC hg
  have HG := hide hg; clear hg
  clear h hp
  go_enter Try.func51, Try.ntmps51
  go_wp2_with fail
  refine (unhide HC).mono ?_
  rintro e w' ⟨rfl, b1⟩
  have HB1 := hide b1; clear b1
  go_wp2_with fail
  go_ret
  exact ⟨ret_bool HG.out, unhide HB1⟩

def noRoom (x : G) : Bool := decide (x.2.2 ≤ 0)
set_option maxHeartbeats 1000000 in
theorem room_c (w : World) (L : List G) : TellAt 92 #[] noRoom w L := by
  rintro ⟨x, y, z⟩ W _ _
  simp only [noRoom, Array.append_empty]
  obtain ⟨W0, hW0⟩ : ∃ W0, W0 = W.alloc (.cells #[.int .i64 x, .int .i64 y, .int .i64 z] 73) := ⟨_, rfl⟩
  have HB0 := hide (show Below W.heap.size W W0 from by rw [hW0]; exact (Below.refl _ W).alloc (Nat.le_refl _) _)
  obtain ⟨x0, x1, x2⟩ := three_at (show W0.heap[W.heap.size]? = some (.cells #[.int .i64 x, .int .i64 y, .int .i64 z] 73 (0, 0)) from by rw [hW0]; exact heap_new_ _ _)
  have hW : W.alloc (.cells #[.int .i64 x, .int .i64 y, .int .i64 z] 73) = W0 := hW0.symm
  clear hW0
  go_enter Try.func92, Try.ntmps92
  go_upto_region 1 with fail
  clear hW
  go_wp2_with fail
  go_ret
  exact ⟨rfl, unhide HB0⟩
theorem enter92 : ∀ args w, (callFunc 92 args).run Try.prog w = .ok (.enter 92 args) w := enters_of Try.func92 (by kernel_rfl) rfl

theorem isRoom_any (A : Option Addr) (n c : Nat) (gs : List G) (w : World) (h : Gs w w.heap.size A n c gs) (b : Bool) (hb : Hid ((!(gs.any noRoom)) = b)) :
    Calls Try.prog 83 #[.slice A n c] w fun e w' => e = .returned (.bool b) ∧ Below w.heap.size w w' := by
  have HC := hide (containsL_any 92 #[] noRoom A n c gs w h enter92 (room_c w gs) (!b) (hide (by rw [← hb.out]; simp)))
  clear h
  go_enter Try.func83, Try.ntmps83
  go_wp2_with fail
  refine (unhide HC).mono ?_
  rintro e w' ⟨rfl, b1⟩
  have HB1 := hide b1; clear b1
  go_wp2_with fail
  go_ret
  exact ⟨ret_bool (by simp), unhide HB1⟩
end Go.Proofs.Ytbgfiejaehpffaa
