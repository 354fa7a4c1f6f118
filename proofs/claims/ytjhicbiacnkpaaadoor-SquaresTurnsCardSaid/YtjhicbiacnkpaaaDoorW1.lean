/-
  math/bits.TrailingZeros over this program; the blocks of a set, as the program finds them.
-/
import Derived.Test.YtjhicbiacnkpaaaDoorO2
import Derived.Test.YtjhicbiacnkpaaaDoorM1
import Derived.Laws.Bits64b
import Derived.IntWalk
namespace Go.Proofs.YtjhicbiacnkpaaaDoor
open Go.RowKit

/-- The library's table lies in its variable. -/
def Tab (w : World) : Prop := 2 ≤ w.heap.size ∧ ∀ j, j < 64 → w.cell? ⟨1, j, none⟩ = some (.int .u8 (Lib.deBruijn64tab.getD j 0))
theorem Tab.below {w w' : World} {B : Nat} (h : Tab w) (hb : Below B w w') (hB : 2 ≤ B) : Tab w' :=
  ⟨Nat.le_trans h.1 hb.size, fun j hj => (hb.cell (p := ⟨1, j, none⟩) (by show 1 < B; omega)).trans (h.2 j hj)⟩
theorem Tab.on {w w' : World} (h : Tab w) (hb : Below w.heap.size w w') : Tab w' := h.below hb h.1
theorem Tab.drewN {w : World} (h : Tab w) (q : Nat) : Tab (w.drewN q) := h

set_option maxHeartbeats 1000000 in
theorem tz64_core (x k idx : Nat) (w : World) (hx0 : ((x : Int) == 0) = false)
    (key : IntKind.u64.wrap (bits BinOp.and IntKind.u64 (x : Int) (IntKind.u64.wrap (-(x : Int))) * 285870213051353865) / 288230376151711744 = (idx : Int))
    (hi : idx < 64) (hk : k < 64) (hcell : w.cell? ⟨1, idx, none⟩ = some (.int .u8 k)) :
    Calls Tryd.prog 113 #[.int .u64 x] w fun e w' => e = .returned (.int .i64 k) ∧ w = w' := by
  go_enter Tryd.func113, Tryd.ntmps113
  go_wp2_with (simp only [key])
  go_ret
  exact ⟨rfl, rfl⟩
theorem tz64_zero (w : World) : Calls Tryd.prog 113 #[.int .u64 0] w fun e w' => e = .returned (.int .i64 64) ∧ w = w' := by
  go_enter Tryd.func113, Tryd.ntmps113
  go_wp2
  go_ret
  exact ⟨rfl, rfl⟩
theorem tz64_key (x a : Nat) (hx : x < 18446744073709551616) (hlow : x &&& (18446744073709551616 - x) = a) (hx0 : x ≠ 0) :
    IntKind.u64.wrap (bits BinOp.and IntKind.u64 (x : Int) (IntKind.u64.wrap (-(x : Int))) * 285870213051353865) / 288230376151711744 = ((a * 285870213051353865 % 18446744073709551616 / 288230376151711744 : Nat) : Int) := by
  have e1 : IntKind.u64.wrap (-(x : Int)) = ((18446744073709551616 - x : Nat) : Int) := by rw [IntKind.wrap_u64]; omega
  rw [e1, bits_and_u64_nat x _ hx (by omega), hlow, IntKind.wrap_u64]
  omega
theorem tz64_any (x : Nat) (hx : x < 18446744073709551616) (w : World) (ht : Tab w) :
    Calls Tryd.prog 113 #[.int .u64 x] w fun e w' => e = .returned (.int .i64 (Lib.ctz 64 x)) ∧ w = w' := by
  by_cases hx0 : x = 0
  · subst hx0; exact tz64_zero w
  · obtain ⟨hlow, hk⟩ := Lib.lowest_bit 64 x hx0 hx
    obtain ⟨hi, htab⟩ := Lib.deBruijn64_at _ hk
    have hcell := ht.2 _ hi
    rw [htab] at hcell
    exact tz64_core x _ _ w (by simp; omega) (tz64_key x _ hx hlow hx0) hi hk hcell
theorem tz_any (x : Nat) (hx : x < 18446744073709551616) (w : World) (ht : Tab w) :
    Calls Tryd.prog 97 #[.int .u64 x] w fun e w' => e = .returned (.int .i64 (Lib.ctz 64 x)) ∧ w = w' := by
  go_enter Tryd.func97, Tryd.ntmps97
  go_wp2_with (go_at_call 113; refine (tz64_any x hx _ ht).mono ?_; rintro e w' ⟨rfl, rfl⟩)
  go_ret
  exact ⟨rfl, rfl⟩

theorem tz_is (x r : Nat) (hx : x < 18446744073709551616) (w : World) (ht : Tab w) (hr : Hid (Lib.ctz 64 x = r)) :
    Calls Tryd.prog 97 #[.int .u64 x] w fun e w' => e = .returned (.int .i64 r) ∧ w = w' := by rw [← hr.out]; exact tz_any x hx w ht
def c0 (l : Nat) : Nat := Lib.ctz 64 l
theorem div_c1 (l : Nat) : (l : Int) / 2 ^ c0 l = (c1 l : Int) := by
  unfold c1; rw [Nat.shiftRight_eq_div_pow]; simp [c0]
theorem div_c3 (l : Nat) : (c1 l : Int) / 2 ^ c2 l = (c3 l : Int) := by
  unfold c3; rw [Nat.shiftRight_eq_div_pow]; simp
theorem xor_c1_all : ∀ l, l < 32 → bits BinOp.xor IntKind.u64 IntKind.u64.max (c1 l : Int) = ((18446744073709551615 - c1 l : Nat) : Int) := by decide +kernel
def nx (l : Nat) : Nat := 18446744073709551615 - c1 l
theorem nx_lt (l : Nat) : nx l < 18446744073709551616 := by unfold nx; omega
theorem xor_c1 (l : Nat) (hl : l < 32) : bits BinOp.xor IntKind.u64 IntKind.u64.max (c1 l : Int) = (nx l : Int) := xor_c1_all l hl
theorem tz_0 (l : Nat) (hl : l < 32) (w : World) (ht : Tab w) :
    Calls Tryd.prog 97 #[.int .u64 l] w fun e w' => e = .returned (.int .i64 (c0 l)) ∧ w = w' := tz_is _ _ (by omega) w ht (hide rfl)
theorem tz_1 (l : Nat) (w : World) (ht : Tab w) :
    Calls Tryd.prog 97 #[.int .u64 (nx l)] w fun e w' => e = .returned (.int .i64 (c2 l)) ∧ w = w' := tz_is _ _ (nx_lt l) w ht (hide rfl)

theorem blk_len {l0 l : Nat} {ys : List Int} (hl : l0 < 32) (h : ys ++ bl l = bl l0) : ys.length ≤ 100000 := by
  have := bl_len l0 hl
  have e := congrArg List.length h
  rw [List.length_append] at e
  omega

set_option maxHeartbeats 1000000 in
theorem blocks_any (l0 : Nat) (hl0 : l0 < 32) (w : World) (ht : Tab w) :
    Calls Tryd.prog 61 #[.int .i64 l0] w fun e w' => ∃ v, e = .returned v ∧ Owned w' w.heap.size v (bl l0) ∧ Below w.heap.size w w' := by
  go_enter Tryd.func61, Tryd.ntmps61
  go_wp2_with fail
  go_loopw [0, 3, 4] (fun a v _ wr => ∃ (l : Nat) (ys : List Int), a = .int .i64 l ∧ l < 32 ∧ Owned wr w.heap.size v ys ∧ Hid (ys ++ bl l = bl l0) ∧ Below w.heap.size w wr) (fun a _ _ _ => (intOf a).toNat)
  case atStart => exact ⟨l0, [], rfl, hl0, World.ownsRow_nil _ _ _ _, hide rfl, Below.refl _ _⟩
  case round =>
    obtain ⟨l, ys, rfl, hl, ho, HE, hb⟩ := hrel
    by_cases h0 : l = 0
    · subst h0
      have hd : ((0 : Int) != 0) = false := by decide
      go_wp2_with fail
      go_ret
      refine ⟨_, rfl, ?_, hb⟩
      have := HE.out
      rw [bl_zero, List.append_nil] at this
      rw [← this]; exact ho
    · have hd : ((l : Int) != 0) = true := by simp; omega
      obtain ⟨s1, s2, s3, s4, s5⟩ := bl_step l hl h0
      have HS := hide s5
      clear s5
      have d1 := div_c1 l
      have d3 := div_c3 l
      have s1' : c0 l < 5 := s1
      have htr := hide (ht.on hb)
      go_wp2_with fail
      refine (tz_0 l hl _ (unhide htr)).mono ?_
      rintro e w' ⟨rfl, rfl⟩
      go_wp2_with fail
      rw [xor_c1 l hl]
      refine (tz_1 l _ (unhide htr)).mono ?_
      rintro e w' ⟨rfl, rfl⟩
      have hlen := hide (blk_len hl0 HE.out)
      have hbase := hb.size
      go_wp2_with (at_builtin; refine wpList_app1 rfl _ _ rfl rfl rfl ho (unhide hlen) hbase ?_; intro v' w2 ho2 hb2)
      go_roundw
      case rel => exact ⟨c3 l, ys ++ [(c2 l : Int)], rfl, by omega, ho2, hide (by rw [← HE.out, HS.out]; simp), hb.trans hb2⟩
      case measure => simp [intOf]; omega
end Go.Proofs.YtjhicbiacnkpaaaDoor
