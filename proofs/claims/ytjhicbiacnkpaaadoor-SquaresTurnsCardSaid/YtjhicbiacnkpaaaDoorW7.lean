/-
  agrees and settle of the program.
-/
import Derived.Test.YtjhicbiacnkpaaaDoorW6
import Derived.Test.YtjhicbiacnkpaaaDoorM2
namespace Go.Proofs.YtjhicbiacnkpaaaDoor
open Go.RowKit

set_option maxHeartbeats 400000 in
theorem agrees_any (f e s y : Nat) (hf : f < 4611686018427387904) (he : e < 4611686018427387904) (hs : s < 4611686018427387904) (hy : y < 4611686018427387904) (w : World) (b : Bool) (hb : Hid (agB f e s y = b)) :
    Calls Tryd.prog 98 #[.agg #[.int .i64 f, .int .i64 e], .int .i64 s, .int .i64 y] w fun r w' => r = .returned (.bool b) ∧ Below w.heap.size w w' := by
  have hq := ndn_le s y
  have hqa : ndn s y &&& f ≤ f := Nat.and_le_right
  have hya : y &&& e ≤ e := Nat.and_le_right
  have b1 := and_n y e (by omega) (by omega)
  have b2 := andNot_n s y (by omega) (by omega)
  have b3 := and_n (ndn s y) f (by omega) (by omega)
  obtain ⟨p, hp⟩ : ∃ p, p = y &&& e := ⟨_, rfl⟩
  obtain ⟨q, hq'⟩ : ∃ q, q = ndn s y := ⟨_, rfl⟩
  obtain ⟨r, hr⟩ : ∃ r, r = q &&& f := ⟨_, rfl⟩
  rw [← hp] at b1
  rw [← hq'] at b2 b3
  rw [← hr] at b3
  have HP := hide hp; have HQ := hide hq'; have HR := hide hr
  clear hp hq' hr hq hqa hya
  by_cases c1 : p = 0
  · have d1 : ((p : Int) == 0) = true := by simpa using c1
    by_cases c2 : r = 0
    · have d2 : ((r : Int) == 0) = true := by simpa using c2
      have HF := hide (show b = true from by rw [← hb.out]; unfold agB; rw [← HP.out, ← HQ.out, ← HR.out]; simp [c1, c2])
      clear c1 c2
      go_enter Tryd.func98, Tryd.ntmps98
      go_wp2_with fail
      go_ret
      exact ⟨ret_bool HF.out.symm, (Below.refl _ _).alloc (Nat.le_refl _) _⟩
    · have d2 : ((r : Int) == 0) = false := by simpa using c2
      have HF := hide (show b = false from by rw [← hb.out]; unfold agB; rw [← HP.out, ← HQ.out, ← HR.out]; simp [c1, c2])
      clear c1 c2
      go_enter Tryd.func98, Tryd.ntmps98
      go_wp2_with fail
      go_ret
      exact ⟨ret_bool HF.out.symm, (Below.refl _ _).alloc (Nat.le_refl _) _⟩
  · have d1 : ((p : Int) == 0) = false := by simpa using c1
    have HF := hide (show b = false from by rw [← hb.out]; unfold agB; rw [← HP.out]; simp [c1])
    clear c1
    go_enter Tryd.func98, Tryd.ntmps98
    go_wp2_with fail
    go_ret
    exact ⟨ret_bool HF.out.symm, (Below.refl _ _).alloc (Nat.le_refl _) _⟩
end Go.Proofs.YtjhicbiacnkpaaaDoor
