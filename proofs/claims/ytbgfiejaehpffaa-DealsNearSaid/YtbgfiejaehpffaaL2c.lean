/-
  The law DealsNear, walked.
-/
import Derived.Test.YtbgfiejaehpffaaL2a
import Derived.Test.YtbgfiejaehpffaaL2b
namespace Go.Proofs.Ytbgfiejaehpffaa
open Go.RowKit

theorem LNear_any (n p q : Int) (w : World) : Calls Try.prog 13 #[.int .i64 n, .int .i64 p, .int .i64 q] w fun e w' => e = .returned (.bool true) ∧ Below w.heap.size w w' := by
  cases hb : partB p q with
  | false => exact LNear_no n p q w (hide hb)
  | true =>
    by_cases hn : 0 ≤ n ∧ n ≤ 8
    · obtain ⟨m, rfl⟩ : ∃ m : Nat, n = m := ⟨n.toNat, by omega⟩
      rcases Nat.mod_two_eq_zero_or_one m with hp | hp <;> by_cases h6 : m ≤ 6
      · exact LNear_even6 m p q w (hide hb) (by omega) h6 hp
      · exact LNear_even7 m p q w (hide hb) (by omega) (by omega) hp
      · exact LNear_odd6 m p q w (hide hb) (by omega) h6 hp
      · exact LNear_odd7 m p q w (hide hb) (by omega) (by omega) hp
    · exact LNear_out n p q w (hide hb) (hide (by omega))
end Go.Proofs.Ytbgfiejaehpffaa
