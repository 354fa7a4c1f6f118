/-
  Words of our own: a slice that holds a list of numbers, nil let in; plain lemmas.
-/
import Derived.Test.YtmgoonoifgcmnaaProg
import Derived.WalkKit
import Derived.BigQuiet
import Derived.Deep.QuietTactic
import Derived.Outline
namespace Go.Proofs.Ytmgoonoifgcmnaa
open Go.RowKit

theorem hide {p : Prop} (h : p) : Hid p := h
theorem unhide {p : Prop} (h : Hid p) : p := h

theorem ret_bool {a b : Bool} (h : a = b) : Ending.returned (.bool a) = .returned (.bool b) := by rw [h]
theorem ret_int {a b : Int} (h : a = b) : Ending.returned (.int .i64 a) = .returned (.int .i64 b) := by rw [h]

theorem ret_int2 {a b c d : Int} (h : a = b) (h2 : c = d) : Ending.returned (.tuple #[.int .i64 a, .int .i64 c]) = .returned (.tuple #[.int .i64 b, .int .i64 d]) := by rw [h, h2]
theorem ret_bi {a b : Bool} {c d : Int} (h : a = b) (h2 : c = d) : Ending.returned (.tuple #[.bool a, .int .i64 c]) = .returned (.tuple #[.bool b, .int .i64 d]) := by rw [h, h2]

/-- The k-th number of a list, 0 behind its end. -/
def nth (xs : List Int) (k : Nat) : Int := xs.getD k 0

/-- The slice value '.slice A n c' holds the numbers xs, in a block below B. -/
structure Ints (w : World) (B : Nat) (A : Option Addr) (n c : Nat) (xs : List Int) : Prop where
  len : xs.length = n
  cap : n ≤ c
  most : c ≤ 9223372036854775807
  bare : A = none → c = 0
  at_ : ∀ k, k < n → ∃ b off, A = some ⟨b, off, none⟩ ∧ b < B ∧ w.cell? ⟨b, off + k, none⟩ = some (.int .i64 (nth xs k))

namespace Ints
variable {w w' : World} {B B' : Nat} {A : Option Addr} {n c : Nat} {xs : List Int}
theorem keep (h : Ints w B A n c xs) (hk : ∀ p : Addr, p.block < B → w'.cell? p = w.cell? p) : Ints w' B A n c xs :=
  ⟨h.len, h.cap, h.most, h.bare, fun k hk' => by
    obtain ⟨b, off, e, hb, hc⟩ := h.at_ k hk'
    exact ⟨b, off, e, hb, (hk ⟨b, off + k, none⟩ hb).trans hc⟩⟩
theorem more (h : Ints w B A n c xs) (hB : B ≤ B') : Ints w B' A n c xs :=
  ⟨h.len, h.cap, h.most, h.bare, fun k hk' => by
    obtain ⟨b, off, e, hb, hc⟩ := h.at_ k hk'
    exact ⟨b, off, e, by omega, hc⟩⟩
theorem below (h : Ints w B A n c xs) (hb : Below B w w') : Ints w' B A n c xs := h.keep fun _ hp => hb.cell hp
theorem none_ (w : World) (B : Nat) : Ints w B none 0 0 [] := ⟨rfl, Nat.le_refl _, by omega, fun _ => rfl, fun k h => absurd h (by omega)⟩
end Ints

end Go.Proofs.Ytmgoonoifgcmnaa
