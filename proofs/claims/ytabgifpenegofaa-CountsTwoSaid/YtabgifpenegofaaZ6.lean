/-
  How many keys there are of two rows and two columns.
-/
import Derived.Test.YtabgifpenegofaaZ5
namespace Go.Proofs.Ytabgifpenegofaa
open Go.RowKit

def chk2 : Bool := (List.range 17).all fun s => (List.range (s + 1)).all fun a => (List.range (s + 1)).all fun c => (famL (nth [(a : Int), ((s - a : Nat) : Int)]) (nth [(c : Int), ((s - c : Nat) : Int)])).length == 1 + min (min a (s - a)) (min c (s - c))
theorem chk2_true : chk2 = true := by decide +kernel
end Go.Proofs.Ytabgifpenegofaa
