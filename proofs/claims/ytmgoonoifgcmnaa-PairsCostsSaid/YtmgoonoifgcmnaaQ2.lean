/-
  A region that draws its order, whose operations only read and whose callees keep a condition on the world: one walk in the text's order.
-/
import Derived.Test.YtmgoonoifgcmnaaQ1
namespace Go.Proofs.Ytmgoonoifgcmnaa
open Go.RowKit

theorem wp_region_quietC {P : Program} {id : Nat} {Q : Exit → Act → World → Prop} {a : Act} {w : World} {l : List Oper} (C : World → Prop) (hm : P.follows .mixedOrders = true) (hB : Region.lexB .any l.toArray = true) (hC : C w.drew)
    (h : wpQuiet P l.toArray C (fun a' => ∀ w', C w' → Q .normal a' w') l a) : (Code.region id l.toArray true).wp P Q a w :=
  wp_region_quiet (C := C) hm hB hC (by simpa using h)
end Go.Proofs.Ytmgoonoifgcmnaa
