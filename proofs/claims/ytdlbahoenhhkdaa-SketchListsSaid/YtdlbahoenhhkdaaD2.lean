import Derived.Test.YtdlbahoenhhkdaaD1
import Derived.Laws.CopyRow
import Derived.Lib.AppendZerosOnto
import Derived.Lib.Overlaps
/-
  The cells of a block under copies: insert, delete; the operation copy at elements of three cells.
-/
namespace Go.Proofs.Ytdlbahoenhhkdaa
open Go.RowKit

def plug (o : Nat) (cs l : List Value) : List Value := l.take o ++ cs ++ l.drop (o + cs.length)
theorem plug_length {o : Nat} {cs l : List Value} (h : o + cs.length ≤ l.length) : (plug o cs l).length = l.length := by
  unfold plug; simp; omega
theorem plug_at {o : Nat} {cs l : List Value} (h : o + cs.length ≤ l.length) (j : Nat) : (plug o cs l)[j]? = if j < o then l[j]? else if j < o + cs.length then cs[j - o]? else l[j]? := by
  unfold plug
  rw [List.append_assoc, List.getElem?_append, List.getElem?_append]
  simp only [List.length_take, show min o l.length = o from by omega, List.getElem?_take, List.getElem?_drop]
  split
  · rfl
  · split
    · rw [if_pos (by omega)]
    · rw [if_neg (by omega), show o + cs.length + (j - o - cs.length) = j from by omega]
theorem cells3_take (gs : List G) (i : Nat) : cells3_ (gs.take i) = (cells3_ gs).take (i * 3) := by
  induction gs generalizing i with
  | nil => simp [cells3_]
  | cons g l ih =>
    rcases i with _ | i
    · simp [cells3_]
    · rw [List.take_succ_cons, cells3_cons, cells3_cons, ih, show (i + 1) * 3 = i * 3 + 1 + 1 + 1 from by omega]; simp
theorem cells3_drop (gs : List G) (i : Nat) : cells3_ (gs.drop i) = (cells3_ gs).drop (i * 3) := by
  induction gs generalizing i with
  | nil => simp [cells3_]
  | cons g l ih =>
    rcases i with _ | i
    · simp [cells3_]
    · rw [List.drop_succ_cons, cells3_cons, ih, show (i + 1) * 3 = i * 3 + 1 + 1 + 1 from by omega]; simp
theorem run_copy3 (w : World) (ty : TypeId) (g o dLen dCap : Nat) (a : Addr) (sLen sCap : Nat) (cur : Array Value) (t : TypeId) (m : Nat) (cs : List Value)
    (hg : w.heap[g]? = some (.cells cur t (0, 0))) (hm : Nat.min sLen dLen = m) (hn : cs.length = m * 3)
    (hsrc : ∀ j v, cs[j]? = some v → w.cell? (a.add j) = some v) (hfit : o + cs.length ≤ cur.size) (h1 : ∀ v ∈ cs, v.oneCell' = true) :
    (Builtin.copy_ #[23, 23] ty #[.slice (some ⟨g, o, none⟩) dLen dCap, .slice (some a) sLen sCap]).run Try.prog w =
      .ok (goInt m) (w.setRow g (plug o cs cur.toList).toArray) := by
  have hl := run_firstCells_some (P := Try.prog) w 3 m a sLen sCap cs hn hsrc
  have hst := run_storeCells_at Try.prog g o t cs 0 cur w hg (by simpa using hfit) h1
  obtain ⟨i0, h0, hz0, hz1, hz2⟩ := info_parts info68
  simp [Builtin.copy_, run_underlying Try.underlying23, Builtin.lenOf, sizeOf, typeInfo, h0, hz1, hm, hl, hst, plug]

/-- Insert: what the block holds in the end. -/
theorem ins_cells (gs : List G) (g : G) (i : Nat) (l : List Value) (hi : i ≤ gs.length) (hl : (gs.length + 1) * 3 ≤ l.length) (hlow : ∀ j, j < i * 3 → l[j]? = (cells3_ gs)[j]?) :
    (plug (i * 3) (cells3_ [g]) (plug ((i + 1) * 3) (cells3_ (gs.drop i)) l)).take ((gs.length + 1) * 3) = cells3_ (gs.take i ++ [g] ++ gs.drop i) ∧
    (plug ((i + 1) * 3) (cells3_ (gs.drop i)) (plug (i * 3) (cells3_ [g]) l)).take ((gs.length + 1) * 3) = cells3_ (gs.take i ++ [g] ++ gs.drop i) := by
  have e1 : (cells3_ [g]).length = 3 := rfl
  have e2 : (cells3_ (gs.drop i)).length = (gs.length - i) * 3 := by rw [cells3_length, List.length_drop]
  have e3 : (cells3_ (gs.take i)).length = i * 3 := by rw [cells3_length, List.length_take, show min i gs.length = i from by omega]
  have p1 : (plug ((i + 1) * 3) (cells3_ (gs.drop i)) l).length = l.length := plug_length (by rw [e2]; omega)
  have p2 : (plug (i * 3) (cells3_ [g]) l).length = l.length := plug_length (by rw [e1]; omega)
  have key : ∀ j, (cells3_ (gs.take i ++ [g] ++ gs.drop i))[j]? = if j < i * 3 then l[j]? else if j < i * 3 + 3 then (cells3_ [g])[j - i * 3]? else (cells3_ (gs.drop i))[j - (i + 1) * 3]? := by
    intro j
    rw [cells3_app, cells3_app, List.append_assoc, List.getElem?_append, List.getElem?_append, e3, e1]
    split
    · rw [hlow j (by assumption), cells3_take, List.getElem?_take, if_pos (by assumption)]
    · split
      · rw [if_pos (by omega)]
      · rw [if_neg (by omega)]; congr 1; omega
  constructor
  · apply List.ext_getElem?
    intro j
    rw [List.getElem?_take, plug_at (by rw [p1, e1]; omega), plug_at (by rw [e2]; omega), key, e1, e2]
    by_cases h1 : j < i * 3
    · rw [if_pos h1, if_pos h1, if_pos (by omega), if_pos (by omega)]
    · rw [if_neg h1, if_neg h1]
      by_cases h2 : j < i * 3 + 3
      · rw [if_pos h2, if_pos h2, if_pos (by omega)]
      · rw [if_neg h2, if_neg h2]
        by_cases h3 : j < (gs.length + 1) * 3
        · rw [if_pos h3, if_neg (show ¬ j < (i + 1) * 3 by omega), if_pos (show j < (i + 1) * 3 + (gs.length - i) * 3 by omega)]
        · rw [if_neg h3, List.getElem?_eq_none (by rw [e2]; omega)]
  · apply List.ext_getElem?
    intro j
    rw [List.getElem?_take, plug_at (by rw [p2, e2]; omega), plug_at (by rw [e1]; omega), key, e1, e2]
    by_cases h1 : j < i * 3
    · rw [if_pos h1, if_pos h1, if_pos (by omega), if_pos (by omega)]
    · rw [if_neg h1, if_neg h1]
      by_cases h2 : j < i * 3 + 3
      · rw [if_pos h2, if_pos h2, if_pos (by omega), if_pos (by omega)]
      · rw [if_neg h2, if_neg h2]
        by_cases h3 : j < (gs.length + 1) * 3
        · rw [if_pos h3, if_neg (show ¬ j < (i + 1) * 3 by omega), if_pos (show j < (i + 1) * 3 + (gs.length - i) * 3 by omega)]
        · rw [if_neg h3, List.getElem?_eq_none (by rw [e2]; omega)]
end Go.Proofs.Ytdlbahoenhhkdaa
