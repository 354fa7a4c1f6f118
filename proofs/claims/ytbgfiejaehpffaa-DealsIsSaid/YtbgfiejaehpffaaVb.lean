/-
  Limits of the reference.
-/
import Derived.Test.YtbgfiejaehpffaaX4
import Derived.Test.YtbgfiejaehpffaaY4
namespace Go.Proofs.Ytbgfiejaehpffaa
open Go.RowKit

theorem info79 : (Try.prog.info? 79).map (fun i => (i.zero, i.size, i.bytes)) = some (some (.agg #[.int .i64 0, .int .i64 0, .int .i64 0]), 3, 24) := by kernel_rfl
theorem cells3_one (ys : List G) : ∀ u, u ∈ cells3_ ys → u.oneCell' = true := by
  intro u hu
  simp only [cells3_, List.mem_flatMap] at hu
  obtain ⟨g, _, hg⟩ := hu
  simp at hg
  rcases hg with rfl | rfl | rfl <;> rfl

/-- An append of triples that read. -/
theorem run_appGs {w : World} {base B m c : Nat} {v : Value} {xs ys : List G} {A : Option Addr} (ty : TypeId) (ho : OwnedG w base 79 v xs) (hi : Gs w B A m c ys) (hl : xs.length + ys.length ≤ 1000000) (hbase : base ≤ w.heap.size) :
    ∃ v' w', (Builtin.append_ #[77, 77] ty #[v, .slice A m c]).run Try.prog w = .ok v' w' ∧ OwnedG w' base 79 v' (xs ++ ys) ∧ w.grownBy w' v.ownBlock ∧ (v'.ownBlock = v.ownBlock ∨ v'.ownBlock = some w.heap.size) := by
  obtain ⟨i0, h0, hz0, hz1, hz2⟩ := info_parts info79
  have hm := hi.len
  cases A with
  | none =>
    have hc := hi.bare rfl; have hcap := hi.cap
    obtain rfl : m = 0 := by omega
    obtain rfl : c = 0 := by omega
    obtain rfl : ys = [] := List.eq_nil_of_length_eq_zero hm
    exact ⟨v, w, run_append_owned_none (P := Try.prog) w base 77 ty 79 i0 3 Try.underlying77 h0 v _ _ ho, by simpa using ho, World.grownBy.refl w _, .inl rfl⟩
  | some a =>
    have hnews : ∀ j u, (cells3_ ys)[j]? = some u → w.cell? (a.add j) = some u := by
      intro j u hu
      have hj : j < (cells3_ ys).length := (List.getElem?_eq_some_iff.1 hu).1
      rw [cells3_length] at hj
      obtain ⟨b, off, e, _, hc1, hc2, hc3⟩ := hi.at_ (j / 3) (by omega)
      cases e
      have hat := cells3_at ys (j / 3) (by omega)
      rw [Addr.add_lit]
      have hp : j % 3 = 0 ∨ j % 3 = 1 ∨ j % 3 = 2 := by omega
      rcases hp with hp | hp | hp
      · have e : j / 3 * 3 = j := by omega
        rw [e] at hc1 hat
        rw [hc1, ← hu, hat.1]
      · have e : j / 3 * 3 + 1 = j := by omega
        rw [e] at hat
        rw [show off + j / 3 * 3 + 1 = off + j from by omega] at hc2
        rw [hc2, ← hu, hat.2.1]
      · have e : j / 3 * 3 + 2 = j := by omega
        rw [e] at hat
        rw [show off + j / 3 * 3 + 2 = off + j from by omega] at hc3
        rw [hc3, ← hu, hat.2.2]
    obtain ⟨v', w', hrun, h2, h3, _, h5⟩ := run_append_own_at (P := Try.prog) w base 77 ty 79 i0 (.agg #[.int .i64 0, .int .i64 0, .int .i64 0]) 3 24 Try.underlying77 h0 hz0 hz1 hz2 rfl (by omega) v _ _ ho a m c (cells3_ ys) (by rw [cells3_length, hm]) hnews (cells3_one ys)
      (by unfold maxLen; omega) (by omega) hbase
    refine ⟨v', w', hrun, ?_, h3, h5⟩
    unfold OwnedG
    rw [List.length_append, hm, cells3_app]
    exact h2
theorem wpList_appGs {w : World} {ops : Array Oper} {rest : List Oper} {o : Oper} {a : Act} {Q : Exit → Act → World → Prop} (hg : o.guard = none) (s x : Operand)
    (hop : o.op = .call { callee := .builtin .append, args := #[s, x], argTypes := #[77, 77] })
    {base B m c : Nat} {v : Value} {xs ys : List G} {A : Option Addr} (hs : a.eval s = v) (hx : a.eval x = .slice A m c) (ho : OwnedG w base 79 v xs) (hi : Gs w B A m c ys) (hl : xs.length + ys.length ≤ 1000000) (hbase : base ≤ w.heap.size)
    (h : ∀ v' w', OwnedG w' base 79 v' (xs ++ ys) → w.grownBy w' v.ownBlock → (v'.ownBlock = v.ownBlock ∨ v'.ownBlock = some w.heap.size) → wpList Try.prog ops Q rest (a.put o.dst v') w') : wpList Try.prog ops Q (o :: rest) a w :=
  wpList_plain hg fun _ hK => by
    obtain ⟨v', w', hrun, h2, h3, h4⟩ := run_appGs o.type ho hi hl hbase
    unfold Oper.wp execOp
    simp only [hop, resolve, invoke, builtin, Sem.run_bind, Sem.run_pure, Result.andThen_ok, List.map_toArray, List.map_cons, List.map_nil, hs, hx, hrun]
    exact hK _ _ (h v' w' h2 h3 h4)
theorem gs_one (w : World) (a b c : Int) : Gs (w.alloc (.cells #[.int .i64 a, .int .i64 b, .int .i64 c] 79)) (w.heap.size + 1) (some ⟨w.heap.size, 0, none⟩) 1 1 [(a, b, c)] := by
  obtain ⟨c0, c1, c2⟩ := three_at (heap_new_ w (.cells #[.int .i64 a, .int .i64 b, .int .i64 c] 79))
  refine ⟨rfl, Nat.le_refl _, by omega, (fun e => by cases e), fun j hj => ?_⟩
  obtain rfl : j = 0 := by omega
  exact ⟨_, _, rfl, by omega, c0, c1, c2⟩
theorem gs_two (w : World) (a b c d e f : Int) : Gs (w.alloc (.cells #[.int .i64 a, .int .i64 b, .int .i64 c, .int .i64 d, .int .i64 e, .int .i64 f] 79)) (w.heap.size + 1) (some ⟨w.heap.size, 0, none⟩) 2 2 [(a, b, c), (d, e, f)] := by
  have hh := heap_new_ w (.cells #[.int .i64 a, .int .i64 b, .int .i64 c, .int .i64 d, .int .i64 e, .int .i64 f] 79)
  refine ⟨rfl, Nat.le_refl _, by omega, (fun e => by cases e), fun j hj => ?_⟩
  have : j = 0 ∨ j = 1 := by omega
  rcases this with rfl | rfl
  · exact ⟨_, _, rfl, by omega, by rw [cell_row_ hh]; rfl, by rw [cell_row_ hh]; rfl, by rw [cell_row_ hh]; rfl⟩
  · exact ⟨_, _, rfl, by omega, by rw [cell_row_ hh]; rfl, by rw [cell_row_ hh]; rfl, by rw [cell_row_ hh]; rfl⟩

/-- The lines that may be limits. -/
def below2 (x y : F) : Bool := decide (x.1 < y.1) && decide (y.2 < x.2)
def mayIn (fs : List F) (x : F) : Nat → List G
  | 0 => []
  | j + 1 => mayIn fs x j ++ (if below2 x (fth fs j) = true then [lim x (fth fs j)] else [])
def mayL (fs : List F) : Nat → List G
  | 0 => []
  | k + 1 => mayL fs k ++ [(1, 0, (fth fs k).1), (0, 1, (fth fs k).2)] ++ mayIn fs (fth fs k) fs.length
def okM (fs : List F) (m : G) : Bool := fs.all fun x => decide (m.1 * x.1 + m.2.1 * x.2 ≤ m.2.2)
def rLims (fs : List F) : List G := (mayL fs fs.length).filter (okM fs)
theorem mayIn_len (fs : List F) (x : F) : ∀ j, (mayIn fs x j).length ≤ j
  | 0 => Nat.le_refl _
  | j + 1 => by
    have := mayIn_len fs x j
    simp only [mayIn, List.length_append]
    split <;> simp <;> omega
theorem mayL_len (fs : List F) : ∀ k, (mayL fs k).length ≤ k * (2 + fs.length)
  | 0 => by simp [mayL]
  | k + 1 => by
    have h1 := mayL_len fs k
    have h2 := mayIn_len fs (fth fs k) fs.length
    simp only [mayL, List.length_append, List.length_cons, List.length_nil]
    rw [Nat.add_mul]; omega
theorem mayIn_mem {fs : List F} {x : F} {m : G} : ∀ {j : Nat}, m ∈ mayIn fs x j → ∃ i, i < j ∧ below2 x (fth fs i) = true ∧ m = lim x (fth fs i)
  | 0, h => by simp [mayIn] at h
  | j + 1, h => by
    rw [mayIn, List.mem_append] at h
    rcases h with h | h
    · obtain ⟨i, h1, h2⟩ := mayIn_mem h
      exact ⟨i, by omega, h2⟩
    · split at h
      · rename_i hb
        simp at h
        exact ⟨j, by omega, hb, h⟩
      · simp at h
theorem mem_mayIn {fs : List F} {x : F} : ∀ {j i : Nat}, i < j → below2 x (fth fs i) = true → lim x (fth fs i) ∈ mayIn fs x j
  | 0, i, h, _ => by omega
  | j + 1, i, h, hb => by
    rw [mayIn, List.mem_append]
    by_cases e : i = j
    · subst e; exact .inr (by rw [if_pos hb]; simp)
    · exact .inl (mem_mayIn (by omega) hb)
theorem mayL_mem {fs : List F} {m : G} : ∀ {k : Nat}, m ∈ mayL fs k → ∃ i, i < k ∧ (m = (1, 0, (fth fs i).1) ∨ m = (0, 1, (fth fs i).2) ∨ ∃ j, j < fs.length ∧ below2 (fth fs i) (fth fs j) = true ∧ m = lim (fth fs i) (fth fs j))
  | 0, h => by simp [mayL] at h
  | k + 1, h => by
    rw [mayL, List.mem_append, List.mem_append] at h
    rcases h with (h | h) | h
    · obtain ⟨i, h1, h2⟩ := mayL_mem h
      exact ⟨i, by omega, h2⟩
    · simp at h
      exact ⟨k, by omega, by rcases h with h | h; exact .inl h; exact .inr (.inl h)⟩
    · obtain ⟨j, h1, h2, h3⟩ := mayIn_mem h
      exact ⟨k, by omega, .inr (.inr ⟨j, h1, h2, h3⟩)⟩
theorem mem_mayL {fs : List F} {m : G} : ∀ {k i : Nat}, i < k → (m = (1, 0, (fth fs i).1) ∨ m = (0, 1, (fth fs i).2) ∨ ∃ j, j < fs.length ∧ below2 (fth fs i) (fth fs j) = true ∧ m = lim (fth fs i) (fth fs j)) → m ∈ mayL fs k
  | 0, i, h, _ => by omega
  | k + 1, i, h, hm => by
    rw [mayL, List.mem_append, List.mem_append]
    by_cases e : i = k
    · subst e
      rcases hm with rfl | rfl | ⟨j, hj, hb, rfl⟩
      · exact .inl (.inr (by simp))
      · exact .inl (.inr (by simp))
      · exact .inr (mem_mayIn hj hb)
    · exact .inl (.inl (mem_mayL (by omega) hm))
theorem okL_may {fs : List F} (hO : Off fs) {m : G} (hm : m ∈ mayL fs fs.length) : okL m := by
  obtain ⟨i, hi, h⟩ := mayL_mem hm
  have hp := hO.pr _ (mem_fth hi)
  rcases h with rfl | rfl | ⟨j, hj, hb, rfl⟩
  · simp only [okL]; omega
  · simp only [okL]; omega
  · have hq := hO.pr _ (mem_fth hj)
    unfold below2 at hb
    simp only [Bool.and_eq_true, decide_eq_true_eq] at hb
    generalize fth fs i = p at hp hb
    generalize fth fs j = q at hq hb
    simp only [okL, lim, thA, thB, thC]
    have e1 := mul_bd (a := p.2 - q.2) (b := p.1) (M := 30) (N := 30) (by omega) (by omega)
    have e2 := mul_bd (a := q.1 - p.1) (b := p.2) (M := 30) (N := 30) (by omega) (by omega)
    omega
end Go.Proofs.Ytbgfiejaehpffaa
