/-
  orders and Pins of the reference.
-/
import Derived.Test.YtmgoonoifgcmnaaG1
import Derived.Test.YtmgoonoifgcmnaaS6
import Derived.Test.YtmgoonoifgcmnaaW3
import Derived.Test.YtmgoonoifgcmnaaN1
import Derived.ArgAppend
namespace Go.Proofs.Ytmgoonoifgcmnaa
open Go.RowKit

/-- append of one number onto a slice that is full. -/
theorem run_appG {w : World} {l : Nat} {A : Option Addr} {xs : List Int} {z : Int} (ty : TypeId) (hi : Ints w w.heap.size A l l xs) (hl : xs.length ≤ 100000) :
    ∃ v' w', (Builtin.append_ #[22, 22] ty #[.slice A l l, .slice (some ⟨w.heap.size, 0, none⟩) 1 1]).run Try.prog (w.alloc (.cells #[.int .i64 z] 3)) = .ok v' w' ∧ Owned w' w.heap.size v' (xs ++ [z]) ∧ Below w.heap.size w w' := by
  obtain ⟨i0, h0, hz0, hz1, hz2⟩ := info_parts info3
  have hm := hi.len
  cases A with
  | none =>
    have hc := hi.bare rfl
    obtain rfl : l = 0 := by omega
    obtain rfl : xs = [] := List.eq_nil_of_length_eq_zero hm
    have ho : Owned (w.alloc (.cells #[.int .i64 z] 3)) w.heap.size (.slice none 0 0) [] := World.ownsRow_nil _ _ _ _
    obtain ⟨v', w', h1, h2, h3, _⟩ := run_app ty ho (ints_one w z) (by simp) (by simp)
    exact ⟨v', w', h1, h2, ((Below.refl w.heap.size w).alloc (Nat.le_refl _) _).grown h3 (by simp) (fun k hk => by cases hk)⟩
  | some a =>
    have hcell : ∀ j u, (xs.map (Value.int .i64))[j]? = some u → (w.alloc (.cells #[.int .i64 z] 3)).cell? (a.add j) = some u := by
      intro j u hu
      have hj : j < xs.length := by have := (List.getElem?_eq_some_iff.1 hu).1; simpa using this
      obtain ⟨b, off, e, hb, hc⟩ := (hi.alloc (Nat.le_refl _) (.cells #[.int .i64 z] 3)).at_ j (by omega)
      cases e
      rw [Addr.add_lit, hc]
      simp [nth, List.getD, hj] at hu ⊢
      exact hu
    have hnew : ∀ j u, ([Value.int .i64 z])[j]? = some u → (w.alloc (.cells #[.int .i64 z] 3)).cell? ((⟨w.heap.size, 0, none⟩ : Addr).add j) = some u := by
      intro j u hu
      obtain rfl : j = 0 := by
        rcases j with _ | j
        · rfl
        · simp at hu
      simp at hu
      subst hu
      rw [show (⟨w.heap.size, 0, none⟩ : Addr).add 0 = ⟨w.heap.size, 0, none⟩ from rfl, World.cell?_alloc_at _ _ _ _ rfl]; rfl
    obtain ⟨v', w', hr, h2, h3⟩ := run_append_arg_grows (P := Try.prog) (w.alloc (.cells #[.int .i64 z] 3)) 22 ty 3 i0 (.int .i64 0) 1 8 Try.underlying22 h0 hz0 hz1 hz2 rfl (by omega) a l l (xs.map (Value.int .i64)) (by simp [hm]) hcell ⟨w.heap.size, 0, none⟩ 1 1 [.int .i64 z] rfl hnew (by omega) (by unfold maxLen; omega) (by omega)
    refine ⟨v', w', hr, ?_, ((Below.refl w.heap.size w).alloc (Nat.le_refl _) _).grown h3 (by simp) (fun k hk => by cases hk)⟩
    have h2' : w'.ownsRow (w.alloc (.cells #[.int .i64 z] 3)).heap.size 3 1 v' (xs ++ [z]).length ((xs ++ [z]).map (Value.int .i64)) := by
      rw [List.length_append, hm, List.map_append]; exact h2
    refine ⟨h2'.1, ?_⟩
    rcases h2'.2 with h | ⟨g, cap, cur, hv, hg, r⟩
    · exact .inl h
    · exact .inr ⟨g, cap, cur, hv, by simp at hg; omega, r⟩
theorem wpList_appG {w : World} {ops : Array Oper} {rest : List Oper} {o : Oper} {a : Act} {Q : Exit → Act → World → Prop} (hg : o.guard = none) (s x : Operand)
    (hop : o.op = .call { callee := .builtin .append, args := #[s, x], argTypes := #[22, 22] })
    {l : Nat} {A : Option Addr} {xs : List Int} {z : Int} (hs : a.eval s = .slice A l l) (hx : a.eval x = .slice (some ⟨w.heap.size, 0, none⟩) 1 1) (hi : Ints w w.heap.size A l l xs) (hl : xs.length ≤ 100000)
    (h : ∀ v' w', Owned w' w.heap.size v' (xs ++ [z]) → Below w.heap.size w w' → wpList Try.prog ops Q rest (a.put o.dst v') w') : wpList Try.prog ops Q (o :: rest) a (w.alloc (.cells #[.int .i64 z] 3)) :=
  wpList_plain hg fun K hK => by
    obtain ⟨v', w', hrun, h2, h3⟩ := run_appG (z := z) o.type hi hl
    unfold Oper.wp execOp
    simp only [hop, resolve, invoke, builtin, Sem.run_bind, Sem.run_pure, Result.andThen_ok, List.map_toArray, List.map_cons, List.map_nil, hs, hx, hrun]
    exact hK _ _ (h v' w' h2 h3)

/-- All orders of the numbers below n that go on from xs. -/
def ordF (n : Nat) : Nat → List Int → List (List Int)
  | 0, _ => []
  | f + 1, xs => if xs.length = n then [xs] else (List.range n).flatMap fun (p : Nat) => if (p : Int) ∈ xs then [] else ordF n f (xs ++ [(p : Int)])
def ordS (n f : Nat) (xs : List Int) (p : Nat) : List (List Int) := if (p : Int) ∈ xs then [] else ordF n f (xs ++ [(p : Int)])
def ordT (n f : Nat) (xs : List Int) (k : Nat) : List (List Int) := (List.range k).flatMap fun p => ordS n f xs p
theorem ordT_succ (n f : Nat) (xs : List Int) (k : Nat) : ordT n f xs (k + 1) = ordT n f xs k ++ ordS n f xs k := by
  unfold ordT; rw [List.range_succ, List.flatMap_append]; simp
theorem ordF_end {n f : Nat} {xs : List Int} (h : xs.length = n) : ordF n (f + 1) xs = [xs] := by unfold ordF; rw [if_pos h]
theorem ordF_on {n f : Nat} {xs : List Int} (h : xs.length ≠ n) : ordF n (f + 1) xs = ordT n f xs n := by unfold ordF; rw [if_neg h]; rfl
theorem ordT_skip {n f k : Nat} {xs : List Int} (h : (k : Int) ∈ xs) : ordT n f xs (k + 1) = ordT n f xs k := by
  rw [ordT_succ]; unfold ordS; rw [if_pos h, List.append_nil]
theorem ordT_go {n f k : Nat} {xs : List Int} (h1 : ¬ (k : Int) ∈ xs) : ordT n f xs (k + 1) = ordT n f xs k ++ ordF n f (xs ++ [(k : Int)]) := by
  rw [ordT_succ]; unfold ordS; rw [if_neg h1]
def ordL (n : Nat) : List (List Int) := ordF n (n + 1) []
theorem ordF_len (n : Nat) (hn : n ≤ 6) : ∀ (f : Nat) (xs : List Int), (ordF n f xs).length ≤ 6 ^ f
  | 0, xs => by simp [ordF]
  | f + 1, xs => by
    by_cases h : xs.length = n
    · rw [ordF_end h]; simpa using Nat.one_le_pow _ _ (by omega)
    · rw [ordF_on h]
      have key : ∀ k, (ordT n f xs k).length ≤ k * 6 ^ f := by
        intro k
        induction k with
        | zero => simp [ordT]
        | succ k ih =>
          rw [ordT_succ, List.length_append, Nat.succ_mul]
          refine Nat.add_le_add ih ?_
          unfold ordS
          split
          · simp
          · exact ordF_len n hn f _
      refine Nat.le_trans (key n) ?_
      rw [Nat.pow_succ, Nat.mul_comm]
      exact Nat.mul_le_mul_left _ hn
theorem ordT_len (n : Nat) (hn : n ≤ 6) (f : Nat) (xs : List Int) (k : Nat) : (ordT n f xs k).length ≤ k * 6 ^ f := by
  induction k with
  | zero => simp [ordT]
  | succ k ih =>
    rw [ordT_succ, List.length_append, Nat.succ_mul]
    refine Nat.add_le_add ih ?_
    unfold ordS
    split
    · simp
    · exact ordF_len n hn f _
theorem pl_zero {xs : List Int} {z : Int} : (plL xs z).length = 0 ↔ ¬ z ∈ xs := by
  rw [mem_nth]
  constructor
  · rintro h ⟨j, hj, e⟩
    have : (j : Int) ∈ plL xs z := plT_mem.2 ⟨j, rfl, hj, e⟩
    rw [List.eq_nil_of_length_eq_zero h] at this
    cases this
  · intro h
    match hp : plL xs z with
    | [] => rfl
    | x :: r =>
      obtain ⟨j, _, hj, e⟩ := plT_mem.1 (show x ∈ plT xs z xs.length by rw [show plT xs z xs.length = x :: r from hp]; simp)
      exact absurd ⟨j, hj, e⟩ h

theorem form_of {w : World} {B n c : Nat} {A : Option Addr} {xs : List Int} (h : Ints w B A n c xs) (hn : 0 < n) : ∃ b off, A = some ⟨b, off, none⟩ := by
  obtain ⟨b, off, e, _⟩ := h.cells hn
  exact ⟨b, off, e⟩
set_option maxRecDepth 100000 in
set_option maxHeartbeats 4000000 in
theorem orders_any (n : Nat) (hn : 1 ≤ n ∧ n ≤ 6) : ∀ (f : Nat) (xs : List Int) (l : Nat) (A : Option Addr) (c : Nat) (base : Nat) (w : World), f ≤ 7 → n < f + l → l ≤ n → xs.length = l → Ints w w.heap.size A l c xs → base ≤ w.heap.size → (∀ b off, A = some ⟨b, off, none⟩ → base ≤ b) → ((A = none ∧ l = 0 ∧ c = 0) ∨ ∃ b off, A = some ⟨b, off, none⟩) →
    Calls Try.prog 79 #[.int .i64 n, .slice A l c] w fun e w' => ∃ v, e = .returned v ∧ OwnF w' base v (ordF n f xs) ∧ Below w.heap.size w w' := by
  intro f
  induction f with
  | zero => intro xs l A c base w _ h1 h2; omega
  | succ f IH =>
    intro xs l A c base w hf hnf hln hl h hbase hA hform
    have IHH := hide IH; clear IH
    have HL := hide hl
    have hm := h.most; have hcap := h.cap
    by_cases he : l = n
    · subst he
      obtain ⟨b0, off0, rfl, hb0, _⟩ := h.cells (by omega)
      have HE := hide (show ordF l (f + 1) xs = [xs] from ordF_end hl)
      have HF := hide (ownF_one hbase h (fun b off e => ⟨hA b off e, by cases e; exact hb0⟩))
      have HB2 := hide ((Below.refl w.heap.size w).alloc (Nat.le_refl _) (.cells #[.slice (some ⟨b0, off0, none⟩) l c] 22))
      clear hl h hA
      go_enter Try.func79, Try.ntmps79
      go_wp2_with fail
      go_ret
      exact ⟨_, rfl, by rw [HE.out]; exact unhide HF, unhide HB2⟩
    · rcases hform with ⟨rfl, rfl, rfl⟩ | ⟨b0, off0, rfl⟩
      · have dl : ((0 : Int) == (n : Int)) = false := by simp; omega
        have HE := hide (show ordF n (f + 1) xs = ordT n f xs n from ordF_on (by rw [hl]; exact he))
        have H := hide h
        have HC := hide (show Ints w w.heap.size none 0 0 xs from ⟨h.len, Nat.le_refl _, by omega, fun e => by have := h.bare e; omega, h.at_⟩)
        clear hl h hA
        go_enter Try.func79, Try.ntmps79
        go_wp2_with fail
        go_loopw [5, 6, 14] (fun v _ i wr => ∃ k : Nat, k ≤ n ∧ i = .int .i64 (k : Nat) ∧ Hid (OwnF wr w.heap.size v (ordT n f xs k)) ∧ Hid (Below w.heap.size w wr)) (fun _ _ i _ => n - (intOf i).toNat)
        case atStart => exact ⟨0, Nat.zero_le _, rfl, hide (by simpa [ordT] using ownF_nil w w.heap.size), hide (Below.refl _ _)⟩
        case round =>
          obtain ⟨k, hk, rfl, HO, HB⟩ := hrel
          by_cases hlt : k < n
          · have HI := hide ((unhide H).on (unhide HB))
            have HCr := hide ((unhide HC).on (unhide HB))
            go_wp2_with fail
            refine (rplaces_ints _ _ _ _ _ _ (unhide HI) (by omega)).mono ?_
            rintro e w2 ⟨A2, n2, c2, rfl, hi2, hb2⟩
            have hn2 := hi2.len
            have hm2 := hi2.most; have hcap2 := hi2.cap
            have HB2 := hide hb2
            have HC7 := hide ((unhide HCr).on hb2)
            have hpl : xs.length ≤ 100000 := by rw [HL.out]; omega
            have hbw : wr.heap.size ≤ w2.heap.size := hb2.size
            clear hi2 hb2
            by_cases hin : (k : Int) ∈ xs
            · have HK := hide (show ordT n f xs (k + 1) = ordT n f xs k from ordT_skip hin)
              have dz : ((n2 : Int) == 0) = false := by
                have := mt pl_zero.1 (by simpa using hin)
                simp; omega
              clear hin hn2
              go_wp2_with fail
              go_roundw
              case rel => exact ⟨k + 1, by omega, by go_num, hide (by rw [HK.out]; exact (unhide HO).below (unhide HB2)), hide ((unhide HB).trans ((unhide HB2).mono (unhide HB).size))⟩
              case measure => simp [intOf]; omega
            · have HK := hide (show ordT n f xs (k + 1) = ordT n f xs k ++ ordF n f (xs ++ [(k : Int)]) from ordT_go hin)
              obtain rfl : n2 = 0 := by rw [← hn2]; exact pl_zero.2 hin
              have HLN := hide (show (xs ++ [(k : Int)]).length = 0 + 1 by simp [HL.out])
              have hsum : (ordT n f xs k).length + (ordF n f (xs ++ [(k : Int)])).length ≤ 2000000000 := by
                have h1 := ordT_len n hn.2 f xs k; have h2 := ordF_len n hn.2 f (xs ++ [(k : Int)])
                have h3 : (6 : Nat) ^ f ≤ 6 ^ 7 := Nat.pow_le_pow_right (by omega) (by omega)
                have h4 : k * 6 ^ f ≤ 6 * 6 ^ 7 := Nat.mul_le_mul (by omega) h3
                omega
              clear hin hn2
              go_wp2_with (at_builtin; refine wpList_appG rfl _ _ rfl rfl rfl (unhide HC7) hpl ?_; intro v3 w3 ho3 hb3
                           obtain ⟨A3, c3, rfl, hi3⟩ := ho3.ints
                           have hA3 := hide (ho3.elemF (g := none) (fun b e => by cases e) (Nat.le_refl _)).2
                           rw [HLN.out] at hi3 ⊢
                           have HF3 := hide (form_of hi3 (Nat.succ_pos _))
                           have HB3 := hide ((unhide HB2).trans (hb3.mono hbw))
                           have HJ3 := hide hi3
                           have hm3 := hi3.most; have hcap3 := hi3.cap
                           clear ho3 hb3 hi3)
              refine (IHH.out _ (0 + 1) _ _ wr.heap.size _ (by omega) (by omega) (by omega) HLN.out (unhide HJ3) (unhide HB3).size (fun b off e => Nat.le_trans hbw (hA3.out b off e)) (.inr HF3.out)).mono ?_
              rintro e w5 ⟨v5, rfl, ho5, hb5⟩
              have HB5 := hide ((unhide HB3).trans (hb5.mono (unhide HB3).size))
              have HO5 := hide ho5
              have HOr := hide ((unhide HO).below (unhide HB5))
              have HLT := hide (fun b e => ((unhide HO).lt b e).2)
              have HBr := hide ((unhide HB).trans ((unhide HB5).mono (unhide HB).size))
              have hbase5 := (unhide HBr).size
              have hbb := (unhide HB).size
              clear ho5 hb5
              go_wp2_with (at_builtin; refine wpList_appFF rfl _ _ rfl rfl rfl (unhide HOr) (unhide HO5) HLT.out hbb hsum hbase5 ?_; intro v6 w6 ho6 hb6)
              go_roundw
              case rel => exact ⟨k + 1, by omega, by go_num, hide (by rw [HK.out]; exact ho6), hide ((unhide HBr).trans hb6)⟩
              case measure => simp [intOf]; omega
          · have e : n = k := by omega
            have HX := hide (show ordF n (f + 1) xs = ordT n f xs k from by rw [HE.out, e])
            clear e
            go_wp2_with fail
            go_ret
            exact ⟨_, rfl, by rw [HX.out]; exact (unhide HO).lower hbase, unhide HB⟩
      · have dl : ((l : Int) == (n : Int)) = false := by simp; omega
        have HE := hide (show ordF n (f + 1) xs = ordT n f xs n from ordF_on (by rw [hl]; exact he))
        have H := hide h
        have HC := hide (show Ints w w.heap.size (some ⟨b0, off0, none⟩) l l xs from ⟨h.len, Nat.le_refl _, by omega, fun e => by have := h.bare e; omega, h.at_⟩)
        clear hl h hA
        go_enter Try.func79, Try.ntmps79
        go_wp2_with fail
        go_loopw [5, 6, 14] (fun v _ i wr => ∃ k : Nat, k ≤ n ∧ i = .int .i64 (k : Nat) ∧ Hid (OwnF wr w.heap.size v (ordT n f xs k)) ∧ Hid (Below w.heap.size w wr)) (fun _ _ i _ => n - (intOf i).toNat)
        case atStart => exact ⟨0, Nat.zero_le _, rfl, hide (by simpa [ordT] using ownF_nil w w.heap.size), hide (Below.refl _ _)⟩
        case round =>
          obtain ⟨k, hk, rfl, HO, HB⟩ := hrel
          by_cases hlt : k < n
          · have HI := hide ((unhide H).on (unhide HB))
            have HCr := hide ((unhide HC).on (unhide HB))
            go_wp2_with fail
            refine (rplaces_ints _ _ _ _ _ _ (unhide HI) (by omega)).mono ?_
            rintro e w2 ⟨A2, n2, c2, rfl, hi2, hb2⟩
            have hn2 := hi2.len
            have hm2 := hi2.most; have hcap2 := hi2.cap
            have HB2 := hide hb2
            have HC7 := hide ((unhide HCr).on hb2)
            have hpl : xs.length ≤ 100000 := by rw [HL.out]; omega
            have hbw : wr.heap.size ≤ w2.heap.size := hb2.size
            clear hi2 hb2
            by_cases hin : (k : Int) ∈ xs
            · have HK := hide (show ordT n f xs (k + 1) = ordT n f xs k from ordT_skip hin)
              have dz : ((n2 : Int) == 0) = false := by
                have := mt pl_zero.1 (by simpa using hin)
                simp; omega
              clear hin hn2
              go_wp2_with fail
              go_roundw
              case rel => exact ⟨k + 1, by omega, by go_num, hide (by rw [HK.out]; exact (unhide HO).below (unhide HB2)), hide ((unhide HB).trans ((unhide HB2).mono (unhide HB).size))⟩
              case measure => simp [intOf]; omega
            · have HK := hide (show ordT n f xs (k + 1) = ordT n f xs k ++ ordF n f (xs ++ [(k : Int)]) from ordT_go hin)
              obtain rfl : n2 = 0 := by rw [← hn2]; exact pl_zero.2 hin
              have HLN := hide (show (xs ++ [(k : Int)]).length = l + 1 by simp [HL.out])
              have hsum : (ordT n f xs k).length + (ordF n f (xs ++ [(k : Int)])).length ≤ 2000000000 := by
                have h1 := ordT_len n hn.2 f xs k; have h2 := ordF_len n hn.2 f (xs ++ [(k : Int)])
                have h3 : (6 : Nat) ^ f ≤ 6 ^ 7 := Nat.pow_le_pow_right (by omega) (by omega)
                have h4 : k * 6 ^ f ≤ 6 * 6 ^ 7 := Nat.mul_le_mul (by omega) h3
                omega
              clear hin hn2
              go_wp2_with (at_builtin; refine wpList_appG rfl _ _ rfl rfl rfl (unhide HC7) hpl ?_; intro v3 w3 ho3 hb3
                           obtain ⟨A3, c3, rfl, hi3⟩ := ho3.ints
                           have hA3 := hide (ho3.elemF (g := none) (fun b e => by cases e) (Nat.le_refl _)).2
                           rw [HLN.out] at hi3 ⊢
                           have HF3 := hide (form_of hi3 (Nat.succ_pos _))
                           have HB3 := hide ((unhide HB2).trans (hb3.mono hbw))
                           have HJ3 := hide hi3
                           have hm3 := hi3.most; have hcap3 := hi3.cap
                           clear ho3 hb3 hi3)
              refine (IHH.out _ (l + 1) _ _ wr.heap.size _ (by omega) (by omega) (by omega) HLN.out (unhide HJ3) (unhide HB3).size (fun b off e => Nat.le_trans hbw (hA3.out b off e)) (.inr HF3.out)).mono ?_
              rintro e w5 ⟨v5, rfl, ho5, hb5⟩
              have HB5 := hide ((unhide HB3).trans (hb5.mono (unhide HB3).size))
              have HO5 := hide ho5
              have HOr := hide ((unhide HO).below (unhide HB5))
              have HLT := hide (fun b e => ((unhide HO).lt b e).2)
              have HBr := hide ((unhide HB).trans ((unhide HB5).mono (unhide HB).size))
              have hbase5 := (unhide HBr).size
              have hbb := (unhide HB).size
              clear ho5 hb5
              go_wp2_with (at_builtin; refine wpList_appFF rfl _ _ rfl rfl rfl (unhide HOr) (unhide HO5) HLT.out hbb hsum hbase5 ?_; intro v6 w6 ho6 hb6)
              go_roundw
              case rel => exact ⟨k + 1, by omega, by go_num, hide (by rw [HK.out]; exact ho6), hide ((unhide HBr).trans hb6)⟩
              case measure => simp [intOf]; omega
          · have e : n = k := by omega
            have HX := hide (show ordF n (f + 1) xs = ordT n f xs k from by rw [HE.out, e])
            clear e
            go_wp2_with fail
            go_ret
            exact ⟨_, rfl, by rw [HX.out]; exact (unhide HO).lower hbase, unhide HB⟩
end Go.Proofs.Ytmgoonoifgcmnaa
