/-
  areMultipliers of the program; slices.Clone of fractions; fracs of the law.
-/
import Derived.Test.YtccfhcoioakmpaaF1
import Derived.WalkSpells
namespace Go.Proofs.Ytccfhcoioakmpaa
open Go.RowKit

def mulOk (m : List F) : Bool := m.all (isFr 0 100 100)
def areM (n : Nat) (m : List F) : Bool := decide (m.length = n) && mulOk m
theorem ftake (fs : List F) (k : Nat) (h : k < fs.length) : fs.take (k + 1) = fs.take k ++ [fth fs k] := by
  rw [List.take_succ_eq_append_getElem h]; simp [fth, List.getD, h]
theorem fth_mem {fs : List F} {k : Nat} (h : k < fs.length) : fth fs k ∈ fs := by simp [fth, List.getD, h]
theorem fall_take {p : F → Bool} (fs : List F) (k : Nat) (h : k < fs.length) : (fs.take (k + 1)).all p = ((fs.take k).all p && p (fth fs k)) := by
  rw [ftake fs k h]; simp
theorem fall_no {p : F → Bool} {fs : List F} {k : Nat} (h : k < fs.length) (hp : p (fth fs k) = false) : fs.all p = false := by
  rw [Bool.eq_false_iff]; intro hc
  rw [List.all_eq_true] at hc
  rw [hc _ (fth_mem h)] at hp; cases hp

set_option maxHeartbeats 1600000 in
theorem areMult_any (A A' : Option Addr) (n c n' c' : Nat) (gs : List G) (fs : List F) (w : World) (hg : Gs w w.heap.size A n c gs) (h : Fs w w.heap.size A' n' c' fs) (b : Bool) (hb : Hid (areM n fs = b)) :
    Calls Try.prog 75 #[.slice A n c, .slice A' n' c'] w fun e w' => e = .returned (.bool b) ∧ Below w.heap.size w w' := by
  have hm := h.most; have hcap := h.cap
  have hmg := hg.most; have hcapg := hg.cap
  have hl := hide h.len
  have H := hide h; clear h hg
  have HR := hide (Below.refl w.heap.size w)
  by_cases hn : n' = n
  · subst hn
    have e1 : ((n' : Int) != (n' : Int)) = false := by simp
    go_enter Try.func75, Try.ntmps75
    go_wp2_with fail
    go_loopw [14] (fun i wr => ∃ k : Nat, k ≤ n' ∧ i = .int .i64 k ∧ Hid ((fs.take k).all (isFr 0 100 100) = true) ∧ Below w.heap.size w wr) (fun i _ => n' - (intOf i).toNat)
    case atStart => exact ⟨0, Nat.zero_le _, rfl, (by simp [Hid]), Below.refl _ _⟩
    case round =>
      obtain ⟨k, hk, rfl, HL, hbl⟩ := hrel
      have HB := hide hbl; clear hbl
      by_cases hlt : k < n'
      · have hkl : k < fs.length := by rw [hl.out]; exact hlt
        obtain ⟨b1, off, rfl, hbb, e1, e2⟩ := ((unhide H).below (unhide HB)).at_ k hlt
        have hst := hide (fall_take (p := isFr 0 100 100) fs k hkl)
        have hno := hide (fun hp => fall_no (p := isFr 0 100 100) hkl hp)
        revert hst hno
        obtain ⟨⟨u, v⟩, hgk⟩ : ∃ f, fth fs k = f := ⟨_, rfl⟩
        rw [hgk] at e1 e2 ⊢
        clear hgk
        simp only at e1 e2 ⊢
        intro hst hno
        have hbs := (unhide HB).size
        have HB1 := hide ((unhide HB).alloc hbs (.cells #[.int .i64 u, .int .i64 v] 37))
        rcases hq : isFr 0 100 100 (u, v)
        · have HQ := hide hq; clear hq
          have HF := hide (show b = false from by rw [← hb.out, areM, mulOk, hno.out HQ.out, Bool.and_false])
          go_wp2_with fail
          refine (isFrac_is _ _ _ _ _ _ (by omega) (by omega) (by omega) _ HQ).mono ?_
          rintro e w1 ⟨rfl, b2⟩
          have HB2 := hide ((unhide HB1).trans (b2.mono (unhide HB1).size))
          clear b2
          go_wp2_with fail
          go_ret
          exact ⟨ret_bool HF.out.symm, unhide HB2⟩
        · have HQ := hide hq; clear hq
          have HL2 := hide (show (fs.take (k + 1)).all (isFr 0 100 100) = true from by rw [hst.out, HL.out, HQ.out]; rfl)
          go_wp2_with fail
          refine (isFrac_is _ _ _ _ _ _ (by omega) (by omega) (by omega) _ HQ).mono ?_
          rintro e w1 ⟨rfl, b2⟩
          have HB2 := hide ((unhide HB1).trans (b2.mono (unhide HB1).size))
          clear b2
          go_wp2_with fail
          go_roundw
          case rel => exact ⟨k + 1, by omega, by go_num, HL2, unhide HB2⟩
          case measure => simp [intOf]; omega
      · obtain rfl : k = n' := by omega
        have HF := hide (show b = true from by
          have h1 := HL.out
          rw [List.take_of_length_le (by rw [hl.out]; exact Nat.le_refl _)] at h1
          rw [← hb.out, areM, mulOk, h1, hl.out]; simp)
        go_wp2_with fail
        go_ret
        exact ⟨ret_bool HF.out.symm, unhide HB⟩
  · have HF := hide (show b = false from by rw [← hb.out, areM, hl.out]; simp [hn])
    have e1 : ((n' : Int) != (n : Int)) = true := by simp; omega
    have e2 : ((n' : Int) == (n : Int)) = false := by simp; omega
    have e3 : (n' != n) = true := by simp [hn]
    go_enter Try.func75, Try.ntmps75
    go_wp2_with fail
    go_ret
    exact ⟨ret_bool HF.out.symm, unhide HR⟩

theorem run_appQ {w : World} {base B m c : Nat} {v : Value} {xs ys : List F} {A : Option Addr} (ty : TypeId) (ho : OwnQ w base 37 v xs) (hi : Fs w B A m c ys) (hl : xs.length + ys.length ≤ 1000000) (hbase : base ≤ w.heap.size) :
    ∃ v' w', (Builtin.append_ #[54, 54] ty #[v, .slice A m c]).run Try.prog w = .ok v' w' ∧ OwnQ w' base 37 v' (xs ++ ys) ∧ w.grownBy w' v.ownBlock ∧ (v'.ownBlock = v.ownBlock ∨ v'.ownBlock = some w.heap.size) := by
  obtain ⟨i0, h0, hz0, hz1, hz2⟩ := info_parts info37
  have hm := hi.len
  cases A with
  | none =>
    have hc := hi.bare rfl; have hcap := hi.cap
    obtain rfl : m = 0 := by omega
    obtain rfl : c = 0 := by omega
    obtain rfl : ys = [] := List.eq_nil_of_length_eq_zero hm
    exact ⟨v, w, run_append_owned_none (P := Try.prog) w base 54 ty 37 i0 2 Try.underlying54 h0 v _ _ ho, by simpa using ho, World.grownBy.refl w _, .inl rfl⟩
  | some a =>
    have hnews : ∀ j u, (cells2_ ys)[j]? = some u → w.cell? (a.add j) = some u := by
      intro j u hu
      have hj : j < (cells2_ ys).length := (List.getElem?_eq_some_iff.1 hu).1
      rw [cells2_length] at hj
      obtain ⟨b, off, e, _, hc1, hc2⟩ := hi.at_ (j / 2) (by omega)
      cases e
      have hat := cells2_at ys (j / 2) (by omega)
      rw [Addr.add_lit]
      have hp : j % 2 = 0 ∨ j % 2 = 1 := by omega
      rcases hp with hp | hp
      · have e : j / 2 * 2 = j := by omega
        rw [e] at hc1 hat
        rw [hc1, ← hu, hat.1]
      · have e : j / 2 * 2 + 1 = j := by omega
        rw [e] at hat
        rw [show off + j / 2 * 2 + 1 = off + j from by omega] at hc2
        rw [hc2, ← hu, hat.2]
    obtain ⟨v', w', hrun, h2, h3, _, h5⟩ := run_append_own_at (P := Try.prog) w base 54 ty 37 i0 (.agg #[.int .i64 0, .int .i64 0]) 2 16 Try.underlying54 h0 hz0 hz1 hz2 rfl (by omega) v _ _ ho a m c (cells2_ ys) (by rw [cells2_length, hm]) hnews (cells2_one ys)
      (by unfold maxLen; omega) (by omega) hbase
    refine ⟨v', w', hrun, ?_, h3, h5⟩
    unfold OwnQ
    rw [List.length_append, hm, cells2_app]
    exact h2
theorem wpList_appQ {w : World} {ops : Array Oper} {rest : List Oper} {o : Oper} {a : Act} {Q : Exit → Act → World → Prop} (hg : o.guard = none) (s x : Operand)
    (hop : o.op = .call { callee := .builtin .append, args := #[s, x], argTypes := #[54, 54] })
    {base B m c : Nat} {v : Value} {xs ys : List F} {A : Option Addr} (hs : a.eval s = v) (hx : a.eval x = .slice A m c) (ho : OwnQ w base 37 v xs) (hi : Fs w B A m c ys) (hl : xs.length + ys.length ≤ 1000000) (hbase : base ≤ w.heap.size)
    (h : ∀ v' w', OwnQ w' base 37 v' (xs ++ ys) → w.grownBy w' v.ownBlock → (v'.ownBlock = v.ownBlock ∨ v'.ownBlock = some w.heap.size) → wpList Try.prog ops Q rest (a.put o.dst v') w') : wpList Try.prog ops Q (o :: rest) a w :=
  wpList_plain hg fun _ hK => by
    obtain ⟨v', w', hrun, h2, h3, h4⟩ := run_appQ o.type ho hi hl hbase
    unfold Oper.wp execOp
    simp only [hop, resolve, invoke, builtin, Sem.run_bind, Sem.run_pure, Result.andThen_ok, List.map_toArray, List.map_cons, List.map_nil, hs, hx, hrun]
    exact hK _ _ (h v' w' h2 h3 h4)

set_option maxRecDepth 4000 in
set_option maxHeartbeats 1000000 in
theorem cloneQ_any (A : Option Addr) (n c : Nat) (fs : List F) (w : World) (h : Fs w w.heap.size A n c fs) (hn : n ≤ 1000000) :
    Calls Try.prog 77 #[.slice A n c] w fun e w' => ∃ A' n' c', e = .returned (.slice A' n' c') ∧ Fs w' w'.heap.size A' n' c' fs ∧ Below w.heap.size w w' := by
  have q54 : ∀ (w : World) (a : Option Addr) (n c n' c' : Nat), (binOp .eql 54 (.slice a n c) (.slice none n' c')).run Try.prog w = .ok (.bool a.isNone) w := fun w a n c n' c' => Lib.run_eql_slice_nil w _ _ a n c n' c' Try.underlying54
  have hl := h.len
  cases A with
  | none =>
    have hc := h.bare rfl; have hcap := h.cap
    obtain rfl : n = 0 := by omega
    obtain rfl : c = 0 := by omega
    obtain rfl := List.eq_nil_of_length_eq_zero hl
    go_enter Try.func77, Try.ntmps77
    go_wp2_with fail
    go_ret
    exact ⟨_, _, _, rfl, Fs.none_ _ _, Below.refl _ _⟩
  | some a =>
    have H := hide h; have HL := hide hl; clear h hl
    go_enter Try.func77, Try.ntmps77
    go_wp2_with (at_builtin
                 refine wpList_appQ (base := w.heap.size) (B := w.heap.size) (xs := []) (ys := fs) (by rfl) (.tmp 5) (.tmp 6) (by rfl) (by rfl) (by rfl) (ownQ_new w _ 37 (Nat.le_refl _)) ((unhide H).alloc (Nat.le_refl _) _) (by have := HL.out; simp; omega) (by simp) ?_
                 intro v1 w1 ho1 hg1 _
                 rw [List.nil_append] at ho1
                 have hb1 : Below w.heap.size w w1 := ((Below.refl _ _).alloc (Nat.le_refl _) _).grown hg1 (by simp) (fun k hk => by simp [Value.ownBlock] at hk; omega)
                 obtain ⟨A3, n3, c3, rfl, hf3⟩ := ho1.to
                 have HF := hide hf3; have HB1 := hide hb1
                 clear ho1 hg1 hf3 hb1)
    go_ret
    exact ⟨_, _, _, rfl, unhide HF, unhide HB1⟩

theorem Fs.cut {w : World} {B n c k : Nat} {A : Option Addr} {fs : List F} (h : Fs w B A n c fs) (hk : k ≤ n) : Fs w B A k c (fs.take k) :=
  ⟨by rw [List.length_take, h.len]; omega, by have := h.cap; omega, h.most, h.bare, fun j hj => by
    obtain ⟨b, off, e, hb, h1, h2⟩ := h.at_ j (by omega)
    have e2 : fth (fs.take k) j = fth fs j := by simp [fth, List.getD, List.getElem?_take, hj]
    rw [e2]
    exact ⟨b, off, e, hb, h1, h2⟩⟩
set_option maxRecDepth 4000 in
set_option maxHeartbeats 1000000 in
theorem fracs_any (A : Option Addr) (n c : Nat) (fs : List F) (w : World) (h : Fs w w.heap.size A n c fs) :
    Calls Try.prog 34 #[.slice A n c] w fun e w' => ∃ A' n' c', e = .returned (.slice A' n' c') ∧ Fs w' w'.heap.size A' n' c' (fs.take 9) ∧ Below w.heap.size w w' := by
  have hm := h.most; have hcap := h.cap
  have H := hide h
  by_cases h9 : n ≤ 9
  · have HC := hide (show fs.take 9 = fs from List.take_of_length_le (by rw [h.len]; omega))
    clear h
    rw [HC.out]
    go_enter Try.func34, Try.ntmps34
    go_wp2_with fail
    refine (cloneQ_any _ _ _ fs _ (unhide H) (by omega)).mono ?_
    rintro e w1 ⟨A1, n1, c1, rfl, hf, hb⟩
    have HF := hide hf; have HB := hide hb; clear hf hb
    go_wp2_with fail
    go_ret
    exact ⟨_, _, _, rfl, unhide HF, unhide HB⟩
  · have HC := hide (h.cut (k := 9) (by omega))
    clear h
    have hc9 : 9 ≤ c := by omega
    go_enter Try.func34, Try.ntmps34
    go_wp2_with fail
    refine (cloneQ_any _ _ _ (fs.take 9) _ (unhide HC) (by omega)).mono ?_
    rintro e w1 ⟨A1, n1, c1, rfl, hf, hb⟩
    have HF := hide hf; have HB := hide hb; clear hf hb
    go_wp2_with fail
    go_ret
    exact ⟨_, _, _, rfl, unhide HF, unhide HB⟩
end Go.Proofs.Ytccfhcoioakmpaa
