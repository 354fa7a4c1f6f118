import Derived.Test.YtdlbahoenhhkdaaTh
/-
  Add of the reference.
-/
namespace Go.Proofs.Ytdlbahoenhhkdaa
open Go.RowKit

theorem Owned.some_ {w : World} {base : Nat} {v : Value} {xs : List Int} (h : Owned w base v xs) : ∃ A n c, v = .slice A n c ∧ Owned w base (.slice A n c) xs ∧ Ints w w.heap.size A n c xs := by
  obtain ⟨A, c, rfl, hi⟩ := h.ints
  exact ⟨A, _, c, rfl, h, hi⟩

def rowF (F : Nat → Nat → Int) (r k : Nat) : List Int := (List.range k).map fun i => F r i
theorem rowF_succ (F : Nat → Nat → Int) (r k : Nat) : rowF F r (k + 1) = rowF F r k ++ [F r k] := by simp [rowF, List.range_succ]
theorem rowF_len (F : Nat → Nat → Int) (r k : Nat) : (rowF F r k).length = k := by simp [rowF]
theorem tabL_succ (n m : Nat) (F : Nat → Nat → Int) : tabL (n + 1) m F = tabL n m F ++ [rowF F n m] := by simp [tabL, rowF, List.range_succ]
theorem tabL_len (n m : Nat) (F : Nat → Nat → Int) : (tabL n m F).length = n := by simp [tabL]

set_option maxRecDepth 100000 in
set_option maxHeartbeats 2000000 in
theorem RAdd_any (A A' : Option Addr) (n c c' m : Nat) (xss yss : List (List Int)) (w : World) (h : Rows_ w w.heap.size A n c xss) (h' : Rows_ w w.heap.size A' n c' yss) (H1 : Hid (isTab xss = true)) (H2 : Hid (isTab yss = true))
    (hx : Hid ((row xss 0).length = m)) (hy : Hid ((row yss 0).length = m)) :
    Calls Try.prog 44 #[.slice A n c, .slice A' n c'] w fun e w' => ∃ A3 n3 c3, e = .returned (.tuple #[.slice A3 n3 c3, .int .i64 (addErr n m (addF xss yss))]) ∧ Rows_ w' w'.heap.size A3 n3 c3 (addOut n m (addF xss yss)) ∧ Below w.heap.size w w' := by
  have hm := h.most; have hcap := h.cap
  have hm' := h'.most; have hcap' := h'.cap
  have hl := hide h.len; have hl' := hide h'.len
  have hn : 1 ≤ n ∧ n ≤ 4 := by have := hl.out; have := isTab_parts H1.out; omega
  obtain ⟨hn1, hn2⟩ := hn
  have hmm : 1 ≤ m ∧ m ≤ 8 := by have := hx.out; have := isTab_parts H1.out; omega
  obtain ⟨m1, m2⟩ := hmm
  obtain ⟨b0, off0, _, _, _, rfl, hb0, _, _⟩ := h.at_ 0 (by omega)
  obtain ⟨b0', off0', _, _, _, rfl, hb0', _, _⟩ := h'.at_ 0 (by omega)
  go_enter Try.func44, Try.ntmps44
  go_wp2
  go_loopw [6, 7, 8, 9, 10, 11, 14] (fun v _ _ _ _ _ i wr => ∃ r : Nat, r ≤ n ∧ i = .int .i64 r ∧ FineTo m (addF xss yss) r 0 ∧ OwnedR wr w.heap.size v (tabL r m (addF xss yss)) ∧ Below w.heap.size w wr) (fun _ _ _ _ _ _ i _ => n - (intOf i).toNat)
  case atStart => exact ⟨0, Nat.zero_le _, rfl, ⟨fun r' hr' => by omega, fun i' hi' => by omega⟩, ownedR_nil _ _, Below.refl _ _⟩
  case round =>
    obtain ⟨wo, rfl⟩ : ∃ wo : World, wo = wr := ⟨_, rfl⟩
    obtain ⟨r, hr, rfl, hfine, htr, hbo⟩ := hrel
    have HF := hide hfine; clear hfine
    by_cases hlr : r < n
    · obtain ⟨Ax, nx, cx, hcx, hix⟩ := (h.below hbo).get hlr
      obtain ⟨Ay, ny, cy, hcy, hiy⟩ := (h'.below hbo).get hlr
      have p1 := (isTab_parts H1.out).2.2.2.2 r (by rw [hl.out]; exact hlr)
      have p2 := (isTab_parts H2.out).2.2.2.2 r (by rw [hl'.out]; exact hlr)
      have ex : nx = m := by have := hix.len; have := hx.out; omega
      have ey : ny = m := by have := hiy.len; have := hy.out; omega
      obtain rfl : m = nx := ex.symm
      obtain rfl : m = ny := ey.symm
      have P1 := hide p1; have P2 := hide p2
      clear p1 p2 ex ey
      have hbos := hbo.size
      go_wp2
      go_loopw [9, 10, 11, 21] (fun v _ _ i wr => ∃ k : Nat, k ≤ m ∧ i = .int .i64 k ∧ FineTo m (addF xss yss) r k ∧ Owned wr wo.heap.size v (rowF (addF xss yss) r k) ∧ Below wo.heap.size wo wr) (fun _ _ _ i _ => m - (intOf i).toNat)
      case atStart => exact ⟨0, Nat.zero_le _, rfl, HF.out, World.ownsRow_nil _ _ _ _, Below.refl _ _⟩
      case round =>
        obtain ⟨k, hk, rfl, hfk, htk, hbk⟩ := hrel
        have HK := hide hfk; clear hfk
        by_cases hlk : k < m
        · have hcx' : wr.cell? ⟨b0, off0 + r, none⟩ = some (.slice Ax m cx) := (hbk.cell (by show b0 < wo.heap.size; omega)).trans hcx
          have hcy' : wr.cell? ⟨b0', off0' + r, none⟩ = some (.slice Ay m cy) := (hbk.cell (by show b0' < wo.heap.size; omega)).trans hcy
          obtain ⟨bx, ox, rfl, hbx, hvx⟩ := ((hix.more hbos).below hbk).at_ k hlk
          obtain ⟨by', oy, rfl, hby, hvy⟩ := ((hiy.more hbos).below hbk).at_ k hlk
          have q1 := allIn_at P1.out.2 (k := k) (by rw [P1.out.1, hx.out]; exact hlk)
          have q2 := allIn_at P2.out.2 (k := k) (by rw [P2.out.1, hy.out]; exact hlk)
          obtain ⟨q1a, q1b⟩ := q1
          obtain ⟨q2a, q2b⟩ := q2
          clear hcx hcy
          by_cases hov : 80 < nth (row xss r) k + nth (row yss r) k
          · have HOV := hide (over_yes (F := addF xss yss) hlr hlk hov)
            go_wp2
            go_ret2
            refine ⟨none, 0, 0, by rw [addErr, HOV.out]; rfl, by rw [addOut, HOV.out]; exact Rows_.none_ _ _, hbo.trans (hbk.mono hbos)⟩
          · have hle : addF xss yss r k ≤ 80 := by unfold addF; omega
            have HC := hide (FineTo.col HK.out hle)
            have HR := hide (rowF_succ (addF xss yss) r k)
            have hll : (rowF (addF xss yss) r k).length ≤ 100000 := by rw [rowF_len]; omega
            have hbks := hbk.size
            clear hle
            go_wp2_with (at_builtin; refine wpList_app1 rfl _ _ rfl rfl rfl htk hll hbks ?_; intro v' w2 ho2 hb2)
            go_roundw
            case rel => exact ⟨k + 1, by omega, by go_num, HC.out, by rw [HR.out]; exact ho2, hbk.trans hb2⟩
            case measure => simp [intOf]; omega
        · obtain rfl : m = k := by omega
          have HN := hide (FineTo.next HK.out)
          obtain ⟨A9, n9, c9, rfl, o9, i9⟩ := htk.some_
          have hor := htr.below hbk
          have hlt' := htr.lt
          have hap := o9.elem (g := u6.ownBlock) (fun b hb => (hlt' b hb).2)
          have HAP := hide hap; clear hap hlt'
          have HTL := hide (tabL_succ r m (addF xss yss))
          have hll : (tabL r m (addF xss yss)).length ≤ 1000000 := by rw [tabL_len]; omega
          have hbase := (hbo.trans (hbk.mono hbos)).size
          have hbb := hbo.trans (hbk.mono hbos)
          clear htk hcx hcy
          go_wp2_with (at_builtin; refine wpList_appR (v := u6) rfl _ _ rfl rfl rfl hor i9 HAP.out hll hbase ?_; intro v' w2 ho2 hb2)
          go_roundw
          case rel => exact ⟨r + 1, by omega, by go_num, HN.out, by rw [HTL.out]; exact ho2, hbb.trans hb2⟩
          case measure => simp [intOf]; omega
    · obtain rfl : n = r := by omega
      have HOV := hide (over_no HF.out)
      obtain ⟨A9, n9, c9, rfl, r9⟩ := htr.to
      go_wp2
      go_ret2
      refine ⟨_, _, _, by rw [addErr, HOV.out]; rfl, by rw [addOut, HOV.out]; exact r9, hbo⟩
end Go.Proofs.Ytdlbahoenhhkdaa
