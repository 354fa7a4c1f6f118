/-
  settle of the program.
-/
import Derived.Test.YtjhicbiacnkpaaaDoorW7
namespace Go.Proofs.YtjhicbiacnkpaaaDoor
open Go.RowKit

theorem alloc_sz (w : World) (o : Obj) : (w.alloc o).heap.size = w.heap.size + 1 := by simp
/-- All are sets of at most 62 squares. -/
def AllN (xs : List Int) (n : Nat) : Prop := ∀ k, k < n → ∃ y : Nat, nth xs k = (y : Int) ∧ y < 4611686018427387904
/-- What settle answers. -/
def stR (s f e : Nat) (xs : List Int) (n : Nat) : Nat × Nat × Bool :=
  if (stT s f e xs n).2.2 = true then (f ||| (stT s f e xs n).1, e ||| (stT s f e xs n).2.1, true) else (0, 0, false)

set_option maxRecDepth 100000 in
set_option maxHeartbeats 1000000 in
theorem settle_any (s f e : Nat) (hf : f < 4611686018427387904) (he : e < 4611686018427387904) (hs : s < 4611686018427387904) (A : Option Addr) (n c : Nat) (xs : List Int) (w : World) (h : Ints w w.heap.size A n c xs) (HX : Hid (AllN xs n))
    (u v : Nat) (ok : Bool) (HU : Hid (stR s f e xs n = (u, v, ok))) :
    Calls Tryd.prog 67 #[.agg #[.int .i64 s, .slice A n c], .agg #[.int .i64 f, .int .i64 e]] w fun r w' => r = .returned (.tuple #[.agg #[.int .i64 u, .int .i64 v], .bool ok]) ∧ Below w.heap.size w w' := by
  have hm := h.most; have hcap := h.cap
  go_enter Tryd.func67, Tryd.ntmps67
  go_wp2_with fail
  go_quiet (fail)
  go_wp2_with fail
  obtain ⟨W0, hW0⟩ : ∃ W0 : World, W0 = (((w.alloc (.cells #[.int .i64 s, .slice A n c] 78)).alloc (.cells #[.int .i64 f, .int .i64 e] 80)).alloc (.cells #[.int .i64 0, .int .i64 0] 80)).drewN nq := ⟨_, rfl⟩
  have HB0 := hide (show Below w.heap.size w W0 from by
    rw [hW0]; exact Below.drewN' ((((Below.refl _ w).alloc (Nat.le_refl _) _).alloc (by simp) _).alloc (by simp; omega) _) _)
  have hsz : W0.heap.size = w.heap.size + 1 + 1 + 1 := by rw [hW0]; simp
  have K2 : Blk W0 w.heap.size 78 #[.int .i64 s, .slice A n c] := by
    rw [hW0]; exact (((Blk.new w _ _).alloc _).alloc _).drewN _
  have K3 : Blk W0 (w.heap.size + 1) 80 #[.int .i64 f, .int .i64 e] := by
    rw [hW0]
    have := Blk.new (w.alloc (.cells #[.int .i64 s, .slice A n c] 78)) 80 #[.int .i64 f, .int .i64 e]
    rw [alloc_sz] at this
    exact (this.alloc _).drewN _
  have K4 : Blk W0 (w.heap.size + 1 + 1) 80 #[.int .i64 0, .int .i64 0] := by
    rw [hW0]
    have := Blk.new ((w.alloc (.cells #[.int .i64 s, .slice A n c] 78)).alloc (.cells #[.int .i64 f, .int .i64 e] 80)) 80 #[.int .i64 0, .int .i64 0]
    rw [alloc_sz, alloc_sz] at this
    exact this.drewN _
  rw [← hW0]
  clear hW0
  have HZ := hide hsz; clear hsz
  replace K2 := hide K2; replace K3 := hide K3; replace K4 := hide K4
  have hi0 := hide ((h.below (unhide HB0)))
  have HF := hide hf; have HE := hide he; have HSS := hide hs
  go_loopw [5, 6, 7, 9, 17] (fun o x y _ i wr => ∃ (k a b : Nat) (ok : Bool), k ≤ n ∧ i = .int .i64 k ∧ o = .bool ok ∧ x = .int .i64 a ∧ y = .int .i64 b ∧ Hid (stT s f e xs k = (a, b, ok)) ∧ (a ≤ s ∧ b ≤ s) ∧ Below W0.heap.size W0 wr) (fun _ _ _ _ i _ => n - (intOf i).toNat)
  case atStart => exact ⟨0, s, s, false, Nat.zero_le _, rfl, rfl, rfl, rfl, hide rfl, ⟨Nat.le_refl _, Nat.le_refl _⟩, Below.refl _ _⟩
  case round =>
    obtain ⟨k, a, b, o, hk, rfl, rfl, rfl, rfl, HT, ⟨ha, hb⟩, hbl⟩ := hrel
    have k2 := hide ((unhide K2).below hbl (by have := HZ.out; omega))
    have k3 := hide ((unhide K3).below hbl (by have := HZ.out; omega))
    have k4 := hide ((unhide K4).below hbl (by have := HZ.out; omega))
    have hsw := hbl.size
    by_cases hlt : k < n
    · obtain ⟨bb, off, rfl, hb0, hc⟩ := (((unhide hi0).below (hbl.mono (by have := HZ.out; omega)))).at_ k hlt
      obtain ⟨y, hy, hyb⟩ := HX.out k hlt
      have hy' := hide hy
      rw [hy] at hc
      clear hy
      have q1 : wr.cell? ⟨w.heap.size, 0, none⟩ = some (.int .i64 s) := (unhide k2).cell 0
      have q2 : wr.cell? ⟨w.heap.size + 1, 0, none⟩ = some (.int .i64 f) := (unhide k3).cell 0
      have q3 : wr.cell? ⟨w.heap.size + 1, 1, none⟩ = some (.int .i64 e) := (unhide k3).cell 1
      have a1 := and_n a y (by omega) (by omega)
      have a2 := andNot_n b y (by omega) (by omega)
      have a3 : a &&& y ≤ a := Nat.and_le_left
      have a4 := ndn_le b y
      cases hag : agB f e s y with
      | true =>
        have HG := hide hag; clear hag
        have HN := hide (show stT s f e xs (k + 1) = (a &&& y, ndn b y, true) from by
          have hty : (nth xs k).toNat = y := by rw [hy'.out]; simp
          have hg' : agB f e s (nth xs k).toNat = true := by rw [hty]; exact HG.out
          rw [stT_yes hg', HT.out, hty])
        go_wp2_with fail
        refine (agrees_any f e s y (unhide HF) (unhide HE) (unhide HSS) hyb _ true HG).mono ?_
        rintro r w1 ⟨rfl, hd⟩
        go_wp2_with fail
        go_roundw
        case rel => exact ⟨k + 1, a &&& y, ndn b y, true, by omega, by go_num, rfl, rfl, rfl, HN, ⟨by omega, by omega⟩, hbl.trans (hd.mono hsw)⟩
        case measure => simp [intOf]; omega
      | false =>
        have HG := hide hag; clear hag
        have HN := hide (show stT s f e xs (k + 1) = (a, b, o) from by
          have hty : (nth xs k).toNat = y := by rw [hy'.out]; simp
          have hg' : agB f e s (nth xs k).toNat = false := by rw [hty]; exact HG.out
          rw [stT_no hg', HT.out])
        go_wp2_with fail
        refine (agrees_any f e s y (unhide HF) (unhide HE) (unhide HSS) hyb _ false HG).mono ?_
        rintro r w1 ⟨rfl, hd⟩
        go_wp2_with fail
        go_roundw
        case rel => exact ⟨k + 1, a, b, o, by omega, by go_num, rfl, rfl, rfl, HN, ⟨by omega, by omega⟩, hbl.trans (hd.mono hsw)⟩
        case measure => simp [intOf]; omega
    · obtain rfl : k = n := by omega
      have HBF := hide ((unhide HB0).trans (hbl.mono (by have := HZ.out; omega)))
      cases o with
      | true =>
        have HR := hide (show (f ||| a, e ||| b, true) = (u, v, ok) from by rw [← HU.out]; unfold stR; rw [HT.out]; simp)
        have a1 := or_n f a (unhide HF) (by have := HSS.out; omega)
        have a2 := or_n e b (unhide HE) (by have := HSS.out; omega)
        have q2 : wr.cell? ⟨w.heap.size + 1, 0, none⟩ = some (.int .i64 f) := (unhide k3).cell 0
        have q3 : wr.cell? ⟨w.heap.size + 1, 1, none⟩ = some (.int .i64 e) := (unhide k3).cell 1
        have q4 : wr.cell? ⟨w.heap.size + 1 + 1, 0, none⟩ = some (.int .i64 0) := (unhide k4).cell 0
        have q5 : wr.cell? ⟨w.heap.size + 1 + 1, 1, none⟩ = some (.int .i64 0) := (unhide k4).cell 1
        have q6 : wr.frozen? ⟨w.heap.size + 1 + 1, 0, none⟩ = false := (unhide k4).frozen 0
        have q7 : wr.frozen? ⟨w.heap.size + 1 + 1, 1, none⟩ = false := (unhide k4).frozen 1
        go_wp2_with fail
        have r1 := put2 (unhide k4) (.int .i64 ((f ||| a : Nat) : Int)) (.int .i64 ((e ||| b : Nat) : Int))
        obtain ⟨z1, z2⟩ := two_at r1
        refine bodyPost_ret (v := .tuple #[.agg #[.int .i64 ((f ||| a : Nat) : Int), .int .i64 ((e ||| b : Nat) : Int)], .bool true]) (by simp [results, Tryd.results67, go_sem, z1, z2]) rfl ⟨?_, below_put2 (unhide HBF) (by omega) _ _⟩
        have e1 := HR.out
        simp only [Prod.mk.injEq] at e1
        obtain ⟨rfl, rfl, rfl⟩ := e1
        rfl
      | false =>
        have HR := hide (show ((0 : Nat), (0 : Nat), false) = (u, v, ok) from by rw [← HU.out]; unfold stR; rw [HT.out]; simp)
        have q4 : wr.cell? ⟨w.heap.size + 1 + 1, 0, none⟩ = some (.int .i64 0) := (unhide k4).cell 0
        have q5 : wr.cell? ⟨w.heap.size + 1 + 1, 1, none⟩ = some (.int .i64 0) := (unhide k4).cell 1
        have q6 : wr.frozen? ⟨w.heap.size + 1 + 1, 0, none⟩ = false := (unhide k4).frozen 0
        have q7 : wr.frozen? ⟨w.heap.size + 1 + 1, 1, none⟩ = false := (unhide k4).frozen 1
        go_wp2_with fail
        have r1 := put2 (unhide k4) (.int .i64 0) (.int .i64 0)
        obtain ⟨z1, z2⟩ := two_at r1
        refine bodyPost_ret (v := .tuple #[.agg #[.int .i64 0, .int .i64 0], .bool false]) (by simp [results, Tryd.results67, go_sem, z1, z2]) rfl ⟨?_, below_put2 (unhide HBF) (by omega) _ _⟩
        have e1 := HR.out
        simp only [Prod.mk.injEq] at e1
        obtain ⟨rfl, rfl, rfl⟩ := e1
        rfl
end Go.Proofs.YtjhicbiacnkpaaaDoor
