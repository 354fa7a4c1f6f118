/-
  Tell of the program.
-/
import Derived.Test.YtjhicbiacnkpaaaDoorW8
namespace Go.Proofs.YtjhicbiacnkpaaaDoor
open Go.RowKit

theorem all_is (m s : Nat) (h1 : 1 ≤ m) (h2 : m ≤ 5) (hs : Hid (s + 1 = 2 ^ m)) (w : World) : Calls Tryd.prog 66 #[.int .i64 m] w fun e w' => e = .returned (.int .i64 s) ∧ w = w' := by
  refine (all_any m (2 ^ m) h1 h2 (hide rfl) w).mono fun e w' ⟨he, hw⟩ => ⟨?_, hw⟩
  rw [he, ← hs.out]
  exact ret_int (by omega)
theorem AllN_ln (m : Nat) (hm : m ≤ 5) (xs : List Int) (n : Nat) (hn : (lnL m xs).length = n) : AllN (lnL m xs) n := fun k hk => by
  obtain ⟨y, h1, h2, _⟩ := lnT_at xs (2 ^ m) k (by show k < (lnL m xs).length; omega)
  exact ⟨y, h1, by have := pow_le (n := m) (by omega); omega⟩
theorem ars_two (x f e : Int) : ars x [f, e] = (setB x f && setB x e) := by
  unfold ars
  cases h : sz x with
  | true => simp
  | false => simp [setB, h]

set_option maxRecDepth 100000 in
set_option maxHeartbeats 1000000 in
theorem Tell_ok (m s f e : Nat) (h1 : 1 ≤ m) (h2 : m ≤ 5) (hs : Hid (s + 1 = 2 ^ m)) (A : Option Addr) (n c : Nat) (xs : List Int) (w : World) (h : Ints w w.heap.size A n c xs) (ht : Tab w)
    (hc : Hid (clB m xs = true)) (hfe : Hid (setB m f = true ∧ setB m e = true)) (hfe0 : Hid (f &&& e = 0)) (u v : Nat) (ok : Bool) (HU : Hid (stR s f e (lnL m xs) (lnL m xs).length = (u, v, ok))) (k : Int) (HK : Hid (k = if ok then 0 else 4)) :
    Calls Tryd.prog 27 #[.int .i64 m, .slice A n c, .int .i64 f, .int .i64 e] w fun r w' => r = .returned (.tuple #[.int .i64 u, .int .i64 v, .int .i64 k]) ∧ Below w.heap.size w w' := by
  have hs32 : s < 32 := by have := hs.out; have := pow_le (n := m) (by omega); omega
  have hf32 : f < 32 := by obtain ⟨k, hk, hk2⟩ := (setB_iff h1 h2 f).1 hfe.out.1; have := pow_le (n := m) (by omega); omega
  have he32 : e < 32 := by obtain ⟨k, hk, hk2⟩ := (setB_iff h1 h2 e).1 hfe.out.2; have := pow_le (n := m) (by omega); omega
  have HA := hide (show ars m [(f : Int), (e : Int)] = true from by rw [ars_two, hfe.out.1, hfe.out.2]; rfl)
  have a1 : bits BinOp.and IntKind.i64 (f : Int) (e : Int) = 0 := by rw [and_n f e (by omega) (by omega), hfe0.out]; rfl
  have hi2 := ints_two w f e
  have hb0 := (Below.refl w.heap.size w).alloc (Nat.le_refl _) (.cells #[.int .i64 (f : Int), .int .i64 (e : Int)] 3)
  have ht0 := hide (ht.on hb0)
  have hi0 := hide (h.on hb0)
  replace hb0 := hide hb0
  clear ht
  go_enter Tryd.func27, Tryd.ntmps27
  go_wp2_with fail
  refine (isClue_any _ (by omega) _ _ _ _ _ _ h).mono ?_
  rintro r w' ⟨rfl, rfl⟩
  rw [hc.out]
  go_wp2_with fail
  refine (areSets_any _ _ _ _ _ _ _ hi2).mono ?_
  rintro r w' ⟨rfl, rfl⟩
  rw [HA.out]
  go_wp2_with fail
  refine (all_is m s h1 h2 hs _).mono ?_
  rintro r w' ⟨rfl, rfl⟩
  go_wp2_with fail
  refine (lines_ints m h1 h2 _ _ _ _ _ (unhide hi0) (unhide ht0)).mono ?_
  rintro r w1 ⟨A1, n1, c1, rfl, i1, b1⟩
  have hlen := hide i1.len
  have i1' := i1.on ((Below.refl w1.heap.size w1).alloc (Nat.le_refl _) (.cells #[.int .i64 (s : Int), .slice A1 n1 c1] 78))
  replace i1' := hide i1'
  have hb1 := hide (((unhide hb0).trans (b1.mono (by simp))).trans (((Below.refl w1.heap.size w1).alloc (Nat.le_refl _) (.cells #[.int .i64 (s : Int), .slice A1 n1 c1] 78)).mono (Nat.le_trans (unhide hb0).size b1.size)))
  clear b1 i1
  have HX := hide (AllN_ln m h2 xs n1 hlen.out)
  have HU' := hide (show stR s f e (lnL m xs) n1 = (u, v, ok) from by rw [← hlen.out]; exact HU.out)
  go_wp2_with fail
  refine (settle_any s f e (by omega) (by omega) (by omega) A1 n1 c1 _ _ (unhide i1') HX u v ok HU').mono ?_
  rintro r w2 ⟨rfl, b2⟩
  have hb2 := hide ((unhide hb1).trans (b2.mono (unhide hb1).size))
  clear b2
  cases ok with
  | true =>
    have K0 : k = 0 := by have := HK.out; simpa using this
    subst K0
    clear HK
    go_wp2_with fail
    go_quiet (fail)
    go_wp2_with fail
    go_ret3
    exact ⟨rfl, Below.drewN' ((unhide hb2).alloc (unhide hb2).size _) _⟩
  | false =>
    have K0 : k = 4 := by have := HK.out; simpa using this
    subst K0
    have e0 := HU.out
    have eu : u = 0 ∧ v = 0 := by
      unfold stR at e0
      split at e0
      · simp at e0
      · simp only [Prod.mk.injEq] at e0; omega
    obtain ⟨rfl, rfl⟩ := eu
    clear HK e0
    go_wp2_with fail
    go_ret3
    exact ⟨rfl, (unhide hb2).alloc (unhide hb2).size _⟩
end Go.Proofs.YtjhicbiacnkpaaaDoor
