/-
  slices.Contains at numbers, total of the reference, plus of the program.
-/
import Derived.Test.YtabgifpenegofaaX6
namespace Go.Proofs.Ytabgifpenegofaa
open Go.RowKit

def NoneTo (xs : List Int) (z : Int) (k : Nat) : Prop := ∀ j, j < k → nth xs j ≠ z
def Says (r z : Int) (xs : List Int) : Prop := decide (0 ≤ r) = decide (z ∈ xs)
/-- slices.Index of a number that may be in the slice. -/
theorem index_any (A : Option Addr) (n c : Nat) (xs : List Int) (z : Int) (w : World) (B : Nat) (h : Ints w B A n c xs) :
    Calls Try.prog 100 #[.slice A n c, .int .i64 z] w fun e w' => ∃ r : Int, e = .returned (.int .i64 r) ∧ Says r z xs ∧ w = w' := by
  have hm := h.most; have hcap := h.cap
  have hl := hide h.len
  go_enter Try.func100, Try.ntmps100
  go_wp2
  go_loop [5, 8] (fun _ i => ∃ k : Nat, k ≤ n ∧ i = .int .i64 k ∧ NoneTo xs z k) (fun _ i => n - (intOf i).toNat)
  case atStart => exact ⟨0, Nat.zero_le _, rfl, by intro j hj; omega⟩
  case round =>
    obtain ⟨k, hk, rfl, hall⟩ := hrel
    have HA := hide hall; clear hall
    by_cases hlt : k < n
    · obtain ⟨b, off, rfl, hb, hc⟩ := h.at_ k hlt
      by_cases he : z = nth xs k
      · have he' : (z == nth xs k) = true := by simp [he]
        have HE := hide he; clear he
        go_wp2
        go_ret
        exact ⟨_, rfl, by
          rw [Says, decide_eq_decide]; exact ⟨fun _ => by rw [HE.out]; exact nth_mem (by rw [hl.out]; exact hlt), fun _ => by omega⟩, rfl⟩
      · have he' : (z == nth xs k) = false := by simp [he]
        have HE := hide he; clear he
        go_wp2
        go_round
        case rel => exact ⟨k + 1, by omega, by go_num, by
          intro j hj
          rcases Nat.lt_or_ge j k with h1 | h1
          · exact HA.out j h1
          · obtain rfl : j = k := by omega
            exact fun e => HE.out e.symm⟩
        case measure => simp [intOf]; omega
    · go_wp2
      go_ret
      obtain rfl : k = n := by omega
      exact ⟨_, rfl, by
        rw [Says, decide_eq_decide]; exact ⟨fun hh => by omega, fun hh => by
          obtain ⟨j, hj, e⟩ := mem_nth hh
          exact absurd e (HA.out j (by have := hl.out; omega))⟩, rfl⟩

theorem contains_any (A : Option Addr) (n c : Nat) (xs : List Int) (z : Int) (w : World) (B : Nat) (h : Ints w B A n c xs) :
    Calls Try.prog 65 #[.slice A n c, .int .i64 z] w fun e w' => e = .returned (.bool (decide (z ∈ xs))) ∧ w = w' := by
  go_enter Try.func65, Try.ntmps65
  go_wp2_with fail
  refine (index_any _ _ _ _ _ _ _ h).mono ?_
  rintro e w' ⟨r, rfl, hr, rfl⟩
  have HR := hide hr; clear hr
  go_wp2_with fail
  go_ret
  exact ⟨ret_bool HR.out, rfl⟩
theorem contains_is (A : Option Addr) (n c : Nat) (xs : List Int) (z : Int) (w : World) (B : Nat) (h : Ints w B A n c xs) (b : Bool) (hb : Hid (decide (z ∈ xs) = b)) :
    Calls Try.prog 65 #[.slice A n c, .int .i64 z] w fun e w' => e = .returned (.bool b) ∧ w = w' :=
  (contains_any A n c xs z w B h).mono fun _ _ ⟨he, hw⟩ => ⟨by rw [he, hb.out], hw⟩
def lay2 (w : World) (t : TypeId) (a b c d : Int) : World := ((w.alloc (.cells #[.int .i64 a, .int .i64 b] t)).alloc (.cells #[.int .i64 c, .int .i64 d] t)).alloc (.cells #[.int .i64 0, .int .i64 0] t)
theorem lay2_below (w : World) (t : TypeId) (a b c d : Int) : Below w.heap.size w (lay2 w t a b c d) := (((Below.refl _ w).alloc (Nat.le_refl _) _).alloc (by simp) _).alloc (by simp; omega) _
theorem lay2_size (w : World) (t : TypeId) (a b c d : Int) : (lay2 w t a b c d).heap.size = w.heap.size + 3 := by simp [lay2]
theorem lay2_0 (w : World) (t : TypeId) (a b c d : Int) : (lay2 w t a b c d).heap[w.heap.size]? = some (.cells #[.int .i64 a, .int .i64 b] t (0, 0)) := by
  unfold lay2
  rw [Below.heap_alloc _ _ _ (by simp; omega), Below.heap_alloc _ _ _ (by simp)]; exact heap_new_ w _
theorem lay2_1 (w : World) (t : TypeId) (a b c d : Int) : (lay2 w t a b c d).heap[w.heap.size + 1]? = some (.cells #[.int .i64 c, .int .i64 d] t (0, 0)) := by
  unfold lay2
  rw [Below.heap_alloc _ _ _ (by simp)]
  have := heap_new_ (w.alloc (.cells #[.int .i64 a, .int .i64 b] t)) (.cells #[.int .i64 c, .int .i64 d] t)
  rwa [World.size_alloc] at this
theorem lay2_2 (w : World) (t : TypeId) (a b c d : Int) : (lay2 w t a b c d).heap[w.heap.size + 1 + 1]? = some (.cells #[.int .i64 0, .int .i64 0] t (0, 0)) := by
  unfold lay2
  have := heap_new_ ((w.alloc (.cells #[.int .i64 a, .int .i64 b] t)).alloc (.cells #[.int .i64 c, .int .i64 d] t)) (.cells #[.int .i64 0, .int .i64 0] t)
  rwa [World.size_alloc, World.size_alloc] at this

set_option maxRecDepth 4000 in
set_option maxHeartbeats 3200000 in
theorem plus_any (a b c d : Int) (w : World) (h1 : 0 ≤ a * d ∧ a * d ≤ 4000000000000000000) (h2 : 0 ≤ c * b ∧ c * b ≤ 4000000000000000000) (h3 : 1 ≤ b * d ∧ b * d ≤ 9000000000000000000) (n m : Int) (hf : Hid (Fr (Rat.divInt (a * d + c * b) (b * d)) n m)) :
    Calls Try.prog 86 #[.agg #[.int .i64 a, .int .i64 b], .agg #[.int .i64 c, .int .i64 d]] w fun e w' => e = .returned (.agg #[.int .i64 n, .int .i64 m]) ∧ Below w.heap.size w w' := by
  obtain ⟨W0, hW0⟩ : ∃ W0, W0 = lay2 w 47 a b c d := ⟨_, rfl⟩
  have HB0 := hide (show Below w.heap.size w W0 from by rw [hW0]; exact lay2_below w 47 a b c d)
  have hr := hide (show W0.heap[w.heap.size + 1 + 1]? = some (.cells #[.int .i64 0, .int .i64 0] 47 (0, 0)) from by rw [hW0]; exact lay2_2 w 47 a b c d)
  obtain ⟨x0, x1⟩ := two_at (show W0.heap[w.heap.size]? = some (.cells #[.int .i64 a, .int .i64 b] 47 (0, 0)) from by rw [hW0]; exact lay2_0 w 47 a b c d)
  obtain ⟨y0, y1⟩ := two_at (show W0.heap[w.heap.size + 1]? = some (.cells #[.int .i64 c, .int .i64 d] 47 (0, 0)) from by rw [hW0]; exact lay2_1 w 47 a b c d)
  have hW1 : ((w.alloc (.cells #[.int .i64 a, .int .i64 b] 47)).alloc (.cells #[.int .i64 c, .int .i64 d] 47)).alloc (.cells #[.int .i64 0, .int .i64 0] 47) = W0 := hW0.symm
  clear hW0
  revert h1 h2 h3 hf
  obtain ⟨p, hp⟩ : ∃ p, a * d = p := ⟨_, rfl⟩
  obtain ⟨p2, hp2⟩ : ∃ p, c * b = p := ⟨_, rfl⟩
  obtain ⟨q, hq⟩ : ∃ p, b * d = p := ⟨_, rfl⟩
  rw [hp, hp2, hq]
  rintro ⟨h11, h12⟩ ⟨h21, h22⟩ ⟨h31, h32⟩ hf
  have HC := hide (fun W => quotient_any (p + p2) q W ⟨by omega, by omega⟩ ⟨h31, h32⟩ n m hf)
  go_enter Try.func86, Try.ntmps86
  go_upto_region 1 with fail
  clear hW1
  go_wp2_with fail
  refine ((unhide HC) W0).mono ?_
  rintro e w1 ⟨rfl, b1⟩
  have hr1 := (b1.block _ (Array.getElem?_eq_some_iff.1 (unhide hr)).1).trans (unhide hr)
  have HB1 := hide ((unhide HB0).trans (b1.mono (unhide HB0).size))
  clear b1 x0 x1 y0 y1
  have f0 := free_at hr1 0; have f1 := free_at hr1 1
  obtain ⟨q0, q1⟩ := two_at hr1
  have HPq := hide (put2 hr1 (.int .i64 n) (.int .i64 m))
  have HBq := hide (below_put2 (unhide HB1) (b := w.heap.size + 1 + 1) (by omega) (.int .i64 n) (.int .i64 m))
  clear hr1
  go_wp2_with fail
  obtain ⟨s0, s1⟩ := two_at (unhide HPq)
  exact bodyPost_ret (v := .agg #[.int .i64 n, .int .i64 m]) (by simp [results, Try.results86, go_sem, s0, s1]) rfl ⟨rfl, unhide HBq⟩

theorem divInt_add {p q : Rat} : Rat.divInt (p.num * (q.den : Int) + q.num * (p.den : Int)) ((p.den : Int) * (q.den : Int)) = p + q := by
  have h1 : (p.den : Int) ≠ 0 := by have := p.den_pos; omega
  have h2 : (q.den : Int) ≠ 0 := by have := q.den_pos; omega
  rw [← Rat.divInt_add_divInt _ _ h1 h2, Rat.num_divInt_den, Rat.num_divInt_den]
theorem divInt_same {A B L : Int} : Rat.divInt A L + Rat.divInt B L = Rat.divInt (A + B) L := by
  rw [Rat.divInt_eq_div, Rat.divInt_eq_div, Rat.divInt_eq_div, Rat.intCast_add, Rat.div_def, Rat.div_def, Rat.div_def]
  generalize ((L : Int) : Rat)⁻¹ = x
  grind
theorem exists_fr (q : Rat) : ∃ n d : Int, Fr q n d := ⟨q.num, q.den, rfl, rfl⟩
/-- What stands above and below in lowest terms is no greater, and above it is from 0 on. -/
theorem fr_bd {a b n d : Int} (h : Fr (Rat.divInt a b) n d) (ha : 0 ≤ a) (hb : 0 < b) : (0 ≤ n ∧ n ≤ a) ∧ (1 ≤ d ∧ d ≤ b) := by
  have hf := fr_of (a := a) hb
  have h1 := h.1; have h2 := h.2
  rw [hf.1] at h1
  rw [hf.2] at h2
  have hd := h.pos
  have e1 := Int.natAbs_tdiv_le_natAbs a (Nat.gcd a.natAbs b.natAbs : Nat)
  have e2 := Int.natAbs_tdiv_le_natAbs b (Nat.gcd a.natAbs b.natAbs : Nat)
  have e3 : 0 ≤ a.tdiv (Nat.gcd a.natAbs b.natAbs : Nat) := Int.tdiv_nonneg ha (Int.natCast_nonneg _)
  omega

set_option maxHeartbeats 400000 in
theorem total_any (A : Option Addr) (n c : Nat) (xs : List Int) (w : World) (B : Nat) (h : Ints w B A n c xs) (hn : n ≤ 1000) (hx : ∀ k, 0 ≤ nth xs k ∧ nth xs k ≤ 1000) :
    Calls Try.prog 78 #[.slice A n c] w fun e w' => e = .returned (.int .i64 xs.sum) ∧ w = w' := by
  have hm := h.most; have hcap := h.cap
  have hl := hide h.len
  go_enter Try.func78, Try.ntmps78
  go_wp2_with fail
  go_loop [3, 5, 8] (fun s _ i => ∃ k : Nat, ∃ z : Int, k ≤ n ∧ i = .int .i64 k ∧ s = .int .i64 z ∧ (0 ≤ z ∧ z ≤ 1000 * (k : Int)) ∧ Hid (z = (xs.take k).sum)) (fun _ _ i => n - (intOf i).toNat)
  case atStart => exact ⟨0, 0, Nat.zero_le _, rfl, rfl, by omega, hide (by simp)⟩
  case round =>
    obtain ⟨k, z, hk, rfl, rfl, ⟨z1, z2⟩, HZ⟩ := hrel
    by_cases hlt : k < n
    · obtain ⟨b, off, rfl, hb, hc⟩ := h.at_ k hlt
      obtain ⟨x1, x2⟩ := hx k
      have HS := hide (sum_snoc xs k (by rw [hl.out]; exact hlt))
      go_wp2_with fail
      go_round
      case rel => exact ⟨k + 1, z + nth xs k, by omega, by go_num, by go_num, by omega, hide (by rw [HS.out, HZ.out])⟩
      case measure => simp [intOf]; omega
    · have HE := hide (show z = xs.sum from by rw [HZ.out, List.take_of_length_le (by rw [hl.out]; omega)])
      go_wp2_with fail
      go_ret
      exact ⟨ret_int HE.out, rfl⟩
end Go.Proofs.Ytabgifpenegofaa
