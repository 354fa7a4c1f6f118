import Derived.Test.YtmpdalcdkibgpaaN8
import Derived.Deep.RegionLaw
namespace Go.Proofs.Ytmpdalcdkibgpaa
open Go.RowKit Go.Sort

/-- The others than the one at k. -/
def less1 (xs : List Int) (k : Nat) : List Int := xs.take k ++ xs.drop (k + 1)
/-- The sum over the first k shares at the first number. -/
def PwTo (xs : List Int) (a : Int) (az : List Int) : Nat → Int
  | 0 => 0
  | k + 1 => PwTo xs a az k + pwr a (nth xs k).toNat * Pw (less1 xs k) az
theorem PwTo_sm (a : Int) (az : List Int) (F : List Int → List Int) : ∀ (xs : List Int), sm (fun s => pwr a s.1.toNat * Pw (F s.2) az) (sel xs) = sm (fun k => pwr a (nth xs k).toNat * Pw (F (less1 xs k)) az) (List.range xs.length) := by
  intro xs
  induction xs generalizing F with
  | nil => rfl
  | cons x l ih =>
    rw [List.length_cons, List.range_succ_eq_map, sel, sm, sm, sm_map, sm_map, ih (fun r => F (x :: r))]
    congr 1
theorem PwTo_eq (xs : List Int) (a : Int) (az : List Int) : PwTo xs a az xs.length = Pw xs (a :: az) := by
  have key : ∀ k, PwTo xs a az k = sm (fun k => pwr a (nth xs k).toNat * Pw (less1 xs k) az) (List.range k) := by
    intro k
    induction k with
    | zero => rfl
    | succ k ih => rw [PwTo, ih, List.range_succ, sm_app]; simp [sm]
  rw [key, Pw]
  exact (PwTo_sm a az id xs).symm
def bd : Nat → Int
  | 0 => 1
  | k + 1 => ((k : Int) + 1) * (15625 * bd k)
theorem bd_le {n : Nat} (h : n ≤ 4) : 1 ≤ bd n ∧ bd n ≤ 1430511474609375000 := by
  have : n = 0 ∨ n = 1 ∨ n = 2 ∨ n = 3 ∨ n = 4 := by omega
  rcases this with rfl | rfl | rfl | rfl | rfl <;> decide
/-- The numbers of a sum of powers. -/
structure PwL (n : Nat) (xs az : List Int) : Prop where
  lx : xs.length = n
  la : az.length = n
  ex : ∀ v ∈ xs, 0 ≤ v ∧ v ≤ 6
  ba : ∀ v ∈ az, 1 ≤ v ∧ v ≤ 5
theorem less1_length {xs : List Int} {k : Nat} (h : k < xs.length) : (less1 xs k).length + 1 = xs.length := by simp [less1]; omega
theorem less1_sub (xs : List Int) (k : Nat) : ∀ v ∈ less1 xs k, v ∈ xs := by
  intro v h
  rcases List.mem_append.1 h with h | h
  · exact List.mem_of_mem_take h
  · exact List.mem_of_mem_drop h
theorem PwL.down {n : Nat} {xs az : List Int} {a : Int} (h : PwL (n + 1) xs (a :: az)) {k : Nat} (hk : k < n + 1) : PwL n (less1 xs k) az :=
  ⟨by have := less1_length (xs := xs) (k := k) (by rw [h.lx]; exact hk); have := h.lx; omega, by have := h.la; simpa using this, fun v hv => h.ex v (less1_sub _ _ v hv), fun v hv => h.ba v (by simp [hv])⟩
theorem Pw_bd : ∀ (n : Nat) (xs az : List Int), PwL n xs az → 0 ≤ Pw xs az ∧ Pw xs az ≤ bd n := by
  intro n
  induction n with
  | zero =>
    intro xs az h
    have : az = [] := List.eq_nil_of_length_eq_zero h.la
    subst this
    simp [Pw, bd]
  | succ n ih =>
    intro xs az h
    rcases az with _ | ⟨a, az⟩
    · have := h.la; simp at this
    · have key : ∀ k : Nat, k ≤ n + 1 → 0 ≤ PwTo xs a az k ∧ PwTo xs a az k ≤ k * (15625 * bd n) := by
        intro k
        induction k with
        | zero => intro _; simp [PwTo]
        | succ k ihk =>
          intro hk
          obtain ⟨i1, i2⟩ := ihk (by omega)
          obtain ⟨j1, j2⟩ := ih _ _ (h.down (k := k) hk)
          obtain ⟨e1, e2⟩ := h.ex (nth xs k) (by simp [nth, List.getD, show k < xs.length by rw [h.lx]; exact hk])
          obtain ⟨b1, b2⟩ := h.ba a (by simp)
          have p1 := pwr_pos b1 (nth xs k).toNat
          have p2 := pwr_le b1 b2 (k := (nth xs k).toNat) (by omega)
          have m1 := Int.mul_nonneg (a := pwr a (nth xs k).toNat) (by omega) j1
          have m2 := Int.mul_le_mul p2 j2 j1 (by omega)
          rw [PwTo]
          have e : ((k + 1 : Nat) : Int) * (15625 * bd n) = k * (15625 * bd n) + 15625 * bd n := by
            rw [Int.natCast_succ, Int.add_mul, Int.one_mul]
          omega
      have := key (n + 1) (Nat.le_refl _)
      rw [← PwTo_eq, h.lx]
      simpa [bd] using this
/-- Bounds of what has been added up. -/
theorem PwTo_bd {n : Nat} {xs az : List Int} {a : Int} (hn : n + 1 ≤ 4) (h : PwL (n + 1) xs (a :: az)) : ∀ k : Nat, k ≤ n + 1 → 0 ≤ PwTo xs a az k ∧ PwTo xs a az k ≤ 1430511474609375000 := by
  intro k hk
  have mono : ∀ j, j ≤ n + 1 → 0 ≤ PwTo xs a az j ∧ ∀ i, i ≤ j → PwTo xs a az i ≤ PwTo xs a az j := by
    intro j
    induction j with
    | zero =>
      intro _
      refine ⟨by simp [PwTo], fun i hi => ?_⟩
      obtain rfl : i = 0 := by omega
      exact Int.le_refl _
    | succ j ihj =>
      intro hj
      obtain ⟨i1, i2⟩ := ihj (by omega)
      have j1 := (Pw_bd n _ _ (h.down (k := j) hj)).1
      have b1 := (h.ba a (by simp)).1
      have p1 := pwr_pos b1 (nth xs j).toNat
      have m1 := Int.mul_nonneg (a := pwr a (nth xs j).toNat) (by omega) j1
      refine ⟨by rw [PwTo]; omega, fun i hi => ?_⟩
      rcases Nat.lt_or_ge i (j + 1) with h1 | h1
      · have := i2 i (by omega); rw [PwTo]; omega
      · obtain rfl : i = j + 1 := by omega
        exact Int.le_refl _
  obtain ⟨m1, m2⟩ := mono (n + 1) (Nat.le_refl _)
  have top := (Pw_bd (n + 1) _ _ h).2
  rw [← PwTo_eq, h.lx] at top
  exact ⟨(mono k hk).1, Int.le_trans (m2 k hk) (Int.le_trans top (bd_le hn).2)⟩

def RPAt (n : Nat) : Prop := ∀ (A A' : Option Addr) (c c' : Nat) (xs az : List Int) (w : World), Ints w w.heap.size A n c xs → Ints w w.heap.size A' n c' az → PwL n xs az →
    Calls Try.prog 43 #[.slice A n c, .slice A' n c'] w fun e w' => e = .returned (.int .i64 (Pw xs az)) ∧ Below w.heap.size w w'

set_option maxHeartbeats 1000000 in
theorem rp_zero : RPAt 0 := by
  intro A A' c c' xs az w h h' hp
  have hz := hide (show Pw xs az = 1 from by
    have : az = [] := List.eq_nil_of_length_eq_zero hp.la
    subst this; simp [Pw])
  clear hp
  go_enter Try.func43, Try.ntmps43
  go_wp2_with fail
  go_ret
  exact ⟨by rw [hz.out]; rfl, Below.refl _ _⟩

set_option maxRecDepth 4000 in
set_option maxHeartbeats 8000000 in
theorem rp_succ (n : Nat) (hn : n + 1 ≤ 4) (ih : RPAt n) : RPAt (n + 1) := by
  intro A A' c c' xs az w h h' hp
  rcases az with _ | ⟨a, az⟩
  · have := hp.la; simp at this
  obtain ⟨b, off, rfl, hbB, _⟩ := h.at_ 0 (by omega)
  obtain ⟨b', off', rfl, hbB', ca⟩ := h'.at_ 0 (by omega)
  rw [show nth (a :: az) 0 = a from rfl, Nat.add_zero] at ca
  obtain ⟨ha1, ha5⟩ := hp.ba a (by simp)
  have hpos := hide (pwr_pos ha1)
  have hle := hide (fun k hk => pwr_le ha1 ha5 (k := k) hk)
  have hx6 := hide (show ∀ k, k < n + 1 → 0 ≤ nth xs k ∧ nth xs k ≤ 6 from fun k hk => hp.ex _ (by simp [nth, List.getD, show k < xs.length by rw [hp.lx]; exact hk]))
  have hm := h.most; have hcap := h.cap; have hm' := h'.most; have hcap' := h'.cap
  have HP := hide hp; have HX := hide h; have HA := hide h'
  clear hp h h'
  go_enter Try.func43, Try.ntmps43
  go_wp2_with fail
  go_loopw [15, 5] (fun i v wr => ∃ (k : Nat) (z : Int), k ≤ n + 1 ∧ i = .int .i64 k ∧ v = .int .i64 z ∧ Hid (z = PwTo xs a az k) ∧ Below w.heap.size w wr) (fun i _ _ => n + 1 - (intOf i).toNat)
  case atStart => exact ⟨0, 0, Nat.zero_le _, rfl, rfl, hide rfl, Below.refl _ _⟩
  case round =>
    obtain ⟨k, z, hk, rfl, rfl, hz, hbl⟩ := hrel
    have HB := hide hbl; clear hbl
    by_cases hlt : k < n + 1
    · obtain ⟨hx0, hx1⟩ := hx6.out k hlt
      obtain ⟨e, he⟩ : ∃ e : Nat, nth xs k = e := ⟨(nth xs k).toNat, by omega⟩
      rw [he] at hx1
      have HX1 := hide (((unhide HX).below (unhide HB)).more (unhide HB).size)
      have HA1 := hide (((unhide HA).below (unhide HB)).more (unhide HB).size)
      obtain ⟨b0, o0, e0, _, cx⟩ := (unhide HX1).at_ k hlt
      cases e0
      rw [he] at cx
      have ca1 := ((unhide HB).cell (p := ⟨b', off', none⟩) hbB').trans ca
      have he6 : e ≤ 6 := by omega
      obtain ⟨t1, t2⟩ := PwTo_bd hn (unhide HP) k hk
      obtain ⟨t3, t4⟩ := PwTo_bd hn (unhide HP) (k + 1) hlt
      rw [← hz.out] at t1 t2
      obtain ⟨zz, hzz⟩ : ∃ zz, PwTo xs a az (k + 1) = zz := ⟨_, rfl⟩
      rw [hzz] at t3 t4
      have hstep := hide (show zz = z + pwr a e * Pw (less1 xs k) az from by rw [← hzz, PwTo, hz.out, he, Int.toNat_natCast])
      have Hzz := hide hzz.symm
      have hdown := hide ((unhide HP).down hlt)
      have hL := hide ((unhide HX1).cut (k := k) (by omega))
      have hR := (unhide HX1).from_at (k := k + 1) (by omega)
      rw [show n + 1 - (k + 1) = n - k from by omega] at hR
      have hR := hide hR
      have hA2 := hide ((unhide HA1).from_at (k := 1) (by omega))
      have hin : (k : Int) + 1 ≤ (n : Int) + 1 := by omega
      have hwr : IntKind.i64.wrap ((k : Int) + 1) = (k : Int) + 1 := by rw [IntKind.wrap_i64]; omega
      have htn : ((k : Int) + 1).toNat = k + 1 := by omega
      have h00 : (0 : Int) ≤ (k : Int) + 1 := by omega
      have hjc : k ≤ c := by omega
      have hjc' : (k : Int) ≤ (c : Int) := by omega
      have hjn : k ≤ n := by omega
      have hjn' : (k : Int) ≤ (n : Int) := by omega
      clear hzz he hx0
      go_wp2_with fail
      go_loopw [21, 8] (fun i v wr2 => ∃ (j : Nat) (u : Int), j ≤ e ∧ i = .int .i64 j ∧ v = .int .i64 u ∧ Hid (u = pwr a j) ∧ wr2 = wr) (fun i _ _ => e - (intOf i).toNat)
      case atStart => exact ⟨0, 1, Nat.zero_le _, rfl, rfl, hide rfl, rfl⟩
      case round =>
        obtain ⟨j, u, hj, rfl, rfl, hu, rfl⟩ := hrel
        by_cases hlt2 : j < e
        · obtain ⟨p, hpp⟩ : ∃ p, u * a = p := ⟨_, rfl⟩
          have hp2 := hide (show p = pwr a (j + 1) from by rw [← hpp, hu.out]; rfl)
          have b1 : 1 ≤ p := by rw [hp2.out]; exact hpos.out _
          have b2 : p ≤ 15625 := by rw [hp2.out]; exact hle.out _ (by omega)
          go_wp2_with fail
          go_roundw
          case rel => exact ⟨j + 1, p, by omega, by go_num, rfl, hp2, (by first | trivial | rfl)⟩
          case measure => simp [intOf]; omega
        · obtain rfl : j = e := by omega
          have u1 : 1 ≤ u := by rw [hu.out]; exact hpos.out _
          have u2 : u ≤ 15625 := by rw [hu.out]; exact hle.out _ (by omega)
          have l1 := hide (show ([] : List Int).length + (xs.take k).length ≤ 1000000 from by simp; omega)
          have l2 := hide (show ([] ++ xs.take k).length + (xs.drop (k + 1)).length ≤ 1000000 from by have := (unhide HP).lx; simp; omega)
          have s1 := hide (show ∀ o, wr.heap.size ≤ (wr.alloc o).heap.size from fun o => by simp)
          go_wp2_with fail
          go_region_law (first
            | (refine step_app (B := wr.heap.size) (by rfl) (.tmp 29) (.tmp 32) (by rfl) (base := wr.heap.size) (xs := []) (ys := xs.take k) (by rfl) (by rfl) (owned_new wr _ (Nat.le_refl _)).drew ((unhide hL).alloc (Nat.le_refl _) _).drew (unhide l1) (unhide s1 _) ?_
               intro v1 w1 ho1 hg1 hat1
               have hb1 : Below wr.heap.size wr w1 := ((Below.refl _ _).alloc (Nat.le_refl _) _).drew.grown hg1 (unhide s1 _) (fun k hk => row_new (Nat.le_refl _) hk)
               have hr1 : ∀ k, v1.ownBlock = some k → wr.heap.size ≤ k := row_at hat1 (fun k hk => row_new (Nat.le_refl _) hk) (unhide s1 _))
            | (refine step_app (by rfl) (.tmp 33) (.tmp 37) (by rfl) (by rfl) (by rfl) ho1 ((unhide hR).below hb1) (unhide l2) hb1.size ?_
               intro v2 w2 ho2 hg2 hat2
               have hb2 : Below wr.heap.size wr w2 := hb1.grown hg2 hb1.size hr1))
          all_goals
            obtain ⟨A3, c3, rfl, o3⟩ := ho2.shape (L' := less1 xs k) (n := n) hdown.out.lx (by rw [List.nil_append]; rfl)
            have HB2 := hide ((unhide HB).trans (hb2.mono (unhide HB).size))
            have IA := hide (((unhide hA2).below hb2).more hb2.size)
            have IL := hide o3.asInts
            clear ho2 hb2 o3
            by_cases hck : c = k + 1
            · subst hck
              by_cases hc1 : c' = 1
              · subst hc1
                clear hcap'
                have IA2 := hide (show Ints w2 w2.heap.size (some ⟨b', off', none⟩) n 0 az from by simpa using unhide IA)
                go_wp2_with fail
                refine (ih _ _ _ _ (less1 xs k) az w2 (unhide IL) (unhide IA2) hdown.out).mono ?_
                rintro e3 w3 ⟨rfl, hb3⟩
                obtain ⟨pr, hpr⟩ : ∃ pr, u * Pw (less1 xs k) az = pr := ⟨_, rfl⟩
                have hzz2 : z + pr = zz := by rw [← hpr, hu.out]; exact hstep.out.symm
                have hpr0 : 0 ≤ pr := by rw [← hpr]; exact Int.mul_nonneg (by omega) (Pw_bd n _ _ hdown.out).1
                have HB3 := hide ((unhide HB2).trans (hb3.mono (unhide HB2).size))
                clear hb3
                go_wp2_with fail
                go_roundw
                case rel =>
                  repeat apply Exists.intro
                  refine ⟨⟨k + 1, zz, by omega, by go_num, by go_num, Hzz, unhide HB3⟩, rfl⟩
                case measure => simp [intOf]; omega
              · skip
                have IA2 := hide (show Ints w2 w2.heap.size (some ⟨b', off' + 1, none⟩) n (c' - 1) az from by simpa [hc1] using unhide IA)
                go_wp2_with fail
                refine (ih _ _ _ _ (less1 xs k) az w2 (unhide IL) (unhide IA2) hdown.out).mono ?_
                rintro e3 w3 ⟨rfl, hb3⟩
                obtain ⟨pr, hpr⟩ : ∃ pr, u * Pw (less1 xs k) az = pr := ⟨_, rfl⟩
                have hzz2 : z + pr = zz := by rw [← hpr, hu.out]; exact hstep.out.symm
                have hpr0 : 0 ≤ pr := by rw [← hpr]; exact Int.mul_nonneg (by omega) (Pw_bd n _ _ hdown.out).1
                have HB3 := hide ((unhide HB2).trans (hb3.mono (unhide HB2).size))
                clear hb3
                go_wp2_with fail
                go_roundw
                case rel =>
                  repeat apply Exists.intro
                  refine ⟨⟨k + 1, zz, by omega, by go_num, by go_num, Hzz, unhide HB3⟩, rfl⟩
                case measure => simp [intOf]; omega
            · by_cases hc1 : c' = 1
              · subst hc1
                clear hcap'
                have IA2 := hide (show Ints w2 w2.heap.size (some ⟨b', off', none⟩) n 0 az from by simpa using unhide IA)
                go_wp2_with fail
                refine (ih _ _ _ _ (less1 xs k) az w2 (unhide IL) (unhide IA2) hdown.out).mono ?_
                rintro e3 w3 ⟨rfl, hb3⟩
                obtain ⟨pr, hpr⟩ : ∃ pr, u * Pw (less1 xs k) az = pr := ⟨_, rfl⟩
                have hzz2 : z + pr = zz := by rw [← hpr, hu.out]; exact hstep.out.symm
                have hpr0 : 0 ≤ pr := by rw [← hpr]; exact Int.mul_nonneg (by omega) (Pw_bd n _ _ hdown.out).1
                have HB3 := hide ((unhide HB2).trans (hb3.mono (unhide HB2).size))
                clear hb3
                go_wp2_with fail
                go_roundw
                case rel =>
                  repeat apply Exists.intro
                  refine ⟨⟨k + 1, zz, by omega, by go_num, by go_num, Hzz, unhide HB3⟩, rfl⟩
                case measure => simp [intOf]; omega
              · skip
                have IA2 := hide (show Ints w2 w2.heap.size (some ⟨b', off' + 1, none⟩) n (c' - 1) az from by simpa [hc1] using unhide IA)
                go_wp2_with fail
                refine (ih _ _ _ _ (less1 xs k) az w2 (unhide IL) (unhide IA2) hdown.out).mono ?_
                rintro e3 w3 ⟨rfl, hb3⟩
                obtain ⟨pr, hpr⟩ : ∃ pr, u * Pw (less1 xs k) az = pr := ⟨_, rfl⟩
                have hzz2 : z + pr = zz := by rw [← hpr, hu.out]; exact hstep.out.symm
                have hpr0 : 0 ≤ pr := by rw [← hpr]; exact Int.mul_nonneg (by omega) (Pw_bd n _ _ hdown.out).1
                have HB3 := hide ((unhide HB2).trans (hb3.mono (unhide HB2).size))
                clear hb3
                go_wp2_with fail
                go_roundw
                case rel =>
                  repeat apply Exists.intro
                  refine ⟨⟨k + 1, zz, by omega, by go_num, by go_num, Hzz, unhide HB3⟩, rfl⟩
                case measure => simp [intOf]; omega
    · obtain rfl : k = n + 1 := by omega
      have hfin := hide (show z = Pw xs (a :: az) from by rw [hz.out, ← PwTo_eq, (unhide HP).lx])
      go_wp2_with fail
      go_ret
      exact ⟨by rw [hfin.out]; rfl, unhide HB⟩
theorem rp_all : ∀ n, n ≤ 4 → RPAt n
  | 0, _ => rp_zero
  | n + 1, h => rp_succ n h (rp_all n (by omega))
theorem RPower_is (A A' : Option Addr) (n c n' c' : Nat) (xs ys : List Int) (w : World) (h : Ints w w.heap.size A n c xs) (h' : Ints w w.heap.size A' n' c' ys) (hs : Hid (fewB xs ys = true)) (z : Int) (hz : Hid (powSum xs ys = z)) :
    Calls Try.prog 43 #[.slice A n c, .slice A' n' c'] w fun e w' => e = .returned (.int .i64 z) ∧ Below w.heap.size w w' := by
  have hf := FewL.of hs.out
  have e1 := h.len; have e2 := h'.len; have e3 := hf.same; have e4 := hf.most
  obtain rfl : n' = n := by omega
  have hp : PwL n' xs ys := ⟨e1, e2, fun v hv => by
    obtain ⟨j, hj, rfl⟩ := List.getElem_of_mem hv
    have := hf.ex j
    simpa [nth, List.getD, hj] using this, fun v hv => by
    obtain ⟨j, hj, rfl⟩ := List.getElem_of_mem hv
    have := hf.ba j hj
    simpa [nth, List.getD, hj] using this⟩
  exact (rp_all n' (by omega) A A' c c' xs ys w h h' hp).mono fun _ _ ⟨he, hw⟩ => ⟨by rw [he, ← hz.out, powSum_Pw e3], hw⟩
end Go.Proofs.Ytmpdalcdkibgpaa
