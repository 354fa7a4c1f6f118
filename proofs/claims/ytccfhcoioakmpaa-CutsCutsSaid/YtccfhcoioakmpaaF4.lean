/-
  sumOf of the program: the cut with some multipliers.
-/
import Derived.Test.YtccfhcoioakmpaaF2
import Derived.Test.YtccfhcoioakmpaaF3
namespace Go.Proofs.Ytccfhcoioakmpaa
open Go.RowKit

def dStep (d : Nat) (f : F) : Nat := d * (f.2.toNat / Nat.gcd d f.2.toNat)
/-- The common multiple of the Dens. -/
def dF (fs : List F) : Nat := fs.foldl dStep 1
def sStep (D : Nat) (s : G) (p : G × F) : G := plusG s p.1 (p.2.1 * ((D : Int) / p.2.2))
def sF (D : Nat) (gs : List G) (fs : List F) : G := (gs.zip fs).foldl (sStep D) (0, 0, 0)
def cutF (gs : List G) (fs : List F) : Option G := divG (dF fs) (sF (dF fs) gs fs)

theorem dStep_bd {d : Nat} {f : F} (hd : 1 ≤ d) (h1 : 1 ≤ f.2) (h2 : f.2 ≤ 100) : 1 ≤ dStep d f ∧ dStep d f ≤ d * 100 := by
  unfold dStep
  have hg : 0 < Nat.gcd d f.2.toNat := Nat.gcd_pos_of_pos_left _ hd
  have hle : Nat.gcd d f.2.toNat ≤ f.2.toNat := Nat.gcd_le_right _ (by omega)
  have hq : 1 ≤ f.2.toNat / Nat.gcd d f.2.toNat := Nat.div_pos hle hg
  have hq2 : f.2.toNat / Nat.gcd d f.2.toNat ≤ 100 := Nat.le_trans (Nat.div_le_self _ _) (by omega)
  exact ⟨Nat.mul_pos hd hq, Nat.mul_le_mul_left _ hq2⟩
theorem dStep_dvd (d : Nat) (f : F) : d ∣ dStep d f ∧ f.2.toNat ∣ dStep d f := by
  have e : dStep d f = Nat.lcm d f.2.toNat := by
    unfold dStep Nat.lcm; rw [Nat.mul_div_assoc d (Nat.gcd_dvd_right d _)]
  rw [e]
  exact ⟨Nat.dvd_lcm_left _ _, Nat.dvd_lcm_right _ _⟩
theorem foldl_dvd : ∀ (fs : List F) (d : Nat), d ∣ fs.foldl dStep d ∧ ∀ f ∈ fs, f.2.toNat ∣ fs.foldl dStep d
  | [], d => ⟨Nat.dvd_refl _, fun f hf => by cases hf⟩
  | g :: fs, d => by
    obtain ⟨h1, h2⟩ := foldl_dvd fs (dStep d g)
    refine ⟨Nat.dvd_trans (dStep_dvd d g).1 h1, fun f hf => ?_⟩
    rcases List.mem_cons.1 hf with rfl | hf
    · exact Nat.dvd_trans (dStep_dvd d f).2 h1
    · exact h2 f hf
theorem dF_dvd {fs : List F} {f : F} (hf : f ∈ fs) : f.2.toNat ∣ dF fs := (foldl_dvd fs 1).2 f hf
theorem dF_take {fs : List F} {k : Nat} (h : k < fs.length) : dF (fs.take (k + 1)) = dStep (dF (fs.take k)) (fth fs k) := by
  rw [dF, ftake fs k h, List.foldl_append]; rfl
theorem mul_parts {fs : List F} (h : mulOk fs = true) : ∀ f ∈ fs, (1 ≤ f.2 ∧ f.2 ≤ 100) ∧ 0 ≤ f.1 ∧ f.1 ≤ 100 * f.2 := by
  intro f hf
  have := (isFr_iff _ _ _ _).1 (List.all_eq_true.1 h f hf)
  exact ⟨this.1, by have := this.2.1.1; omega, this.2.1.2⟩
theorem dF_bd {fs : List F} (h : mulOk fs = true) : ∀ k, k ≤ fs.length → 1 ≤ dF (fs.take k) ∧ dF (fs.take k) ≤ 100 ^ k
  | 0, _ => by simp [dF]
  | k + 1, hk => by
    have ih := dF_bd h k (by omega)
    have hp := mul_parts h (fth fs k) (fth_mem (by omega))
    have hs := dStep_bd (d := dF (fs.take k)) (f := fth fs k) ih.1 hp.1.1 hp.1.2
    rw [dF_take (by omega)]
    refine ⟨hs.1, Nat.le_trans hs.2 ?_⟩
    rw [Nat.pow_succ]
    exact Nat.mul_le_mul_right _ ih.2
theorem dF_max {fs : List F} (h : mulOk fs = true) (hl : fs.length ≤ 6) : 1 ≤ dF fs ∧ dF fs ≤ 1000000000000 := by
  have := dF_bd h fs.length (Nat.le_refl _)
  rw [List.take_length] at this
  refine ⟨this.1, Nat.le_trans this.2 ?_⟩
  exact Nat.le_trans (Nat.pow_le_pow_right (by omega) hl) (by decide)
theorem zip_take {gs : List G} {fs : List F} {k : Nat} (h1 : k < gs.length) (h2 : k < fs.length) : (gs.zip fs).take (k + 1) = (gs.zip fs).take k ++ [(gth gs k, fth fs k)] := by
  rw [List.take_succ_eq_append_getElem (by simp; omega)]
  simp [gth, fth, List.getD, h1, h2]
def sK (D : Nat) (gs : List G) (fs : List F) (k : Nat) : G := ((gs.zip fs).take k).foldl (sStep D) (0, 0, 0)
theorem sK_succ {D : Nat} {gs : List G} {fs : List F} {k : Nat} (h1 : k < gs.length) (h2 : k < fs.length) : sK D gs fs (k + 1) = sStep D (sK D gs fs k) (gth gs k, fth fs k) := by
  rw [sK, zip_take h1 h2, List.foldl_append]; rfl
theorem sK_all {D : Nat} {gs : List G} {fs : List F} (h : gs.length = fs.length) : sK D gs fs gs.length = sF D gs fs := by
  rw [sK, List.take_of_length_le (by simp; omega), sF]
/-- What a side is taken with. -/
theorem fac_bd {D : Nat} {f : F} (hD : D ≤ 1000000000000) (h1 : 1 ≤ f.2) (h0 : 0 ≤ f.1) (h2 : f.1 ≤ 100 * f.2) : 0 ≤ f.1 * ((D : Int) / f.2) ∧ f.1 * ((D : Int) / f.2) ≤ 100 * D := by
  have hq : 0 ≤ (D : Int) / f.2 := Int.ediv_nonneg (by omega) (by omega)
  refine ⟨Int.mul_nonneg h0 hq, ?_⟩
  have e1 : f.1 * ((D : Int) / f.2) ≤ 100 * f.2 * ((D : Int) / f.2) := Int.mul_le_mul_of_nonneg_right h2 hq
  have e2 : f.2 * ((D : Int) / f.2) ≤ D := Int.mul_ediv_self_le (by omega)
  have e3 : 100 * f.2 * ((D : Int) / f.2) = 100 * (f.2 * ((D : Int) / f.2)) := by rw [Int.mul_assoc]
  omega
theorem plus_bd {M : Int} {s t : G} {k : Int} (hs : Bd M s) (ht : Bd 40 t) (hk : 0 ≤ k ∧ k ≤ 100000000000000) : Bd (M + 4000000000000000) (plusG s t k) := by
  obtain ⟨s1, s2, s3⟩ := hs
  obtain ⟨t1, t2, t3⟩ := ht
  have p1 := mul_bd (M := 100000000000000) (N := 40) (a := k) (by omega) t1
  have p2 := mul_bd (M := 100000000000000) (N := 40) (a := k) (by omega) t2
  have p3 := mul_bd (M := 100000000000000) (N := 40) (a := k) (by omega) t3
  refine ⟨?_, ?_, ?_⟩ <;> simp only [plusG] <;> omega
theorem sK_bd {D : Nat} {gs : List G} {fs : List F} (hD : D ≤ 1000000000000) (hg : OkAll gs) (hf : mulOk fs = true) (hl : gs.length = fs.length) : ∀ k, k ≤ gs.length → Bd (k * 4000000000000000) (sK D gs fs k)
  | 0, _ => by simp [sK, Bd]
  | k + 1, hk => by
    have ih := sK_bd hD hg hf hl k (by omega)
    rw [sK_succ (by omega) (by omega)]
    obtain ⟨g1, g2, _, g4, g5⟩ := (okS_iff _).1 (hg _ (gth_mem (gs := gs) (k := k) (by omega)))
    have hp := mul_parts hf _ (fth_mem (fs := fs) (k := k) (by omega))
    have hk2 := fac_bd hD hp.1.1 hp.2.1 hp.2.2
    have := plus_bd (t := gth gs k) ih ⟨by omega, by omega, g4, g5⟩ ⟨hk2.1, by have := hk2.2; omega⟩
    have e : ((k + 1 : Nat) : Int) * 4000000000000000 = k * 4000000000000000 + 4000000000000000 := by omega
    rw [e]; exact this

set_option maxRecDepth 4000 in
set_option maxHeartbeats 6400000 in
theorem sumOf_any (A A' : Option Addr) (n c n' c' : Nat) (gs : List G) (fs : List F) (w : World) (hg : Gs w w.heap.size A n c gs) (h : Fs w w.heap.size A' n' c' fs) (hok : Hid (OkAll gs)) (hmu : Hid (mulOk fs = true)) (hn : n' = n) (hn6 : n ≤ 6) (x y z : Int) (b : Bool)
    (hno : Hid (cutF gs fs = none → b = false ∧ ((x, y, z) : G) = (0, 0, 0))) (hyes : Hid (∀ g, cutF gs fs = some g → b = true ∧ ((x, y, z) : G) = g)) :
    Calls Try.prog 76 #[.slice A n c, .slice A' n' c'] w fun e w' => e = .returned (.tuple #[.agg #[.int .i64 x, .int .i64 y, .int .i64 z], .bool b]) ∧ Below w.heap.size w w' := by
  subst hn
  have hm := h.most; have hcap := h.cap
  have hmg := hg.most; have hcapg := hg.cap
  have hl := hide h.len; have hlg := hide hg.len
  have H := hide h; have HG := hide hg; clear h hg
  obtain ⟨W0, hW0⟩ : ∃ W0, W0 = w.alloc (.cells #[.int .i64 0, .int .i64 0, .int .i64 0] 57) := ⟨_, rfl⟩
  have HB0 := hide (show Below w.heap.size w W0 from by rw [hW0]; exact (Below.refl _ w).alloc (Nat.le_refl _) _)
  have HR0 := hide (show W0.heap[w.heap.size]? = some (.cells #[.int .i64 0, .int .i64 0, .int .i64 0] 57 (0, 0)) from by rw [hW0]; exact heap_new_ w _)
  have hs0 : W0.heap.size = w.heap.size + 1 := by rw [hW0]; simp
  go_enter Try.func76, Try.ntmps76
  go_wp2_with fail
  rw [← hW0]
  clear hW0
  go_loopw [14, 6] (fun i v wr => ∃ (k d : Nat), k ≤ n' ∧ i = .int .i64 k ∧ v = .int .i64 d ∧ Hid (dF (fs.take k) = d) ∧ Below W0.heap.size W0 wr) (fun i _ _ => n' - (intOf i).toNat)
  case atStart => exact ⟨0, 1, Nat.zero_le _, rfl, rfl, rfl, Below.refl _ _⟩
  case round =>
    obtain ⟨k, d, hk, rfl, rfl, HD, hbl⟩ := hrel
    have HB := hide hbl; clear hbl
    have HBW := hide ((unhide HB0).trans ((unhide HB).mono (by omega)))
    by_cases hlt : k < n'
    · have hkl : k < fs.length := by rw [hl.out]; exact hlt
      obtain ⟨b1, off, rfl, hbb, e1, e2⟩ := ((unhide H).below (unhide HBW)).at_ k hlt
      have hp := mul_parts hmu.out _ (fth_mem hkl)
      have hst := hide (dF_take hkl)
      have hbd := dF_bd hmu.out k (by omega)
      have hdk : d ≤ 1000000000000 := by
        rw [← HD.out]
        exact Nat.le_trans hbd.2 (Nat.le_trans (Nat.pow_le_pow_right (by omega) (show k ≤ 6 by omega)) (by decide))
      have hd1 : 1 ≤ d := by rw [← HD.out]; exact hbd.1
      rw [HD.out] at hst
      clear hbd
      revert hst
      obtain ⟨⟨u, v⟩, hgk⟩ : ∃ f, fth fs k = f := ⟨_, rfl⟩
      rw [hgk] at e1 e2 hp ⊢
      clear hgk
      simp only at e1 e2 hp ⊢
      intro hst
      obtain ⟨⟨v1, v2⟩, u1, u2⟩ := hp
      obtain ⟨v, rfl⟩ : ∃ vn : Nat, v = vn := ⟨v.toNat, by omega⟩
      have hgc := hide (fun W' => gcd_any (d : Int) (v : Int) W' (by omega) (by omega))
      have hdv : dStep d (u, (v : Int)) = d * (v / Nat.gcd d v) := by simp [dStep]
      rw [hdv] at hst
      simp only [Int.natAbs_natCast] at hgc
      have hgp : 0 < Nat.gcd d v := Nat.gcd_pos_of_pos_left _ (by omega)
      have hq100 : v / Nat.gcd d v ≤ 100 := Nat.le_trans (Nat.div_le_self _ _) (by omega)
      revert hst hgc hgp hq100
      obtain ⟨g, hg⟩ : ∃ g, Nat.gcd d v = g := ⟨_, rfl⟩
      rw [hg]
      clear hg hdv
      intro hst hgc hgp hq100
      have hquo : (v : Int).tdiv (g : Int) = ((v / g : Nat) : Int) := Int.ofNat_tdiv _ _
      revert hst hq100
      obtain ⟨q, hq⟩ : ∃ q, v / g = q := ⟨_, rfl⟩
      rw [hq] at hquo ⊢
      clear hq
      intro hst hq100
      have hprod : d * q ≤ 100000000000000 := Nat.le_trans (Nat.mul_le_mul hdk hq100) (by decide)
      have hprodI : (d : Int) * (q : Int) ≤ 100000000000000 := by rw [← Int.natCast_mul]; omega
      have hprod0 : 0 ≤ (d : Int) * (q : Int) := by rw [← Int.natCast_mul]; omega
      have hg0 : ¬ (g : Int) = 0 := by omega
      have hgI : (0 : Int) < (g : Int) := by omega
      have hcast := hide (show (d : Int) * (q : Int) = ((d * q : Nat) : Int) from (Int.natCast_mul d q).symm)
      have HB1 := hide ((unhide HB).alloc (unhide HB).size (.cells #[.int .i64 u, .int .i64 (v : Int)] 37))
      have HBd := hide (show ∀ q, Below W0.heap.size W0 ((wr.alloc (.cells #[.int .i64 u, .int .i64 (v : Int)] 37)).drewN q) from fun q => ⟨(unhide HB1).os, (unhide HB1).tape, (unhide HB1).output, (unhide HB1).size, (unhide HB1).block⟩)
      clear hprod
      go_wp2_with fail
      go_big_quiet (exact Calls.quiet_of ((unhide hgc) _))
      go_wp2_with fail
      go_roundw
      case rel => exact ⟨k + 1, d * q, by omega, by go_num, by rw [← hcast.out], hst, (unhide HBd) _⟩
      case measure => simp [intOf]; omega
    · obtain rfl : k = n' := by omega
      have HDD := hide (show dF fs = d from by rw [← HD.out, List.take_of_length_le (by rw [hl.out]; exact Nat.le_refl _)])
      have hdm := dF_max hmu.out (by rw [hl.out]; exact hn6)
      rw [HDD.out] at hdm
      obtain ⟨hd1, hd2⟩ := hdm
      obtain ⟨W1, hW1⟩ : ∃ W1, W1 = wr.alloc (.cells #[.int .i64 0, .int .i64 0, .int .i64 0] 57) := ⟨_, rfl⟩
      have hs1 : W1.heap.size = wr.heap.size + 1 := by rw [hW1]; simp
      have hwr := (unhide HB).size
      have HB1 := hide (show Below w.heap.size w W1 from by rw [hW1]; exact (unhide HBW).alloc (unhide HBW).size _)
      have HR1 := hide (show W1.heap[w.heap.size]? = some (.cells #[.int .i64 0, .int .i64 0, .int .i64 0] 57 (0, 0)) from by
        rw [hW1]; exact (Below.heap_alloc _ _ _ (by omega)).trans (((unhide HB).block _ (by omega)).trans (unhide HR0)))
      have HS1 := hide (show W1.heap[wr.heap.size]? = some (.cells #[.int .i64 0, .int .i64 0, .int .i64 0] 57 (0, 0)) from by rw [hW1]; exact heap_new_ wr _)
      obtain ⟨bS, hbS⟩ : ∃ bS, bS = wr.heap.size := ⟨_, rfl⟩
      rw [← hbS] at HS1 hs1
      have hbSlt : w.heap.size < bS := by omega
      go_wp2_with fail
      rw [← hW1, ← hbS]
      clear hW1 HD HB HBW HB0 HR0 hs0
      have hbS2 := hide hbS
      clear hbS
      go_loopw [30] (fun i wr2 => ∃ (j : Nat) (p q r : Int), j ≤ k ∧ i = .int .i64 j ∧ Hid (sK d gs fs j = (p, q, r)) ∧ Hid (wr2.heap[bS]? = some (.cells #[.int .i64 p, .int .i64 q, .int .i64 r] 57 (0, 0))) ∧ Hid (wr2.heap[w.heap.size]? = some (.cells #[.int .i64 0, .int .i64 0, .int .i64 0] 57 (0, 0))) ∧ bS < wr2.heap.size ∧ Below w.heap.size w wr2) (fun i _ => k - (intOf i).toNat)
      case atStart => exact ⟨0, 0, 0, 0, Nat.zero_le _, rfl, rfl, HS1, HR1, by omega, unhide HB1⟩
      case round =>
        obtain ⟨j, p, q, r, hj, rfl, HK, HS, HR, hbw, hbl⟩ := hrel
        have HB := hide hbl; clear hbl
        by_cases hjt : j < k
        · have hjf : j < fs.length := by rw [hl.out]; exact hjt
          have hjg : j < gs.length := by rw [hlg.out]; exact hjt
          obtain ⟨b1, off, rfl, hbb, e1, e2⟩ := ((unhide H).below (unhide HB)).at_ j hjt
          obtain ⟨b2, off2, rfl, hbb2, y0, y1, y2⟩ := ((unhide HG).below (unhide HB)).at_ j hjt
          have hp := mul_parts hmu.out _ (fth_mem hjf)
          have hgb := (okS_iff _).1 (hok.out _ (gth_mem hjg))
          have hfac := fac_bd (D := d) (f := fth fs j) hd2 hp.1.1 hp.2.1 hp.2.2
          have hkb := sK_bd (D := d) hd2 hok.out hmu.out (by rw [hl.out, hlg.out]) j (by rw [hlg.out]; omega)
          rw [HK.out] at hkb
          have hst := hide (sK_succ (D := d) hjg hjf)
          rw [HK.out] at hst
          have hdv := hide (dF_dvd (fth_mem hjf))
          rw [HDD.out] at hdv
          revert hst hdv
          obtain ⟨⟨u, v⟩, hgk⟩ : ∃ f, fth fs j = f := ⟨_, rfl⟩
          obtain ⟨⟨f, g, m⟩, hgg⟩ : ∃ f, gth gs j = f := ⟨_, rfl⟩
          rw [hgk] at e1 e2 hp hfac ⊢
          rw [hgg] at y0 y1 y2 hgb ⊢
          clear hgk hgg
          simp only at e1 e2 hp hfac y0 y1 y2 hgb ⊢
          simp only [sStep, plusG]
          intro hst hdv
          obtain ⟨⟨v1, v2⟩, u1, u2⟩ := hp
          obtain ⟨⟨g1, g2⟩, ⟨g3, g4⟩, _, g5, g6⟩ := hgb
          have HBD := hide (show Bd 1000000000000000000 (p, q, r) from by obtain ⟨x1, x2, x3⟩ := hkb; simp only at x1 x2 x3; exact ⟨by simp only; omega, by simp only; omega, by simp only; omega⟩)
          clear hkb
          have hquo : (d : Int).tdiv v = (d : Int) / v := Int.tdiv_eq_ediv_of_nonneg (by omega)
          revert hst hfac
          obtain ⟨qq, hqq⟩ : ∃ qq, (d : Int) / v = qq := ⟨_, rfl⟩
          rw [hqq] at hquo ⊢
          have hqb := ediv_bd (a := (d : Int)) (b := v) (M := 1000000000000) (by omega)
          rw [hqq] at hqb
          obtain ⟨hqb1, hqb2⟩ := hqb
          clear hqq
          obtain ⟨fc, hfc⟩ : ∃ fc, u * qq = fc := ⟨_, rfl⟩
          rw [hfc]
          intro hfac hst
          obtain ⟨hf1, hf2⟩ := hfac
          have hv0 : ¬ v = 0 := by omega
          have wq : IntKind.i64.wrap qq = qq := IntWalk.i64_in _ (by omega)
          have wf : IntKind.i64.wrap fc = fc := IntWalk.i64_in _ (by omega)
          obtain ⟨W2, hW2⟩ : ∃ W2, W2 = wr.alloc (.cells #[.int .i64 u, .int .i64 v] 37) := ⟨_, rfl⟩
          have c01 := cell_two wr u v 37
          have c0 : W2.cell? ⟨wr.heap.size, 0, none⟩ = some (.int .i64 u) := by rw [hW2]; exact c01.1
          have c1 : W2.cell? ⟨wr.heap.size, 1, none⟩ = some (.int .i64 v) := by rw [hW2]; exact c01.2
          have HS2 := hide (show W2.heap[bS]? = some (.cells #[.int .i64 p, .int .i64 q, .int .i64 r] 57 (0, 0)) from by rw [hW2]; exact (Below.heap_alloc _ _ _ hbw).trans (unhide HS))
          obtain ⟨z0, z1, z2⟩ := three_at (unhide HS2)
          have hgx := fun (p : Addr) (hp : p.block < wr.heap.size) => ((Below.refl wr.heap.size wr).alloc (Nat.le_refl _) (.cells #[.int .i64 u, .int .i64 v] 37)).cell (p := p) hp
          have hwb := (unhide HB).size
          have x0 : W2.cell? ⟨b2, off2 + j * 3, none⟩ = some (.int .i64 f) := by rw [hW2]; exact (hgx ⟨b2, _, none⟩ (by show b2 < wr.heap.size; omega)).trans y0
          have x1 : W2.cell? ⟨b2, off2 + j * 3 + 1, none⟩ = some (.int .i64 g) := by rw [hW2]; exact (hgx ⟨b2, _, none⟩ (by show b2 < wr.heap.size; omega)).trans y1
          have x2 : W2.cell? ⟨b2, off2 + j * 3 + 2, none⟩ = some (.int .i64 m) := by rw [hW2]; exact (hgx ⟨b2, _, none⟩ (by show b2 < wr.heap.size; omega)).trans y2
          have HR2 := hide (show W2.heap[w.heap.size]? = some (.cells #[.int .i64 0, .int .i64 0, .int .i64 0] 57 (0, 0)) from by rw [hW2]; exact (Below.heap_alloc _ _ _ (by omega)).trans (unhide HR))
          have HB2 := hide (show Below w.heap.size w W2 from by rw [hW2]; exact (unhide HB).alloc (unhide HB).size _)
          have hbw2 : bS < W2.heap.size := by rw [hW2]; simp; omega
          clear hgx c01 y0 y1 y2
          go_wp2_with fail
          rw [← hW2]
          clear hW2 e1 e2
          go_still_tail 12, (by kernel_rfl)
          have HPL := hide (plus_any p q r f g m fc W2.drew (unhide HBD) ⟨by simp only; omega, by simp only; omega, by simp only; omega⟩ (by omega))
          change wpList _ _ _ _ _ W2.drew
          clear c0 c1 z0 z1 z2 x0 x1 x2 wq wf
          go_wp2_with fail
          refine (unhide HPL).mono ?_
          rintro e w3 ⟨rfl, b3⟩
          have HS3 := hide ((b3.block _ hbw2).trans (unhide HS2))
          have HR3 := hide ((b3.block _ (show w.heap.size < W2.heap.size by omega)).trans (unhide HR2))
          have HB3 := hide ((unhide HB2).trans ((show Below w.heap.size W2 W2.drew from (Below.refl _ _).drew).trans (b3.mono (unhide HB2).size)))
          have hbw3 : W2.heap.size ≤ w3.heap.size := b3.size
          clear b3 HPL
          obtain ⟨z0, z1, z2⟩ := three_at (unhide HS3)
          have f0 := free_at (unhide HS3) 0; have f1 := free_at (unhide HS3) 1; have f2 := free_at (unhide HS3) 2
          have HSn := hide (put3 (unhide HS3) (.int .i64 (p + fc * f)) (.int .i64 (q + fc * g)) (.int .i64 (r + fc * m)))
          have HBn := hide (below_put3 (unhide HB3) (b := bS) (by omega) (.int .i64 (p + fc * f)) (.int .i64 (q + fc * g)) (.int .i64 (r + fc * m)))
          have HRn := hide (show (((w3.setCell ⟨bS, 0, none⟩ (.int .i64 (p + fc * f))).setCell ⟨bS, 1, none⟩ (.int .i64 (q + fc * g))).setCell ⟨bS, 2, none⟩ (.int .i64 (r + fc * m))).heap[w.heap.size]? = some (.cells #[.int .i64 0, .int .i64 0, .int .i64 0] 57 (0, 0)) from
            ((below_put3 (Below.refl bS w3) (b := bS) (Nat.le_refl _) _ _ _).block _ hbSlt).trans (unhide HR3))
          go_wp2_with fail
          go_roundw
          case rel => exact ⟨j + 1, _, _, _, by omega, by go_num, hst, HSn, HRn, by simp [World.setCell]; omega, unhide HBn⟩
          case measure => simp [intOf]; omega
        · obtain rfl : j = k := by omega
          have hkb := sK_bd (D := d) hd2 hok.out hmu.out (by rw [hl.out, hlg.out]) j (by rw [hlg.out]; exact Nat.le_refl _)
          have hall := sK_all (D := d) (gs := gs) (fs := fs) (by rw [hl.out, hlg.out])
          rw [hlg.out, HK.out] at hall
          rw [HK.out] at hkb
          have HBD := hide (show Bd 100000000000000000 (p, q, r) from by obtain ⟨x1, x2, x3⟩ := hkb; simp only at x1 x2 x3; exact ⟨by simp only; omega, by simp only; omega, by simp only; omega⟩)
          have hcut : cutF gs fs = divG d (p, q, r) := by rw [cutF, HDD.out, ← hall]
          clear hkb hall
          obtain ⟨z0, z1, z2⟩ := three_at (unhide HS)
          rcases hdg : divG d (p, q, r) with _ | ⟨⟨a1, a2, a3⟩⟩
          · have HDG := hide hdg
            rw [hdg] at hcut
            obtain ⟨rfl, hxyz⟩ := hno.out hcut
            simp only [Prod.mk.injEq] at hxyz
            obtain ⟨rfl, rfl, rfl⟩ := hxyz
            clear hdg hcut
            go_wp2_with fail
            refine (divide_no p q r d _ (unhide HBD) (by omega) HDG).mono ?_
            rintro e w3 ⟨rfl, b3⟩
            have HR3 := hide ((b3.block _ (by omega)).trans (unhide HR))
            have HB3 := hide ((unhide HB).trans (b3.mono (unhide HB).size))
            clear b3
            obtain ⟨q0, q1, q2⟩ := three_at (unhide HR3)
            have f0 := free_at (unhide HR3) 0; have f1 := free_at (unhide HR3) 1; have f2 := free_at (unhide HR3) 2
            go_wp2_with fail
            have HPq := hide (put3 (unhide HR3) (.int .i64 0) (.int .i64 0) (.int .i64 0))
            have HBq := hide (below_put3 (unhide HB3) (b := w.heap.size) (Nat.le_refl _) (.int .i64 0) (.int .i64 0) (.int .i64 0))
            obtain ⟨s0, s1, s2⟩ := three_at (unhide HPq)
            exact bodyPost_ret (v := .tuple #[.agg #[.int .i64 0, .int .i64 0, .int .i64 0], .bool false]) (by simp [results, Try.results76, go_sem, s0, s1, s2]) rfl ⟨rfl, unhide HBq⟩
          · have HDG := hide hdg
            rw [hdg] at hcut
            obtain ⟨rfl, hxyz⟩ := hyes.out _ hcut
            simp only [Prod.mk.injEq] at hxyz
            obtain ⟨rfl, rfl, rfl⟩ := hxyz
            clear hdg hcut
            go_wp2_with fail
            refine (divide_yes p q r d x y z _ (unhide HBD) (by omega) HDG).mono ?_
            rintro e w3 ⟨rfl, b3⟩
            have HR3 := hide ((b3.block _ (by omega)).trans (unhide HR))
            have HB3 := hide ((unhide HB).trans (b3.mono (unhide HB).size))
            clear b3
            obtain ⟨q0, q1, q2⟩ := three_at (unhide HR3)
            have f0 := free_at (unhide HR3) 0; have f1 := free_at (unhide HR3) 1; have f2 := free_at (unhide HR3) 2
            go_wp2_with fail
            have HPq := hide (put3 (unhide HR3) (.int .i64 x) (.int .i64 y) (.int .i64 z))
            have HBq := hide (below_put3 (unhide HB3) (b := w.heap.size) (Nat.le_refl _) (.int .i64 x) (.int .i64 y) (.int .i64 z))
            obtain ⟨s0, s1, s2⟩ := three_at (unhide HPq)
            exact bodyPost_ret (v := .tuple #[.agg #[.int .i64 x, .int .i64 y, .int .i64 z], .bool true]) (by simp [results, Try.results76, go_sem, s0, s1, s2]) rfl ⟨rfl, unhide HBq⟩
end Go.Proofs.Ytccfhcoioakmpaa
