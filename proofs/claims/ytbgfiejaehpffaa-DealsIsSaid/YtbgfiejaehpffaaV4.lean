/-
  Edge of the reference.
-/
import Derived.Test.YtbgfiejaehpffaaV3
namespace Go.Proofs.Ytbgfiejaehpffaa
open Go.RowKit

def bst (m : Int) (o : F) (x : Int) : Int := if o.1 = x then (if o.2 > m then o.2 else m) else m
theorem bestY_snoc {L : List F} {x : Int} {k : Nat} (hk : k < L.length) : bestY (L.take (k + 1)) x = bst (bestY (L.take k) x) (fth L k) x := by
  rw [take_succ hk]
  simp only [bestY, List.foldl_append, List.foldl_cons, List.foldl_nil]
  rfl
theorem edge1_len (L : List F) : ∀ m, (edge1 L m).length ≤ m
  | 0 => Nat.le_refl _
  | m + 1 => by
    have := edge1_len L m
    have h2 : (edgeAt L m).length ≤ 1 := by unfold edgeAt; split <;> simp
    simp only [edge1, List.length_append]; omega
/-- The inner tests of Edge so far. -/
def bt5 (E : List F) (k : Nat) (a : F) (l : Nat) : Bool := ((E.drop (k + 1)).take l).any fun b => decide ((b.1 - a.1) * ((fth E k).2 - a.2) = (b.2 - a.2) * ((fth E k).1 - a.1))
def bt4 (E : List F) (k j : Nat) : Bool := ((E.take k).take j).any fun a => bt5 E k a (E.length - (k + 1))
theorem bt4_all (E : List F) {k : Nat} (hk : k < E.length) : bt4 E k k = btw E k := by
  unfold bt4 bt5 btw
  rw [List.take_take, Nat.min_self, List.take_of_length_le (l := E.drop (k + 1)) (by simp)]
  rfl
theorem fth_drop {L : List F} {m i : Nat} : fth (L.drop m) i = fth L (m + i) := by simp [fth, List.getD, List.getElem?_drop]
theorem bt4_succ {E : List F} {k j : Nat} (hj : j < k) (hk : k < E.length) : bt4 E k (j + 1) = (bt4 E k j || bt5 E k (fth E j) (E.length - (k + 1))) := by
  unfold bt4
  rw [take_succ (S := E.take k) (k := j) (by simp; omega), List.any_append, List.any_cons, List.any_nil, Bool.or_false, fth_take hj]
theorem bt5_succ {E : List F} {k l : Nat} {a : F} (hl : l < E.length - (k + 1)) : bt5 E k a (l + 1) = (bt5 E k a l || decide (((fth E (k + 1 + l)).1 - a.1) * ((fth E k).2 - a.2) = ((fth E (k + 1 + l)).2 - a.2) * ((fth E k).1 - a.1))) := by
  unfold bt5
  rw [take_succ (S := E.drop (k + 1)) (k := l) (by simp; omega), List.any_append, List.any_cons, List.any_nil, Bool.or_false, fth_drop]
theorem Fs.drop {w : World} {B b off n c k : Nat} {fs : List F} (h : Fs w B (some ⟨b, off, none⟩) n c fs) (hk : k ≤ n) : Fs w B (some ⟨b, off + k * 2, none⟩) (n - k) (c - k) (fs.drop k) :=
  ⟨by have := h.len; simp; omega, by have := h.cap; omega, by have := h.most; omega, (fun e => by cases e), fun j hj => by
    obtain ⟨b', off', e, hb, h1, h2⟩ := h.at_ (k + j) (by omega)
    simp only [Option.some.injEq, Addr.mk.injEq, and_true] at e
    obtain ⟨rfl, rfl⟩ := e
    rw [show off + (k + j) * 2 = off + k * 2 + j * 2 by omega] at h1 h2
    exact ⟨b, off + k * 2, rfl, hb, by rw [fth_drop]; exact h1, by rw [fth_drop]; exact h2⟩⟩
theorem Fs.zero {w : World} {B b off n : Nat} {fs : List F} (hn : n = 0) (hl : fs.length = 0) : Fs w B (some ⟨b, off, none⟩) n 0 fs :=
  ⟨by omega, by omega, by omega, (fun e => by cases e), fun j hj => absurd hj (by omega)⟩
theorem outE_len (E : List F) : ∀ m, (outE E m).length ≤ m
  | 0 => Nat.le_refl _
  | m + 1 => by
    have := outE_len E m
    simp only [outE, List.length_append]
    split <;> simp <;> omega

set_option maxRecDepth 100000 in
set_option maxHeartbeats 16000000 in
theorem REdge_any (A : Option Addr) (n c : Nat) (fs : List F) (w : World) (h : Fs w w.heap.size A n c fs) (hO : Hid (Off fs)) :
    Calls Try.prog 20 #[.slice A n c] w fun e w' => ∃ v, e = .returned v ∧ OwnQ w' w.heap.size 30 v (edgeR fs) ∧ Below w.heap.size w w' := by
  have hm := h.most; have hcap := h.cap
  have HI := hide h
  have HL := hide h.len
  clear h
  go_enter Try.func20, Try.ntmps20
  go_wp2_with fail
  go_loopw [3, 4, 5, 7, 16] (fun v _ _ _ i wr => ∃ k : Nat, k ≤ 31 ∧ i = .int .i64 k ∧ Hid (OwnQ wr w.heap.size 30 v (edge1 fs k)) ∧ Hid (Below w.heap.size w wr)) (fun _ _ _ _ i _ => 31 - (intOf i).toNat)
  case atStart => exact ⟨0, Nat.zero_le _, rfl, hide (World.ownsRow_nil _ _ _ _), hide (Below.refl _ _)⟩
  case round =>
    obtain ⟨k, hk, rfl, HOw, HB⟩ := hrel
    obtain ⟨wo, ewo⟩ : ∃ wo : World, wo = wr := ⟨_, rfl⟩
    subst ewo
    by_cases hlt : k < 31
    · have HI1 := hide (((unhide HI).below (unhide HB)).more (unhide HB).size)
      go_wp2_with fail
      go_loopw [5, 7, 21] (fun z _ i wr => ∃ j : Nat, ∃ m : Int, j ≤ n ∧ z = .int .i64 m ∧ i = .int .i64 j ∧ Hid (bestY (fs.take j) k = m) ∧ Hid (Below wo.heap.size wo wr)) (fun _ _ i _ => n - (intOf i).toNat)
      case atStart => exact ⟨0, -1, Nat.zero_le _, rfl, rfl, hide (by simp [bestY]), hide (Below.refl _ _)⟩
      case round =>
        obtain ⟨j, m, hj, rfl, rfl, HM, HBj⟩ := hrel
        by_cases hjn : j < n
        · obtain ⟨b2, off2, rfl, _, hd1, hd2⟩ := ((unhide HI1).below (unhide HBj)).at_ j hjn
          have HJL := hide (show j < fs.length from by rw [HL.out]; exact hjn)
          have hst := bestY_snoc (x := (k : Int)) HJL.out
          rw [HM.out] at hst
          obtain ⟨q, hq⟩ : ∃ q, fth fs j = q := ⟨_, rfl⟩
          rw [hq] at hd1 hd2 hst
          clear hq
          obtain ⟨s, t⟩ := q
          simp only at hd1 hd2
          have HST := hide hst
          clear hst
          obtain ⟨W3, hW3⟩ : ∃ W3, W3 = wr.alloc (.cells #[.int .i64 s, .int .i64 t] 30) := ⟨_, rfl⟩
          have hB3 : Below wr.heap.size wr W3 := by rw [hW3]; exact (Below.refl _ _).alloc (Nat.le_refl _) _
          have HB3 := hide ((unhide HBj).trans (hB3.mono (unhide HBj).size))
          obtain ⟨s0, s1⟩ := two_at (show W3.heap[wr.heap.size]? = some (.cells #[.int .i64 s, .int .i64 t] 30 (0, 0)) from by rw [hW3]; exact heap_new_ _ _)
          have hW : wr.alloc (.cells #[.int .i64 s, .int .i64 t] 30) = W3 := hW3.symm
          clear hW3 hB3
          by_cases hsk : s = (k : Int)
          · have hskb : (s == (k : Int)) = true := by simp [hsk]
            by_cases htm : m < t
            · have HN := hide (show bestY (fs.take (j + 1)) k = t from by rw [HST.out]; unfold bst; rw [if_pos hsk, if_pos htm])
              clear hsk
              go_upto_region 9 with fail
              clear hW hd1 hd2
              go_wp2_with fail
              go_roundw
              case rel => exact ⟨j + 1, t, by omega, congrArg (Value.int .i64) (by omega), by go_num, HN, HB3⟩
              case measure => simp [intOf]; omega
            · have HN := hide (show bestY (fs.take (j + 1)) k = m from by rw [HST.out]; unfold bst; rw [if_pos hsk, if_neg htm])
              clear hsk
              go_upto_region 9 with fail
              clear hW hd1 hd2
              go_wp2_with fail
              go_roundw
              case rel => exact ⟨j + 1, m, by omega, congrArg (Value.int .i64) (by omega), by go_num, HN, HB3⟩
              case measure => simp [intOf]; omega
          · have hskb : (s == (k : Int)) = false := by simp [hsk]
            have HN := hide (show bestY (fs.take (j + 1)) k = m from by rw [HST.out]; unfold bst; rw [if_neg hsk])
            clear hsk
            go_upto_region 9 with fail
            clear hW hd1 hd2
            go_wp2_with fail
            go_roundw
            case rel => exact ⟨j + 1, m, by omega, rfl, by go_num, HN, HB3⟩
            case measure => simp [intOf]; omega
        · have HBk := hide ((unhide HB).trans ((unhide HBj).mono (unhide HB).size))
          have HOk := hide ((unhide HOw).below (unhide HBj) (Nat.le_refl _))
          have HMk := hide (show bestY fs k = m from by
            have := HM.out
            rwa [List.take_of_length_le (by rw [HL.out]; omega)] at this)
          by_cases hm0 : 0 ≤ m
          · have hin := (bestY_spec fs (k : Int) (fun q hq => (hO.out.pr q hq).2.1)).2 (by rw [HMk.out]; exact hm0)
            rw [HMk.out] at hin
            have HSM := hide (hO.out.small _ hin)
            have HLa := hide (fun z (hz : Hid (lastB fs ((k : Int), m) = z)) => last_any A n c fs (k : Int) m wr (((unhide HI1).below (unhide HBj)).more (unhide HBj).size) (hide hO.out.small) HSM z hz)
            clear hin
            cases hla : lastB fs ((k : Int), m) with
            | false =>
              have HC := hide ((unhide HLa) false (hide hla))
              have HE := hide (show edge1 fs (k + 1) = edge1 fs k from by
                simp only [edge1, edgeAt, HMk.out, hla]; simp)
              clear hla HLa
              go_wp2_with fail
              refine (unhide HC).mono ?_
              rintro e w3 ⟨rfl, b3⟩
              have HB3 := hide ((unhide HBk).trans (b3.mono (unhide HBk).size))
              have HO3 := hide ((unhide HOk).below b3 (Nat.le_refl _))
              clear b3
              rw [← HE.out] at HO3
              go_wp2_with fail
              go_roundw
              case rel => exact ⟨k + 1, by omega, by go_num, HO3, HB3⟩
              case measure => simp [intOf]; omega
            | true =>
              have HC := hide ((unhide HLa) true (hide hla))
              have HE := hide (show edge1 fs (k + 1) = edge1 fs k ++ [((k : Int), m)] from by
                simp only [edge1, edgeAt, HMk.out, hla]; simp [hm0])
              clear hla HLa
              have HLen := hide (show (edge1 fs k).length + [(((k : Int), m) : F)].length ≤ 1000000 from by have := edge1_len fs k; simp; omega)
              go_wp2_with fail
              refine (unhide HC).mono ?_
              rintro e w3 ⟨rfl, b3⟩
              have HB3 := hide ((unhide HBk).trans (b3.mono (unhide HBk).size))
              have HO3 := hide ((unhide HOk).below b3 (Nat.le_refl _))
              clear b3
              have HO4 := hide ((unhide HO3).below ((Below.refl w3.heap.size w3).alloc (Nat.le_refl _) (.cells #[.int .i64 (k : Int), .int .i64 m] 30)) (Nat.le_refl _))
              have hbs := (unhide HB3).size
              go_wp2_with (at_builtin; refine wpList_appP rfl _ _ rfl rfl rfl (unhide HO4) (fs_one w3 (k : Int) m) HLen.out (by simp; omega) ?_; intro v' w4 ho4 hg4 _)
              have HB4 := hide (show Below w.heap.size w w4 from ((unhide HB3).alloc (unhide HB3).size _).grown hg4 (by simp; omega) (fun q hq => (World.ownsRow.lt (unhide HO4) q hq).1))
              rw [← HE.out] at ho4
              have HO5 := hide ho4
              clear ho4 hg4
              go_wp2_with fail
              go_roundw
              case rel => exact ⟨k + 1, by omega, by go_num, HO5, HB4⟩
              case measure => simp [intOf]; omega
          · have HE := hide (show edge1 fs (k + 1) = edge1 fs k from by
              simp only [edge1, edgeAt, HMk.out]; rw [if_neg (fun h => hm0 h.1), List.append_nil])
            rw [← HE.out] at HOk
            go_wp2_with fail
            go_roundw
            case rel => exact ⟨k + 1, by omega, by go_num, HOk, HBk⟩
            case measure => simp [intOf]; omega
    · obtain rfl : k = 31 := by omega
      have HEL := hide (edge1_len fs 31)
      have HRes := hide (show outE (edge1 fs 31) (edge1 fs 31).length = edgeR fs from rfl)
      have HES := hide (show ∀ q, q ∈ edge1 fs 31 → smallP 1000 q from fun q hq => hO.out.small q ((edge1_mem (fun q hq => by have := hO.out.pr q hq; omega) 31).1 hq).2.1)
      generalize edge1 fs 31 = E at HOw HEL HRes HES
      obtain ⟨A1, m1, c1, rfl, hf1⟩ := (unhide HOw).to
      have hlE := hf1.len
      have hm1 := hf1.most; have hcap1 := hf1.cap
      have HF1 := hide hf1
      have HLE := hide hlE
      have hm31 : m1 ≤ 31 := by rw [← hlE]; exact HEL.out
      clear hf1 hlE
      go_wp2_with fail
      go_loopw [8, 9, 10, 11, 13, 15, 52] (fun v _ _ _ _ _ i wr => ∃ k : Nat, k ≤ m1 ∧ i = .int .i64 k ∧ Hid (OwnQ wr wo.heap.size 30 v (outE E k)) ∧ Hid (Below wo.heap.size wo wr)) (fun _ _ _ _ _ _ i _ => m1 - (intOf i).toNat)
      case atStart => exact ⟨0, Nat.zero_le _, rfl, hide (World.ownsRow_nil _ _ _ _), hide (Below.refl _ _)⟩
      case round =>
        obtain ⟨k, hk, rfl, HOv, HBo⟩ := hrel
        obtain ⟨wp, ewp⟩ : ∃ wp : World, wp = wr := ⟨_, rfl⟩
        subst ewp
        by_cases hlt2 : k < m1
        · have HI1 := hide (((unhide HF1).below (unhide HBo)).more (unhide HBo).size)
          obtain ⟨bb, off, rfl, hbb, hc1, hc2⟩ := (unhide HI1).at_ k hlt2
          have HKL := hide (show k < E.length from by rw [HLE.out]; exact hlt2)
          have hsp := HES.out _ (mem_fth HKL.out)
          obtain ⟨p, hpk⟩ : ∃ p, fth E k = p := ⟨_, rfl⟩
          rw [hpk] at hc1 hc2 hsp
          have HFK := hide hpk
          clear hpk
          obtain ⟨u, v⟩ := p
          simp only at hc1 hc2
          have HSP := hide hsp
          clear hsp
          obtain ⟨W1, hW1⟩ : ∃ W1, W1 = wp.alloc (.cells #[.int .i64 u, .int .i64 v] 30) := ⟨_, rfl⟩
          have hB1 : Below wp.heap.size wp W1 := by rw [hW1]; exact (Below.refl _ _).alloc (Nat.le_refl _) _
          have HX1 := hide (show W1.heap[wp.heap.size]? = some (.cells #[.int .i64 u, .int .i64 v] 30 (0, 0)) from by rw [hW1]; exact heap_new_ _ _)
          have HB1 := hide ((unhide HBo).trans (hB1.mono (unhide HBo).size))
          have HI2 := hide (((unhide HI1).below hB1).more hB1.size)
          have HO1 := hide ((unhide HOv).below hB1 (Nat.le_refl _))
          have hW : wp.alloc (.cells #[.int .i64 u, .int .i64 v] 30) = W1 := hW1.symm
          clear hW1 hB1
          have hkc : k ≤ c1 := by omega
          have hkc2 : (k : Int) ≤ (c1 : Int) := by omega
          have hk0 : (0 : Int) ≤ (k : Int) := by omega
          go_upto_region 19 with fail
          clear hW hc1 hc2
          go_wp2_with fail
          clear hkc hkc2
          go_loopw [11, 13, 15, 61] (fun z _ _ i wr => ∃ j : Nat, ∃ zb : Bool, j ≤ k ∧ z = .bool zb ∧ i = .int .i64 j ∧ Hid (bt4 E k j = zb) ∧ Hid (Below W1.heap.size W1 wr)) (fun _ _ _ i _ => k - (intOf i).toNat)
          case atStart => exact ⟨0, false, Nat.zero_le _, rfl, rfl, hide (by simp [bt4]), hide (Below.refl _ _)⟩
          case round =>
            obtain ⟨j, zb, hj, rfl, rfl, HZ, HBj⟩ := hrel
            obtain ⟨wq, ewq⟩ : ∃ wq : World, wq = wr := ⟨_, rfl⟩
            subst ewq
            by_cases hjk : j < k
            · obtain ⟨b2, off2, e2, _, hd1, hd2⟩ := ((unhide HI2).below (unhide HBj)).at_ j (by omega)
              simp only [Option.some.injEq, Addr.mk.injEq, and_true] at e2
              obtain ⟨rfl, rfl⟩ := e2
              have HJL := hide (show j < E.length from by rw [HLE.out]; omega)
              have hsq := HES.out _ (mem_fth HJL.out)
              obtain ⟨q, hq⟩ : ∃ q, fth E j = q := ⟨_, rfl⟩
              rw [hq] at hd1 hd2 hsq
              have HQ := hide hq
              clear hq
              obtain ⟨s, t⟩ := q
              simp only at hd1 hd2
              have HSQ := hide hsq
              clear hsq
              obtain ⟨W3, hW3⟩ : ∃ W3, W3 = wq.alloc (.cells #[.int .i64 s, .int .i64 t] 30) := ⟨_, rfl⟩
              have hB3 : Below wq.heap.size wq W3 := by rw [hW3]; exact (Below.refl _ _).alloc (Nat.le_refl _) _
              have HB3 := hide ((unhide HBj).trans (hB3.mono (unhide HBj).size))
              have HS3 := hide (show W3.heap[wq.heap.size]? = some (.cells #[.int .i64 s, .int .i64 t] 30 (0, 0)) from by rw [hW3]; exact heap_new_ _ _)
              have HX3 := hide (((unhide HB3).block _ (Array.getElem?_eq_some_iff.1 (unhide HX1)).1).trans (unhide HX1))
              have HI3 := hide (((unhide HI2).below (unhide HB3)).more (unhide HB3).size)
              have hW : wq.alloc (.cells #[.int .i64 s, .int .i64 t] 30) = W3 := hW3.symm
              clear hW3 hB3
              have hl0 : (0 : Int) ≤ ((k + 1 : Nat) : Int) := by omega
              have hl1 : ((k + 1 : Nat) : Int) ≤ (m1 : Int) := by omega
              have hl2 : (m1 : Int) ≤ (c1 : Int) := by omega
              have hl3 : k + 1 ≤ m1 := by omega
              have hl4 : m1 ≤ c1 := by omega
              have hw1 : IntKind.i64.wrap ((k : Int) + 1) = ((k + 1 : Nat) : Int) := by rw [show (k : Int) + 1 = ((k + 1 : Nat) : Int) by omega]; exact wrap_in' (by omega)
              go_upto_region 23 with fail
              clear hW hd1 hd2
              go_cut [61, 68, 69, 70] from 61 to 101 (fun i s z i0 wx => i = .int .i64 j ∧ (∃ A2 c2, s = .slice A2 (m1 - (k + 1)) c2 ∧ Hid (Fs W3 W3.heap.size A2 (m1 - (k + 1)) c2 (E.drop (k + 1)))) ∧ z = .int .i64 ((m1 - (k + 1) : Nat) : Int) ∧ i0 = .int .i64 0 ∧ wx = W3)
              case first =>
                clear HOw HF1 HI HI1 HI2 HO1 HOv
                by_cases hcc : c1 = k + 1
                · go_wp2_with fail
                  go_meet
                  exact ⟨rfl, ⟨_, _, rfl, hide (Fs.zero (by omega) (by have := HLE.out; simp; omega))⟩, rfl, rfl, rfl⟩
                · go_wp2_with fail
                  go_meet
                  exact ⟨rfl, ⟨_, _, rfl, hide ((unhide HI3).drop hl3)⟩, rfl, rfl, rfl⟩
              case rest =>
                obtain ⟨rfl, ⟨A2, c2, rfl, HD⟩, rfl, rfl, rfl⟩ := hcut
                have HDm := (unhide HD).most
                clear hw1 hl0 hl1 hl2 hl4
                go_wp2_with fail
                go_loopw [11, 15, 70] (fun z _ i wr => ∃ l : Nat, ∃ z2 : Bool, l ≤ m1 - (k + 1) ∧ z = .bool z2 ∧ i = .int .i64 l ∧ Hid ((zb || bt5 E k (s, t) l) = z2) ∧ Hid (Below wc.heap.size wc wr)) (fun _ _ i _ => m1 - (k + 1) - (intOf i).toNat)
                case atStart => exact ⟨0, zb, Nat.zero_le _, rfl, rfl, hide (by simp [bt5]), hide (Below.refl _ _)⟩
                case round =>
                  obtain ⟨l, z2, hl, rfl, rfl, HZ2, HBl⟩ := hrel
                  by_cases hln : l < m1 - (k + 1)
                  · obtain ⟨b3, off3, rfl, _, hg1, hg2⟩ := ((unhide HD).below (unhide HBl)).at_ l hln
                    rw [fth_drop] at hg1 hg2
                    have HLL := hide (show k + 1 + l < E.length from by rw [HLE.out]; omega)
                    have hsr := HES.out _ (mem_fth HLL.out)
                    have hst := bt5_succ (E := E) (k := k) (l := l) (a := (s, t)) (by rw [HLE.out]; exact hln)
                    rw [HFK.out] at hst
                    obtain ⟨r, hr⟩ : ∃ r, fth E (k + 1 + l) = r := ⟨_, rfl⟩
                    rw [hr] at hg1 hg2 hsr hst
                    clear hr
                    obtain ⟨e, f⟩ := r
                    simp only at hg1 hg2 hst
                    have HSR := hide hsr
                    have HST := hide hst
                    clear hsr hst
                    obtain ⟨W5, hW5⟩ : ∃ W5, W5 = wr.alloc (.cells #[.int .i64 e, .int .i64 f] 30) := ⟨_, rfl⟩
                    have hB5 : Below wr.heap.size wr W5 := by rw [hW5]; exact (Below.refl _ _).alloc (Nat.le_refl _) _
                    have HB5 := hide ((unhide HBl).trans (hB5.mono (unhide HBl).size))
                    obtain ⟨e0, e1⟩ := two_at (show W5.heap[wr.heap.size]? = some (.cells #[.int .i64 e, .int .i64 f] 30 (0, 0)) from by rw [hW5]; exact heap_new_ _ _)
                    obtain ⟨s0, s1⟩ := two_at (((unhide HB5).block _ (Array.getElem?_eq_some_iff.1 (unhide HS3)).1).trans (unhide HS3))
                    obtain ⟨x0, x1⟩ := two_at (((unhide HB5).block _ (Array.getElem?_eq_some_iff.1 (unhide HX3)).1).trans (unhide HX3))
                    have hW : wr.alloc (.cells #[.int .i64 e, .int .i64 f] 30) = W5 := hW5.symm
                    clear hW5 hB5
                    cases z2 with
                    | true =>
                      have HN := hide (show (zb || bt5 E k (s, t) (l + 1)) = true from by rw [HST.out, ← Bool.or_assoc, HZ2.out, Bool.true_or])
                      go_upto_region 26 with fail
                      clear hW hg1 hg2
                      go_wp2_with fail
                      go_roundw
                      case rel => exact ⟨l + 1, true, by omega, rfl, by go_num, HN, HB5⟩
                      case measure => simp [intOf]; omega
                    | false =>
                      obtain ⟨⟨p1, p2⟩, ⟨p3, p4⟩⟩ := HSP.out
                      obtain ⟨⟨q1, q2⟩, ⟨q3, q4⟩⟩ := HSQ.out
                      obtain ⟨⟨r1, r2⟩, ⟨r3, r4⟩⟩ := HSR.out
                      simp only at p1 p2 p3 p4 q1 q2 q3 q4 r1 r2 r3 r4
                      obtain ⟨g1, hg1'⟩ : ∃ g1, (e - s) * (v - t) = g1 := ⟨_, rfl⟩
                      obtain ⟨g2, hg2'⟩ : ∃ g2, (f - t) * (u - s) = g2 := ⟨_, rfl⟩
                      have d1 := mul_bd (M := 2000) (N := 2000) (a := e - s) (b := v - t) (by omega) (by omega)
                      have d2 := mul_bd (M := 2000) (N := 2000) (a := f - t) (b := u - s) (by omega) (by omega)
                      rw [hg1'] at d1; rw [hg2'] at d2
                      have HN := hide (show (zb || bt5 E k (s, t) (l + 1)) = decide (g1 = g2) from by rw [HST.out, ← Bool.or_assoc, HZ2.out, Bool.false_or, hg1', hg2'])
                      by_cases hgg : g1 = g2
                      · have hgb : (g1 == g2) = true := by simp [hgg]
                        rw [decide_eq_true hgg] at HN
                        clear hgg
                        go_upto_region 26 with fail
                        clear hW hg1 hg2
                        go_wp2_with fail
                        go_roundw
                        case rel => exact ⟨l + 1, true, by omega, rfl, by go_num, HN, HB5⟩
                        case measure => simp [intOf]; omega
                      · have hgb : (g1 == g2) = false := by simp [hgg]
                        rw [decide_eq_false hgg] at HN
                        clear hgg
                        go_upto_region 26 with fail
                        clear hW hg1 hg2
                        go_wp2_with fail
                        go_roundw
                        case rel => exact ⟨l + 1, false, by omega, rfl, by go_num, HN, HB5⟩
                        case measure => simp [intOf]; omega
                  · have HN := hide (show bt4 E k (j + 1) = z2 from by
                      rw [bt4_succ (by omega) HKL.out, HZ.out, HQ.out, HLE.out, ← HZ2.out, show l = m1 - (k + 1) by omega])
                    have HBz := hide ((unhide HB3).trans ((unhide HBl).mono (unhide HB3).size))
                    go_wp2_with fail
                    go_roundw
                    case rel => exact ⟨j + 1, z2, by omega, rfl, by go_num, HN, HBz⟩
                    case measure => simp [intOf]; omega
            · have hjk' : j = k := by omega
              have hbz := HZ.out
              rw [hjk', bt4_all E HKL.out] at hbz
              have HBW := hide hbz
              clear hbz hjk' HZ
              have HBz := hide ((unhide HB1).trans ((unhide HBj).mono (unhide HB1).size))
              have HOz := hide ((unhide HO1).below (unhide HBj) (Nat.le_refl _))
              obtain ⟨x0, x1⟩ := two_at (((unhide HBj).block _ (Array.getElem?_eq_some_iff.1 (unhide HX1)).1).trans (unhide HX1))
              cases zb with
              | true =>
                have HE := hide (show outE E (k + 1) = outE E k from by simp only [outE, HBW.out]; simp)
                rw [← HE.out] at HOz
                go_wp2_with fail
                go_roundw
                case rel => exact ⟨k + 1, by omega, by go_num, HOz, HBz⟩
                case measure => simp [intOf]; omega
              | false =>
                have HE := hide (show outE E (k + 1) = outE E k ++ [(u, v)] from by
                  simp only [outE, HBW.out]; rw [if_neg (by simp), pth_fth, HFK.out])
                have HLen := hide (show (outE E k).length + [((u, v) : F)].length ≤ 1000000 from by have := outE_len E k; simp; omega)
                have HO4 := hide ((unhide HOz).below ((Below.refl wq.heap.size wq).alloc (Nat.le_refl _) (.cells #[.int .i64 u, .int .i64 v] 30)) (Nat.le_refl _))
                have hbs := (unhide HBz).size
                go_wp2_with (at_builtin; refine wpList_appP rfl _ _ rfl rfl rfl (unhide HO4) (fs_one wq u v) HLen.out (by simp; omega) ?_; intro v' w4 ho4 hg4 _)
                have HB4 := hide (show Below wo.heap.size wo w4 from ((unhide HBz).alloc (unhide HBz).size _).grown hg4 (by simp; omega) (fun q hq => (World.ownsRow.lt (unhide HO4) q hq).1))
                rw [← HE.out] at ho4
                have HO5 := hide ho4
                clear ho4 hg4
                go_wp2_with fail
                go_roundw
                case rel =>
                  repeat apply Exists.intro
                  exact ⟨⟨k + 1, by omega, by go_num, HO5, HB4⟩, rfl⟩
                case measure => simp [intOf]; omega
        · obtain rfl : k = m1 := by omega
          have hre := HRes.out
          rw [HLE.out] at hre
          rw [hre] at HOv
          have HOz := hide ((unhide HOv).low (unhide HB).size)
          have HBz := hide ((unhide HB).trans ((unhide HBo).mono (unhide HB).size))
          go_wp2_with fail
          go_ret
          exact ⟨_, rfl, unhide HOz, unhide HBz⟩
end Go.Proofs.Ytbgfiejaehpffaa
