/-
  corners of the program: the corners of the edge.
-/
import Derived.Test.YtbgfiejaehpffaaY1
import Derived.Test.YtbgfiejaehpffaaW5
import Derived.Test.YtbgfiejaehpffaaW8
namespace Go.Proofs.Ytbgfiejaehpffaa
open Go.RowKit

theorem Rise.congr {f g : Nat → P2} {n : Nat} (h : ∀ i, i < n → f i = g i) (hr : Rise f n) : Rise g n := fun i hi => by
  rw [← h i (by omega), ← h (i + 1) hi]; exact hr i hi
theorem Turn.congr {f g : Nat → P2} {n : Nat} (h : ∀ i, i < n → f i = g i) (hr : Turn f n) : Turn g n := fun i hi => by
  rw [← h i (by omega), ← h (i + 1) (by omega), ← h (i + 2) hi]; exact hr i hi
theorem SupQ.congr {f g : Nat → P2} {n : Nat} {q : P2} (h : ∀ i, i < n → f i = g i) (hr : SupQ f n q) : SupQ g n q := fun a b ha hb => by
  obtain ⟨j, hj, e⟩ := hr a b ha hb
  exact ⟨j, hj, by rw [← h j hj]; exact e⟩
theorem hidAt_congr {f g : Nat → P2} {p : P2} {n : Nat} (h : ∀ i, i < n → f i = g i) : hidAt f p n = hidAt g p n := by
  unfold hidAt
  by_cases h0 : 0 < n
  · rw [h (n - 1) (by omega), h (n - 2) (by omega)]
  · simp [h0]
theorem fth_take {L : List F} {m i : Nat} (h : i < m) : fth (L.take m) i = fth L i := by simp [fth, List.getD, List.getElem?_take, h]

theorem OwnQ.reads {w : World} {base n c : Nat} {e : TypeId} {A : Option Addr} {fs : List F} (h : OwnQ w base e (.slice A n c) fs) : Fs w w.heap.size A n c fs := by
  obtain ⟨A', n', c', e, hf⟩ := h.to
  cases e
  exact hf
theorem OwnQ.someA {w : World} {base n c : Nat} {e : TypeId} {A : Option Addr} {fs : List F} (h : OwnQ w base e (.slice A n c) fs) (hn : 0 < n) : ∃ g, A = some ⟨g, 0, none⟩ := by
  have hl := h.reads.len
  rcases h.2 with ⟨h0, h1⟩ | ⟨g, cap, cur, hv, _⟩
  · omega
  · cases hv; exact ⟨g, rfl⟩
theorem OwnQ.low {w : World} {base b' : Nat} {e : TypeId} {v : Value} {fs : List F} (h : OwnQ w base e v fs) (hb : b' ≤ base) : OwnQ w b' e v fs := by
  refine ⟨h.1, ?_⟩
  rcases h.2 with h0 | ⟨g, cap, cur, hv, hg, r⟩
  · exact .inl h0
  · exact .inr ⟨g, cap, cur, hv, Nat.le_trans hb hg, r⟩
/-- The length of a slice. -/
def lenV : Value → Nat
  | .slice _ n _ => n
  | _ => 0
theorem hid_pos {f : Nat → P2} {p : P2} {m : Nat} (h : hidAt f p m = true) : 0 < m := by
  unfold hidAt at h
  simp only [Bool.and_eq_true, decide_eq_true_eq] at h
  exact h.1
theorem popN_hid {f : Nat → P2} {p : P2} {m : Nat} (h : hidAt f p (m + 1) = true) : popN f p (m + 1) = popN f p m := by unfold popN; rw [if_pos h]; cases m <;> rfl
theorem popN_stay {f : Nat → P2} {p : P2} {m : Nat} (h : hidAt f p m = false) : popN f p m = m := by
  cases m with
  | zero => rfl
  | succ m => unfold popN; rw [if_neg (by rw [h]; simp)]
/-- L lists the corners of the first k of S. -/
structure CorP (S : List F) (k : Nat) (L : List F) : Prop where
  rise : Rise (fth L) L.length
  turn : Turn (fth L) L.length
  mem : ∀ j, j < L.length → fth L j ∈ S.take k
  sup : ∀ q, q ∈ S.take k → SupQ (fth L) L.length q
  last : 0 < k → 0 < L.length ∧ fth L (L.length - 1) = fth S (k - 1)
theorem CorP.zero (S : List F) : CorP S 0 [] := ⟨fun i h => absurd h (by simp), fun i h => absurd h (by simp), fun j h => absurd h (by simp), fun q h => by simp at h, fun h => absurd h (by omega)⟩
theorem take_succ {S : List F} {k : Nat} (h : k < S.length) : S.take (k + 1) = S.take k ++ [fth S k] := by
  rw [List.take_succ_eq_append_getElem h]; simp [fth, List.getD, h]
theorem CorP.step {S L : List F} {k K : Nat} (h : CorP S k L) (hk : k < S.length) (hs : ∀ i j, i < j → j < S.length → lexlt (fth S i) (fth S j)) (hK : popN (fth L) (fth S k) L.length = K) : CorP S (k + 1) (L.take K ++ [fth S k]) := by
  have hKle : K ≤ L.length := by rw [← hK]; exact popN_le _ _ _
  have hlen : (L.take K ++ [fth S k]).length = K + 1 := by simp; omega
  have hget : ∀ i, i < K + 1 → put (fth L) K (fth S k) i = fth (L.take K ++ [fth S k]) i := by
    intro i hi
    unfold put
    by_cases hik : i < K
    · rw [if_pos hik]
      simp only [fth, List.getD]
      rw [List.getElem?_append_left (by simp; omega), List.getElem?_take, if_pos hik]
    · rw [if_neg hik]
      obtain rfl : i = K := by omega
      have hl : (L.take i).length = i := by simp; omega
      have : fth (L.take i ++ [fth S k]) i = fth S k := by
        simp only [fth, List.getD]
        rw [List.getElem?_append_right (by omega), hl]; simp
      exact this.symm
  have hl : 0 < L.length → lexlt (fth L (L.length - 1)) (fth S k) := by
    intro h0
    rcases Nat.eq_zero_or_pos k with hk0 | hk0
    · have := h.mem 0 h0; rw [hk0] at this; simp at this
    · rw [(h.last hk0).2]; exact hs _ _ (by omega) hk
  have r1 := put_rise (p := fth S k) h.rise hl
  have t1 := put_turn (p := fth S k) h.turn
  rw [hK] at r1 t1
  refine ⟨by rw [hlen]; exact r1.congr hget, by rw [hlen]; exact t1.congr hget, fun j hj => ?_, fun q hq => ?_, fun _ => ⟨by omega, ?_⟩⟩
  · rw [hlen] at hj
    rw [← hget j hj, take_succ hk]
    unfold put
    split
    · exact List.mem_append_left _ (h.mem j (by omega))
    · simp
  · rw [take_succ hk, List.mem_append] at hq
    have := put_sup (p := fth S k) (q := q) h.rise hl (by
      rcases hq with hq | hq
      · exact .inl (h.sup q hq)
      · exact .inr (by simpa using hq))
    rw [hK] at this
    rw [hlen]
    exact this.congr hget
  · rw [hlen, Nat.add_sub_cancel, Nat.add_sub_cancel, ← hget K (by omega)]
    unfold put
    rw [if_neg (by omega)]
theorem CorP.cor {S L fs : List F} (h : CorP S S.length L) (hp : S.Perm fs) (hn : 0 < fs.length) : Cor fs (fth L) L.length := by
  have hl := hp.length_eq
  have hm : ∀ q, q ∈ S.take S.length ↔ q ∈ fs := fun q => by rw [List.take_length]; exact hp.mem_iff
  exact ⟨(h.last (by omega)).1, h.rise, h.turn, fun j hj => (hm _).1 (h.mem j hj), fun q hq => h.sup q ((hm q).2 hq)⟩

set_option maxRecDepth 100000 in
set_option maxHeartbeats 16000000 in
theorem corners_any (A : Option Addr) (n c : Nat) (fs : List F) (w : World) (h : Fs w w.heap.size A n c fs) (hn : 0 < n) (hn2 : n ≤ 12) (hsm : Hid (∀ q, q ∈ fs → smallP 1000 q)) (hnd : Hid fs.Nodup) :
    Calls Try.prog 48 #[.slice A n c] w fun e w' => ∃ v L, e = .returned v ∧ OwnQ w' w.heap.size 30 v L ∧ Cor fs (fth L) L.length ∧ L.length ≤ n ∧ Below w.heap.size w w' := by
  have HL := hide h.len
  have HC := hide (byX_any A n c fs w h hn hn2)
  clear h
  go_enter Try.func48, Try.ntmps48
  go_wp2_with fail
  refine (unhide HC).mono ?_
  rintro e w1 ⟨A1, c1, S, rfl, hp, hso, hfs, hb1⟩
  have HP := hide hp
  have HSL := hide (show S.length = n from hfs.len)
  have HSt := hide (show ∀ i j, i < j → j < S.length → lexlt (fth S i) (fth S j) from fun i j hij hj => by
    have h1 := hso i j hij hj
    have h2 : fth S i ≠ fth S j := by
      have hn := hp.nodup_iff.2 hnd.out
      intro e
      have := (List.nodup_iff_pairwise_ne.1 hn)
      have h3 := List.pairwise_iff_getElem.1 this i j (by omega) hj hij
      apply h3
      simpa [fth, List.getD, hj, show i < S.length by omega] using e
    generalize fth S i = p at h1 h2
    generalize fth S j = q at h1 h2
    unfold lexlt at *
    rcases Int.lt_trichotomy p.1 q.1 with h4 | h4 | h4
    · exact .inl h4
    · rcases Int.lt_trichotomy p.2 q.2 with h5 | h5 | h5
      · exact .inr ⟨h4, h5⟩
      · exact absurd (Prod.ext h4 h5) h2
      · exact absurd (.inr ⟨h4.symm, h5⟩) h1
    · exact absurd (.inl h4) h1)
  have HSs := hide (show ∀ q, q ∈ S → smallP 1000 q from fun q hq => hsm.out q (hp.mem_iff.1 hq))
  have HF := hide hfs
  have HB1 := hide hb1
  have hmost := hfs.most; have hcap := hfs.cap
  clear hp hso hfs hb1
  go_wp2_with fail
  go_loopw [3, 5, 9] (fun v _ i wr => ∃ k : Nat, k ≤ n ∧ i = .int .i64 k ∧ Hid (∃ L, OwnQ wr w1.heap.size 30 v L ∧ CorP S k L ∧ L.length ≤ k) ∧ Hid (Below w1.heap.size w1 wr)) (fun _ _ i _ => n - (intOf i).toNat)
  case atStart => exact ⟨0, Nat.zero_le _, rfl, hide ⟨[], World.ownsRow_nil _ _ _ _, CorP.zero S, Nat.le_refl _⟩, hide (Below.refl _ _)⟩
  case round =>
    obtain ⟨k, hk, rfl, HO, HB⟩ := hrel
    obtain ⟨L, hown, hcor, hlen⟩ := HO.out
    obtain ⟨A2, m0, c2, rfl, hf2⟩ := hown.to
    have hm0 : L.length = m0 := hf2.len
    have hcap2 := hf2.cap; have hmost2 := hf2.most
    have HOw := hide hown; have HCor := hide hcor; have HLen := hide hlen; have HM0 := hide hm0
    have hm12 : m0 ≤ 12 := by omega
    clear hown hcor hlen HO hf2 hm0
    obtain ⟨wo, ewo⟩ : ∃ wo : World, wo = wr := ⟨_, rfl⟩
    subst ewo
    by_cases hlt : k < n
    · obtain ⟨b, off, rfl, hb, hc1, hc2⟩ := ((unhide HF).below (unhide HB)).at_ k hlt
      have hpS : fth S k ∈ S := mem_fth (by rw [HSL.out]; exact hlt)
      have HSmL := hide (show ∀ j, j < m0 → smallP 1000 (fth L j) from fun j hj => HSs.out _ (List.mem_of_mem_take (HCor.out.mem j (by rw [HM0.out]; exact hj))))
      obtain ⟨K, hK⟩ : ∃ K, popN (fth L) (fth S k) L.length = K := ⟨_, rfl⟩
      have HStep := hide (HCor.out.step (by rw [HSL.out]; exact hlt) HSt.out hK)
      have HK := hide (show popN (fth L) (fth S k) m0 = K from by rw [← HM0.out]; exact hK)
      have hps := HSs.out _ hpS
      clear hpS hK
      generalize fth S k = p at hc1 hc2 HStep HK hps
      obtain ⟨x, y⟩ := p
      simp only at hc1 hc2
      have HPS := hide hps
      clear hps
      obtain ⟨W1, hW1⟩ : ∃ W1, W1 = wo.alloc (.cells #[.int .i64 x, .int .i64 y] 30) := ⟨_, rfl⟩
      have hB1 : Below wo.heap.size wo W1 := by rw [hW1]; exact (Below.refl _ _).alloc (Nat.le_refl _) _
      have HP1 := hide (show W1.heap[wo.heap.size]? = some (.cells #[.int .i64 x, .int .i64 y] 30 (0, 0)) from by rw [hW1]; exact heap_new_ _ _)
      have HB1' := hide ((unhide HB).trans (hB1.mono (unhide HB).size))
      have HO1 := hide ((unhide HOw).below hB1 (Nat.le_refl _))
      have HNE := hide (show ∀ g, (Value.slice A2 m0 c2).ownBlock = some g → g < wo.heap.size from fun g hg => (World.ownsRow.lt (unhide HOw) g hg).2)
      have hW : wo.alloc (.cells #[.int .i64 x, .int .i64 y] 30) = W1 := hW1.symm
      clear hW1 hB1
      go_wp2_with fail
      clear hW hc1 hc2
      go_loopw [3] (fun v wr => ∃ m : Nat, m ≤ m0 ∧ v = .slice A2 m c2 ∧ Hid (popN (fth L) (x, y) m = K) ∧ Hid (Below W1.heap.size W1 wr)) (fun v _ => lenV v)
      case atStart => exact ⟨m0, Nat.le_refl _, rfl, HK, hide (Below.refl _ _)⟩
      case round =>
        obtain ⟨m, hm, rfl, HKm, HBi⟩ := hrel
        have hro := (unhide HO1).below (unhide HBi) (Nat.le_refl _)
        have HOc := hide (hro.cut hm)
        have hp2 := ((unhide HBi).block _ (Array.getElem?_eq_some_iff.1 (unhide HP1)).1).trans (unhide HP1)
        obtain ⟨p0, p1⟩ := two_at hp2
        have HP2 := hide hp2
        have hcon := hidAt_congr (f := fth (L.take m)) (g := fth L) (p := (x, y)) (n := m) (fun i hi => fth_take hi)
        have HIH := hide (fun b hb => isHidden_any A2 m c2 (L.take m) x y wr (unhide HOc).reads (fun j hj => by rw [fth_take hj]; exact HSmL.out j (by omega)) HPS.out b (hide (by rw [hcon]; exact hb)))
        clear hro hp2 hcon
        have hmc : m ≤ c2 := by omega
        cases hh : hidAt (fth L) (x, y) m with
        | true =>
          have hpos := hid_pos hh
          obtain ⟨m', rfl⟩ : ∃ m', m = m' + 1 := ⟨m - 1, by omega⟩
          have HKn := hide (show popN (fth L) (x, y) m' = K from by rw [← popN_hid hh]; exact HKm.out)
          obtain ⟨g, rfl⟩ := (unhide HOc).someA hpos
          have HIt := hide ((unhide HIH) true hh)
          have hw1 : IntKind.i64.wrap (((m' + 1 : Nat) : Int) - 1) = (m' : Int) := by rw [show ((m' + 1 : Nat) : Int) - 1 = m' by omega]; exact wrap_in' (by omega)
          have hm1 : (m' : Int) ≤ (c2 : Int) := by omega
          have hm2 : m' ≤ c2 := by omega
          have hm3 : (0 : Int) ≤ (m' : Int) := by omega
          clear hh HIH hpos
          go_wp2_with fail
          refine (unhide HIt).mono ?_
          rintro e w3 ⟨rfl, b3⟩
          have HB3 := hide ((unhide HBi).trans (b3.mono (unhide HBi).size))
          clear b3 p0 p1
          go_wp2_with fail
          go_roundw
          case rel => exact ⟨m', by omega, rfl, HKn, HB3⟩
          case measure => simp [lenV]
        | false =>
          have HMK := hide (show m = K from by rw [← HKm.out, popN_stay hh])
          have HIt := hide ((unhide HIH) false hh)
          clear hh HIH
          go_wp2_with fail
          refine (unhide HIt).mono ?_
          rintro e w3 ⟨rfl, b3⟩
          have HB3 := hide ((unhide HBi).trans (b3.mono (unhide HBi).size))
          have HO3 := hide ((unhide HOc).below b3 (Nat.le_refl _))
          have hp3 := (b3.block _ (Array.getElem?_eq_some_iff.1 (unhide HP2)).1).trans (unhide HP2)
          clear b3 p0 p1
          obtain ⟨p0, p1⟩ := two_at hp3
          clear hp3
          have HO4 := hide ((unhide HO3).below ((Below.refl w3.heap.size w3).alloc (Nat.le_refl _) (.cells #[.int .i64 x, .int .i64 y] 30)) (Nat.le_refl _))
          have hlen3 := hide (show (L.take m).length + [((x, y) : F)].length ≤ 1000000 from by simp; omega)
          have HBw := hide ((unhide HB1').trans ((unhide HB3).mono (unhide HB1').size))
          have hbs := (unhide HBw).size
          go_wp2_with (at_builtin; refine wpList_appP rfl _ _ rfl rfl rfl (unhide HO4) (fs_one w3 x y) hlen3.out (by simp; omega) ?_; intro v' w4 ho4 hg4 _)
          have HB4 := hide (show Below w1.heap.size w1 w4 from ((unhide HBw).alloc (unhide HBw).size _).grown hg4 (by simp; omega) (fun q hq => (World.ownsRow.lt (unhide HO4) q hq).1))
          have HRel := hide (show ∃ L', OwnQ w4 w1.heap.size 30 v' L' ∧ CorP S (k + 1) L' ∧ L'.length ≤ k + 1 from ⟨_, ho4, by rw [HMK.out]; exact HStep.out, by have := HLen.out; simp; omega⟩)
          clear ho4 hg4 p0 p1
          go_wp2_with fail
          go_roundw
          case rel => exact ⟨k + 1, by omega, by go_num, HRel, HB4⟩
          case measure => simp [intOf]; omega
    · have HKN := hide (show k = S.length from by rw [HSL.out]; omega)
      have HRes := hide (show Cor fs (fth L) L.length from by
        have h1 := HCor.out
        rw [HKN.out] at h1
        exact h1.cor HP.out (by rw [HL.out]; exact hn))
      have HOb := hide (show OwnQ wo w.heap.size 30 (.slice A2 m0 c2) L from (unhide HOw).low (unhide HB1).size)
      have HBz := hide ((unhide HB1).trans ((unhide HB).mono (unhide HB1).size))
      go_wp2_with fail
      go_ret
      exact ⟨_, L, rfl, unhide HOb, HRes.out, by have := HLen.out; omega, unhide HBz⟩
end Go.Proofs.Ytbgfiejaehpffaa
