/-
  Limits of the reference, walked.
-/
import Derived.Test.YtbgfiejaehpffaaVb
namespace Go.Proofs.Ytbgfiejaehpffaa
open Go.RowKit

theorem OwnedG.low {w : World} {base b' : Nat} {e : TypeId} {v : Value} {gs : List G} (h : OwnedG w base e v gs) (hb : b' ≤ base) : OwnedG w b' e v gs := by
  refine ⟨h.1, ?_⟩
  rcases h.2 with h0 | ⟨g, cap, cur, hv, hg, r⟩
  · exact .inl h0
  · exact .inr ⟨g, cap, cur, hv, Nat.le_trans hb hg, r⟩
theorem lim_eq (x y u v : Int) : lim (x, y) (u, v) = (y - v, u - x, (y - v) * x + (u - x) * y) := rfl

set_option maxRecDepth 100000 in
set_option maxHeartbeats 16000000 in
theorem RLimits_any (A : Option Addr) (n c : Nat) (fs : List F) (w : World) (h : Fs w w.heap.size A n c fs) (hO : Hid (Off fs)) :
    Calls Try.prog 54 #[.slice A n c] w fun e w' => ∃ v, e = .returned v ∧ OwnedG w' w.heap.size 79 v (rLims fs) ∧ Below w.heap.size w w' := by
  have hm := h.most; have hcap := h.cap
  have hn8 : n ≤ 8 := by have := hO.out.most; have := h.len; omega
  have HI := hide h
  have HL := hide h.len
  clear h
  go_enter Try.func54, Try.ntmps54
  go_wp2_with fail
  go_loopw [3, 6, 8, 16] (fun v _ _ i wr => ∃ k : Nat, k ≤ n ∧ i = .int .i64 k ∧ Hid (OwnedG wr w.heap.size 79 v (mayL fs k)) ∧ Hid (Below w.heap.size w wr)) (fun _ _ _ i _ => n - (intOf i).toNat)
  case atStart => exact ⟨0, Nat.zero_le _, rfl, hide (World.ownsRow_nil _ _ _ _), hide (Below.refl _ _)⟩
  case round =>
    obtain ⟨k, hk, rfl, HOw, HB⟩ := hrel
    obtain ⟨wo, ewo⟩ : ∃ wo : World, wo = wr := ⟨_, rfl⟩
    subst ewo
    by_cases hlt : k < n
    · obtain ⟨bb, off, rfl, hbb, hc1, hc2⟩ := ((unhide HI).below (unhide HB)).at_ k hlt
      have HKL := hide (show k < fs.length from by rw [HL.out]; exact hlt)
      have hsp := hO.out.pr _ (mem_fth HKL.out)
      obtain ⟨p, hpk⟩ : ∃ p, fth fs k = p := ⟨_, rfl⟩
      rw [hpk] at hc1 hc2 hsp
      have HFK := hide hpk
      clear hpk
      obtain ⟨x, y⟩ := p
      simp only at hc1 hc2
      have HSP := hide hsp
      clear hsp
      obtain ⟨W1, hW1⟩ : ∃ W1, W1 = wo.alloc (.cells #[.int .i64 x, .int .i64 y] 30) := ⟨_, rfl⟩
      have hB1 : Below wo.heap.size wo W1 := by rw [hW1]; exact (Below.refl _ _).alloc (Nat.le_refl _) _
      have HX1 := hide (show W1.heap[wo.heap.size]? = some (.cells #[.int .i64 x, .int .i64 y] 30 (0, 0)) from by rw [hW1]; exact heap_new_ _ _)
      obtain ⟨x0, x1⟩ := two_at (unhide HX1)
      have HB1 := hide ((unhide HB).trans (hB1.mono (unhide HB).size))
      have HO1 := hide ((unhide HOw).below hB1 (Nat.le_refl _))
      have hzW : wo.heap.size < W1.heap.size := by rw [hW1]; simp
      have hW : wo.alloc (.cells #[.int .i64 x, .int .i64 y] 30) = W1 := hW1.symm
      clear hW1 hB1
      have HLen := hide (show (mayL fs k).length + [((1, 0, x) : G), (0, 1, y)].length ≤ 1000000 from by
        have h1 := mayL_len fs k
        have h2 : k * (2 + fs.length) ≤ 8 * 10 := Nat.mul_le_mul (by omega) (by rw [HL.out]; omega)
        simp; omega)
      have HO2 := hide ((unhide HO1).below ((Below.refl W1.heap.size W1).alloc (Nat.le_refl _) (.cells #[.int .i64 1, .int .i64 0, .int .i64 x, .int .i64 0, .int .i64 1, .int .i64 y] 79)) (Nat.le_refl _))
      have hbs := (unhide HB1).size
      go_upto_region 5 with fail
      clear hW hc1 hc2
      go_wp2_with (at_builtin; refine wpList_appGs rfl _ _ rfl rfl rfl (unhide HO2) (gs_two W1 1 0 x 0 1 y) HLen.out (by simp; omega) ?_; intro v' w4 ho4 hg4 h5)
      have HB4 := hide (show Below w.heap.size w w4 from ((unhide HB1).alloc (unhide HB1).size _).grown hg4 (by simp; omega) (fun q hq => (World.ownsRow.lt (unhide HO2) q hq).1))
      have HX4 := hide (show w4.heap[wo.heap.size]? = some (.cells #[.int .i64 x, .int .i64 y] 30 (0, 0)) from
        (hg4.block wo.heap.size (by simp; omega) (fun e => absurd (World.ownsRow.lt (unhide HOw) _ e.symm).2 (by omega))).trans ((Below.heap_alloc _ _ _ (by omega)).trans (unhide HX1)))
      have HN4 := hide (show ∀ q, v'.ownBlock = some q → q ≠ wo.heap.size from fun q hq => by
        rcases h5 with e | e
        · rw [e] at hq; have := (World.ownsRow.lt (unhide HOw) _ hq).2; omega
        · rw [e] at hq; have := Option.some.inj hq; simp at this; omega)
      have HO4 := hide ho4
      clear ho4 hg4 x0 x1 h5
      go_wp2_with fail
      go_loopw [3, 8, 31] (fun v _ i wr => ∃ j : Nat, j ≤ n ∧ i = .int .i64 j ∧ Hid (OwnedG wr w.heap.size 79 v (mayL fs k ++ [(1, 0, x), (0, 1, y)] ++ mayIn fs (x, y) j)) ∧ Hid (∀ q, v.ownBlock = some q → q ≠ wo.heap.size) ∧ Hid (wr.heap[wo.heap.size]? = some (.cells #[.int .i64 x, .int .i64 y] 30 (0, 0))) ∧ Hid (Below w.heap.size w wr)) (fun _ _ i _ => n - (intOf i).toNat)
      case atStart => exact ⟨0, Nat.zero_le _, rfl, by simpa [mayIn] using HO4, HN4, HX4, HB4⟩
      case round =>
        obtain ⟨j, hj, rfl, HOj, HNj, HXj, HBj⟩ := hrel
        obtain ⟨wq, ewq⟩ : ∃ wq : World, wq = wr := ⟨_, rfl⟩
        subst ewq
        by_cases hjn : j < n
        · obtain ⟨b2, off2, e2, _, hd1, hd2⟩ := ((unhide HI).below (unhide HBj)).at_ j hjn
          simp only [Option.some.injEq, Addr.mk.injEq, and_true] at e2
          obtain ⟨rfl, rfl⟩ := e2
          have HJL := hide (show j < fs.length from by rw [HL.out]; exact hjn)
          have hsq := hO.out.pr _ (mem_fth HJL.out)
          obtain ⟨q, hq⟩ : ∃ q, fth fs j = q := ⟨_, rfl⟩
          rw [hq] at hd1 hd2 hsq
          have HQ := hide hq
          clear hq
          obtain ⟨s, t⟩ := q
          simp only at hd1 hd2
          have HSQ := hide hsq
          clear hsq
          obtain ⟨W3, hW3⟩ : ∃ W3, W3 = wq.alloc (.cells #[.int .i64 s, .int .i64 t] 30) := ⟨_, rfl⟩
          have hB3 : Below wq.heap.size wq W3 := by rw [hW3]; exact (Below.refl _ _).alloc (Nat.le_refl _) _
          have HB3 := hide ((unhide HBj).trans (hB3.mono (unhide HBj).size))
          have HO3 := hide ((unhide HOj).below hB3 (Nat.le_refl _))
          obtain ⟨s0, s1⟩ := two_at (show W3.heap[wq.heap.size]? = some (.cells #[.int .i64 s, .int .i64 t] 30 (0, 0)) from by rw [hW3]; exact heap_new_ _ _)
          have HX3 := hide ((hB3.block _ (Array.getElem?_eq_some_iff.1 (unhide HXj)).1).trans (unhide HXj))
          have HXl := hide (show wo.heap.size < W3.heap.size from (Array.getElem?_eq_some_iff.1 (unhide HX3)).1)
          obtain ⟨x0, x1⟩ := two_at (unhide HX3)
          have hW : wq.alloc (.cells #[.int .i64 s, .int .i64 t] 30) = W3 := hW3.symm
          clear hW3 hB3
          have HBW := hide (show below2 (x, y) (s, t) = (decide (x < s) && decide (t < y)) from rfl)
          by_cases h1 : x < s
          · by_cases h2 : t < y
            · have HE := hide (show mayIn fs (x, y) (j + 1) = mayIn fs (x, y) j ++ [lim (x, y) (s, t)] from by
                rw [mayIn, HQ.out, if_pos (by rw [HBW.out, decide_eq_true h1, decide_eq_true h2]; rfl)])
              obtain ⟨⟨p1, p2⟩, ⟨p3, p4⟩⟩ := HSP.out
              obtain ⟨⟨q1, q2⟩, ⟨q3, q4⟩⟩ := HSQ.out
              simp only at p1 p2 p3 p4 q1 q2 q3 q4
              obtain ⟨m1, hm1⟩ : ∃ m1, (y - t) * x = m1 := ⟨_, rfl⟩
              obtain ⟨m2, hm2⟩ : ∃ m2, (s - x) * y = m2 := ⟨_, rfl⟩
              have d1 := mul_bd (M := 60) (N := 60) (a := y - t) (b := x) (by omega) (by omega)
              have d2 := mul_bd (M := 60) (N := 60) (a := s - x) (b := y) (by omega) (by omega)
              rw [hm1] at d1; rw [hm2] at d2
              have HLm := hide (show lim (x, y) (s, t) = (y - t, s - x, m1 + m2) from by rw [lim_eq, hm1, hm2])
              have HLen := hide (show (mayL fs k ++ [((1, 0, x) : G), (0, 1, y)] ++ mayIn fs (x, y) j).length + [((y - t, s - x, m1 + m2) : G)].length ≤ 1000000 from by
                have h1 := mayL_len fs k
                have h2 : k * (2 + fs.length) ≤ 8 * 10 := Nat.mul_le_mul (by omega) (by rw [HL.out]; omega)
                have h3 := mayIn_len fs (x, y) j
                simp; omega)
              have HO5 := hide ((unhide HO3).below ((Below.refl W3.heap.size W3).alloc (Nat.le_refl _) (.cells #[.int .i64 (y - t), .int .i64 (s - x), .int .i64 (m1 + m2)] 79)) (Nat.le_refl _))
              have hbs := (unhide HB3).size
              go_upto_region 9 with fail
              clear hW hd1 hd2
              go_wp2_with (at_builtin; refine wpList_appGs rfl _ _ rfl rfl rfl (unhide HO5) (gs_one W3 (y - t) (s - x) (m1 + m2)) HLen.out (by simp; omega) ?_; intro v' w6 ho6 hg6 h6)
              have HB6 := hide (show Below w.heap.size w w6 from ((unhide HB3).alloc (unhide HB3).size _).grown hg6 (by simp; omega) (fun q hq => (World.ownsRow.lt (unhide HO5) q hq).1))
              have HX6 := hide (show w6.heap[wo.heap.size]? = some (.cells #[.int .i64 x, .int .i64 y] 30 (0, 0)) from
                (hg6.block wo.heap.size (by have := HXl.out; simp; omega) (fun e => (unhide HNj) _ e.symm rfl)).trans ((Below.heap_alloc _ _ _ HXl.out).trans (unhide HX3)))
              have HN6 := hide (show ∀ q, v'.ownBlock = some q → q ≠ wo.heap.size from fun q hq => by
                rcases h6 with e | e
                · rw [e] at hq; exact (unhide HNj) q hq
                · rw [e] at hq; have h7 := Option.some.inj hq; have h8 := HXl.out; simp at h7; omega)
              rw [List.append_assoc, ← HLm.out, ← HE.out] at ho6
              have HO6 := hide ho6
              clear ho6 hg6 h6
              go_wp2_with fail
              go_roundw
              case rel => exact ⟨j + 1, by omega, by go_num, HO6, HN6, HX6, HB6⟩
              case measure => simp [intOf]; omega
            · have HE := hide (show mayIn fs (x, y) (j + 1) = mayIn fs (x, y) j from by
                rw [mayIn, HQ.out, if_neg (by rw [HBW.out, decide_eq_false h2, Bool.and_false]; simp), List.append_nil])
              rw [← HE.out] at HO3
              go_upto_region 9 with fail
              clear hW hd1 hd2
              go_wp2_with fail
              go_roundw
              case rel => exact ⟨j + 1, by omega, by go_num, HO3, HNj, HX3, HB3⟩
              case measure => simp [intOf]; omega
          · have HE := hide (show mayIn fs (x, y) (j + 1) = mayIn fs (x, y) j from by
              rw [mayIn, HQ.out, if_neg (by rw [HBW.out, decide_eq_false h1, Bool.false_and]; simp), List.append_nil])
            rw [← HE.out] at HO3
            go_upto_region 9 with fail
            clear hW hd1 hd2
            go_wp2_with fail
            go_roundw
            case rel => exact ⟨j + 1, by omega, by go_num, HO3, HNj, HX3, HB3⟩
            case measure => simp [intOf]; omega
        · have HE := hide (show mayL fs (k + 1) = mayL fs k ++ [(1, 0, x), (0, 1, y)] ++ mayIn fs (x, y) j from by
            rw [mayL, HFK.out, show j = fs.length from by rw [HL.out]; omega])
          rw [← HE.out] at HOj
          go_wp2_with fail
          go_roundw
          case rel => exact ⟨k + 1, by omega, by go_num, HOj, HBj⟩
          case measure => simp [intOf]; omega
    · have HK := hide (show k = fs.length from by rw [HL.out]; omega)
      rw [HK.out] at HOw
      have HML := hide (show (mayL fs fs.length).length ≤ 100 from by
        have h1 := mayL_len fs fs.length
        have h2 : fs.length * (2 + fs.length) ≤ 8 * 10 := Nat.mul_le_mul (by rw [HL.out]; omega) (by rw [HL.out]; omega)
        omega)
      have HMk := hide (show ∀ m, m ∈ mayL fs fs.length → okL m from fun m hm => okL_may hO.out hm)
      have HRes := hide (show (mayL fs fs.length).filter (okM fs) = rLims fs from rfl)
      generalize mayL fs fs.length = M at HOw HML HMk HRes
      obtain ⟨A1, n1, c1, rfl, hg1⟩ := (unhide HOw).to
      have hm1 := hg1.most; have hcap1 := hg1.cap
      have HG1 := hide hg1
      have HLM := hide hg1.len
      have hn1 : n1 ≤ 100 := by rw [← hg1.len]; exact HML.out
      clear hg1 HOw
      go_wp2_with fail
      go_loopw [4, 10, 11, 13, 82] (fun v _ _ _ i wr => ∃ l : Nat, l ≤ n1 ∧ i = .int .i64 l ∧ Hid (OwnedG wr wo.heap.size 79 v ((M.take l).filter (okM fs))) ∧ Hid (Below wo.heap.size wo wr)) (fun _ _ _ _ i _ => n1 - (intOf i).toNat)
      case atStart => exact ⟨0, Nat.zero_le _, rfl, hide (World.ownsRow_nil _ _ _ _), hide (Below.refl _ _)⟩
      case round =>
        obtain ⟨l, hl, rfl, HOv, HBo⟩ := hrel
        obtain ⟨wp, ewp⟩ : ∃ wp : World, wp = wr := ⟨_, rfl⟩
        subst ewp
        by_cases hln : l < n1
        · obtain ⟨b3, off3, rfl, _, hg1, hg2, hg3⟩ := ((unhide HG1).below (unhide HBo)).at_ l hln
          have HLL := hide (show l < M.length from by rw [HLM.out]; exact hln)
          have hok := HMk.out _ (mem_gth HLL.out)
          have htk := gtake M l HLL.out
          obtain ⟨r, hr⟩ : ∃ r, gth M l = r := ⟨_, rfl⟩
          rw [hr] at hg1 hg2 hg3 hok htk
          clear hr
          obtain ⟨a, b, e⟩ := r
          simp only at hg1 hg2 hg3
          have HOK := hide hok
          have HTK := hide htk
          clear hok htk
          obtain ⟨W1, hW1⟩ : ∃ W1, W1 = wp.alloc (.cells #[.int .i64 a, .int .i64 b, .int .i64 e] 79) := ⟨_, rfl⟩
          have hB1 : Below wp.heap.size wp W1 := by rw [hW1]; exact (Below.refl _ _).alloc (Nat.le_refl _) _
          have HX1 := hide (show W1.heap[wp.heap.size]? = some (.cells #[.int .i64 a, .int .i64 b, .int .i64 e] 79 (0, 0)) from by rw [hW1]; exact heap_new_ _ _)
          have HB1 := hide ((unhide HBo).trans (hB1.mono (unhide HBo).size))
          have HB1w := hide ((unhide HB).trans ((unhide HB1).mono (unhide HB).size))
          have HI2 := hide (((unhide HI).below (unhide HB1w)).more (unhide HB1w).size)
          have HO1 := hide ((unhide HOv).below hB1 (Nat.le_refl _))
          have hW : wp.alloc (.cells #[.int .i64 a, .int .i64 b, .int .i64 e] 79) = W1 := hW1.symm
          clear hW1 hB1
          go_upto_region 16 with fail
          clear hW hg1 hg2 hg3
          go_wp2_with fail
          go_loopw [11, 13, 88] (fun z _ i wr => ∃ j : Nat, ∃ zb : Bool, j ≤ n ∧ z = .bool zb ∧ i = .int .i64 j ∧ Hid (okM (fs.take j) (a, b, e) = zb) ∧ Hid (Below W1.heap.size W1 wr)) (fun _ _ i _ => n - (intOf i).toNat)
          case atStart => exact ⟨0, true, Nat.zero_le _, rfl, rfl, hide (by simp [okM]), hide (Below.refl _ _)⟩
          case round =>
            obtain ⟨j, zb, hj, rfl, rfl, HZ, HBj⟩ := hrel
            obtain ⟨wq, ewq⟩ : ∃ wq : World, wq = wr := ⟨_, rfl⟩
            subst ewq
            by_cases hjn : j < n
            · obtain ⟨b2, off2, rfl, _, hd1, hd2⟩ := ((unhide HI2).below (unhide HBj)).at_ j hjn
              have HJL := hide (show j < fs.length from by rw [HL.out]; exact hjn)
              have hsq := hO.out.pr _ (mem_fth HJL.out)
              obtain ⟨q, hq⟩ : ∃ q, fth fs j = q := ⟨_, rfl⟩
              rw [hq] at hd1 hd2 hsq
              have HQ := hide hq
              clear hq
              obtain ⟨s, t⟩ := q
              simp only at hd1 hd2
              have HSQ := hide hsq
              clear hsq
              have HST := hide (show okM (fs.take (j + 1)) (a, b, e) = (okM (fs.take j) (a, b, e) && decide (a * s + b * t ≤ e)) from by
                unfold okM; rw [take_succ HJL.out, List.all_append, HQ.out]; simp)
              obtain ⟨W3, hW3⟩ : ∃ W3, W3 = wq.alloc (.cells #[.int .i64 s, .int .i64 t] 30) := ⟨_, rfl⟩
              have hB3 : Below wq.heap.size wq W3 := by rw [hW3]; exact (Below.refl _ _).alloc (Nat.le_refl _) _
              have HB3 := hide ((unhide HBj).trans (hB3.mono (unhide HBj).size))
              obtain ⟨s0, s1⟩ := two_at (show W3.heap[wq.heap.size]? = some (.cells #[.int .i64 s, .int .i64 t] 30 (0, 0)) from by rw [hW3]; exact heap_new_ _ _)
              obtain ⟨x0, x1, x2⟩ := three_at (((unhide HB3).block _ (Array.getElem?_eq_some_iff.1 (unhide HX1)).1).trans (unhide HX1))
              have hW : wq.alloc (.cells #[.int .i64 s, .int .i64 t] 30) = W3 := hW3.symm
              clear hW3 hB3
              cases zb with
              | false =>
                have HN := hide (show okM (fs.take (j + 1)) (a, b, e) = false from by rw [HST.out, HZ.out, Bool.false_and])
                go_upto_region 20 with fail
                clear hW hd1 hd2
                go_wp2_with fail
                go_roundw
                case rel => exact ⟨j + 1, false, by omega, rfl, by go_num, HN, HB3⟩
                case measure => simp [intOf]; omega
              | true =>
                obtain ⟨⟨p1, p2⟩, ⟨p3, p4⟩, p5, p6⟩ := HOK.out
                obtain ⟨⟨q1, q2⟩, ⟨q3, q4⟩⟩ := HSQ.out
                simp only at p1 p2 p3 p4 p5 p6 q1 q2 q3 q4
                obtain ⟨m1, hm1⟩ : ∃ m1, a * s = m1 := ⟨_, rfl⟩
                obtain ⟨m2, hm2⟩ : ∃ m2, b * t = m2 := ⟨_, rfl⟩
                have d1 := mul_bd (M := 60) (N := 60) (a := a) (b := s) (by omega) (by omega)
                have d2 := mul_bd (M := 60) (N := 60) (a := b) (b := t) (by omega) (by omega)
                rw [hm1] at d1; rw [hm2] at d2
                have HN := hide (show okM (fs.take (j + 1)) (a, b, e) = decide (m1 + m2 ≤ e) from by rw [HST.out, HZ.out, Bool.true_and, hm1, hm2])
                by_cases hle : m1 + m2 ≤ e
                · rw [decide_eq_true hle] at HN
                  go_upto_region 20 with fail
                  clear hW hd1 hd2
                  go_wp2_with fail
                  go_roundw
                  case rel => exact ⟨j + 1, true, by omega, rfl, by go_num, HN, HB3⟩
                  case measure => simp [intOf]; omega
                · rw [decide_eq_false hle] at HN
                  go_upto_region 20 with fail
                  clear hW hd1 hd2
                  go_wp2_with fail
                  go_roundw
                  case rel => exact ⟨j + 1, false, by omega, rfl, by go_num, HN, HB3⟩
                  case measure => simp [intOf]; omega
            · have HZn := hide (show okM fs (a, b, e) = zb from by
                have := HZ.out
                rwa [List.take_of_length_le (by rw [HL.out]; omega)] at this)
              have HBz := hide ((unhide HB1).trans ((unhide HBj).mono (unhide HB1).size))
              have HOz := hide ((unhide HO1).below (unhide HBj) (Nat.le_refl _))
              obtain ⟨x0, x1, x2⟩ := three_at (((unhide HBj).block _ (Array.getElem?_eq_some_iff.1 (unhide HX1)).1).trans (unhide HX1))
              cases zb with
              | false =>
                have HE := hide (show (M.take (l + 1)).filter (okM fs) = (M.take l).filter (okM fs) from by rw [HTK.out, List.filter_append]; simp [HZn.out])
                rw [← HE.out] at HOz
                go_wp2_with fail
                go_roundw
                case rel => exact ⟨l + 1, by omega, by go_num, HOz, HBz⟩
                case measure => simp [intOf]; omega
              | true =>
                have HE := hide (show (M.take (l + 1)).filter (okM fs) = (M.take l).filter (okM fs) ++ [(a, b, e)] from by rw [HTK.out, List.filter_append]; simp [HZn.out])
                have HLen := hide (show ((M.take l).filter (okM fs)).length + [((a, b, e) : G)].length ≤ 1000000 from by
                  have h1 := List.length_filter_le (okM fs) (M.take l)
                  have h2 : (M.take l).length ≤ l := by simp; omega
                  simp only [List.length_cons, List.length_nil]; omega)
                have HO4 := hide ((unhide HOz).below ((Below.refl wq.heap.size wq).alloc (Nat.le_refl _) (.cells #[.int .i64 a, .int .i64 b, .int .i64 e] 79)) (Nat.le_refl _))
                have hbs := (unhide HBz).size
                go_wp2_with (at_builtin; refine wpList_appGs rfl _ _ rfl rfl rfl (unhide HO4) (gs_one wq a b e) HLen.out (by simp; omega) ?_; intro v' w4 ho4 hg4 _)
                have HB4 := hide (show Below wo.heap.size wo w4 from ((unhide HBz).alloc (unhide HBz).size _).grown hg4 (by simp; omega) (fun q hq => (World.ownsRow.lt (unhide HO4) q hq).1))
                rw [← HE.out] at ho4
                have HO5 := hide ho4
                clear ho4 hg4
                go_wp2_with fail
                go_roundw
                case rel =>
                  exact ⟨l + 1, by omega, by go_num, HO5, HB4⟩
                case measure => simp [intOf]; omega
        · have hre := HRes.out
          rw [show M.filter (okM fs) = (M.take l).filter (okM fs) from by rw [List.take_of_length_le (by rw [HLM.out]; omega)]] at hre
          rw [hre] at HOv
          have HOz := hide ((unhide HOv).low (unhide HB).size)
          have HBz := hide ((unhide HB).trans ((unhide HBo).mono (unhide HB).size))
          go_wp2_with fail
          go_ret
          exact ⟨_, rfl, unhide HOz, unhide HBz⟩
end Go.Proofs.Ytbgfiejaehpffaa
