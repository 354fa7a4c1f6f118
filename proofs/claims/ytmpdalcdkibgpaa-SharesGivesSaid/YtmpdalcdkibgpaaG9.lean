import Derived.Test.YtmpdalcdkibgpaaG8
namespace Go.Proofs.Ytmpdalcdkibgpaa
open Go.RowKit Go.Sort

theorem eq_of_nth {xs ys : List Int} {n : Nat} (h1 : xs.length = n) (h2 : ys.length = n) (h : ∀ j, j < n → nth xs j = nth ys j) : xs = ys := by
  apply List.ext_getElem (by rw [h1, h2])
  intro j a b
  have := h j (by omega)
  simpa [nth, List.getD, a, b] using this

def okTo (o : Bool) (zs ys : List Int) (k : Nat) : Prop := o = true ↔ ∀ j, j < k → nth zs j = nth ys j

set_option maxHeartbeats 4000000 in
/-- Whether the gives turn xs into ys. -/
theorem Turns_is (A A' A'' : Option Addr) (n c n' c' n'' c'' : Nat) (xs ys : List Int) (gs : List G) (w : World) (h : Ints w w.heap.size A n c xs) (h' : Ints w w.heap.size A' n' c' ys) (h'' : Gs w w.heap.size A'' n'' c'' gs) (hs : Hid (areSh xs ys = true)) (b : Bool) (hb : Hid (decide (runG xs gs = some ys) = b)) :
    Calls Try.prog 29 #[.slice A n c, .slice A' n' c', .slice A'' n'' c''] w fun e w' => e = .returned (.bool b) ∧ Below w.heap.size w w' := by
  obtain ⟨s1, s2, s3⟩ := areSh_left hs.out
  have l1 := isSh_len s1; have e1 := h.len; have e2 := h'.len
  obtain rfl : n' = n := by omega
  have hn : n' ≤ 6 := by omega
  have hn1 : 1 ≤ n' := by omega
  have S1 := hide (isSh_small s1)
  have E2 := hide e2
  clear s1 s2 s3 l1 e1 e2
  have hm := h'.most; have hcap := h'.cap
  have Ib := hide h'; clear h'
  go_enter Try.func29, Try.ntmps29
  go_wp2_with fail
  refine (Given_any _ _ _ _ _ _ _ _ _ h h'' hn hn1 S1).mono ?_
  rintro e w1 ⟨A1, n1, c1, b1, zs, rfl, hcase, hb1⟩
  have HB1 := hide hb1
  have Jb := hide (((unhide Ib).below hb1).more hb1.size)
  clear hb1 h h''
  rcases hcase with ⟨rfl, rfl, hr⟩ | ⟨rfl, rfl, hr, hz⟩
  · have HBF := hide (show b = false from by rw [← hb.out, hr]; rfl)
    clear hr
    go_wp2_with fail
    go_loopw [18, 8] (fun i ok wr => ∃ k : Nat, k ≤ n' ∧ i = .int .i64 k ∧ ok = .bool false ∧ ∃ q, wr = w1.drewN q) (fun i _ _ => n' - (intOf i).toNat)
    case atStart => exact ⟨0, Nat.zero_le _, rfl, rfl, 0, rfl⟩
    case round =>
      obtain ⟨k, hk, rfl, rfl, q, rfl⟩ := hrel
      by_cases hlt : k < n'
      · go_wp2_with fail
        go_big_quiet (fail)
        go_wp2_with fail
        go_roundw
        case rel => exact ⟨k + 1, by omega, by go_num, rfl, (by first | exact ⟨_, rfl⟩ | exact quiet_q _ _ _)⟩
        case measure => simp [intOf]; omega
      · obtain rfl : k = n' := by omega
        go_wp2_with fail
        go_ret
        exact ⟨by rw [HBF.out]; rfl, (unhide HB1).trans ((Below.ofDraws q).mono (unhide HB1).size)⟩
  · have hzl := hide hz.len
    have hzc := hz.cap; have hzm := hz.most
    have HZ := hide hz; clear hz
    have HR := hide hr; clear hr
    go_wp2_with fail
    go_loopw [18, 8] (fun i ok wr => ∃ (k : Nat) (o : Bool), k ≤ n1 ∧ i = .int .i64 k ∧ ok = .bool o ∧ Hid (okTo o zs ys k) ∧ ∃ q, wr = w1.drewN q) (fun i _ _ => n1 - (intOf i).toNat)
    case atStart => exact ⟨0, true, Nat.zero_le _, rfl, rfl, hide ⟨fun _ j hj => by omega, fun _ => rfl⟩, 0, rfl⟩
    case round =>
      obtain ⟨k, o, hk, rfl, rfl, HO, q, rfl⟩ := hrel
      by_cases hlt : k < n1
      · obtain ⟨b1, off, rfl, _, hc1⟩ := (unhide HZ).at_ k hlt
        obtain ⟨b2, off2, rfl, _, hc2⟩ := (unhide Jb).at_ k hlt
        rcases o
        · have HO2 := hide (show okTo false zs ys (k + 1) from ⟨(fun e => by cases e), fun e => HO.out.2 fun j hj => e j (by omega)⟩)
          clear hc1 hc2
          go_wp2_with fail
          go_big_quiet (fail)
          go_wp2_with fail
          go_roundw
          case rel => exact ⟨k + 1, false, by omega, by go_num, rfl, HO2, (by first | exact ⟨_, rfl⟩ | exact quiet_q _ _ _)⟩
          case measure => simp [intOf]; omega
        · by_cases hv : nth zs k = nth ys k
          · have hbv : (nth zs k == nth ys k) = true := by simp [hv]
            have HO2 := hide (show okTo true zs ys (k + 1) from ⟨fun _ j hj => by
              rcases Nat.lt_or_ge j k with h0 | h0
              · exact HO.out.1 rfl j h0
              · obtain rfl : j = k := by omega
                exact hv, fun _ => rfl⟩)
            clear hv
            go_wp2_with fail
            go_big_quiet (fail)
            go_wp2_with fail
            go_roundw
            case rel => exact ⟨k + 1, true, by omega, by go_num, rfl, HO2, (by first | exact ⟨_, rfl⟩ | exact quiet_q _ _ _)⟩
            case measure => simp [intOf]; omega
          · have hbv : (nth zs k == nth ys k) = false := by simp [hv]
            have HO2 := hide (show okTo false zs ys (k + 1) from ⟨(fun e => by cases e), fun e => absurd (e k (by omega)) hv⟩)
            clear hv
            go_wp2_with fail
            go_big_quiet (fail)
            go_wp2_with fail
            go_roundw
            case rel => exact ⟨k + 1, false, by omega, by go_num, rfl, HO2, (by first | exact ⟨_, rfl⟩ | exact quiet_q _ _ _)⟩
            case measure => simp [intOf]; omega
      · obtain rfl : k = n1 := by omega
        have HBO := hide (show o = b from by
          rw [← hb.out, HR.out]
          rcases o
          · symm
            apply decide_eq_false
            intro e
            have e' : zs = ys := by simpa using e
            have := HO.out.2 (fun j _ => by rw [e'])
            cases this
          · symm
            apply decide_eq_true
            rw [eq_of_nth hzl.out E2.out (HO.out.1 rfl)])
        go_wp2_with fail
        go_ret
        exact ⟨by rw [HBO.out]; rfl, (unhide HB1).trans ((Below.ofDraws q).mono (unhide HB1).size)⟩
end Go.Proofs.Ytmpdalcdkibgpaa
