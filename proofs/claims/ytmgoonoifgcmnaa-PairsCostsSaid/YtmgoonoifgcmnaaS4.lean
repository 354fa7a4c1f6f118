/-
  isPins, IsPins, Quarter, Reverse of the program.
-/
import Derived.Test.YtmgoonoifgcmnaaS3
import Derived.Test.YtmgoonoifgcmnaaShelf
import Derived.Sort.OwnSortedInts
namespace Go.Proofs.Ytmgoonoifgcmnaa
open Go.RowKit Go.Sort

/-- An owned slice that is not empty, opened. -/
theorem Owned.form {w : World} {base : Nat} {v : Value} {xs : List Int} (h : Owned w base v xs) (hn : 0 < xs.length) :
    ∃ g cap cur, v = .slice (some ⟨g, 0, none⟩) xs.length cap ∧ base ≤ g ∧ g < w.heap.size ∧ w.heap[g]? = some (.cells cur 3 (0, 0)) ∧ xs.length ≤ cap ∧ cap ≤ maxLen ∧ cur.size = cap * 1 ∧ cur.toList.take xs.length = xs.map (Value.int .i64) := by
  rcases h.2 with ⟨rfl, h0⟩ | ⟨g, cap, cur, rfl, hg, hh, hn, hc, hs, ht⟩
  · omega
  · exact ⟨g, cap, cur, rfl, hg, (Array.getElem?_eq_some_iff.1 hh).1, hh, hn, hc, hs, by simpa using ht⟩

/-- What sort and reverse leave: the same slice holds another list of the same length. -/
theorem owned_sorted {w : World} {base g cap n : Nat} {os : Array Obj} {cur : Array Value} {ss ts : List Int} (hl : ts.length = ss.length) (hbase : base ≤ g) (hb : w.heap[g]? = some (.cells cur 3 (0, 0)))
    (h1 : ss.length ≤ cap) (h2 : cap ≤ maxLen) (h3 : cur.size = cap * 1) :
    Owned (grow (putRow (Value.int .i64) (Sort.ahead w n) g 0 ts.toArray) os) base (.slice (some ⟨g, 0, none⟩) ss.length cap) ts := by
  have h := ownsRow_sortedI (w := w) (n := n) (os := os) (ts := ts) hl hbase hb h1 h2 h3
  unfold Owned
  rw [hl]
  exact h

theorem below_sorted {w : World} {base g n : Nat} {os : Array Obj} {ts : List Int} (hg : base ≤ g) (hw : base ≤ w.heap.size) : Below base w (grow (putRow (Value.int .i64) (Sort.ahead w n) g 0 ts.toArray) os) :=
  (Below.refl _ _).grown (grownBy_sortedI ts.toArray) hw (fun k hk => by cases hk; exact hg)

theorem grow_none (w : World) : grow w #[] = w := by simp [grow]

theorem reverse_own {w : World} {base : Nat} {v : Value} {xs : List Int} (h : Owned w base v xs) (hn : 0 < xs.length) (hs : xs.length ≤ 1000) (hw : base ≤ w.heap.size) :
    Calls Try.prog 63 #[v] w fun e w' => e = .returned (.tuple #[]) ∧ Owned w' base v xs.reverse ∧ Below base w w' := by
  obtain ⟨g, cap, cur, rfl, hg, hlt, hh, hc1, hc2, hcs, ht⟩ := h.form hn
  refine (Try.slices_Reverse_int g 0 cap xs w (holds_of_blockI hh ht) (by omega)).mono fun e w' ⟨he, n, hw'⟩ => ⟨he, ?_, ?_⟩
  · rw [← grow_none (putRow _ _ _ _ _)] at hw'
    subst hw'
    exact owned_sorted (ts := xs.reverse) (by simp) hg hh hc1 hc2 hcs
  · rw [← grow_none (putRow _ _ _ _ _)] at hw'
    subst hw'
    exact below_sorted (ts := xs.reverse) hg hw

theorem Owned.blk_lt {w : World} {base : Nat} {v : Value} {xs : List Int} (h : Owned w base v xs) : ∀ k, v.ownBlock = some k → base ≤ k ∧ k < w.heap.size := World.ownsRow.lt h
theorem Owned.on {w w' : World} {base : Nat} {v : Value} {xs : List Int} (h : Owned w base v xs) (hb : Below w.heap.size w w') : Owned w' base v xs := h.below hb (Nat.le_refl _)

def pcI (n : Int) : Bool := decide (1 ≤ n) && decide (n ≤ 6)
theorem isPinCount_any (n : Int) (w : World) (b : Bool) (hb : Hid (pcI n = b)) : Calls Try.prog 75 #[.int .i64 n] w fun e w' => e = .returned (.bool b) ∧ w = w' := by
  by_cases h1 : 1 ≤ n
  · have d : decide (1 ≤ n) = true := by simpa using h1
    go_enter Try.func75, Try.ntmps75
    go_wp2_with fail
    all_goals
      go_ret
      exact ⟨ret_bool (by rw [← hb.out]; unfold pcI; simp; omega), rfl⟩
  · have d : decide (1 ≤ n) = false := by simpa using h1
    go_enter Try.func75, Try.ntmps75
    go_wp2_with fail
    all_goals
      go_ret
      exact ⟨ret_bool (by rw [← hb.out]; unfold pcI; simp; omega), rfl⟩
theorem pc_eq (n : Nat) : pcI (n : Int) = pcB n := by
  unfold pcI pcB
  rw [Bool.eq_iff_iff]
  simp; omega

set_option maxHeartbeats 400000 in
theorem isPins_any (A : Option Addr) (n c : Nat) (xs : List Int) (w : World) (h : Ints w w.heap.size A n c xs) (b : Bool) (hb : Hid (pinB xs = b)) :
    Calls Try.prog 76 #[.slice A n c] w fun e w' => e = .returned (.bool b) ∧ Below w.heap.size w w' := by
  rw [← hb.out]
  have hm := h.most; have hcap := h.cap
  have hl := hide h.len
  have H := hide h
  have HP := hide (show pinB xs = (pcB n && (eoB xs && arB xs)) from by unfold pinB; rw [hl.out])
  clear h
  cases hc : pcB n with
  | false =>
    have HF := hide (show pinB xs = false from by rw [HP.out, hc]; rfl)
    go_enter Try.func76, Try.ntmps76
    go_wp2_with (go_at_call 75; refine (isPinCount_any _ _ false (hide ((pc_eq n).trans hc))).mono ?_; rintro e w' ⟨rfl, rfl⟩)
    go_ret
    exact ⟨ret_bool HF.out.symm, Below.refl _ _⟩
  | true =>
    have hn : n ≤ 6 := by simp [pcB] at hc; exact hc.2
    cases he : eoB xs with
    | false =>
      have HF := hide (show pinB xs = false from by rw [HP.out, hc, he]; rfl)
      go_enter Try.func76, Try.ntmps76
      go_wp2_with (first
        | (go_at_call 75; refine (isPinCount_any _ _ true (hide ((pc_eq n).trans hc))).mono ?_; rintro e w' ⟨rfl, rfl⟩)
        | (go_at_call 81; refine (isEachOnce_any _ _ _ _ _ _ (unhide H) false (hide he)).mono ?_; rintro e w' ⟨rfl, rfl⟩))
      go_ret
      exact ⟨ret_bool HF.out.symm, Below.refl _ _⟩
    | true =>
      have HF := hide (show pinB xs = arB xs from by rw [HP.out, hc, he]; simp)
      have HS := hide (show SmP n xs from fun k hk => by
        have := eo_bd he (k := k) (by rw [hl.out]; exact hk)
        rw [hl.out] at this; omega)
      go_enter Try.func76, Try.ntmps76
      go_wp2_with (first
        | (go_at_call 75; refine (isPinCount_any _ _ true (hide ((pc_eq n).trans hc))).mono ?_; rintro e w' ⟨rfl, rfl⟩)
        | (go_at_call 81; refine (isEachOnce_any _ _ _ _ _ _ (unhide H) true (hide he)).mono ?_; rintro e w' ⟨rfl, rfl⟩)
        | (go_at_call 101; refine (areArrows_any _ _ _ _ _ (unhide H) (by omega) HS _ (hide rfl)).mono ?_; rintro e w1 ⟨rfl, hb1⟩))
      go_ret
      exact ⟨ret_bool HF.out.symm, hb1⟩

set_option maxHeartbeats 400000 in
theorem IsPins_ok (A : Option Addr) (n c : Nat) (xs : List Int) (w : World) (h : Ints w w.heap.size A n c xs) (hn : Hid (pcB n = true)) (b : Bool) (hb : Hid (pinB xs = b)) :
    Calls Try.prog 31 #[.slice A n c] w fun e w' => e = .returned (.tuple #[.bool b, .int .i64 0]) ∧ Below w.heap.size w w' := by
  have hm := h.most; have hcap := h.cap
  have H := hide h
  clear h
  go_enter Try.func31, Try.ntmps31
  go_wp2_with (first
    | (go_at_call 75; refine (isPinCount_any _ _ true (hide ((pc_eq n).trans hn.out))).mono ?_; rintro e w' ⟨rfl, rfl⟩)
    | (go_at_call 76; refine (isPins_any _ _ _ _ _ (unhide H) b hb).mono ?_; rintro e w1 ⟨rfl, hb1⟩))
  go_ret2
  exact ⟨rfl, hb1⟩
set_option maxHeartbeats 400000 in
theorem IsPins_no (A : Option Addr) (n c : Nat) (w : World) (hm : c ≤ 9223372036854775807) (hcap : n ≤ c) (hn : Hid (pcB n = false)) :
    Calls Try.prog 31 #[.slice A n c] w fun e w' => e = .returned (.tuple #[.bool false, .int .i64 2]) ∧ w = w' := by
  go_enter Try.func31, Try.ntmps31
  go_wp2_with (go_at_call 75; refine (isPinCount_any _ _ false (hide ((pc_eq n).trans hn.out))).mono ?_; rintro e w' ⟨rfl, rfl⟩)
  go_ret2
  exact ⟨rfl, rfl⟩

set_option maxHeartbeats 400000 in
theorem Quarter_no (A : Option Addr) (n c : Nat) (xs : List Int) (w : World) (h : Ints w w.heap.size A n c xs) (hb : Hid (pinB xs = false)) :
    Calls Try.prog 55 #[.slice A n c] w fun e w' => e = .returned (.tuple #[.slice none 0 0, .int .i64 2]) ∧ Below w.heap.size w w' := by
  have hm := h.most; have hcap := h.cap
  have H := hide h
  clear h
  go_enter Try.func55, Try.ntmps55
  go_wp2_with (go_at_call 76; refine (isPins_any _ _ _ _ _ (unhide H) false hb).mono ?_; rintro e w1 ⟨rfl, hb1⟩)
  go_ret2
  exact ⟨rfl, hb1⟩
set_option maxRecDepth 100000 in
set_option maxHeartbeats 1000000 in
theorem Quarter_ok (A : Option Addr) (n c : Nat) (xs : List Int) (w : World) (h : Ints w w.heap.size A n c xs) (hb : Hid (pinB xs = true)) :
    Calls Try.prog 55 #[.slice A n c] w fun e w' => ∃ A' n' c', e = .returned (.tuple #[.slice A' n' c', .int .i64 0]) ∧ Ints w' w'.heap.size A' n' c' (qtL xs) ∧ Below w.heap.size w w' := by
  have hm := h.most; have hcap := h.cap
  have hl := hide h.len
  have hn : n ≤ 6 := by have := (pin_parts hb.out).1; rw [h.len] at this; exact this.2
  have H := hide h
  have HX := hide (fun k (hk : k < n) => (hl.out ▸ eo_bd (pin_parts hb.out).2.1 (k := k) (by rw [hl.out]; exact hk) : 0 ≤ nth xs k ∧ nth xs k < (n : Int)))
  have HE := hide (show qtL xs = qtT xs n from by unfold qtL; rw [hl.out])
  obtain ⟨Z, hZ1, hZ2, hmk⟩ := make_zeros n (by omega)
  clear h hZ1
  go_enter Try.func55, Try.ntmps55
  go_wp2_with (go_at_call 76; refine (isPins_any _ _ _ _ _ (unhide H) true hb).mono ?_; rintro e w1 ⟨rfl, hb1⟩
               have HI1 := hide ((unhide H).on hb1)
               have HB1 := hide (hb1.alloc hb1.size (.cells Z 3))
               have HB2 := hide ((Below.refl w1.heap.size w1).alloc (Nat.le_refl _) (.cells Z 3))
               have HR0 := hide (show RowAt (w1.alloc (.cells Z 3)) w1.heap.size (qtT xs 0) from by
                 have := row_zeros (W := w1) hZ2
                 unfold qtT; rw [hl.out]; exact this)
               have hws := hb1.size
               clear hb1)
  go_loopw [5, 6, 15] (fun _ _ i wr => ∃ k : Nat, k ≤ n ∧ i = .int .i64 (k : Nat) ∧ Hid (RowAt wr w1.heap.size (qtT xs k)) ∧ Hid (Below w1.heap.size w1 wr) ∧ Hid (Below w.heap.size w wr)) (fun _ _ i _ => n - (intOf i).toNat)
  case atStart => exact ⟨0, Nat.zero_le _, rfl, HR0, HB2, HB1⟩
  case round =>
    obtain ⟨k, hk, rfl, HR, HBa, HB⟩ := hrel
    by_cases hlt : k < n
    · obtain ⟨b1, off, rfl, hbb, hc1⟩ := ((unhide HI1).below (unhide HBa)).at_ k hlt
      obtain ⟨x1, x2⟩ := HX.out k hlt
      have HN := hide (show qtT xs (k + 1) = (qtT xs k).set (nth xs k).toNat ((n : Int) - 1 - k) from by show (qtT xs k).set _ _ = _; rw [hl.out])
      obtain ⟨p, hp⟩ : ∃ p : Nat, nth xs k = (p : Int) := ⟨(nth xs k).toNat, by omega⟩
      rw [hp] at hc1 x2 HN
      simp only [Int.toNat_natCast] at HN
      have hpn : p < n := by omega
      have hlen : (qtT xs k).length = n := by rw [qtT_len]; exact hl.out
      have hcell := (unhide HR).cell (k := p) (by rw [hlen]; exact hpn)
      have hfr : wr.frozen? ⟨w1.heap.size, p, none⟩ = false := Blk.frozen (unhide HR) p
      have HRN := hide (show RowAt (wr.setCell ⟨w1.heap.size, p, none⟩ (.int .i64 ((n : Int) - 1 - k))) w1.heap.size (qtT xs (k + 1)) from by
        rw [HN.out]; exact (unhide HR).set p _)
      have HBaN := hide ((unhide HBa).setCell (p := ⟨w1.heap.size, p, none⟩) (Nat.le_refl _) (.int .i64 ((n : Int) - 1 - k)))
      have HBN := hide ((unhide HB).setCell (p := ⟨w1.heap.size, p, none⟩) hws (.int .i64 ((n : Int) - 1 - k)))
      clear hlen hp x1
      go_wp2_with fail
      go_roundw
      case rel => exact ⟨k + 1, by omega, by go_num, HRN, HBaN, HBN⟩
      case measure => simp [intOf]; omega
    · have HRL := hide (show RowAt wr w1.heap.size (qtL xs) from by
        rw [HE.out, show n = k by omega]; exact unhide HR)
      have HI := hide ((unhide HRL).ints (n := n) (by rw [HE.out, qtT_len, hl.out]) (by omega))
      go_wp2_with fail
      go_ret2
      exact ⟨_, _, _, rfl, unhide HI, unhide HB⟩
end Go.Proofs.Ytmgoonoifgcmnaa
