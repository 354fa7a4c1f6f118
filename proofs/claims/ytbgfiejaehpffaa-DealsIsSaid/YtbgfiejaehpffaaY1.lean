/-
  byX of the program: the offers put in order.
-/
import Derived.Test.YtbgfiejaehpffaaShelf
import Derived.Test.YtbgfiejaehpffaaW7
namespace Go.Proofs.Ytbgfiejaehpffaa
open Go.RowKit Go.Sort

def encP (x : F) : List Value := [.int .i64 x.1, .int .i64 x.2]
theorem cmpP (blk off size : Nat) (w : World) : CmpLays Try.prog 88 #[] encP 2 cmp2 blk off size w := fun _ _ _ _ x y => byX_c x y _
theorem hlenP (n : Nat) (W : World) (h : n ≤ 12) : Calls Try.prog 98 #[.int .u64 n] W fun e w' => (∃ l : Int, e = .returned (.int .i64 l)) ∧ w' = W :=
  (Any.bits_Len Try.bitsLen n W (by omega) (by omega)).mono fun _ _ ⟨he, hw⟩ => ⟨⟨_, he⟩, hw⟩
theorem cmp2_lt (p q : F) : ltOf cmp2 p q = true ↔ lexlt p q := by
  unfold ltOf cmp2 cmpI lexlt
  simp only [decide_eq_true_eq]
  by_cases h : p.1 = q.1
  · rw [if_pos h]
    by_cases h1 : p.2 < q.2
    · rw [if_pos h1]; simp [h, h1]
    · rw [if_neg h1]; by_cases h2 : q.2 < p.2 <;> simp [h, h1, h2]
  · rw [if_neg h]
    by_cases h1 : p.1 < q.1
    · rw [if_pos h1]; simp [h1]
    · rw [if_neg h1]; by_cases h2 : q.1 < p.1 <;> simp [h, h1, h2]
theorem cmp2_nlt (p q : F) : ltOf cmp2 p q = false ↔ ¬ lexlt p q := by rw [← cmp2_lt, Bool.not_eq_true]
theorem swo2 : SWO (ltOf cmp2) :=
  ⟨fun x => (cmp2_nlt x x).2 (by unfold lexlt; omega), fun x y z h1 h2 => (cmp2_lt x z).2 (by
    have := (cmp2_lt x y).1 h1; have := (cmp2_lt y z).1 h2
    unfold lexlt at *; omega), fun x y z h1 h2 => (cmp2_nlt x z).2 (by
    have := (cmp2_nlt x y).1 h1; have := (cmp2_nlt y z).1 h2
    unfold lexlt at *; omega)⟩
theorem enter88 : ∀ args w, (callFunc 88 args).run Try.prog w = .ok (.enter 88 args) w := enters_of Try.func88 (by kernel_rfl) rfl

theorem below_sorted {w : World} {base g n : Nat} {os : Array Obj} {Fl : Array Value} (hg : base ≤ g) (hw : base ≤ w.heap.size) : Below base w (grow (putRow id (Sort.ahead w n) g 0 Fl) os) := by
  refine ⟨rfl, rfl, rfl, ?_, ?_⟩
  · show w.heap.size ≤ ((w.heap.modify g _) ++ os).size
    simp
  · intro k hk
    show ((w.heap.modify g _) ++ os)[k]? = _
    rw [Array.getElem?_append_left (by simp; omega), Array.getElem?_modify, if_neg (by omega)]

theorem holds_own {w : World} {g n cap : Nat} {cur : Array Value} {fs : List F} (hh : w.heap[g]? = some (.cells cur 30 (0, 0))) (hl : fs.length = n) (ht : cur.toList.take (n * 2) = cells2_ fs) : HoldsK encP 2 w g 0 fs.toArray := by
  intro j hj
  have hj' : j < fs.length * 2 := by simpa [size_flatK] using hj
  refine ⟨?_, free_at hh _⟩
  rw [Nat.zero_add, cell_row_ hh, get_flatK _ _ _ _ (by simpa using hj')]
  have h1 : cur[j]? = (cells2_ fs)[j]? := by
    rw [← ht, List.getElem?_take, if_pos (by omega)]; simp
  rw [h1]
  have hk : j / 2 < fs.length := by omega
  have h2 := cells2_at fs (j / 2) hk
  have he : (fs.toArray[j / 2]!) = fth fs (j / 2) := by simp [fth, List.getD, hk]
  rw [he]
  have hp : j % 2 = 0 ∨ j % 2 = 1 := by omega
  rcases hp with hp | hp
  · rw [hp, show (cells2_ fs)[j]? = (cells2_ fs)[j / 2 * 2]? by congr 1; omega, h2.1]; rfl
  · rw [hp, show (cells2_ fs)[j]? = (cells2_ fs)[j / 2 * 2 + 1]? by congr 1; omega, h2.2]; rfl

theorem sort_own {w : World} {base g n cap : Nat} {fs : List F} (h : OwnQ w base 30 (.slice (some ⟨g, 0, none⟩) n cap) fs) (hn : n ≤ 12) (hw : base ≤ w.heap.size) :
    Calls Try.prog 87 #[.slice (some ⟨g, 0, none⟩) n cap, .func (.func 88) #[] #[]] w fun e w' => e = .returned (.tuple #[]) ∧ ∃ L : List F, L.Perm fs ∧ (∀ i j, i < j → j < L.length → ¬ lexlt (fth L j) (fth L i)) ∧ Fs w' w'.heap.size (some ⟨g, 0, none⟩) n cap L ∧ Below base w w' := by
  rcases h.2 with ⟨h0, _⟩ | ⟨g', cap', cur, hv, hg, hh, hnc, hc, hs, ht⟩
  · cases h0
  cases hv
  have hlt : g < w.heap.size := (Array.getElem?_eq_some_iff.1 hh).1
  have hcon := AnyQ.slices_SortFunc_small_sorted Try.sortP 2 Try.isAgg30 Try.sizeOf30 encP (fun _ => rfl) (fun x v hv => by simp [encP] at hv; rcases hv with rfl | rfl <;> rfl) cmp2 88 #[] swo2 g 0 cap fs.toArray w enter88 (cmpP g 0 fs.toArray.size w) (holds_own (cap := cap) hh rfl ht) hlt (by simpa using hn) hlenP
  change Calls Try.prog 87 _ _ _ at hcon
  have hsz : fs.toArray.size = fs.length := by simp
  rw [hsz] at hcon
  refine hcon.mono fun e w' ⟨he, d', m, os, hp, hso, hw'⟩ => ⟨he, d'.toList, ?_, ?_, ?_, ?_⟩
  · have h3 := hp.2.2
    have h1 : d'.size = fs.length := by rw [hp.1]; simp
    have e1 : d'.extract 0 fs.length = d' := by rw [← h1]; exact Array.extract_size
    have e2 : fs.toArray.extract 0 fs.length = fs.toArray := by rw [show fs.length = fs.toArray.size by simp]; exact Array.extract_size
    rw [e1, e2] at h3
    simpa using h3
  · intro i j hij hj
    have h1 : d'.size = fs.length := by rw [hp.1]; simp
    have hj' : j < d'.size := by simpa using hj
    have := hso i j (Nat.zero_le _) hij (by omega)
    have gi : d'[i]! = fth d'.toList i := by simp [fth, List.getD, show i < d'.size by omega]
    have gj : d'[j]! = fth d'.toList j := by simp [fth, List.getD, hj']
    rw [gi, gj] at this
    exact (cmp2_nlt _ _).1 this
  · have h1 : d'.size = fs.toArray.size := hp.1
    have hH : HoldsK encP 2 w' g 0 d' := by
      rw [hw']
      exact holdsK_grow encP 2 _ os g 0 d' (by show g < (w.heap.modify g _).size; simpa using hlt) (holdsK_putRowK encP 2 _ g 0 fs.toArray d' (holdsK_ahead encP 2 w m g 0 _ (holds_own (cap := cap) hh rfl ht)) h1)
    refine ⟨by simp [h1], hnc, by unfold maxLen at hc; omega, (fun e => by cases e), fun k hk => ⟨g, 0, rfl, ?_, ?_⟩⟩
    · rw [hw']; show g < ((w.heap.modify g _) ++ os).size; simp; omega
    · have hk' : k < d'.size := by rw [h1]; simpa using hk
      have c0 := (hH.cell (i := k) (c := 0) hk' (by omega)).1
      have c1 := (hH.cell (i := k) (c := 1) hk' (by omega)).1
      have gk : d'[k]! = fth d'.toList k := by simp [fth, List.getD, hk']
      rw [gk] at c0 c1
      exact ⟨by simpa [encP] using c0, by simpa [encP] using c1⟩
  · rw [hw']
    exact below_sorted hg hw

set_option maxRecDepth 100000 in
set_option maxHeartbeats 1000000 in
theorem byX_any (A : Option Addr) (n c : Nat) (fs : List F) (w : World) (h : Fs w w.heap.size A n c fs) (hn : 0 < n) (hn2 : n ≤ 12) :
    Calls Try.prog 71 #[.slice A n c] w fun e w' => ∃ A' c' L, e = .returned (.slice A' n c') ∧ L.Perm fs ∧ (∀ i j, i < j → j < L.length → ¬ lexlt (fth L j) (fth L i)) ∧ Fs w' w'.heap.size A' n c' L ∧ Below w.heap.size w w' := by
  have HL := hide h.len
  have HC := hide (clone_any A n c fs w h (by omega))
  clear h
  go_enter Try.func71, Try.ntmps71
  go_wp2_with fail
  refine (unhide HC).mono ?_
  rintro e w1 ⟨v, rfl, ho, hb⟩
  obtain ⟨g, cap, rfl⟩ : ∃ g cap, v = .slice (some ⟨g, 0, none⟩) n cap := by
    rcases ho.2 with ⟨_, h1⟩ | ⟨g, cap, cur, hv, _⟩
    · rw [HL.out] at h1; omega
    · rw [HL.out] at hv; exact ⟨g, cap, hv⟩
  have HS := hide (sort_own ho hn2 hb.size)
  have HB := hide hb
  clear ho hb
  go_wp2_with fail
  refine (unhide HS).mono ?_
  rintro e w2 ⟨rfl, L, hp, hs, hf, hb2⟩
  have HP := hide hp; have HSo := hide hs; have HF := hide hf
  have HB2 := hide ((unhide HB).trans hb2)
  clear hp hs hf hb2
  go_wp2_with fail
  go_ret
  exact ⟨_, _, L, rfl, HP.out, HSo.out, unhide HF, unhide HB2⟩
end Go.Proofs.Ytbgfiejaehpffaa
