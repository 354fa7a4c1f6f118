/-
  The numbers of rows and columns of a picture, falling: what the law of Gale and Ryser asks.
-/
import Derived.Test.YtjhicbiacnkpaaaDoorX2
import Derived.Test.YtjhicbiacnkpaaaDoorR4
namespace Go.Proofs.YtjhicbiacnkpaaaDoor
open Go.RowKit

def fallS (xs : List Int) : List Int := (xs.mergeSort fun x y => decide (x ≤ y)).reverse
theorem fallS_length (xs : List Int) : (fallS xs).length = xs.length := by simp [fallS]
def Desc (l : List Int) : Prop := l.Pairwise fun a b => b ≤ a
theorem desc_unique : ∀ {l m : List Int}, Desc l → Desc m → l.Perm m → l = m := by
  intro l
  induction l with
  | nil => intro m _ _ h; exact h.nil_eq
  | cons a l ih =>
    intro m hl hm h
    cases m with
    | nil => exact absurd h.symm (by simp)
    | cons b m =>
      have h1 : a ∈ b :: m := h.mem_iff.1 (by simp)
      have h2 : b ∈ a :: l := h.mem_iff.2 (by simp)
      rw [Desc, List.pairwise_cons] at hl hm
      have e : a = b := by
        rcases List.mem_cons.1 h1 with e | h1
        · exact e
        · rcases List.mem_cons.1 h2 with e | h2
          · exact e.symm
          · have := hm.1 a h1; have := hl.1 b h2; omega
      subst e
      rw [ih hl.2 hm.2 (List.Perm.cons_inv h)]

theorem fallS_desc (xs : List Int) : Desc (fallS xs) := by
  unfold fallS Desc
  rw [List.pairwise_reverse]
  have := List.pairwise_mergeSort (le := fun x y : Int => decide (x ≤ y)) (by intro a b c h1 h2; simp at *; omega) (by intro a b; simp; omega) xs
  exact this.imp (by intro a b h; simpa using h)
theorem fallS_perm (xs : List Int) : (fallS xs).Perm xs := by
  unfold fallS
  exact (List.reverse_perm _).trans (List.mergeSort_perm _ _)

theorem fallS_same {xs : List Int} (h : Desc xs) : fallS xs = xs := desc_unique (fallS_desc xs) h (fallS_perm xs)
theorem desc_nth {xs : List Int} (h : Desc xs) {i j : Nat} (hij : i < j) (hj : j < xs.length) : nth xs j ≤ nth xs i := by
  have := List.pairwise_iff_getElem.1 h i j (by omega) hj hij
  simpa [nth, List.getD, hj, show i < xs.length by omega] using this
theorem desc_of {xs : List Int} (h : ∀ i, i + 1 < xs.length → nth xs (i + 1) ≤ nth xs i) : Desc xs := by
  have hm : ∀ d i, i + d < xs.length → nth xs (i + d) ≤ nth xs i := by
    intro d
    induction d with
    | zero => intro i _; exact Int.le_refl _
    | succ d ih => intro i hi; have h1 := ih i (by omega); have h2 := h (i + d) (by omega); rw [show i + (d + 1) = i + d + 1 by omega]; omega
  refine List.pairwise_iff_getElem.2 fun i j h1 h2 hij => ?_
  have := hm (j - i) i (by omega)
  rw [show i + (j - i) = j by omega] at this
  simpa [nth, List.getD, h1, h2] using this

/-- Zeros behind, up to six. -/
def pad6 (xs : List Int) : List Int := xs ++ List.replicate (6 - xs.length) 0
theorem pad6_len {xs : List Int} (h : xs.length ≤ 6) : (pad6 xs).length = 6 := by simp [pad6]; omega
theorem pad6_nth (xs : List Int) (j : Nat) : nth (pad6 xs) j = nth xs j := by
  unfold pad6 nth
  rcases Nat.lt_or_ge j xs.length with h | h
  · simp [List.getD, List.getElem?_append_left h]
  · rw [List.getD, List.getElem?_append_right h, List.getD, List.getElem?_eq_none h]
    rcases Nat.lt_or_ge (j - xs.length) (6 - xs.length) with h2 | h2
    · simp [h2]
    · rw [List.getElem?_eq_none (by simpa using h2)]

theorem bt_old : ∀ k, k < 5 → ∀ a, a < 2 ^ k → ∀ b, b < 2 → ∀ r, r < k → bt (a ||| b * 2 ^ k) r = bt a r := by decide +kernel
theorem bt_new : ∀ k, k < 5 → ∀ a, a < 2 ^ k → ∀ b, b < 2 → bt (a ||| b * 2 ^ k) k = (b : Int) := by decide +kernel
theorem bt_col (xs : List Int) (c : Nat) : ∀ k, k < 6 → ∀ r, r < k → bt (colT xs c k) r = bt (nth xs r).toNat c := by
  intro k
  induction k with
  | zero => intro _ r hr; omega
  | succ k ih =>
    intro hk r hr
    rcases Nat.lt_or_ge r k with h | h
    · rw [← ih (by omega) r h]
      exact bt_old k (by omega) _ (colT_lt xs c k) _ (Nat.mod_lt _ (by omega)) r h
    · obtain rfl : r = k := by omega
      exact bt_new r (by omega) _ (colT_lt xs c r) _ (Nat.mod_lt _ (by omega))
/-- The columns, and empty ones up to six. -/
def six (m : Nat) (xs : List Int) : List Nat := (List.range m).map (colC xs) ++ List.replicate (6 - m) 0
theorem six_lt (m : Nat) (xs : List Int) : ∀ c ∈ six m xs, c < 2 ^ xs.length := by
  intro c hc
  unfold six at hc
  rw [List.mem_append, List.mem_map] at hc
  rcases hc with ⟨j, _, rfl⟩ | h
  · exact colT_lt xs j _
  · rw [List.eq_of_mem_replicate h]; exact Nat.two_pow_pos _
theorem six_pc (m : Nat) (xs : List Int) : (six m xs).map pc = pad6 ((colsP m xs).map List.sum) := by
  unfold six pad6 colsP
  rw [List.map_append, List.map_map, List.map_map, List.map_replicate, List.length_map, List.length_range]
  rfl
theorem cB_zeros (r k : Nat) : cB r (List.replicate k 0) = 0 := by
  induction k with
  | zero => rfl
  | succ k ih => unfold cB at *; rw [List.replicate_succ, List.map_cons, List.sum_cons, ih]; simp [bt]
theorem six_row {m : Nat} (hm : m < 6) {xs : List Int} (h5 : xs.length ≤ 5) (h : ∀ k, k < xs.length → (nth xs k).toNat < 2 ^ m) {r : Nat} (hr : r < xs.length) : cB r (six m xs) = pc (nth xs r).toNat := by
  unfold six
  rw [cB_app, cB_zeros, pc_bits m hm _ (h r hr), Int.add_zero]
  unfold cB sB
  rw [List.map_map]
  congr 1
  refine List.map_congr_left fun c _ => ?_
  exact bt_col xs c xs.length (by omega) r hr
theorem rows_nth {xs : List Int} {r : Nat} (hr : r < xs.length) : nth ((rowsP xs).map List.sum) r = pc (nth xs r).toNat := by
  unfold rowsP
  rw [List.map_map, nth_map _ _ _ hr]
  simp [nth, List.getD, hr, blI, pc]
theorem pc_bd : ∀ y, y < 32 → 0 ≤ pc y ∧ pc y ≤ 5 := by decide +kernel

/-- The sum of a list's numbers, each cut at K. -/
def mS (K : Int) (xs : List Int) : Int := (xs.map fun x => min K x).sum
theorem mS_perm {K : Int} {a b : List Int} (h : a.Perm b) : mS K a = mS K b := perm_sum (h.map _)
theorem mS_sB (K : Int) (xs : List Int) : mS K xs = sB xs.length fun r => min K (nth xs r) := by
  unfold mS
  rw [sum_sB, List.length_map]
  refine sB_congr fun r hr => ?_
  rw [nth_map _ _ _ hr]
  simp [nth, List.getD, hr]
theorem mS_pad {K : Int} (hK : 0 ≤ K) (xs : List Int) : mS K (pad6 xs) = mS K xs := by
  unfold mS pad6
  rw [List.map_append, List.sum_append, List.map_replicate, show min K 0 = 0 by omega]
  have : ∀ k, (List.replicate k (0 : Int)).sum = 0 := by
    intro k
    induction k with
    | zero => rfl
    | succ k ih => rw [List.replicate_succ, List.sum_cons, ih]; rfl
  rw [this, Int.add_zero]
theorem sB_tail {n k : Nat} (hk : k ≤ n) {f : Nat → Int} (h : ∀ j, k ≤ j → j < n → f j = 0) : sB n f = sB k f := by
  induction n with
  | zero => obtain rfl : k = 0 := by omega
            rfl
  | succ n ih =>
    rcases Nat.lt_or_ge n k with h1 | h1
    · obtain rfl : k = n + 1 := by omega
      rfl
    · rw [sB_succ, h n h1 (by omega), Int.add_zero]
      exact ih h1 fun j a b => h j a (by omega)
theorem take_nth (xs : List Int) {k j : Nat} (h : j < k) : nth (xs.take k) j = nth xs j := by simp [nth, List.getD, List.getElem?_take, h]

/-- The rows' numbers of a picture, falling, up to six; the columns'. -/
def fR (xs : List Int) : List Int := fallS (pad6 ((rowsP xs).map List.sum))
def fC (m : Nat) (xs : List Int) : List Int := fallS (pad6 ((colsP m xs).map List.sum))

structure Pic (m : Nat) (xs : List Int) : Prop where
  m1 : 1 ≤ m
  m5 : m ≤ 5
  x5 : xs.length ≤ 5
  ok : ∀ k, k < xs.length → (nth xs k).toNat < 2 ^ m

theorem nn_of {xs : List Int} (h : ∀ x ∈ xs, 0 ≤ x ∧ x ≤ 5) (j : Nat) : 0 ≤ nth xs j ∧ nth xs j ≤ 5 := by
  rcases Nat.lt_or_ge j xs.length with hj | hj
  · exact h _ (nth_mem hj)
  · simp [nth, List.getD, List.getElem?_eq_none hj]
theorem Pic.rows_bd {m : Nat} {xs : List Int} (h : Pic m xs) : ∀ x ∈ pad6 ((rowsP xs).map List.sum), 0 ≤ x ∧ x ≤ 5 := by
  intro x hx
  unfold pad6 at hx
  rw [List.mem_append] at hx
  rcases hx with hx | hx
  · obtain ⟨r, hr, rfl⟩ := List.mem_iff_getElem.1 hx
    have hr' : r < xs.length := by simpa [rowsP] using hr
    have e := rows_nth hr'
    have e2 : nth ((rowsP xs).map List.sum) r = ((rowsP xs).map List.sum)[r] := by unfold nth; rw [List.getD, List.getElem?_eq_getElem hr]; rfl
    rw [← e2, e]
    exact pc_bd _ (Nat.lt_of_lt_of_le (h.ok r hr') (pow_le (by have := h.m5; omega)))
  · rw [List.eq_of_mem_replicate hx]; omega
theorem Pic.cols_bd {m : Nat} {xs : List Int} (h : Pic m xs) : ∀ x ∈ pad6 ((colsP m xs).map List.sum), 0 ≤ x ∧ x ≤ 5 := by
  intro x hx
  rw [← six_pc, List.mem_map] at hx
  obtain ⟨c, hc, rfl⟩ := hx
  exact pc_bd _ (Nat.lt_of_lt_of_le (six_lt m xs c hc) (pow_le (by have := h.x5; omega)))
theorem Pic.fR_bd {m : Nat} {xs : List Int} (h : Pic m xs) (j : Nat) : 0 ≤ nth (fR xs) j ∧ nth (fR xs) j ≤ 5 := nn_of (fun x hx => h.rows_bd x ((fallS_perm _).subset hx)) j
theorem Pic.fC_bd {m : Nat} {xs : List Int} (h : Pic m xs) (j : Nat) : 0 ≤ nth (fC m xs) j ∧ nth (fC m xs) j ≤ 5 := nn_of (fun x hx => h.cols_bd x ((fallS_perm _).subset hx)) j
theorem fR_len {xs : List Int} (h : xs.length ≤ 5) : (fR xs).length = 6 := by unfold fR; rw [fallS_length, pad6_len (by simp [rowsP]; omega)]
theorem fC_len {m : Nat} (xs : List Int) (h : m ≤ 5) : (fC m xs).length = 6 := by unfold fC; rw [fallS_length, pad6_len (by simp [colsP]; omega)]
/-- The rows' numbers, each cut at K, sum to what their falling list does. -/
theorem Pic.mS_rows {m : Nat} {xs : List Int} (h : Pic m xs) {K : Int} (hK : 0 ≤ K) : mS K (fR xs) = sB xs.length fun r => min K (cB r (six m xs)) := by
  unfold fR
  rw [mS_perm (fallS_perm _), mS_pad hK, mS_sB]
  have e : ((rowsP xs).map List.sum).length = xs.length := by simp [rowsP]
  rw [e]
  refine sB_congr fun r hr => ?_
  rw [rows_nth hr, six_row (by have := h.m5; omega) h.x5 h.ok hr]
theorem Pic.total {m : Nat} {xs : List Int} (h : Pic m xs) : smR (rowsP xs) = (fR xs).sum := by
  unfold smR fR
  rw [perm_sum (fallS_perm _)]
  unfold pad6
  rw [List.sum_append]
  have : ∀ k, (List.replicate k (0 : Int)).sum = 0 := by
    intro k
    induction k with
    | zero => rfl
    | succ k ih => rw [List.replicate_succ, List.sum_cons, ih]; rfl
  rw [this, Int.add_zero]

/-- The rows' numbers without zeros: the first k of them. -/
structure Cutk (xs : List Int) (k : Nat) : Prop where
  le : k ≤ 6
  zero : ∀ j, k ≤ j → j < 6 → nth (fR xs) j = 0
  last : k = 0 ∨ nth (fR xs) (k - 1) ≠ 0

theorem Pic.parts_ok {m : Nat} {xs : List Int} (h : Pic m xs) {k : Nat} (hk : Cutk xs k) (h1 : 1 ≤ smR (rowsP xs)) (h12 : smR (rowsP xs) ≤ 12) :
    partsOk ((fR xs).take k) = true ∧ 1 ≤ k ∧ parts ((fR xs).take k) = smR (rowsP xs) := by
  have hl := fR_len h.x5
  have hd : Desc (fR xs) := fallS_desc _
  have htl : ((fR xs).take k).length = k := by rw [List.length_take, hl]; have := hk.le; omega
  have hsum : pre ((fR xs).take k) k = smR (rowsP xs) := by
    rw [h.total, pre_take, List.take_take, Nat.min_self, sum_sB (fR xs), hl, sB_tail hk.le hk.zero, sum_sB, htl]
    exact sB_congr fun i hi => take_nth _ hi
  have hk1 : 1 ≤ k := by
    rcases Nat.eq_zero_or_pos k with h0 | h0
    · subst h0
      have : pre ((fR xs).take 0) 0 = 0 := rfl
      rw [this] at hsum; omega
    · exact h0
  have hpos : ∀ j, j < k → 1 ≤ nth (fR xs) j := by
    intro j hj
    have hlast : nth (fR xs) (k - 1) ≠ 0 := by rcases hk.last with h0 | h0; omega; exact h0
    have hb := (h.fR_bd (k - 1)).1
    rcases Nat.lt_or_ge j (k - 1) with h2 | h2
    · have := desc_nth hd h2 (by rw [hl]; have := hk.le; omega); omega
    · obtain rfl : j = k - 1 := by omega
      omega
  have hok : partsOk ((fR xs).take k) = true := by
    rw [partsOk, Bool.and_eq_true, Bool.and_eq_true, decide_eq_true_eq]
    refine ⟨⟨?_, allIn_of fun j hj => ?_⟩, ?_⟩
    · rw [isFal, decide_eq_true_eq]
      intro j hj h1
      rw [htl] at hj
      rw [take_nth _ hj, take_nth _ (by omega)]
      exact desc_nth hd (by omega) (by rw [hl]; have := hk.le; omega)
    · rw [htl] at hj
      rw [take_nth _ hj]
      exact ⟨hpos j hj, by have := (h.fR_bd j).2; omega⟩
    · rw [htl, hsum]; exact h12
  exact ⟨hok, hk1, by unfold parts; rw [if_pos hok, htl, hsum]⟩

theorem cnt_anti (xs : List Int) (i : Nat) : ∀ L, cnt xs (i + 1) L ≤ cnt xs i L := by
  intro L
  induction L with
  | zero => exact Int.le_refl _
  | succ L ih =>
    show cnt xs (i + 1) L + _ ≤ cnt xs i L + _
    split <;> split <;> omega
theorem cnt_none {xs : List Int} {i : Nat} : ∀ L, (∀ r, r < L → nth xs r ≤ i) → cnt xs i L = 0 := by
  intro L
  induction L with
  | zero => intro _; rfl
  | succ L ih =>
    intro h
    show cnt xs i L + _ = 0
    rw [ih fun r hr => h r (by omega), if_neg (by have := h L (by omega); omega)]
    rfl
theorem turnF_nth {xs : List Int} (hf : isFal xs = true) (i : Nat) : nth (turnF xs) i = cnt xs i xs.length := by
  unfold turnF turnTo
  rcases Nat.lt_or_ge i (nth xs 0).toNat with h | h
  · rw [nth_map _ _ _ (by simpa using h), List.getElem_range]
  · rw [cnt_none _ fun r hr => by have := isFal_first hf hr; omega]
    unfold nth
    rw [List.getD, List.getElem?_eq_none (by simpa [nth] using h)]
    rfl

/-- All that the law asks of the turned rows. -/
theorem Pic.gale {m : Nat} {xs : List Int} (h : Pic m xs) {k : Nat} (hk : Cutk xs k) (h1 : 1 ≤ smR (rowsP xs)) (h12 : smR (rowsP xs) ≤ 12) (hb : smR (colsP m xs) = smR (rowsP xs)) :
    (turnF ((fR xs).take k)).length ≤ 6 ∧ areSh (pad6 (turnF ((fR xs).take k))) (fC m xs) = true ∧ domB (fallS (pad6 (turnF ((fR xs).take k)))) (fallS (fC m xs)) = true := by
  obtain ⟨hok, hk1, _⟩ := h.parts_ok hk h1 h12
  have hl := fR_len h.x5
  have hcl := fC_len xs h.m5
  have htl : ((fR xs).take k).length = k := by rw [List.length_take, hl]; have := hk.le; omega
  have hfal := partsOk_fal hok
  have hlen : (turnF ((fR xs).take k)).length ≤ 6 := by
    unfold turnF; rw [turnTo_length, take_nth _ (by omega)]
    have := (h.fR_bd 0).2; omega
  have h6 := pad6_len hlen
  have hnth : ∀ i, nth (pad6 (turnF ((fR xs).take k))) i = cnt ((fR xs).take k) i k := by
    intro i; rw [pad6_nth, turnF_nth hfal, htl]
  have hcb := cnt_bd ((fR xs).take k)
  have hdt : Desc (pad6 (turnF ((fR xs).take k))) := desc_of fun i _ => by rw [hnth, hnth]; exact cnt_anti _ _ _
  have hpre : ∀ K, pre (pad6 (turnF ((fR xs).take k))) K = sB xs.length fun r => min (K : Int) (cB r (six m xs)) := by
    intro K
    have e1 : pre (pad6 (turnF ((fR xs).take k))) K = sB K fun i => cnt ((fR xs).take k) i k := by
      induction K with
      | zero => rfl
      | succ K ih => rw [sB_succ, ← ih, ← hnth]; rfl
    rw [e1, cnt_sum _ K k fun r hr => by rw [take_nth _ hr]; exact (h.fR_bd r).1, ← h.mS_rows (by omega), mS_sB, hl]
    rw [sB_tail hk.le fun j a b => by rw [hk.zero j a b]; omega]
    exact sB_congr fun r hr => by rw [take_nth _ hr]
  have hdc : Desc (fC m xs) := fallS_desc _
  have hperm : (fC m xs).Perm ((six m xs).map pc) := by rw [six_pc]; exact fallS_perm _
  refine ⟨hlen, ?_, ?_⟩
  · rw [areSh, Bool.and_eq_true, Bool.and_eq_true, decide_eq_true_eq, h6, hcl]
    refine ⟨⟨?_, ?_⟩, rfl⟩
    · rw [isSh, Bool.and_eq_true, Bool.and_eq_true, decide_eq_true_eq, decide_eq_true_eq, h6]
      refine ⟨⟨by omega, by omega⟩, allIn_of fun j _ => ?_⟩
      rw [hnth]
      have := hcb j k
      have := hk.le
      omega
    · rw [isSh, Bool.and_eq_true, Bool.and_eq_true, decide_eq_true_eq, decide_eq_true_eq, hcl]
      refine ⟨⟨by omega, by omega⟩, allIn_of fun j _ => ?_⟩
      have := h.fC_bd j
      omega
  · rw [fallS_same hdt, fallS_same hdc, domB, Bool.and_eq_true, decide_eq_true_eq, decide_eq_true_eq, h6]
    refine ⟨fun K _ => ?_, ?_⟩
    · rw [hpre, pre_take]
      exact top_le (by have := h.x5; omega) _ (six_lt m xs) hperm
    · have e2 : pre (fC m xs) 6 = smR (colsP m xs) := by
        rw [pre_take, List.take_of_length_le (by omega), perm_sum (show (fC m xs).Perm (pad6 ((colsP m xs).map List.sum)) from fallS_perm _)]
        unfold smR pad6
        rw [List.sum_append]
        have : ∀ k, (List.replicate k (0 : Int)).sum = 0 := by
          intro k
          induction k with
          | zero => rfl
          | succ k ih => rw [List.replicate_succ, List.sum_cons, ih]; rfl
        rw [this, Int.add_zero]
      rw [e2, hb, h.total, hpre, sum_sB, hl, ← h.mS_rows (by omega), mS_sB, hl]
      exact sB_congr fun r _ => by have := (h.fR_bd r).2; show min ((6 : Nat) : Int) _ = _; omega
end Go.Proofs.YtjhicbiacnkpaaaDoor
