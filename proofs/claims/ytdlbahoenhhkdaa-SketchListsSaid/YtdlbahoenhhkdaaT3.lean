import Derived.Test.YtdlbahoenhhkdaaT2
/-
  All dice of a stream of n different keys: each is kept equally often.
-/
namespace Go.Proofs.Ytdlbahoenhhkdaa

def facI : Nat → Int
  | 0 => 1
  | j + 1 => facI j * ((j : Int) + 1)
def iota : Nat → List Int
  | 0 => []
  | j + 1 => iota j ++ [(j : Int)]
def dig (a : Int) : Nat → Int
  | 0 => a
  | i + 1 => dig a i / ((i : Int) + 1)
def dice (a : Int) : Nat → List Int
  | 0 => []
  | i + 1 => dice a i ++ [dig a i % ((i : Int) + 1)]
/-- One key counted. -/
def addKey (cs : List Int) (key : Int) : List Int := cs.set key.toNat (nth cs key.toNat + 1)
def addTo (cs l : List Int) : Nat → List Int
  | 0 => cs
  | m + 1 => addKey (addTo cs l m) (nth l m)
def keepA (K n : Nat) (a : Nat) : List Int := keep K (iota n) (dice (a : Int) n)
def total (K n : Nat) : Nat → List Int
  | 0 => List.replicate n 0
  | a + 1 => addTo (total K n a) (keepA K n a) (keepA K n a).length
def cntK (K n j : Nat) : Nat → Nat
  | 0 => 0
  | a + 1 => cntK K n j a + (keepA K n a).count (j : Int)
def facN : Nat → Nat
  | 0 => 1
  | j + 1 => facN j * (j + 1)

theorem facI_eq : ∀ j, facI j = facN j := by
  intro j
  induction j with
  | zero => rfl
  | succ j ih => simp [facI, facN, ih]
theorem iota_len : ∀ n, (iota n).length = n := by
  intro n; induction n with
  | zero => rfl
  | succ n ih => simp [iota, ih]
theorem dice_len (a : Int) : ∀ n, (dice a n).length = n := by
  intro n; induction n with
  | zero => rfl
  | succ n ih => simp [dice, ih]
theorem iota_mem : ∀ n (x : Int), x ∈ iota n → 0 ≤ x ∧ x < n := by
  intro n; induction n with
  | zero => intro x h; simp [iota] at h
  | succ n ih =>
    intro x h
    simp only [iota, List.mem_append, List.mem_singleton] at h
    rcases h with h | h
    · have := ih x h; omega
    · subst h; omega
theorem dig_nonneg (a : Int) (ha : 0 ≤ a) : ∀ i, 0 ≤ dig a i := by
  intro i; induction i with
  | zero => exact ha
  | succ i ih => exact Int.ediv_nonneg ih (by omega)
theorem dig_le (a : Int) (ha : 0 ≤ a) : ∀ i, dig a i ≤ a := by
  intro i; induction i with
  | zero => exact Int.le_refl _
  | succ i ih =>
    have h0 := dig_nonneg a ha i
    have := Int.ediv_le_self (a := dig a i) ((i : Int) + 1) h0
    simp only [dig]; omega
theorem dice_mem (a : Int) : ∀ n (x : Int), x ∈ dice a n → 0 ≤ x ∧ x < n := by
  intro n; induction n with
  | zero => intro x h; simp [dice] at h
  | succ n ih =>
    intro x h
    simp only [dice, List.mem_append, List.mem_singleton] at h
    rcases h with h | h
    · have := ih x h; omega
    · subst h
      have h1 := Int.emod_nonneg (dig a n) (show ((n : Int) + 1) ≠ 0 by omega)
      have h2 := Int.emod_lt_of_pos (dig a n) (show 0 < (n : Int) + 1 by omega)
      omega
theorem allIn_mem {lo hi : Int} {xs : List Int} (h : ∀ x ∈ xs, lo ≤ x ∧ x ≤ hi) : allIn lo hi xs = true := by
  simp only [allIn, List.all_eq_true, Bool.and_eq_true, decide_eq_true_eq]; exact h
theorem iota_str {n : Nat} (hn : n ≤ 6) : isStr (iota n) = true := by
  simp only [isStr, Bool.and_eq_true, decide_eq_true_eq, iota_len]
  exact ⟨by omega, allIn_mem fun x hx => by have := iota_mem n x hx; omega⟩
theorem dice_ok {n : Nat} (hn : n ≤ 6) (a : Int) : diceB (dice a n) (iota n).length = true := by
  simp only [diceB, Bool.and_eq_true, decide_eq_true_eq, iota_len, dice_len, true_and]
  exact allIn_mem fun x hx => by have := dice_mem a n x hx; omega
theorem keepA_bd (K n a j : Nat) (hj : j < (keepA K n a).length) : 0 ≤ nth (keepA K n a) j ∧ nth (keepA K n a) j < n :=
  iota_mem n _ (keep_mem K (iota n) (dice a n) j hj)
theorem keepA_len (K n a : Nat) : (keepA K n a).length = min K n := by rw [keepA, keep_len, iota_len]

theorem addKey_len (cs : List Int) (key : Int) : (addKey cs key).length = cs.length := by simp [addKey]
theorem addTo_len (cs l : List Int) : ∀ m, (addTo cs l m).length = cs.length := by
  intro m; induction m with
  | zero => rfl
  | succ m ih => rw [addTo, addKey_len, ih]
theorem total_len (K n : Nat) : ∀ a, (total K n a).length = n := by
  intro a; induction a with
  | zero => simp [total]
  | succ a ih => rw [total, addTo_len, ih]
theorem nth_set (cs : List Int) (p j : Nat) (z : Int) (hp : p < cs.length) : nth (cs.set p z) j = if j = p then z else nth cs j := by
  unfold nth
  simp only [List.getD, List.getElem?_set]
  by_cases h : j = p
  · subst h; simp [hp]
  · rw [if_neg (fun e => h e.symm), if_neg h]
theorem addTo_nth (cs l : List Int) (n : Nat) (hc : cs.length = n) (hl : ∀ i, i < l.length → 0 ≤ nth l i ∧ nth l i < n) (j : Nat) : ∀ m, m ≤ l.length → nth (addTo cs l m) j = nth cs j + ((l.take m).count (j : Int) : Nat) := by
  intro m; induction m with
  | zero => intros; simp [addTo]
  | succ m ih =>
    intro hm
    obtain ⟨h1, h2⟩ := hl m (by omega)
    rw [addTo, addKey, nth_set _ _ _ _ (by rw [addTo_len, hc]; omega), take_snoc l m (by omega), List.count_append]
    by_cases e : j = (nth l m).toNat
    · rw [if_pos e, ← e, ih (by omega)]
      have : nth l m = (j : Int) := by omega
      simp [this]
      omega
    · rw [if_neg e, ih (by omega)]
      have : ¬ nth l m = (j : Int) := by omega
      simp [List.count_cons, this]
theorem total_nth (K n j : Nat) : ∀ a, nth (total K n a) j = cntK K n j a := by
  intro a; induction a with
  | zero => simp [total, cntK, nth, List.getD, List.getElem?_replicate]; split <;> rfl
  | succ a ih =>
    rw [total, addTo_nth _ _ n (total_len K n a) (fun i hi => keepA_bd K n a i hi) j _ (Nat.le_refl _), ih, List.take_length, cntK]
    omega
theorem cntK_le (K n j : Nat) : ∀ a, cntK K n j a ≤ n * a := by
  intro a; induction a with
  | zero => simp [cntK]
  | succ a ih =>
    have h1 := List.count_le_length (a := (j : Int)) (l := keepA K n a)
    have h2 := keepA_len K n a
    rw [cntK, Nat.mul_succ]; omega
theorem facN_bd : ∀ j, j ≤ 6 → 1 ≤ facN j ∧ facN j ≤ 720 := by decide

def checkK (K n : Nat) : Bool := (List.range n).all fun j => cntK K n j (facN n) * n == facN n * min K n
set_option maxRecDepth 100000 in
theorem check_all : ((List.range 8).all fun k => (List.range 7).all fun n => checkK (k + 1) n) = true := by decide +kernel
theorem total_ok {K n j : Nat} (h1 : 1 ≤ K) (h2 : K ≤ 8) (hn : n ≤ 6) (hj : j < n) : nth (total K n (facN n)) j * n = facI n * ((min K n : Nat) : Int) := by
  have h := check_all
  simp only [List.all_eq_true, List.mem_range] at h
  have h3 := h (K - 1) (by omega) n (by omega)
  rw [show K - 1 + 1 = K from by omega] at h3
  simp only [checkK, List.all_eq_true, List.mem_range, beq_iff_eq] at h3
  have h4 := h3 j hj
  rw [total_nth, facI_eq]
  exact_mod_cast h4
end Go.Proofs.Ytdlbahoenhhkdaa
