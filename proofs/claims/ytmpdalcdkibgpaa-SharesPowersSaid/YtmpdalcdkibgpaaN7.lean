import Derived.Test.YtmpdalcdkibgpaaN5
namespace Go.Proofs.Ytmpdalcdkibgpaa
open Go.RowKit Go.Sort

/-- A sum over a list. -/
def sm {α : Type} (f : α → Int) : List α → Int
  | [] => 0
  | x :: l => f x + sm f l
theorem sm_app {α : Type} (f : α → Int) : ∀ l m : List α, sm f (l ++ m) = sm f l + sm f m := by
  intro l m
  induction l with
  | nil => simp [sm]
  | cons x l ih => simp only [List.cons_append, sm, ih]; omega
theorem sm_map {α β : Type} (f : β → Int) (g : α → β) : ∀ l : List α, sm f (l.map g) = sm (fun x => f (g x)) l := by
  intro l
  induction l with
  | nil => rfl
  | cons x l ih => simp only [List.map_cons, sm, ih]
theorem sm_congr {α : Type} {f g : α → Int} : ∀ {l : List α}, (∀ x ∈ l, f x = g x) → sm f l = sm g l := by
  intro l
  induction l with
  | nil => intro _; rfl
  | cons x l ih =>
    intro h
    rw [sm, sm, h x (by simp), ih fun y hy => h y (by simp [hy])]
theorem sm_le {α : Type} {f g : α → Int} : ∀ {l : List α}, (∀ x ∈ l, f x ≤ g x) → sm f l ≤ sm g l := by
  intro l
  induction l with
  | nil => intro _; exact Int.le_refl _
  | cons x l ih =>
    intro h
    have h1 := h x (by simp)
    have h2 := ih fun y hy => h y (by simp [hy])
    simp only [sm]; omega
theorem sm_add {α : Type} (f g : α → Int) : ∀ l : List α, sm (fun x => f x + g x) l = sm f l + sm g l := by
  intro l
  induction l with
  | nil => rfl
  | cons x l ih => simp only [sm, ih]; omega
theorem sm_zero {α : Type} : ∀ l : List α, sm (fun _ => (0 : Int)) l = 0 := by
  intro l
  induction l with
  | nil => rfl
  | cons x l ih => simp only [sm, ih]; rfl
theorem sm_mul {α : Type} (c : Int) (f : α → Int) : ∀ l : List α, sm (fun x => c * f x) l = c * sm f l := by
  intro l
  induction l with
  | nil => simp [sm]
  | cons x l ih => simp only [sm, ih, Int.mul_add]
theorem sm_comm {α β : Type} (f : α → β → Int) (m : List β) : ∀ l : List α, sm (fun x => sm (fun y => f x y) m) l = sm (fun y => sm (fun x => f x y) l) m := by
  intro l
  induction l with
  | nil => simp only [sm]; rw [sm_zero]
  | cons x l ih => simp only [sm]; rw [ih, sm_add]
theorem sm_flat {α β : Type} (f : β → Int) (g : α → List β) : ∀ l : List α, sm f (l.flatMap g) = sm (fun x => sm f (g x)) l := by
  intro l
  induction l with
  | nil => rfl
  | cons x l ih => simp only [List.flatMap_cons, sm_app, sm, ih]

/-- Each element with the others. -/
def sel {α : Type} : List α → List (α × List α)
  | [] => []
  | x :: l => (x, l) :: (sel l).map fun s => (s.1, x :: s.2)
theorem sel_length {α : Type} : ∀ (l : List α), ∀ s ∈ sel l, s.2.length + 1 = l.length := by
  intro l
  induction l with
  | nil => intro s h; simp [sel] at h
  | cons x l ih =>
    intro s h
    simp only [sel, List.mem_cons, List.mem_map] at h
    rcases h with rfl | ⟨t, ht, rfl⟩
    · rfl
    · have := ih t ht; simp; omega
theorem sel_perm {α : Type} : ∀ (l : List α), ∀ s ∈ sel l, (s.1 :: s.2).Perm l := by
  intro l
  induction l with
  | nil => intro s h; simp [sel] at h
  | cons x l ih =>
    intro s h
    simp only [sel, List.mem_cons, List.mem_map] at h
    rcases h with rfl | ⟨t, ht, rfl⟩
    · exact List.Perm.refl _
    · exact (List.Perm.swap x t.1 t.2).trans ((ih t ht).cons x)
theorem sel_map {α β : Type} (f : α → β) : ∀ l : List α, sel (l.map f) = (sel l).map fun s => (f s.1, s.2.map f) := by
  intro l
  induction l with
  | nil => rfl
  | cons x l ih => simp [sel, ih, Function.comp_def]

/-- The sum over all orders, one share after the other at the first number. -/
def Pw : List Int → List Int → Int
  | _, [] => 1
  | xs, a :: az => sm (fun s => pwr a s.1.toNat * Pw s.2 az) (sel xs)
theorem Pw_pos : ∀ (az xs : List Int), (∀ a ∈ az, 1 ≤ a) → 0 ≤ Pw xs az := by
  intro az
  induction az with
  | nil => intro xs _; simp [Pw]
  | cons a az ih =>
    intro xs h
    have h0 : sm (fun _ => (0 : Int)) (sel xs) ≤ Pw xs (a :: az) := sm_le fun s _ => Int.mul_nonneg (by have := pwr_pos (h a (by simp)) s.1.toNat; omega) (ih s.2 fun b hb => h b (by simp [hb]))
    rw [sm_zero] at h0
    exact h0
theorem sel_sm_perm {xs ys : List Int} (h : xs.Perm ys) : ∀ (F : Int → List Int → Int), (∀ v r r', r.Perm r' → F v r = F v r') → sm (fun s => F s.1 s.2) (sel xs) = sm (fun s => F s.1 s.2) (sel ys) := by
  induction h with
  | nil => intro F _; rfl
  | cons x p ih =>
    intro F hF
    simp only [sel, sm, sm_map]
    rw [hF x _ _ p, ih (fun v r => F v (x :: r)) (fun v r r' hr => hF v _ _ (hr.cons x))]
  | swap x y l =>
    intro F hF
    simp only [sel, sm, sm_map, List.map_cons, List.map_map, Function.comp_def]
    rw [sm_congr (l := sel l) (f := fun s : Int × List Int => F s.1 (y :: x :: s.2)) (g := fun s => F s.1 (x :: y :: s.2)) fun s _ => hF _ _ _ (List.Perm.swap x y s.2)]
    omega
  | trans p q ih1 ih2 => intro F hF; rw [ih1 F hF, ih2 F hF]
theorem Pw_perm : ∀ (az xs ys : List Int), xs.Perm ys → Pw xs az = Pw ys az := by
  intro az
  induction az with
  | nil => intro xs ys _; rfl
  | cons a az ih =>
    intro xs ys h
    exact sel_sm_perm h (fun v r => pwr a v.toNat * Pw r az) fun v r r' hr => by rw [ih r r' hr]
/-- The first share goes to each of the numbers. -/
theorem Pw_first (x : Int) : ∀ (az xs : List Int), az.length = xs.length + 1 → Pw (x :: xs) az = sm (fun t => pwr t.1 x.toNat * Pw xs t.2) (sel az) := by
  intro az
  induction az with
  | nil => intro xs h; simp at h
  | cons a az ih =>
    intro xs h
    rw [Pw]
    simp only [sel, sm, sm_map]
    congr 1
    have e1 : ∀ s ∈ sel xs, pwr a s.1.toNat * Pw (x :: s.2) az = sm (fun t => pwr a s.1.toNat * (pwr t.1 x.toNat * Pw s.2 t.2)) (sel az) := fun s hs => by
      rw [ih s.2 (by have := sel_length _ s hs; simp at h; omega), sm_mul]
    rw [sm_congr e1, sm_comm]
    refine sm_congr fun t _ => ?_
    rw [Pw, ← sm_mul]
    refine sm_congr fun s _ => ?_
    rw [← Int.mul_assoc, ← Int.mul_assoc, Int.mul_comm (pwr a _)]
theorem pwr_add (b : Int) (i : Nat) : ∀ j, pwr b (i + j) = pwr b i * pwr b j := by
  intro j
  induction j with
  | zero => simp [pwr]
  | succ j ih => rw [← Nat.add_assoc, pwr, ih, pwr, Int.mul_assoc]
/-- Two powers that are nearer to each other. -/
theorem pwr_two {a b : Int} (ha : 1 ≤ a) (hb : 1 ≤ b) (q m t : Nat) :
    pwr a (q + m + t) * pwr b (q + m) + pwr a (q + m) * pwr b (q + m + t) ≤ pwr a (q + 2 * m + t) * pwr b q + pwr a q * pwr b (q + 2 * m + t) := by
  have hA := pwr_pos ha; have hB := pwr_pos hb
  have key : 0 ≤ (pwr a (m + t) - pwr b (m + t)) * (pwr a m - pwr b m) := by
    rcases Int.le_total a b with h | h
    · have h1 := pwr_mono ha h (m + t); have h2 := pwr_mono ha h m
      have := Int.mul_nonneg (a := pwr b (m + t) - pwr a (m + t)) (b := pwr b m - pwr a m) (by omega) (by omega)
      have e : (pwr b (m + t) - pwr a (m + t)) * (pwr b m - pwr a m) = (pwr a (m + t) - pwr b (m + t)) * (pwr a m - pwr b m) := by
        rw [← Int.neg_mul_neg]; congr 1 <;> omega
      omega
    · have h1 := pwr_mono hb h (m + t); have h2 := pwr_mono hb h m
      exact Int.mul_nonneg (by omega) (by omega)
  have hq : 0 ≤ pwr a q * pwr b q := Int.mul_nonneg (by have := hA q; omega) (by have := hB q; omega)
  have h3 := Int.mul_nonneg hq key
  have e1 : pwr a (q + m + t) = pwr a q * pwr a (m + t) := by rw [Nat.add_assoc, pwr_add]
  have e2 : pwr b (q + m + t) = pwr b q * pwr b (m + t) := by rw [Nat.add_assoc, pwr_add]
  have e3 : pwr a (q + m) = pwr a q * pwr a m := pwr_add _ _ _
  have e4 : pwr b (q + m) = pwr b q * pwr b m := pwr_add _ _ _
  have e5 : pwr a (q + 2 * m + t) = pwr a q * (pwr a (m + t) * pwr a m) := by rw [show q + 2 * m + t = q + (m + t + m) from by omega, pwr_add, pwr_add a (m + t)]
  have e6 : pwr b (q + 2 * m + t) = pwr b q * (pwr b (m + t) * pwr b m) := by rw [show q + 2 * m + t = q + (m + t + m) from by omega, pwr_add, pwr_add b (m + t)]
  rw [e1, e2, e3, e4, e5, e6]
  generalize pwr a q = A at *
  generalize pwr b q = B at *
  generalize pwr a (m + t) = U at *
  generalize pwr b (m + t) = V at *
  generalize pwr a m = X at *
  generalize pwr b m = Y at *
  have e7 : A * B * ((U - V) * (X - Y)) = (A * (U * X) * B + A * (B * (V * Y))) - (A * U * (B * Y) + A * X * (B * V)) := by
    simp only [Int.sub_mul, Int.mul_sub]
    have c1 : A * B * (U * X) = A * (U * X) * B := by ac_rfl
    have c2 : A * B * (V * Y) = A * (B * (V * Y)) := by ac_rfl
    have c3 : A * B * (U * Y) = A * U * (B * Y) := by ac_rfl
    have c4 : A * B * (V * X) = A * X * (B * V) := by ac_rfl
    rw [c1, c2, c3, c4]; omega
  omega
/-- A share gives to a poorer one. -/
theorem Pw_give (p q : Int) (m : Nat) (hq : 0 ≤ q) (hm : q + m ≤ p - m) : ∀ (az r : List Int), az.length = r.length + 2 → (∀ a ∈ az, 1 ≤ a) → Pw ((p - m) :: (q + m) :: r) az ≤ Pw (p :: q :: r) az := by
  intro az
  induction az with
  | nil => intro r h; simp at h
  | cons a az ih =>
    intro r hl hp
    have hla : az.length = r.length + 1 := by simp at hl; omega
    have hap : ∀ b ∈ az, 1 ≤ b := fun b hb => hp b (by simp [hb])
    have e : ∀ u v : Int, Pw (u :: v :: r) (a :: az) = sm (fun t => (pwr a u.toNat * pwr t.1 v.toNat + pwr a v.toNat * pwr t.1 u.toNat) * Pw r t.2) (sel az) + sm (fun s => pwr a s.1.toNat * Pw (u :: v :: s.2) az) (sel r) := by
      intro u v
      have x1 : sm (fun t => (pwr a u.toNat * pwr t.1 v.toNat + pwr a v.toNat * pwr t.1 u.toNat) * Pw r t.2) (sel az) = pwr a u.toNat * Pw (v :: r) az + pwr a v.toNat * Pw (u :: r) az := by
        rw [Pw_first v az r hla, Pw_first u az r hla, ← sm_mul, ← sm_mul, ← sm_add]
        refine sm_congr fun t _ => ?_
        rw [Int.add_mul, Int.mul_assoc, Int.mul_assoc]
      rw [x1, Pw]
      simp only [sel, sm, sm_map, List.map_cons, List.map_map, Function.comp_def]
      omega
    rw [e, e]
    have hx := sm_le (f := fun t : Int × List Int => (pwr a (p - m).toNat * pwr t.1 (q + m).toNat + pwr a (q + m).toNat * pwr t.1 (p - m).toNat) * Pw r t.2) (g := fun t => (pwr a p.toNat * pwr t.1 q.toNat + pwr a q.toNat * pwr t.1 p.toNat) * Pw r t.2) (l := sel az) fun t ht => by
      obtain ⟨q', rfl⟩ : ∃ q' : Nat, q = q' := ⟨q.toNat, by omega⟩
      obtain ⟨t', ht'⟩ : ∃ t' : Nat, p = q' + 2 * m + t' := ⟨(p - q' - 2 * m).toNat, by omega⟩
      have hmem := (sel_perm az t ht).subset
      have hb : 1 ≤ t.1 := hap _ (hmem (by simp))
      have h2 := pwr_two (hp a (by simp)) hb q' m t'
      have n1 : (p - m).toNat = q' + m + t' := by omega
      have n2 : ((q' : Int) + m).toNat = q' + m := by omega
      have n3 : p.toNat = q' + 2 * m + t' := by omega
      have n4 : ((q' : Int)).toNat = q' := by omega
      rw [n1, n2, n3, n4]
      exact Int.mul_le_mul_of_nonneg_right h2 (Pw_pos _ _ fun b hb' => hap b (hmem (by simp [hb'])))
    have hy := sm_le (f := fun s : Int × List Int => pwr a s.1.toNat * Pw ((p - m) :: (q + m) :: s.2) az) (g := fun s => pwr a s.1.toNat * Pw (p :: q :: s.2) az) (l := sel r) fun s hs =>
      Int.mul_le_mul_of_nonneg_left (ih s.2 (by have := sel_length _ s hs; omega) hap) (by have := pwr_pos (hp a (by simp)) s.1.toNat; omega)
    omega
theorem set_perm1 : ∀ (l : List Int) (f : Nat), f < l.length → ∃ r, ∀ u, (l.set f u).Perm (u :: r) := by
  intro l
  induction l with
  | nil => intro f h; simp at h
  | cons x l ih =>
    intro f h
    rcases f with _ | f
    · exact ⟨l, fun u => List.Perm.refl _⟩
    · obtain ⟨r, hr⟩ := ih f (by simpa using h)
      exact ⟨x :: r, fun u => ((hr u).cons x).trans (List.Perm.swap u x r)⟩
theorem set_perm2 : ∀ (l : List Int) (f t : Nat), f < l.length → t < l.length → f ≠ t → ∃ r, ∀ u v, ((l.set f u).set t v).Perm (u :: v :: r) := by
  intro l
  induction l with
  | nil => intro f t h; simp at h
  | cons x l ih =>
    intro f t hf ht hne
    rcases f with _ | f
    · rcases t with _ | t
      · exact absurd rfl hne
      · obtain ⟨r, hr⟩ := set_perm1 l t (by simpa using ht)
        exact ⟨r, fun u v => (hr v).cons u⟩
    · rcases t with _ | t
      · obtain ⟨r, hr⟩ := set_perm1 l f (by simpa using hf)
        exact ⟨r, fun u v => ((hr u).cons v).trans (List.Perm.swap u v r)⟩
      · obtain ⟨r, hr⟩ := ih f t (by simpa using hf) (by simpa using ht) (by omega)
        refine ⟨x :: r, fun u v => ((hr u v).cons x).trans ?_⟩
        exact (List.Perm.swap u x (v :: r)).trans ((List.Perm.swap v x r).cons u)
theorem set_self (l : List Int) (f : Nat) (h : f < l.length) : l.set f (nth l f) = l := by
  simp [nth, List.getD, h]
theorem Pw_do {s az : List Int} {g : G} (hc : canG s g = true) (hs : Small 20 s) (hl : az.length = s.length) (ha : ∀ a ∈ az, 1 ≤ a) : Pw (doG s g) az ≤ Pw s az := by
  obtain ⟨f, t, e1, e2, hf, ht, hne, h1, h2⟩ := canG_ok hc
  obtain ⟨r, hr⟩ := set_perm2 s f t hf ht hne
  have p1 := hr (nth s f) (nth s t)
  rw [set_self s f hf, set_self s t ht] at p1
  have p2 := hr (nth s f - g.2.2) (nth s t + g.2.2)
  have hrl := p1.length_eq
  simp at hrl
  obtain ⟨m, hm⟩ : ∃ m : Nat, g.2.2 = m := ⟨g.2.2.toNat, by omega⟩
  have hg := Pw_give (nth s f) (nth s t) m (hs t).1 (by omega) az r (by omega) ha
  rw [doG, e1, e2, Int.toNat_natCast, Int.toNat_natCast, Pw_perm az _ _ p2, hm, Pw_perm az s _ p1]
  exact hg
/-- Shares at least az uneven, both falling. -/
theorem Pw_inv {Y az : List Int} {n : Nat} (hY : isFal Y = true) (hl : az.length = n) (ha : ∀ a ∈ az, 1 ≤ a) : ∀ (k : Nat) (S : List Int), dif S Y n ≤ k → Inv S Y n → Pw Y az ≤ Pw S az := by
  intro k
  induction k with
  | zero =>
    intro S hd hI
    have : ltAt S Y n := fun j hj => by
      rcases (show nth S j < nth Y j ∨ nth Y j ≤ nth S j from by omega) with h | h
      · have := dif_pos (S := S) (Y := Y) (k := j) (by omega) n hj; omega
      · exact h
    rw [inv_end hI this]; exact Int.le_refl _
  | succ k ih =>
    intro S hd hI
    by_cases hall : ltAt S Y n
    · rw [inv_end hI hall]; exact Int.le_refl _
    · have hex : ∃ i, i < n ∧ ltAt S Y i ∧ nth S i < nth Y i := by
        have key : ∀ i, i ≤ n → ltAt S Y i ∨ ∃ i, i < n ∧ ltAt S Y i ∧ nth S i < nth Y i := by
          intro i
          induction i with
          | zero => intro _; exact .inl fun j hj => by omega
          | succ i ihi =>
            intro hi
            rcases ihi (by omega) with h | h
            · rcases (show nth S i < nth Y i ∨ nth Y i ≤ nth S i from by omega) with h2 | h2
              · exact .inr ⟨i, by omega, h, h2⟩
              · refine .inl fun j hj => ?_
                rcases Nat.lt_or_ge j i with h3 | h3
                · exact h j h3
                · obtain rfl : j = i := by omega
                  exact h2
            · exact .inr h
        rcases key n (Nat.le_refl _) with h | h
        · exact absurd h hall
        · exact h
      obtain ⟨i, hi, hlt, hlow⟩ := hex
      obtain ⟨j, hj, hne⟩ := inv_some hI hi hlt hlow
      obtain ⟨hc, hI2, hd2⟩ := inv_step hI hY hi hlt hlow hj hne rfl
      exact Int.le_trans (ih _ (by omega) hI2) (Pw_do hc hI.small (by rw [hI.len]; exact hl) ha)
end Go.Proofs.Ytmpdalcdkibgpaa
