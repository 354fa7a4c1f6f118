import Derived.Test.YtmpdalcdkibgpaaA2
namespace Go.Proofs.Ytmpdalcdkibgpaa
open Go.RowKit Go.Sort

theorem Owned.alloc {w : World} {base : Nat} {v : Value} {xs : List Int} (h : Owned w base v xs) (o : Obj) : Owned (w.alloc o) base v xs := World.ownsRow.alloc h o
theorem Owned.drew {w : World} {base : Nat} {v : Value} {xs : List Int} (h : Owned w base v xs) : Owned w.drew base v xs := h
theorem Ints.drew {w : World} {B n c : Nat} {A : Option Addr} {xs : List Int} (h : Ints w B A n c xs) : Ints w.drew B A n c xs := ⟨h.len, h.cap, h.most, h.bare, h.at_⟩
theorem Ints.alloc {w : World} {B n c : Nat} {A : Option Addr} {xs : List Int} (h : Ints w B A n c xs) (hB : B ≤ w.heap.size) (o : Obj) : Ints (w.alloc o) B A n c xs := h.keep fun p hp => World.cell?_alloc_lt w o p (by omega)
theorem Ints.grown {w w' : World} {B n c : Nat} {A : Option Addr} {xs : List Int} (h : Ints w B A n c xs) {row : Option Nat} (hg : w.grownBy w' row) (hB : B ≤ w.heap.size) (hr : ∀ g, row = some g → B ≤ g) : Ints w' B A n c xs :=
  h.keep fun p hp => World.cell?_of_block (hg.block p.block (by omega) (fun e => by have := hr _ e.symm; omega))
theorem Ints.grownNe {w w' : World} {B n c b : Nat} {xs : List Int} (h : Ints w B (some ⟨b, 0, none⟩) n c xs) {row : Option Nat} (hg : w.grownBy w' row) (hb : b < w.heap.size) (hr : row ≠ some b) : Ints w' B (some ⟨b, 0, none⟩) n c xs :=
  ⟨h.len, h.cap, h.most, h.bare, fun k hk => by
    obtain ⟨b1, off, e, hb1, hc⟩ := h.at_ k hk
    cases e
    exact ⟨_, _, rfl, hb1, (World.cell?_of_block (hg.block _ hb (fun e => hr e.symm))).trans hc⟩⟩
/-- The cut 'x[k:]'. -/
theorem Ints.from_ {w : World} {B n c : Nat} {A : Option Addr} {xs : List Int} (h : Ints w B A n c xs) {k : Nat} (hk : k ≤ n) : Ints w B (if c = k then A else A.map (·.add k)) (n - k) (c - k) (xs.drop k) := by
  refine ⟨by have := h.len; simp; omega, by have := h.cap; omega, by have := h.most; omega, fun e => ?_, fun j hj => ?_⟩
  · by_cases hck : c = k
    · omega
    · rw [if_neg hck] at e
      cases A with
      | none => have := h.bare rfl; omega
      | some a => simp at e
  · obtain ⟨b, off, e, hb, hc⟩ := h.at_ (k + j) (by omega)
    rw [if_neg (by have := h.cap; omega), e]
    refine ⟨b, off + k, by simp [Addr.add_lit], hb, ?_⟩
    rw [Nat.add_assoc, hc]
    simp [nth, List.getD]

theorem Ints.from_at {w : World} {B n c b off : Nat} {xs : List Int} (h : Ints w B (some ⟨b, off, none⟩) n c xs) {k : Nat} (hk : k ≤ n) : Ints w B (if c = k then some ⟨b, off, none⟩ else some ⟨b, off + k, none⟩) (n - k) (c - k) (xs.drop k) := by
  have := h.from_ hk
  simpa [Addr.add_lit] using this

def fallK (xs : List Int) (k : Nat) : List Int := (xs.take k).foldl (fun acc v => ins v acc) []
theorem ins_length (v : Int) (l : List Int) : (ins v l).length = l.length + 1 := by simpa using (ins_perm v l).length_eq
theorem fallK_succ (xs : List Int) (k : Nat) (h : k < xs.length) : fallK xs (k + 1) = ins (nth xs k) (fallK xs k) := by
  rw [fallK, take_snoc xs k h, List.foldl_append]; rfl
theorem fallK_length (xs : List Int) : ∀ k, k ≤ xs.length → (fallK xs k).length = k := by
  intro k
  induction k with
  | zero => intro _; simp [fallK]
  | succ k ih => intro h; rw [fallK_succ xs k (by omega), ins_length, ih (by omega)]
theorem fallK_all (xs : List Int) : fallK xs xs.length = fallR xs := by simp [fallK, fallR]
/-- The first j are at least v, and the next one (if there is one) is not. -/
def GeTo (v : Int) (l : List Int) (j : Nat) : Prop := ∀ t, t < j → v ≤ nth l t
theorem ins_at {v : Int} {l : List Int} {j : Nat} (hj : j ≤ l.length) (h : GeTo v l j) (hn : j < l.length → nth l j < v) : ins v l = l.take j ++ ([v] ++ l.drop j) := by
  have e : ∀ (l : List Int) (j : Nat), j ≤ l.length → GeTo v l j → (j < l.length → nth l j < v) → l.takeWhile (fun x => decide (v ≤ x)) = l.take j ∧ l.dropWhile (fun x => decide (v ≤ x)) = l.drop j := by
    intro l
    induction l with
    | nil => intro j hj _ _; simp
    | cons a l ih =>
      intro j hj h hn
      cases j with
      | zero =>
        have : a < v := by simpa [nth] using hn (by simp)
        simp [this]
      | succ j =>
        have h0 : v ≤ a := by simpa [nth] using h 0 (by omega)
        have h1 := ih j (by simpa using hj) (fun t ht => by simpa [nth] using h (t + 1) (by omega)) (fun hlt => by simpa [nth] using hn (by simpa using hlt))
        simp [h0, h1.1, h1.2]
  rw [ins, (e l j hj h hn).1, (e l j hj h hn).2]
  rfl

theorem Owned.shape {w : World} {base n : Nat} {v : Value} {L L' : List Int} (h : Owned w base v L) (hl : L'.length = n) (e : L = L') : ∃ A c, v = .slice A n c ∧ Owned w base (.slice A n c) L' := by
  subst e
  obtain ⟨A, c, rfl, _⟩ := h.ints
  rw [hl] at h
  exact ⟨A, c, by rw [hl], h⟩

theorem ints_one_at (w : World) (z : Int) {H : Nat} (h : w.heap.size = H) : Ints (w.alloc (.cells #[.int .i64 z] 3)) (H + 1) (some ⟨H, 0, none⟩) 1 1 [z] := by
  subst h; exact ints_one w z
theorem owned_new_at (w : World) (base : Nat) {H : Nat} (e : w.heap.size = H) (h : base ≤ H) : Owned (w.alloc (.cells #[] 3)) base (.slice (some ⟨H, 0, none⟩) 0 0) [] := by
  subst e; exact owned_new w base h

theorem Owned.lower {w : World} {base base' : Nat} {v : Value} {xs : List Int} (h : Owned w base v xs) (hb : base' ≤ base) : Owned w base' v xs := by
  refine ⟨h.1, ?_⟩
  rcases h.2 with h0 | ⟨g, cap, cur, hv, hg, r⟩
  · exact .inl h0
  · exact .inr ⟨g, cap, cur, hv, by omega, r⟩

theorem row_new {k n g m c : Nat} (hg : n ≤ g) (h : (Value.slice (some ⟨g, 0, none⟩) m c).ownBlock = some k) : n ≤ k := by
  simp [Value.ownBlock] at h; omega
theorem row_at {v v' : Value} {n H : Nat} (hat : v'.ownBlock = v.ownBlock ∨ v'.ownBlock = some H) (hv : ∀ k, v.ownBlock = some k → n ≤ k) (hH : n ≤ H) : ∀ k, v'.ownBlock = some k → n ≤ k := by
  intro k hk
  rcases hat with e | e
  · exact hv k (by rw [← e]; exact hk)
  · rw [e] at hk; cases hk; exact hH

set_option maxHeartbeats 1000000 in
theorem RFalling_any (A : Option Addr) (n c : Nat) (xs : List Int) (w : World) (h : Ints w w.heap.size A n c xs) (hn : n ≤ 1000) :
    Calls Try.prog 63 #[.slice A n c] w fun e w' => ∃ v, e = .returned v ∧ Owned w' w.heap.size v (fallR xs) ∧ Below w.heap.size w w' := by
  have hm := h.most; have hcap := h.cap
  have hl := hide h.len
  go_enter Try.func63, Try.ntmps63
  go_wp2
  go_loopw [9, 3] (fun i v wr => ∃ (k : Nat) (A1 : Option Addr) (c1 : Nat), k ≤ n ∧ i = .int .i64 k ∧ v = .slice A1 k c1 ∧ Owned wr w.heap.size (.slice A1 k c1) (fallK xs k) ∧ Below w.heap.size w wr) (fun i _ _ => n - (intOf i).toNat)
  case atStart => exact ⟨0, none, 0, Nat.zero_le _, rfl, rfl, World.ownsRow_nil _ _ _ _, Below.refl _ _⟩
  case round =>
    obtain ⟨k, A1, c1, hk, rfl, rfl, ho, hb⟩ := hrel
    have hkl := hide (fallK_length xs k (by rw [hl.out]; exact hk))
    by_cases hlt : k < n
    · obtain ⟨b, off, rfl, hbB, hc⟩ := (h.below hb).at_ k hlt
      obtain ⟨A2, c2, e2, hi⟩ := ho.ints
      rw [hkl.out] at e2 hi
      simp only [Value.slice.injEq, true_and] at e2
      obtain ⟨rfl, rfl⟩ := e2
      have hm1 := hi.most; have hcap1 := hi.cap
      have hsz := hb.size
      have HI := hide hi; clear hi
      go_wp2
      go_loop [6] (fun a => ∃ j : Nat, j ≤ k ∧ a = .int .i64 j ∧ GeTo (nth xs k) (fallK xs k) j) (fun a => k - (intOf a).toNat)
      case atStart => exact ⟨0, Nat.zero_le _, rfl, by intro t ht; omega⟩
      case round =>
        obtain ⟨j, hj, rfl, hge⟩ := hrel
        have HG := hide hge; clear hge
        by_cases hjk : j < k
        · obtain ⟨b3, off3, rfl, hb3, hc3⟩ := (unhide HI).at_ j hjk
          by_cases hv : nth xs k ≤ nth (fallK xs k) j
          · have HG2 := hide (show GeTo (nth xs k) (fallK xs k) (j + 1) from fun t ht => by
              rcases Nat.lt_or_ge t j with h1 | h1
              · exact (unhide HG) t h1
              · obtain rfl : t = j := by omega
                exact hv)
            go_wp2
            go_round
            case rel => exact ⟨j + 1, by omega, by go_num, unhide HG2⟩
            case measure => simp [intOf]; omega
          · have hins := hide (ins_at (by rw [hkl.out]; exact hj) (unhide HG) (fun _ => by omega))
            have hL := hide ((unhide HI).cut hj)
            have hR := hide ((unhide HI).from_at hj)
            have hjc : j ≤ c1 := by omega
            have hjc' : (j : Int) ≤ (c1 : Int) := by omega
            have l1 := hide (show ([] : List Int).length + ((fallK xs k).take j).length ≤ 1000000 from by simp; omega)
            have l2 := hide (show ([] ++ (fallK xs k).take j).length + [nth xs k].length ≤ 1000000 from by simp; omega)
            have l3 := hide (show ([] ++ (fallK xs k).take j ++ [nth xs k]).length + ((fallK xs k).drop j).length ≤ 1000000 from by have := hkl.out; simp; omega)
            have s1 : ∀ o, wr.heap.size ≤ (wr.alloc o).heap.size := fun o => by simp
            have s2 : ∀ o o', wr.heap.size ≤ ((wr.alloc o).alloc o').heap.size := fun o o' => by simp; omega
            have E1 := hide (show ∀ o, (wr.alloc o).heap.size = wr.heap.size + 1 from fun o => by simp)
            have L1 : wr.heap.size ≤ wr.heap.size + 1 := by omega
            have S1 := hide s1; have S2 := hide s2; clear s1 s2
            go_wp2
            go_region_law (first
              | (refine step_app (B := wr.heap.size) (by rfl) (.tmp 27) (.tmp 30) (by rfl) (base := wr.heap.size) (xs := []) (ys := (fallK xs k).take j) (by rfl) (by rfl) (owned_new wr _ (Nat.le_refl _)).drew ((unhide hL).alloc (Nat.le_refl _) _).drew (unhide l1) (unhide S1 _) ?_
                 intro v1 w1 ho1 hg1 hat1
                 have hb1 : Below wr.heap.size wr w1 := ((Below.refl _ _).alloc (Nat.le_refl _) _).drew.grown hg1 (unhide S1 _) (fun k hk => row_new (Nat.le_refl _) hk)
                 have hr1 : ∀ k, v1.ownBlock = some k → wr.heap.size ≤ k := row_at hat1 (fun k hk => row_new (Nat.le_refl _) hk) (unhide S1 _)
                 have hX1 := (ints_one w1 (nth xs k))
                 have hoo1 := ho1.alloc (.cells #[.int .i64 (nth xs k)] 3)
                 have hbb1 := hb1.alloc hb1.size (.cells #[.int .i64 (nth xs k)] 3))
              | (refine step_app (B := wr.heap.size) (by rfl) (.tmp 27) (.tmp 30) (by rfl) (base := wr.heap.size) (xs := []) (ys := (fallK xs k).take j) (by rfl) (by rfl) ((owned_new wr _ (Nat.le_refl _)).alloc _).drew (((unhide hL).alloc (Nat.le_refl _) _).alloc (unhide S1 _) _).drew (unhide l1) (unhide S2 _ _) ?_
                 intro v1 w1 hoo1 hg1 hat1
                 have hbb1 : Below wr.heap.size wr w1 := (((Below.refl _ _).alloc (Nat.le_refl _) _).alloc (unhide S1 _) _).drew.grown hg1 (unhide S2 _ _) (fun k hk => row_new (Nat.le_refl _) hk)
                 have hr1 : ∀ k, v1.ownBlock = some k → wr.heap.size ≤ k := row_at hat1 (fun k hk => row_new (Nat.le_refl _) hk) (unhide S2 _ _)
                 have hX1 := (ints_one_at (wr.alloc (.cells #[] 3)) (nth xs k) (unhide E1 _)).drew.grownNe hg1 (by simp) (by simp [Value.ownBlock]))
              | (refine step_app (B := wr.heap.size) (by rfl) (.tmp 27) (.tmp 30) (by rfl) (base := wr.heap.size) (xs := []) (ys := (fallK xs k).take j) (by rfl) (by rfl) (owned_new_at (wr.alloc _) _ (unhide E1 _) L1).drew (((unhide hL).alloc (Nat.le_refl _) _).alloc (unhide S1 _) _).drew (unhide l1) (unhide S2 _ _) ?_
                 intro v1 w1 hoo1 hg1 hat1
                 have hbb1 : Below wr.heap.size wr w1 := (((Below.refl _ _).alloc (Nat.le_refl _) _).alloc (unhide S1 _) _).drew.grown hg1 (unhide S2 _ _) (fun k hk => row_new L1 hk)
                 have hr1 : ∀ k, v1.ownBlock = some k → wr.heap.size ≤ k := row_at hat1 (fun k hk => row_new L1 hk) (unhide S2 _ _)
                 have hX1 := ((ints_one wr (nth xs k)).alloc (Nat.le_of_eq (unhide E1 _).symm) _).drew.grownNe hg1 (by simp; omega) (by simp [Value.ownBlock]))
              | (refine step_app (by rfl) (.tmp 31) (.tmp 33) (by rfl) (by rfl) (by rfl) hoo1 hX1 (unhide l2) hbb1.size ?_
                 intro v2 w2 ho2 hg2 hat2
                 have hb2 : Below wr.heap.size wr w2 := hbb1.grown hg2 hbb1.size hr1
                 have hr2 : ∀ k, v2.ownBlock = some k → wr.heap.size ≤ k := row_at hat2 hr1 hbb1.size)
              | (refine step_app (by rfl) (.tmp 34) (.tmp 37) (by rfl) (by rfl) (by rfl) ho2 ((unhide hR).below hb2) (unhide l3) hb2.size ?_
                 intro v3 w3 ho3 hg3 hat3
                 have hb3 : Below wr.heap.size wr w3 := hb2.grown hg3 hb2.size hr2))
            all_goals
              have HK := hide (fallK_succ xs k (by rw [hl.out]; exact hlt))
              obtain ⟨A3, c3, e3, o3⟩ := ho3.shape (L' := fallK xs (k + 1)) (fallK_length xs (k + 1) (by rw [hl.out]; exact hlt)) (by rw [HK.out, hins.out]; simp)
              have EE3 := hide e3; clear e3
              go_wp2
              go_roundw
              case rel => exact ⟨k + 1, A3, c3, by omega, by go_num, EE3.out, o3.lower hb.size, hb.trans (hb3.mono hb.size)⟩
              case measure => simp [intOf]; omega
        · have hins := hide (ins_at (by rw [hkl.out]; exact hj) (unhide HG) (fun h => by rw [hkl.out] at h; omega))
          have hL := hide ((unhide HI).cut hj)
          have hR := hide ((unhide HI).from_ hj)
          have hjc : j ≤ c1 := by omega
          have hjc' : (j : Int) ≤ (c1 : Int) := by omega
          have l1 := hide (show ([] : List Int).length + ((fallK xs k).take j).length ≤ 1000000 from by simp; omega)
          have l2 := hide (show ([] ++ (fallK xs k).take j).length + [nth xs k].length ≤ 1000000 from by simp; omega)
          have l3 := hide (show ([] ++ (fallK xs k).take j ++ [nth xs k]).length + ((fallK xs k).drop j).length ≤ 1000000 from by have := hkl.out; simp; omega)
          have s1 : ∀ o, wr.heap.size ≤ (wr.alloc o).heap.size := fun o => by simp
          have s2 : ∀ o o', wr.heap.size ≤ ((wr.alloc o).alloc o').heap.size := fun o o' => by simp; omega
          have E1 := hide (show ∀ o, (wr.alloc o).heap.size = wr.heap.size + 1 from fun o => by simp)
          have L1 : wr.heap.size ≤ wr.heap.size + 1 := by omega
          have S1 := hide s1; have S2 := hide s2; clear s1 s2
          go_wp2
          go_region_law (first
            | (refine step_app (B := wr.heap.size) (by rfl) (.tmp 27) (.tmp 30) (by rfl) (base := wr.heap.size) (xs := []) (ys := (fallK xs k).take j) (by rfl) (by rfl) (owned_new wr _ (Nat.le_refl _)).drew ((unhide hL).alloc (Nat.le_refl _) _).drew (unhide l1) (unhide S1 _) ?_
               intro v1 w1 ho1 hg1 hat1
               have hb1 : Below wr.heap.size wr w1 := ((Below.refl _ _).alloc (Nat.le_refl _) _).drew.grown hg1 (unhide S1 _) (fun k hk => row_new (Nat.le_refl _) hk)
               have hr1 : ∀ k, v1.ownBlock = some k → wr.heap.size ≤ k := row_at hat1 (fun k hk => row_new (Nat.le_refl _) hk) (unhide S1 _)
               have hX1 := (ints_one w1 (nth xs k))
               have hoo1 := ho1.alloc (.cells #[.int .i64 (nth xs k)] 3)
               have hbb1 := hb1.alloc hb1.size (.cells #[.int .i64 (nth xs k)] 3))
            | (refine step_app (B := wr.heap.size) (by rfl) (.tmp 27) (.tmp 30) (by rfl) (base := wr.heap.size) (xs := []) (ys := (fallK xs k).take j) (by rfl) (by rfl) ((owned_new wr _ (Nat.le_refl _)).alloc _).drew (((unhide hL).alloc (Nat.le_refl _) _).alloc (unhide S1 _) _).drew (unhide l1) (unhide S2 _ _) ?_
               intro v1 w1 hoo1 hg1 hat1
               have hbb1 : Below wr.heap.size wr w1 := (((Below.refl _ _).alloc (Nat.le_refl _) _).alloc (unhide S1 _) _).drew.grown hg1 (unhide S2 _ _) (fun k hk => row_new (Nat.le_refl _) hk)
               have hr1 : ∀ k, v1.ownBlock = some k → wr.heap.size ≤ k := row_at hat1 (fun k hk => row_new (Nat.le_refl _) hk) (unhide S2 _ _)
               have hX1 := (ints_one_at (wr.alloc (.cells #[] 3)) (nth xs k) (unhide E1 _)).drew.grownNe hg1 (by simp) (by simp [Value.ownBlock]))
            | (refine step_app (B := wr.heap.size) (by rfl) (.tmp 27) (.tmp 30) (by rfl) (base := wr.heap.size) (xs := []) (ys := (fallK xs k).take j) (by rfl) (by rfl) (owned_new_at (wr.alloc _) _ (unhide E1 _) L1).drew (((unhide hL).alloc (Nat.le_refl _) _).alloc (unhide S1 _) _).drew (unhide l1) (unhide S2 _ _) ?_
               intro v1 w1 hoo1 hg1 hat1
               have hbb1 : Below wr.heap.size wr w1 := (((Below.refl _ _).alloc (Nat.le_refl _) _).alloc (unhide S1 _) _).drew.grown hg1 (unhide S2 _ _) (fun k hk => row_new L1 hk)
               have hr1 : ∀ k, v1.ownBlock = some k → wr.heap.size ≤ k := row_at hat1 (fun k hk => row_new L1 hk) (unhide S2 _ _)
               have hX1 := ((ints_one wr (nth xs k)).alloc (Nat.le_of_eq (unhide E1 _).symm) _).drew.grownNe hg1 (by simp; omega) (by simp [Value.ownBlock]))
            | (refine step_app (by rfl) (.tmp 31) (.tmp 33) (by rfl) (by rfl) (by rfl) hoo1 hX1 (unhide l2) hbb1.size ?_
               intro v2 w2 ho2 hg2 hat2
               have hb2 : Below wr.heap.size wr w2 := hbb1.grown hg2 hbb1.size hr1
               have hr2 : ∀ k, v2.ownBlock = some k → wr.heap.size ≤ k := row_at hat2 hr1 hbb1.size)
            | (refine step_app (by rfl) (.tmp 34) (.tmp 37) (by rfl) (by rfl) (by rfl) ho2 ((unhide hR).below hb2) (unhide l3) hb2.size ?_
               intro v3 w3 ho3 hg3 hat3
               have hb3 : Below wr.heap.size wr w3 := hb2.grown hg3 hb2.size hr2))
          all_goals
            have HK := hide (fallK_succ xs k (by rw [hl.out]; exact hlt))
            obtain ⟨A3, c3, e3, o3⟩ := ho3.shape (L' := fallK xs (k + 1)) (fallK_length xs (k + 1) (by rw [hl.out]; exact hlt)) (by rw [HK.out, hins.out]; simp)
            have EE3 := hide e3; clear e3
            go_wp2
            go_roundw
            case rel => exact ⟨k + 1, A3, c3, by omega, by go_num, EE3.out, o3.lower hb.size, hb.trans (hb3.mono hb.size)⟩
            case measure => simp [intOf]; omega
    · obtain rfl : k = n := by omega
      go_wp2
      go_ret
      refine ⟨_, rfl, ?_, hb⟩
      rw [← fallK_all, hl.out]
      exact ho
end Go.Proofs.Ytmpdalcdkibgpaa
