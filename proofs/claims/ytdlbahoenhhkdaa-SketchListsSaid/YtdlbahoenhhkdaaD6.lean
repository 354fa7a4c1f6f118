import Derived.Test.YtdlbahoenhhkdaaD5
/-
  slices.IndexFunc, slices.DeleteFunc (where a number is 0).
-/
namespace Go.Proofs.Ytdlbahoenhhkdaa
open Go.RowKit

def nz (gs : List G) : List G := gs.filter fun g => !decide (g.2.1 = 0)
theorem nz_take_succ {gs : List G} {k : Nat} (h : k < gs.length) : nz (gs.take (k + 1)) = nz (gs.take k) ++ (if (gth gs k).2.1 = 0 then [] else [gth gs k]) := by
  rw [gtake gs k h]
  unfold nz
  rw [List.filter_append]
  congr 1
  by_cases e : (gth gs k).2.1 = 0 <;> simp [e]

set_option maxHeartbeats 1000000 in
theorem Index_any (A : Option Addr) (n c : Nat) (gs : List G) (m : Nat) (r : Int) (w : World) (h : Gs w w.heap.size A n c gs) (hmn : m ≤ n) (hz : Hid (∀ j, j < m → (gth gs j).2.1 ≠ 0)) (hr : Hid ((m = n ∧ r = -1) ∨ (m < n ∧ (gth gs m).2.1 = 0 ∧ r = m))) :
    Calls Try.prog 84 #[.slice A n c, .func (Fn.func 76) #[] #[]] w fun e w' => e = .returned (.int .i64 r) ∧ Below w.heap.size w w' := by
  have hm := h.most; have hcap := h.cap
  have hl := hide h.len
  have H := hide h; clear h
  go_enter Try.func84, Try.ntmps84
  go_wp2_with fail
  go_loopw [8, 5] (fun i v wr => ∃ (k : Nat), k ≤ m ∧ i = .int .i64 k ∧ Below w.heap.size w wr) (fun i _ _ => n - (intOf i).toNat)
  case atStart => exact ⟨0, Nat.zero_le _, rfl, Below.refl _ _⟩
  case round =>
    obtain ⟨k, hk, rfl, hb⟩ := hrel
    have HB := hide hb; clear hb
    by_cases hlt : k < n
    · obtain ⟨b, off, rfl, hbb, e1, e2, e3⟩ := ((unhide H).below (unhide HB)).at_ k hlt
      obtain ⟨f, hf⟩ : ∃ f, (gth gs k).1 = f := ⟨_, rfl⟩
      obtain ⟨d, hd⟩ : ∃ f, (gth gs k).2.1 = f := ⟨_, rfl⟩
      obtain ⟨o, ho⟩ : ∃ f, (gth gs k).2.2 = f := ⟨_, rfl⟩
      rw [hf] at e1; rw [hd] at e2; rw [ho] at e3
      have hD := hide hd; clear hf hd ho
      by_cases hkm : k < m
      · have hd0 : Hid (decide (d = 0) = false) := hide (by have := hz.out k hkm; rw [hD.out] at this; simpa using this)
        go_wp2_with fail
        refine (lz_is f d o false _ hd0).mono ?_
        rintro e w2 ⟨rfl, hb2⟩
        have HB2 := hide ((unhide HB).trans (hb2.mono (unhide HB).size))
        clear hb2
        go_wp2_with fail
        go_roundw
        case rel => exact ⟨k + 1, by omega, by go_num, unhide HB2⟩
        case measure => simp [intOf]; omega
      · obtain rfl : k = m := by omega
        have hr2 : (gth gs k).2.1 = 0 ∧ r = k := by
          rcases hr.out with ⟨h1, _⟩ | ⟨_, h2, h3⟩
          · omega
          · exact ⟨h2, h3⟩
        have hd0 : Hid (decide (d = 0) = true) := hide (by have := hr2.1; rw [hD.out] at this; simpa using this)
        have hrk := hide hr2.2
        clear hr2
        go_wp2_with fail
        refine (lz_is f d o true _ hd0).mono ?_
        rintro e w2 ⟨rfl, hb2⟩
        have HB2 := hide ((unhide HB).trans (hb2.mono (unhide HB).size))
        clear hb2
        go_wp2_with fail
        go_ret
        exact ⟨ret_int (by rw [hrk.out]), unhide HB2⟩
    · obtain rfl : k = n := by omega
      have hrk := hide (show r = -1 by
        rcases hr.out with ⟨_, h1⟩ | ⟨h1, _⟩
        · exact h1
        · omega)
      go_wp2_with fail
      go_ret
      exact ⟨ret_int (by rw [hrk.out]), unhide HB⟩

theorem first0 (gs : List G) : ∃ m, m ≤ gs.length ∧ (∀ j, j < m → (gth gs j).2.1 ≠ 0) ∧ (m < gs.length → (gth gs m).2.1 = 0) := by
  induction gs with
  | nil => exact ⟨0, Nat.le_refl _, fun j h => by omega, fun h => by simp at h⟩
  | cons g l ih =>
    by_cases e : g.2.1 = 0
    · exact ⟨0, Nat.zero_le _, fun j h => by omega, fun _ => by simpa [gth] using e⟩
    · obtain ⟨m, h1, h2, h3⟩ := ih
      refine ⟨m + 1, by simp; omega, fun j hj => ?_, fun h => ?_⟩
      · rcases j with _ | j
        · simpa [gth] using e
        · simpa [gth] using h2 j (by omega)
      · simpa [gth] using h3 (by simpa using h)
theorem nz_all {gs : List G} (h : ∀ j, j < gs.length → (gth gs j).2.1 ≠ 0) : nz gs = gs := by
  unfold nz
  rw [List.filter_eq_self]
  intro g hg
  obtain ⟨i, hi, rfl⟩ := List.mem_iff_getElem.1 hg
  have := h i hi
  simpa [gth, List.getD, hi] using this

theorem run_clear3 (w : World) (ty : TypeId) (g o n c : Nat) (cur : Array Value) (hn : 0 < n) (hg : w.heap[g]? = some (.cells cur 68 (0, 0))) (hfit : o + n * 3 ≤ cur.size) :
    ∃ zs : List Value, zs.length = n * 3 ∧ (Builtin.clear_ #[23] ty #[.slice (some ⟨g, o, none⟩) n c]).run Try.prog w = .ok (.tuple #[]) (w.setRow g (plug o zs cur.toList).toArray) := by
  obtain ⟨i0, h0, hz0, hz1, hz2⟩ := info_parts info68
  obtain ⟨zs, hzs⟩ : ∃ zs, zs = (Builtin.zeroCells (Value.agg #[.int .i64 0, .int .i64 0, .int .i64 0]).cells n).toList := ⟨_, rfl⟩
  have hzl : zs.length = n * 3 := by rw [hzs, Array.length_toList, size_zeroCells]; rfl
  have h1 : ∀ v ∈ zs, v.oneCell' = true := by
    intro v hv
    rw [hzs] at hv
    simp only [Builtin.zeroCells, Array.toList_map, List.mem_map] at hv
    obtain ⟨i, _, rfl⟩ := hv
    have hlt : i % (Value.agg #[.int .i64 0, .int .i64 0, .int .i64 0]).cells.size < 3 := Nat.mod_lt _ (by decide)
    generalize i % (Value.agg #[.int .i64 0, .int .i64 0, .int .i64 0]).cells.size = j at hlt
    rcases j with _ | _ | _ | j
    · rfl
    · rfl
    · rfl
    · omega
  have hst := run_storeCells_at Try.prog g o 68 zs 0 cur w hg (by rw [hzl]; simpa using hfit) h1
  refine ⟨zs, hzl, ?_⟩
  obtain ⟨m, rfl⟩ : ∃ m, n = m + 1 := ⟨n - 1, by omega⟩
  simp [Builtin.clear_, run_underlying Try.underlying23, zeroValue, typeInfo, h0, hz0, ← hzs, hst, plug]
end Go.Proofs.Ytdlbahoenhhkdaa
