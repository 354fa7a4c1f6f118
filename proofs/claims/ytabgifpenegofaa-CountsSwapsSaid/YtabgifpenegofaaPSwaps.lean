/-
  CountsSwaps: for every input the law returns true. No condition.
-/
import Derived.Test.YtabgifpenegofaaP0
import Derived.Test.YtabgifpenegofaaP2
import Derived.Test.YtabgifpenegofaaP5
import Derived.Test.YtabgifpenegofaaL2
namespace Go.Proofs.Ytabgifpenegofaa
open Go.ChangeShapes Go.WideShapes Go.ChangeAt Go.RowKit

set_option maxRecDepth 100000 in
theorem countsSwaps_lifted (os : Os) (started : os.Started) (H : Type) (enc : TypeId × Value → H) :
    ReturnsInHanded {} Try.checked os 8 .any (Rows.countsSwapsSpec.pre6 enc Try.prog Try.f8 Rows.countsSwapsRow.domain false) (Rows.countsSwapsSpec.post enc Try.prog Try.f8 false true false false) := by
  refine returnsInHanded_of_change (C := Try.checked) own_knob started (by kernel_rfl) Try.func8
    (ChangeSpec.witness6 (enc := enc) (C := Try.checked) false ⟨#[], #[.slice none 0 0, .int .i64 0, .int .i64 0, .int .i64 0, .int .i64 0], []⟩ 8 (by kernel_rfl) (by kernel_rfl) (by kernel_rfl) (by kernel_rfl)) ?_
  intro W base args ds gs before hval0 hW hcnd _
  have hval : ∀ (j : Nat) t v, Try.f8.params[j]? = some t → args[j]? = some v → Value.okWide Try.prog W .any base t v := hval0
  have hW' := hW
  obtain ⟨p, q, hA0, hV, rfl, hfz, hnd⟩ := hW
  have hA : DataW.TrodAll enc Try.prog W 0 (fun _ => true) true Try.f8.params.toList args.toList ds p := hA0
  rw [Try.params8] at hA hval
  obtain ⟨v0, v1, v2, v3, v4, d0, d1, d2, d3, d4, p0, p1, p2, p3, p4, rfl, rfl, rfl, h0, h1, h2, h3, h4⟩ := trodAll_five hA
  obtain ⟨rfl, rfl⟩ := trodVars_none hV
  have hlt0 : ∀ x ∈ p0, x.block < W.heap.size := fun x hx => by have := hW'.lt x (by simp [hx]); simpa using this
  have hlt1 : ∀ x ∈ p1, x.block < W.heap.size := fun x hx => by have := hW'.lt x (by simp [hx]); simpa using this
  have hlt2 : ∀ x ∈ p2, x.block < W.heap.size := fun x hx => by have := hW'.lt x (by simp [hx]); simpa using this
  have hlt3 : ∀ x ∈ p3, x.block < W.heap.size := fun x hx => by have := hW'.lt x (by simp [hx]); simpa using this
  have hlt4 : ∀ x ∈ p4, x.block < W.heap.size := fun x hx => by have := hW'.lt x (by simp [hx]); simpa using this
  obtain ⟨A0, n0, c0, xs0, rfl, i0⟩ := open_rows (hval 0 22 v0 rfl rfl) h0 hlt0
  obtain ⟨x1, rfl⟩ := open_i (hval 1 3 v1 rfl rfl)
  obtain ⟨x2, rfl⟩ := open_i (hval 2 3 v2 rfl rfl)
  obtain ⟨x3, rfl⟩ := open_i (hval 3 3 v3 rfl rfl)
  obtain ⟨x4, rfl⟩ := open_i (hval 4 3 v4 rfl rfl)
  clear hA0 hval0
  simp only [List.append_nil] at hW'
  refine (LSwaps_any x1 x2 x3 x4 i0).mono fun e W' ⟨he, hb⟩ => ?_
  subst he
  exact ⟨_, rfl, _, _, _, [], p0 ++ (p1 ++ (p2 ++ (p3 ++ p4))), [], hW', trodAll_mk1 (shut_bool Try.underlying4 _), trodAll_mk5 (back22 h0 hb hlt0) (back3 h1 hb hlt1) (back3 h2 hb hlt2) (back3 h3 hb hlt3) (back3 h4 hb hlt4), rfl, hb.frame _, fun h => by cases h⟩

theorem CountsSwaps_holds : Rows.CountsSwapsSaid :=
  OpenClaim.holds_of_wide 8 Try.f8 rfl rfl rfl rfl rfl rfl rfl ⟨rfl, rfl, rfl, rfl, rfl⟩ rfl rfl rfl rfl rfl (by kernel_rfl) Try.func8 (by kernel_rfl)
    (of_decide_eq_true (by kernel_rfl)) (by unfold Func.isWrapper; first | (rw [if_pos (by decide +kernel)]; kernel_rfl) | (rw [if_neg (by decide +kernel)]; exact ⟨rfl, rfl⟩))
    (fun os started H enc _ => countsSwaps_lifted os started H enc)
end Go.Proofs.Ytabgifpenegofaa
