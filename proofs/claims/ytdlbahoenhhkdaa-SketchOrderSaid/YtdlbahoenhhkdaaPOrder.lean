/-
  SketchOrder: for every input the law returns true. No condition.
-/
import Derived.Test.YtdlbahoenhhkdaaP0
import Derived.Test.YtdlbahoenhhkdaaP5
import Derived.Test.YtdlbahoenhhkdaaL6
namespace Go.Proofs.Ytdlbahoenhhkdaa
open Go.ChangeShapes Go.WideShapes Go.ChangeAt Go.RowKit

set_option maxRecDepth 100000 in
theorem sketchOrder_lifted (os : Os) (started : os.Started) (H : Type) (enc : TypeId × Value → H) :
    ReturnsInHanded {} Try.checked os 13 .any (Rows.sketchOrderSpec.pre6 enc Try.prog Try.f13 Rows.sketchOrderRow.domain false) (Rows.sketchOrderSpec.post enc Try.prog Try.f13 false true false false) := by
  refine returnsInHanded_of_change (C := Try.checked) own_knob started (by kernel_rfl) Try.func13
    (ChangeSpec.witness6 (enc := enc) (C := Try.checked) false ⟨#[], #[.int .i64 0, .int .i64 0, .int .i64 0, .slice none 0 0, .slice none 0 0], []⟩ 8 (by kernel_rfl) (by kernel_rfl) (by kernel_rfl) (by kernel_rfl)) ?_
  intro W base args ds gs before hval0 hW hcnd _
  have hval : ∀ (j : Nat) t v, Try.f13.params[j]? = some t → args[j]? = some v → Value.okWide Try.prog W .any base t v := hval0
  have hW' := hW
  obtain ⟨p, q, hA0, hV, rfl, hfz, hnd⟩ := hW
  have hA : DataW.TrodAll enc Try.prog W 0 (fun _ => true) true Try.f13.params.toList args.toList ds p := hA0
  rw [Try.params13] at hA hval
  obtain ⟨v0, v1, v2, v3, v4, d0, d1, d2, d3, d4, p0, p1, p2, p3, p4, rfl, rfl, rfl, h0, h1, h2, h3, h4⟩ := trodAll_five hA
  obtain ⟨rfl, rfl⟩ := trodVars_none hV
  have hlt0 : ∀ x ∈ p0, x.block < W.heap.size := fun x hx => by have := hW'.lt x (by simp [hx]); simpa using this
  have hlt1 : ∀ x ∈ p1, x.block < W.heap.size := fun x hx => by have := hW'.lt x (by simp [hx]); simpa using this
  have hlt2 : ∀ x ∈ p2, x.block < W.heap.size := fun x hx => by have := hW'.lt x (by simp [hx]); simpa using this
  have hlt3 : ∀ x ∈ p3, x.block < W.heap.size := fun x hx => by have := hW'.lt x (by simp [hx]); simpa using this
  have hlt4 : ∀ x ∈ p4, x.block < W.heap.size := fun x hx => by have := hW'.lt x (by simp [hx]); simpa using this
  obtain ⟨x0, rfl⟩ := open_i (hval 0 3 v0 rfl rfl)
  obtain ⟨x1, rfl⟩ := open_i (hval 1 3 v1 rfl rfl)
  obtain ⟨x2, rfl⟩ := open_i (hval 2 3 v2 rfl rfl)
  obtain ⟨A3, n3, c3, xs3, rfl, i3⟩ := open_arg (hval 3 22 v3 rfl rfl) h3 hlt3
  obtain ⟨A4, n4, c4, xs4, rfl, i4⟩ := open_arg (hval 4 22 v4 rfl rfl) h4 hlt4
  clear hA0 hval0
  simp only [List.append_nil] at hW'
  refine (LOrder_any A3 n3 c3 xs3 A4 n4 c4 xs4 x0 x1 x2 W i3 i4).mono fun e W' ⟨he, hb⟩ => ?_
  subst he
  exact ⟨_, rfl, _, _, _, [], p0 ++ (p1 ++ (p2 ++ (p3 ++ p4))), [], hW', trodAll_mk1 (shut_bool Try.underlying4 _), trodAll_mk5 (back3 h0 hb hlt0) (back3 h1 hb hlt1) (back3 h2 hb hlt2) (back22 h3 hb hlt3) (back22 h4 hb hlt4), rfl, hb.frame _, fun h => by cases h⟩

theorem SketchOrder_holds : Rows.SketchOrderSaid :=
  OpenClaim.holds_of_wide 13 Try.f13 rfl rfl rfl rfl rfl rfl rfl ⟨rfl, rfl, rfl, rfl, rfl⟩ rfl rfl rfl rfl rfl (by kernel_rfl) Try.func13 (by kernel_rfl)
    (of_decide_eq_true (by kernel_rfl)) (by unfold Func.isWrapper; first | (rw [if_pos (by decide +kernel)]; kernel_rfl) | (rw [if_neg (by decide +kernel)]; exact ⟨rfl, rfl⟩))
    (fun os started H enc _ => sketchOrder_lifted os started H enc)
end Go.Proofs.Ytdlbahoenhhkdaa
