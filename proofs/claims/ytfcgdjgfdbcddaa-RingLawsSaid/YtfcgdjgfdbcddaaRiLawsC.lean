/-
  RingLaws: for every three polynomials the law returns true, and its arguments read behind the call as before. Conditions: none beyond the form's own.
-/
import Derived.Test.YtfcgdjgfdbcddaaLaw
import Derived.Test.YtfcgdjgfdbcddaaRo
import Derived.Test.YtfcgdjgfdbcddaaRl3
import Derived.Test.YtfcgdjgfdbcddaaRq9
namespace Go.Proofs.Ytfcgdjgfdbcddaa
open Go.ChangeShapes Go.WideShapes Go.ChangeAt Go.RowKit

set_option maxRecDepth 100000 in
theorem ringLaws_lifted (os : Os) (started : os.Started) (H : Type) (enc : TypeId × Value → H) :
    ReturnsInHanded {} Try.checked os 11 .any (Rows.ringLawsSpec.pre6 enc Try.prog Try.f11 Rows.ringLawsRow.domain false) (Rows.ringLawsSpec.post enc Try.prog Try.f11 false true false false) := by
  refine returnsInHanded_of_change_sized (C := Try.checked) own started (by kernel_rfl) Try.func11
    (ChangeSpec.witness6 (enc := enc) (C := Try.checked) false ⟨#[], #[.agg (pc fun _ => 0).toArray, .agg (pc fun _ => 0).toArray, .agg (pc fun _ => 0).toArray], []⟩ 8 (by kernel_rfl) (by kernel_rfl) (by kernel_rfl) (by kernel_rfl)) ?_
  intro W base args ds gs before hval0 hW _ _ _
  have hval : ∀ (j : Nat) t v, Try.f11.params[j]? = some t → args[j]? = some v → Value.okWide Try.prog W .any base t v := hval0
  have hW' := hW
  obtain ⟨p, q, hA0, hV, rfl, _, _⟩ := hW
  have hA : DataW.TrodAll enc Try.prog W 0 (fun _ => true) true Try.f11.params.toList args.toList ds p := hA0
  rw [Try.params11] at hA hval
  obtain ⟨v0, v1, v2, d0, d1, d2, q0, q1, q2, rfl, rfl, rfl, h0, h1, h2⟩ := trodAll_three hA
  obtain ⟨rfl, rfl⟩ := trodVars_none hV
  obtain ⟨p0, rfl, hp0⟩ := open_poly (hval 0 24 v0 rfl rfl) h0
  obtain ⟨p1, rfl, hp1⟩ := open_poly (hval 1 24 v1 rfl rfl) h1
  obtain ⟨p2, rfl, hp2⟩ := open_poly (hval 2 24 v2 rfl rfl) h2
  clear hA0 hval0
  simp only [List.append_nil] at hW'
  refine (ringLaws_law p0 p1 p2 hp0 hp1 hp2 W).mono fun e W' he => ?_
  exact ⟨_, he.1, law_post laidOut Try.underlying4 (by kernel_rfl) rfl rfl rfl rfl rfl (by simpa using hW') he.2⟩

theorem ringLaws_holds : Rows.RingLawsSaid :=
  OpenClaim.holds_of_wide 11 Try.f11 rfl rfl rfl rfl rfl rfl rfl ⟨rfl, rfl, rfl, rfl, rfl⟩ rfl rfl rfl rfl rfl (by kernel_rfl) Try.func11 (by kernel_rfl)
    (of_decide_eq_true (by kernel_rfl)) (by unfold Func.isWrapper; first | (rw [if_pos (by decide +kernel)]; kernel_rfl) | (rw [if_neg (by decide +kernel)]; exact ⟨rfl, rfl⟩))
    (fun os started H enc _ => ringLaws_lifted os started H enc)
end Go.Proofs.Ytfcgdjgfdbcddaa
