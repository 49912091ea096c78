/-
  HssApart: for every slice of levels, and every two indices the law returns true, and its arguments read behind the call as before. Conditions: none beyond the form's own.
-/
import Derived.Test.YthahnckjmlcehaaLaw
import Derived.Test.YthahnckjmlcehaaOpen6
import Derived.Test.YthahnckjmlcehaaHp9
namespace Go.Proofs.Ythahnckjmlcehaa
open Go.ChangeShapes Go.WideShapes Go.ChangeAt Go.RowKit

set_option maxRecDepth 100000 in
theorem hssApart_lifted (os : Os) (started : os.Started) (H : Type) (enc : TypeId × Value → H) :
    ReturnsInHanded {} Try.checked os 4 .any (Rows.hssApartSpec.pre6 enc Try.prog Try.f4 Rows.hssApartRow.domain false) (Rows.hssApartSpec.post enc Try.prog Try.f4 false true false false) := by
  refine returnsInHanded_of_change_sized (C := Try.checked) own started (by kernel_rfl) Try.func4
    (ChangeSpec.witness6 (enc := enc) (C := Try.checked) false ⟨#[], #[.slice none 0 0, .int .u64 0, .int .u64 0], []⟩ 8 (by kernel_rfl) (by kernel_rfl) (by kernel_rfl) (by kernel_rfl)) ?_
  intro W base args ds gs before hval0 hW _ _ _
  have hval : ∀ (j : Nat) t v, Try.f4.params[j]? = some t → args[j]? = some v → Value.okWide Try.prog W .any base t v := hval0
  have hW' := hW
  obtain ⟨p, q, hA0, hV, rfl, _, _⟩ := hW
  have hA : DataW.TrodAll enc Try.prog W 0 (fun _ => true) true Try.f4.params.toList args.toList ds p := hA0
  rw [Try.params4] at hA hval
  obtain ⟨v0, v1, v2, d0, d1, d2, p0, p1, p2, rfl, rfl, rfl, h0, h1, h2⟩ := trodAll_three hA
  obtain ⟨rfl, rfl⟩ := trodVars_none hV
  obtain ⟨l0, hs0, ok0, _⟩ := open_lvs (hval 0 22 v0 rfl rfl) h0
  obtain ⟨n1, rfl, rfl, rfl, wn1⟩ := open_int Try.underlying24 (hval 1 24 v1 rfl rfl) h1
  have hn1 : 0 ≤ n1 ∧ n1 ≤ 18446744073709551615 := by simpa [Lit.wf, IntKind.min, IntKind.max, IntKind.signed, IntKind.bits] using wn1
  obtain ⟨k1, rfl⟩ := Int.eq_ofNat_of_zero_le hn1.1
  obtain ⟨n2, rfl, rfl, rfl, wn2⟩ := open_int Try.underlying24 (hval 2 24 v2 rfl rfl) h2
  have hn2 : 0 ≤ n2 ∧ n2 ≤ 18446744073709551615 := by simpa [Lit.wf, IntKind.min, IntKind.max, IntKind.signed, IntKind.bits] using wn2
  obtain ⟨k2, rfl⟩ := Int.eq_ofNat_of_zero_le hn2.1
  clear hA0 hval0
  simp only [List.append_nil] at hW'
  refine (apart_law v0 l0 k1 k2 W hs0 ok0 (by omega) (by omega)).mono fun e W' he => ?_
  exact ⟨_, he.1, law_post laidOut Try.underlying4 (by kernel_rfl) rfl rfl rfl rfl rfl (by simpa using hW') he.2⟩

theorem hssApart_holds : Rows.HssApartSaid :=
  OpenClaim.holds_of_wide 4 Try.f4 rfl rfl rfl rfl rfl rfl rfl ⟨rfl, rfl, rfl, rfl, rfl⟩ rfl rfl rfl rfl rfl (by kernel_rfl) Try.func4 (by kernel_rfl)
    (of_decide_eq_true (by kernel_rfl)) (by unfold Func.isWrapper; first | (rw [if_pos (by decide +kernel)]; kernel_rfl) | (rw [if_neg (by decide +kernel)]; exact ⟨rfl, rfl⟩))
    (fun os started H enc _ => hssApart_lifted os started H enc)
end Go.Proofs.Ythahnckjmlcehaa
