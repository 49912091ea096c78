/-
  LmotsWinternitz: for every code, and every two slices of bytes the law returns true, and its arguments read behind the call as before. Conditions: none beyond the form's own.
-/
import Derived.Test.YtcbcgegppnojmaaLaw
import Derived.Test.YtcbcgegppnojmaaOpen6
import Derived.Test.YtcbcgegppnojmaaLm10
namespace Go.Proofs.Ytcbcgegppnojmaa
open Go.ChangeShapes Go.WideShapes Go.ChangeAt Go.RowKit

set_option maxRecDepth 100000 in
theorem lmotsWinternitz_lifted (os : Os) (started : os.Started) (H : Type) (enc : TypeId × Value → H) :
    ReturnsInHanded {} Try.checked os 4 .any (Rows.lmotsWinternitzSpec.pre6 enc Try.prog Try.f4 Rows.lmotsWinternitzRow.domain false) (Rows.lmotsWinternitzSpec.post enc Try.prog Try.f4 false true false false) := by
  refine returnsInHanded_of_change_sized (C := Try.checked) own started (by kernel_rfl) Try.func4
    (ChangeSpec.witness6 (enc := enc) (C := Try.checked) false ⟨#[], #[.int .u32 0, .slice none 0 0, .slice none 0 0], []⟩ 8 (by kernel_rfl) (by kernel_rfl) (by kernel_rfl) (by kernel_rfl)) ?_
  intro W base args ds gs before hval0 hW _ _ _
  have hval : ∀ (j : Nat) t v, Try.f4.params[j]? = some t → args[j]? = some v → Value.okWide Try.prog W .any base t v := hval0
  have hW' := hW
  obtain ⟨p, q, hA0, hV, rfl, _, _⟩ := hW
  have hA : DataW.TrodAll enc Try.prog W 0 (fun _ => true) true Try.f4.params.toList args.toList ds p := hA0
  rw [Try.params4] at hA hval
  obtain ⟨v0, v1, v2, d0, d1, d2, p0, p1, p2, rfl, rfl, rfl, h0, h1, h2⟩ := trodAll_three hA
  obtain ⟨rfl, rfl⟩ := trodVars_none hV
  obtain ⟨n0, rfl, rfl, rfl, wn0⟩ := open_int Try.underlying22 (hval 0 22 v0 rfl rfl) h0
  have hn0 : 0 ≤ n0 ∧ n0 ≤ 4294967295 := by simpa [Lit.wf, IntKind.min, IntKind.max, IntKind.signed, IntKind.bits] using wn0
  obtain ⟨k0, rfl⟩ := Int.eq_ofNat_of_zero_le hn0.1
  obtain ⟨bs1, hs1, _⟩ := open_bytes Try.underlying25 Try.underlying5 cells_u8 (hval 1 25 v1 rfl rfl) h1
  obtain ⟨bs2, hs2, _⟩ := open_bytes Try.underlying25 Try.underlying5 cells_u8 (hval 2 25 v2 rfl rfl) h2
  clear hA0 hval0
  simp only [List.append_nil] at hW'
  refine (winternitz_law k0 (by omega) W.heap.size v1 v2 bs1 bs2 W hs1 hs2 (Nat.le_refl _)).mono fun e W' he => ?_
  exact ⟨_, he.1, law_post laidOut Try.underlying4 (by kernel_rfl) rfl rfl rfl rfl rfl (by simpa using hW') he.2⟩

theorem lmotsWinternitz_holds : Rows.LmotsWinternitzSaid :=
  OpenClaim.holds_of_wide 4 Try.f4 rfl rfl rfl rfl rfl rfl rfl ⟨rfl, rfl, rfl, rfl, rfl⟩ rfl rfl rfl rfl rfl (by kernel_rfl) Try.func4 (by kernel_rfl)
    (of_decide_eq_true (by kernel_rfl)) (by unfold Func.isWrapper; first | (rw [if_pos (by decide +kernel)]; kernel_rfl) | (rw [if_neg (by decide +kernel)]; exact ⟨rfl, rfl⟩))
    (fun os started H enc _ => lmotsWinternitz_lifted os started H enc)
end Go.Proofs.Ytcbcgegppnojmaa
