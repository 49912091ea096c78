/-
  OctetBits: for every slice of bytes and every slice of bools the law returns true, and its arguments read behind the call as before. Condition: where what the law reads is of bulk at most 1048576 (the second form).
-/
import Derived.Test.YtijkhpiehaocpaaLawB
import Derived.Test.YtijkhpiehaocpaaBitsWalk
namespace Go.Proofs.Ytijkhpiehaocpaa
open Go.ChangeShapes Go.WideShapes Go.ChangeAt Go.RowKit
open Go.ChangeMaps (open_string)

set_option maxRecDepth 100000 in
theorem octetBits_lifted (os : Os) (started : os.Started) (H : Type) (enc : TypeId × Value → H) (F : Stop.Interp) :
    ReturnsInHanded {} Try.checked os 4 .any ((Rows.OpenSpec.upto Rows.octetBitsSpec).pre6 enc Try.prog Try.f4 Rows.octetBitsUptoRow.domain false) (((Rows.OpenSpec.upto Rows.octetBitsSpec).at F).post enc Try.prog Try.f4 false true false false) := by
  refine returnsInHanded_of_cond (C := Try.checked) (s := Rows.OpenSpec.upto Rows.octetBitsSpec) (k := Rows.uptoSmall) rfl own started (by kernel_rfl) Try.func4
    (OpenSpec.witness (enc := enc) (C := Try.checked) (s := Rows.OpenSpec.upto Rows.octetBitsSpec) (k := Rows.uptoSmall) rfl false ⟨#[], #[.slice none 0 0, .slice none 0 0], []⟩ 8 (by kernel_rfl) (by kernel_rfl) (by kernel_rfl)
      (x := ([.nil, .nil], [], [])) (by kernel_rfl) rfl (by kernel_rfl)) ?_
  intro W base args ds gs before hval0 hW _ hk _
  have hval : ∀ (j : Nat) t v, Try.f4.params[j]? = some t → args[j]? = some v → Value.okWide Try.prog W .any base t v := hval0
  have hW' : DataW.Whole enc Try.prog Try.f4.params.toList Rows.octetBitsSpec.vars false W args.toList ds gs before := hW
  obtain ⟨p, q, hA0, hV, rfl, _, _⟩ := hW
  have hA : DataW.TrodAll enc Try.prog W 0 (fun _ => true) true Try.f4.params.toList args.toList ds p := hA0
  rw [Try.params4] at hA hval
  obtain ⟨v0, vs0, d0, ds0, p0, q0, hargs, rfl, rfl, h0, r0⟩ := trodAll_cons hA
  obtain ⟨v1, vs1, d1, ds1, p1, q1, rfl, rfl, rfl, h1, r1⟩ := trodAll_cons r0
  obtain ⟨rfl, rfl, rfl⟩ := trodAll_nil r1
  obtain rfl : args = #[v0, v1] := by cases args; simp_all
  obtain ⟨rfl, rfl⟩ := trodVars_none hV
  obtain ⟨bs0, hs0, hd0⟩ := open_bytes Try.underlying23 Try.underlying5 cells_u8 (hval 0 23 v0 rfl rfl) h0
  obtain ⟨bl1, hs1, hd1⟩ := open_boolsl Try.underlying39 Try.underlying4 cells_bool (hval 1 39 v1 rfl rfl) h1
  have hl0 := bytes_small hk (d := d0) (by simp) hd0
  have hl1 := bools_small hk (d := d1) (by simp) hd1
  clear hA0 hval0
  simp only [List.append_nil] at hW'
  refine (bitslaw_walk v0 v1 bs0 bl1 W hs0 hs1 hl0 hl1).mono fun e W' he => ?_
  exact ⟨_, he.1, law_post (P := Try.prog) (s := Rows.octetBitsSpec) laidOut Try.underlying4 (by kernel_rfl) rfl rfl rfl rfl rfl (by simpa using hW') he.2⟩

theorem octetBits_holds : Rows.OctetBitsUptoSaid :=
  OpenClaim.holds_of_cond 4 Try.f4 rfl rfl rfl rfl rfl rfl rfl ⟨rfl, rfl, rfl, rfl, rfl⟩ rfl rfl rfl rfl rfl (by kernel_rfl) Try.func4 (by kernel_rfl)
    (of_decide_eq_true (by kernel_rfl)) (by unfold Func.isWrapper; first | (rw [if_pos (by decide +kernel)]; kernel_rfl) | (rw [if_neg (by decide +kernel)]; exact ⟨rfl, rfl⟩))
    (fun os started H enc _ F => octetBits_lifted os started H enc F)
end Go.Proofs.Ytijkhpiehaocpaa
