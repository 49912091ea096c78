import Derived.Test.YtdakbipiifkmfaaGreatDoorHL10
import Derived.Test.YtdakbipiifkmfaaGreatDoorHI
import Derived.Test.YtdakbipiifkmfaaGreatDoorHX32
import Derived.Test.YtdakbipiifkmfaaGreatDoorHP16
/-
  XmssTrees: for every code, every key and every leaf the law returns true, and its arguments read behind the call as before. Conditions: none beyond the listed variables, which the card ties to the program's text.
-/
namespace Go.Proofs.YtdakbipiifkmfaaGreatDoor
open Go.ChangeShapes Go.WideShapes Go.ChangeAt Go.RowKit
set_option maxRecDepth 100000
open Go.ChangeMaps (open_string)

theorem xmssTrees_reads (os : Os) {H : Type} (enc : TypeId × Value → H) : ∃ places, DataW.whole enc Tryz.prog ((laidWorld os).forCall (fun _ _ => 0) ⟨#[], #[.int .u32 0, .agg #[.slice none 0 0, .slice none 0 0, .slice none 0 0], .int .u32 0], []⟩).memory Tryz.f4.params.toList Rows.xmssTreesSpec.vars false #[.int .u32 0, .agg #[.slice none 0 0, .slice none 0 0, .slice none 0 0], .int .u32 0].toList 8 = some ([.lit (.int .u32 0), .agg [.nil, .nil, .nil], .lit (.int .u32 0)], [], places) :=
  ⟨[], by kernel_rfl⟩

set_option maxRecDepth 100000 in
theorem xmssTrees_lifted (os : Os) (started : os.Started) (H : Type) (enc : TypeId × Value → H) (F : Stop.Interp) :
    ReturnsInHanded {} Tryz.checked os 4 .any ((OpenSpec.ofChange Rows.xmssTreesSpec).preRow enc Tryz.prog Tryz.f4 Rows.xmssTreesRow.domain false Rows.xmssTreesRow.laid) (((OpenSpec.ofChange Rows.xmssTreesSpec).at F).post enc Tryz.prog Tryz.f4 false true false false) := by
  obtain ⟨places, hx⟩ := xmssTrees_reads os enc
  refine returnsInHanded_of_row (C := Tryz.checked) (s := (OpenSpec.ofChange Rows.xmssTreesSpec)) own started (by kernel_rfl) Tryz.func4
    (witness_row_atRef (enc := enc) (C := Tryz.checked) false (laidWorld os) #[.int .u32 0, .agg #[.slice none 0 0, .slice none 0 0, .slice none 0 0], .int .u32 0] rfl (by kernel_rfl) (by kernel_rfl) (by kernel_rfl)
      (OpenSpec.preRow_of_cond 8 hx (by kernel_rfl) (fun k hk => by cases hk) (by kernel_rfl) (laid_met os _))) ?_
  intro W base args ds gs before hval0 hW _ hcond hz hL _ _
  have hv : Tabs W := tabs_of_laid hL
  have hval : ∀ (j : Nat) t v, Tryz.f4.params[j]? = some t → args[j]? = some v → Value.okWide Tryz.prog W .any base t v := hval0
  have hW' : DataW.Whole enc Tryz.prog Tryz.f4.params.toList Rows.xmssTreesSpec.vars false W args.toList ds gs before := hW
  obtain ⟨p, q, hA0, hV, rfl, _, _⟩ := hW
  have hA : DataW.TrodAll enc Tryz.prog W 0 (fun _ => true) true Tryz.f4.params.toList args.toList ds p := hA0
  rw [Tryz.params4] at hA hval
  obtain ⟨v0, vs0, d0, ds0, p0, q0, hargs, rfl, rfl, h0, r0⟩ := trodAll_cons hA
  obtain ⟨v1, vs1, d1, ds1, p1, q1, rfl, rfl, rfl, h1, r1⟩ := trodAll_cons r0
  obtain ⟨v2, vs2, d2, ds2, p2, q2, rfl, rfl, rfl, h2, r2⟩ := trodAll_cons r1
  obtain ⟨rfl, rfl, rfl⟩ := trodAll_nil r2
  obtain rfl : args = #[v0, v1, v2] := by cases args; simp_all
  obtain ⟨rfl, rfl⟩ := trodVars_none hV
  obtain ⟨n0, rfl, rfl, rfl, wn0⟩ := open_int Tryz.underlying22 (hval 0 22 v0 rfl rfl) h0
  have hn0 : 0 ≤ n0 ∧ n0 ≤ 4294967295 := by simpa [Lit.wf, IntKind.min, IntKind.max, IntKind.signed, IntKind.bits] using wn0
  obtain ⟨k0, rfl⟩ := Int.eq_ofNat_of_zero_le hn0.1
  obtain ⟨vs1, vp1, vb1, sd1, pf1, pb1, rfl, hs1, hp1, hb1⟩ := open_key (hval 1 25 v1 rfl rfl) h1
  obtain ⟨n2, rfl, rfl, rfl, wn2⟩ := open_int Tryz.underlying22 (hval 2 22 v2 rfl rfl) h2
  have hn2 : 0 ≤ n2 ∧ n2 ≤ 4294967295 := by simpa [Lit.wf, IntKind.min, IntKind.max, IntKind.signed, IntKind.bits] using wn2
  obtain ⟨k2, rfl⟩ := Int.eq_ofNat_of_zero_le hn2.1
  clear hA0 hval0
  simp only [List.append_nil] at hW'
  refine (trees_law k0 (by omega) vs1 vp1 vb1 sd1 pf1 pb1 k2 (by omega) W hs1 hp1 hb1 hv).mono fun e W' he => ?_
  exact ⟨_, he.1, law_post (P := Tryz.prog) (s := Rows.xmssTreesSpec) laidOut Tryz.underlying4 (by kernel_rfl) rfl rfl rfl rfl rfl (by simpa using hW') he.2⟩

theorem xmssTrees_said : Rows.XmssTreesSaid :=
  OpenClaim.holds_of_cond 4 Tryz.f4 rfl rfl rfl rfl rfl rfl rfl ⟨rfl, rfl, rfl, rfl, rfl⟩ rfl rfl rfl rfl rfl (by kernel_rfl) Tryz.func4 (by kernel_rfl)
    (of_decide_eq_true (by kernel_rfl)) (by unfold Func.isWrapper; first | (rw [if_pos (by decide +kernel)]; kernel_rfl) | (rw [if_neg (by decide +kernel)]; exact ⟨rfl, rfl⟩))
    (fun os started H enc _ F => by rw [OpenClaim.pre_eq_preRow]; exact xmssTrees_lifted os started H enc F)

/-- No parameter wants a stand-in; the program's own looks: what the card asks. -/
theorem xmssTrees_plain (f : FuncId) (fn : Func) (hf : Tryz.pinned.checked.prog.funcNamed "livery/liverylaw11.XmssTrees" = some f) (hfn : Tryz.pinned.checked.prog.funcs[f]? = some fn) :
    false = Tryz.pinned.checked.prog.looks [] ∧ ∀ (j : Nat) t, fn.params[j]? = some t → Tryz.pinned.checked.prog.wantsStandIn t = false := by
  obtain rfl : f = 4 := Option.some.inj ((show Tryz.prog.funcNamed "livery/liverylaw11.XmssTrees" = some 4 by kernel_rfl).symm.trans hf) |>.symm
  obtain rfl : fn = Tryz.f4 := (Option.some.inj (Tryz.func4.symm.trans hfn)).symm
  refine ⟨by kernel_rfl, fun j t ht => ?_⟩
  rw [Tryz.params4] at ht
  have hm : t ∈ [22, 25, 22] := by simpa using Array.mem_of_getElem? ht
  have hall : ([22, 25, 22].all fun u => !Tryz.prog.wantsStandIn u) = true := by kernel_rfl
  exact (show Tryz.prog.wantsStandIn t = false by simpa using List.all_eq_true.1 hall t hm)

theorem xmssTrees_holds : Rows.XmssTreesCardSaid :=
  Claim7.holds_tied_plain_at .later [] _ _ _ _ xmssTrees_said (fun _ h => by cases h) (by kernel_rfl) (fun _ h => by cases h) xmssTrees_row_tie rfl ⟨rfl, rfl⟩ (by kernel_rfl) rfl xmssTrees_plain (by kernel_rfl)
end Go.Proofs.YtdakbipiifkmfaaGreatDoor
