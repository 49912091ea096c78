/-
  XmssNodes: for every code, every three slices of bytes and every address the law returns true, and its arguments read behind the call as before. Conditions: none beyond the listed variables, which the card ties to the program's text.
-/
import Derived.Test.YtdakbipiifkmfaaDoorLaid10
import Derived.Test.YtdakbipiifkmfaaDoorWY
import Derived.Test.YtdakbipiifkmfaaDoorXs32
import Derived.Test.YtdakbipiifkmfaaDoorXp9
namespace Go.Proofs.YtdakbipiifkmfaaDoor
open Go.ChangeShapes Go.WideShapes Go.ChangeAt Go.RowKit
set_option maxRecDepth 100000
open Go.ChangeMaps (open_string)

theorem xmssNodes_reads (os : Os) {H : Type} (enc : TypeId × Value → H) : ∃ places, DataW.whole enc Tryd.prog ((laidWorld os).forCall (fun _ _ => 0) ⟨#[], #[.int .u32 0, .slice none 0 0, .agg (wordCells (List.replicate 8 0)).toArray, .slice none 0 0, .slice none 0 0], []⟩).memory Tryd.f3.params.toList Rows.xmssNodesSpec.vars false #[.int .u32 0, .slice none 0 0, .agg (wordCells (List.replicate 8 0)).toArray, .slice none 0 0, .slice none 0 0].toList 8 = some ([.lit (.int .u32 0), .nil, .agg (List.replicate 8 (.lit (.int .u32 0))), .nil, .nil], [], places) :=
  ⟨[], by kernel_rfl⟩

set_option maxRecDepth 100000 in
theorem xmssNodes_lifted (os : Os) (started : os.Started) (H : Type) (enc : TypeId × Value → H) (F : Stop.Interp) :
    ReturnsInHanded {} Tryd.checked os 3 .any ((OpenSpec.ofChange Rows.xmssNodesSpec).preRow enc Tryd.prog Tryd.f3 Rows.xmssNodesRow.domain false Rows.xmssNodesRow.laid) (((OpenSpec.ofChange Rows.xmssNodesSpec).at F).post enc Tryd.prog Tryd.f3 false true false false) := by
  obtain ⟨places, hx⟩ := xmssNodes_reads os enc
  refine returnsInHanded_of_row (C := Tryd.checked) (s := (OpenSpec.ofChange Rows.xmssNodesSpec)) own started (by kernel_rfl) Tryd.func3
    (witness_row_atRef (enc := enc) (C := Tryd.checked) false (laidWorld os) #[.int .u32 0, .slice none 0 0, .agg (wordCells (List.replicate 8 0)).toArray, .slice none 0 0, .slice none 0 0] rfl (by kernel_rfl) (by kernel_rfl) (by kernel_rfl)
      (OpenSpec.preRow_of_cond 8 hx (by kernel_rfl) (fun k hk => by cases hk) (by kernel_rfl) (laid_met os _))) ?_
  intro W base args ds gs before hval0 hW _ hcond hz hL _ _
  have hv : Tabs W := tabs_of_laid hL
  have hval : ∀ (j : Nat) t v, Tryd.f3.params[j]? = some t → args[j]? = some v → Value.okWide Tryd.prog W .any base t v := hval0
  have hW' : DataW.Whole enc Tryd.prog Tryd.f3.params.toList Rows.xmssNodesSpec.vars false W args.toList ds gs before := hW
  obtain ⟨p, q, hA0, hV, rfl, _, _⟩ := hW
  have hA : DataW.TrodAll enc Tryd.prog W 0 (fun _ => true) true Tryd.f3.params.toList args.toList ds p := hA0
  rw [Tryd.params3] at hA hval
  obtain ⟨v0, vs0, d0, ds0, p0, q0, hargs, rfl, rfl, h0, r0⟩ := trodAll_cons hA
  obtain ⟨v1, vs1, d1, ds1, p1, q1, rfl, rfl, rfl, h1, r1⟩ := trodAll_cons r0
  obtain ⟨v2, vs2, d2, ds2, p2, q2, rfl, rfl, rfl, h2, r2⟩ := trodAll_cons r1
  obtain ⟨v3, vs3, d3, ds3, p3, q3, rfl, rfl, rfl, h3, r3⟩ := trodAll_cons r2
  obtain ⟨v4, vs4, d4, ds4, p4, q4, rfl, rfl, rfl, h4, r4⟩ := trodAll_cons r3
  obtain ⟨rfl, rfl, rfl⟩ := trodAll_nil r4
  obtain rfl : args = #[v0, v1, v2, v3, v4] := by cases args; simp_all
  obtain ⟨rfl, rfl⟩ := trodVars_none hV
  obtain ⟨n0, rfl, rfl, rfl, wn0⟩ := open_int Tryd.underlying22 (hval 0 22 v0 rfl rfl) h0
  have hn0 : 0 ≤ n0 ∧ n0 ≤ 4294967295 := by simpa [Lit.wf, IntKind.min, IntKind.max, IntKind.signed, IntKind.bits] using wn0
  obtain ⟨k0, rfl⟩ := Int.eq_ofNat_of_zero_le hn0.1
  obtain ⟨bs1, hs1, hd1⟩ := open_bytes Tryd.underlying23 Tryd.underlying5 cells_u8 (hval 1 23 v1 rfl rfl) h1
  obtain ⟨a2, ha2, rfl⟩ := open_adr (hval 2 25 v2 rfl rfl) h2
  obtain ⟨bs3, hs3, hd3⟩ := open_bytes Tryd.underlying23 Tryd.underlying5 cells_u8 (hval 3 23 v3 rfl rfl) h3
  obtain ⟨bs4, hs4, hd4⟩ := open_bytes Tryd.underlying23 Tryd.underlying5 cells_u8 (hval 4 23 v4 rfl rfl) h4
  clear hA0 hval0
  simp only [List.append_nil] at hW'
  refine (nodes_law k0 (by omega) v1 v3 v4 bs1 bs3 bs4 a2 ha2 W hs1 hs3 hs4 hv).mono fun e W' he => ?_
  exact ⟨_, he.1, law_post (P := Tryd.prog) (s := Rows.xmssNodesSpec) laidOut Tryd.underlying4 (by kernel_rfl) rfl rfl rfl rfl rfl (by simpa using hW') he.2⟩

theorem xmssNodes_said : Rows.XmssNodesSaid :=
  OpenClaim.holds_of_cond 3 Tryd.f3 rfl rfl rfl rfl rfl rfl rfl ⟨rfl, rfl, rfl, rfl, rfl⟩ rfl rfl rfl rfl rfl (by kernel_rfl) Tryd.func3 (by kernel_rfl)
    (of_decide_eq_true (by kernel_rfl)) (by unfold Func.isWrapper; first | (rw [if_pos (by decide +kernel)]; kernel_rfl) | (rw [if_neg (by decide +kernel)]; exact ⟨rfl, rfl⟩))
    (fun os started H enc _ F => by rw [OpenClaim.pre_eq_preRow]; exact xmssNodes_lifted os started H enc F)

/-- No parameter wants a stand-in; the program's own looks: what the card asks. -/
theorem xmssNodes_plain (f : FuncId) (fn : Func) (hf : Tryd.pinned.checked.prog.funcNamed "livery/liverylaw11.XmssNodes" = some f) (hfn : Tryd.pinned.checked.prog.funcs[f]? = some fn) :
    false = Tryd.pinned.checked.prog.looks [] ∧ ∀ (j : Nat) t, fn.params[j]? = some t → Tryd.pinned.checked.prog.wantsStandIn t = false := by
  obtain rfl : f = 3 := Option.some.inj ((show Tryd.prog.funcNamed "livery/liverylaw11.XmssNodes" = some 3 by kernel_rfl).symm.trans hf) |>.symm
  obtain rfl : fn = Tryd.f3 := (Option.some.inj (Tryd.func3.symm.trans hfn)).symm
  refine ⟨by kernel_rfl, fun j t ht => ?_⟩
  rw [Tryd.params3] at ht
  have hm : t ∈ [22, 23, 25, 23, 23] := by simpa using Array.mem_of_getElem? ht
  have hall : ([22, 23, 25, 23, 23].all fun u => !Tryd.prog.wantsStandIn u) = true := by kernel_rfl
  exact (show Tryd.prog.wantsStandIn t = false by simpa using List.all_eq_true.1 hall t hm)

theorem xmssNodes_holds : Rows.XmssNodesCardSaid :=
  Claim7.holds_tied_plain_at .later [] _ _ _ _ xmssNodes_said (fun _ h => by cases h) (by kernel_rfl) (fun _ h => by cases h) xmssNodes_row_tie rfl ⟨rfl, rfl⟩ (by kernel_rfl) rfl xmssNodes_plain (by kernel_rfl)
end Go.Proofs.YtdakbipiifkmfaaDoor
