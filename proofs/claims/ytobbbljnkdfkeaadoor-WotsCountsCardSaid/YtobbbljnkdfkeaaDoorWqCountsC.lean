/-
  WotsCounts: for every set, made up or not, every two slices of bytes and every two addresses the law returns true, and its arguments read behind the call as before. Conditions: none beyond the listed variables, which the card ties to the program's text.
-/
import Derived.Test.YtobbbljnkdfkeaaDoorLaid10
import Derived.Test.YtobbbljnkdfkeaaDoorWo
import Derived.Test.YtobbbljnkdfkeaaDoorWqLe
namespace Go.Proofs.YtobbbljnkdfkeaaDoor
open Go.ChangeShapes Go.WideShapes Go.ChangeAt Go.RowKit
open Go.ChangeMaps (open_string)

theorem wotsCounts_reads (os : Os) {H : Type} (enc : TypeId × Value → H) : ∃ places, DataW.whole enc Tryd.prog ((laidWorld os).forCall (fun _ _ => 0) ⟨#[], #[.agg #[.int .u32 0, .bool false, .int .i64 0, .int .i64 0, .int .i64 0], .slice none 0 0, .slice none 0 0, .agg (wordCells (List.replicate 8 0)).toArray, .agg (wordCells (List.replicate 8 0)).toArray], []⟩).memory Tryd.f8.params.toList Rows.wotsCountsSpec.vars false #[.agg #[.int .u32 0, .bool false, .int .i64 0, .int .i64 0, .int .i64 0], .slice none 0 0, .slice none 0 0, .agg (wordCells (List.replicate 8 0)).toArray, .agg (wordCells (List.replicate 8 0)).toArray].toList 8 = some ([.agg [.lit (.int .u32 0), .lit (.bool false), .lit (.int .i64 0), .lit (.int .i64 0), .lit (.int .i64 0)], .nil, .nil, .agg (List.replicate 8 (.lit (.int .u32 0))), .agg (List.replicate 8 (.lit (.int .u32 0)))], [], places) :=
  ⟨[], by kernel_rfl⟩

set_option maxRecDepth 100000 in
theorem wotsCounts_lifted (os : Os) (started : os.Started) (H : Type) (enc : TypeId × Value → H) (F : Stop.Interp) :
    ReturnsInHanded {} Tryd.checked os 8 .any ((OpenSpec.ofChange Rows.wotsCountsSpec).preRow enc Tryd.prog Tryd.f8 Rows.wotsCountsRow.domain false Rows.wotsCountsRow.laid) (((OpenSpec.ofChange Rows.wotsCountsSpec).at F).post enc Tryd.prog Tryd.f8 false true false false) := by
  obtain ⟨places, hx⟩ := wotsCounts_reads os enc
  refine returnsInHanded_of_row (C := Tryd.checked) (s := (OpenSpec.ofChange Rows.wotsCountsSpec)) own started (by kernel_rfl) Tryd.func8
    (witness_row_atRef (enc := enc) (C := Tryd.checked) false (laidWorld os) #[.agg #[.int .u32 0, .bool false, .int .i64 0, .int .i64 0, .int .i64 0], .slice none 0 0, .slice none 0 0, .agg (wordCells (List.replicate 8 0)).toArray, .agg (wordCells (List.replicate 8 0)).toArray] rfl (by kernel_rfl) (by kernel_rfl) (by kernel_rfl)
      (OpenSpec.preRow_of_cond 8 hx (by kernel_rfl) (fun k hk => by cases hk) (by kernel_rfl) (laid_met os _))) ?_
  intro W base args ds gs before hval0 hW _ hcond hz hL _ _
  have hv : Tabs W := tabs_of_laid hL
  have hval : ∀ (j : Nat) t v, Tryd.f8.params[j]? = some t → args[j]? = some v → Value.okWide Tryd.prog W .any base t v := hval0
  have hW' : DataW.Whole enc Tryd.prog Tryd.f8.params.toList Rows.wotsCountsSpec.vars false W args.toList ds gs before := hW
  obtain ⟨p, q, hA0, hV, rfl, _, _⟩ := hW
  have hA : DataW.TrodAll enc Tryd.prog W 0 (fun _ => true) true Tryd.f8.params.toList args.toList ds p := hA0
  rw [Tryd.params8] at hA hval
  obtain ⟨v0, vs0, d0, ds0, p0, q0, hargs, rfl, rfl, h0, r0⟩ := trodAll_cons hA
  obtain ⟨v1, vs1, d1, ds1, p1, q1, rfl, rfl, rfl, h1, r1⟩ := trodAll_cons r0
  obtain ⟨v2, vs2, d2, ds2, p2, q2, rfl, rfl, rfl, h2, r2⟩ := trodAll_cons r1
  obtain ⟨v3, vs3, d3, ds3, p3, q3, rfl, rfl, rfl, h3, r3⟩ := trodAll_cons r2
  obtain ⟨v4, vs4, d4, ds4, p4, q4, rfl, rfl, rfl, h4, r4⟩ := trodAll_cons r3
  obtain ⟨rfl, rfl, rfl⟩ := trodAll_nil r4
  obtain rfl : args = #[v0, v1, v2, v3, v4] := by cases args; simp_all
  obtain ⟨rfl, rfl⟩ := trodVars_none hV
  obtain ⟨x0, wx0, rfl⟩ := open_s5 (hval 0 24 v0 rfl rfl) h0
  obtain ⟨bs1, hs1, hd1⟩ := open_bytes Tryd.underlying25 Tryd.underlying5 cells_u8 (hval 1 25 v1 rfl rfl) h1
  obtain ⟨bs2, hs2, hd2⟩ := open_bytes Tryd.underlying25 Tryd.underlying5 cells_u8 (hval 2 25 v2 rfl rfl) h2
  obtain ⟨a3, ha3, rfl⟩ := open_adr (hval 3 27 v3 rfl rfl) h3
  obtain ⟨a4, ha4, rfl⟩ := open_adr (hval 4 27 v4 rfl rfl) h4
  clear hA0 hval0
  simp only [List.append_nil] at hW'
  refine (counts_law x0 wx0 v1 v2 bs1 bs2 a3 a4 ha3 ha4 W hs1 hs2 hv).mono fun e W' he => ?_
  exact ⟨_, he.1, law_post (P := Tryd.prog) (s := Rows.wotsCountsSpec) laidOut Tryd.underlying4 (by kernel_rfl) rfl rfl rfl rfl rfl (by simpa using hW') he.2⟩

theorem wotsCounts_said : Rows.WotsCountsSaid :=
  OpenClaim.holds_of_cond 8 Tryd.f8 rfl rfl rfl rfl rfl rfl rfl ⟨rfl, rfl, rfl, rfl, rfl⟩ rfl rfl rfl rfl rfl (by kernel_rfl) Tryd.func8 (by kernel_rfl)
    (of_decide_eq_true (by kernel_rfl)) (by unfold Func.isWrapper; first | (rw [if_pos (by decide +kernel)]; kernel_rfl) | (rw [if_neg (by decide +kernel)]; exact ⟨rfl, rfl⟩))
    (fun os started H enc _ F => by rw [OpenClaim.pre_eq_preRow]; exact wotsCounts_lifted os started H enc F)

/-- No parameter wants a stand-in; the program's own looks: what the card asks. -/
theorem wotsCounts_plain (f : FuncId) (fn : Func) (hf : Tryd.pinned.checked.prog.funcNamed "livery/liverylaw10.WotsCounts" = some f) (hfn : Tryd.pinned.checked.prog.funcs[f]? = some fn) :
    false = Tryd.pinned.checked.prog.looks [] ∧ ∀ (j : Nat) t, fn.params[j]? = some t → Tryd.pinned.checked.prog.wantsStandIn t = false := by
  obtain rfl : f = 8 := Option.some.inj ((show Tryd.prog.funcNamed "livery/liverylaw10.WotsCounts" = some 8 by kernel_rfl).symm.trans hf) |>.symm
  obtain rfl : fn = Tryd.f8 := (Option.some.inj (Tryd.func8.symm.trans hfn)).symm
  refine ⟨by kernel_rfl, fun j t ht => ?_⟩
  rw [Tryd.params8] at ht
  have hm : t ∈ [24, 25, 25, 27, 27] := by simpa using Array.mem_of_getElem? ht
  have hall : ([24, 25, 25, 27, 27].all fun u => !Tryd.prog.wantsStandIn u) = true := by kernel_rfl
  exact (show Tryd.prog.wantsStandIn t = false by simpa using List.all_eq_true.1 hall t hm)

theorem wotsCounts_holds : Rows.WotsCountsCardSaid :=
  Claim7.holds_tied_plain_at .later [] _ _ _ _ wotsCounts_said (fun _ h => by cases h) (by kernel_rfl) (fun _ h => by cases h) wotsCounts_row_tie rfl ⟨rfl, rfl⟩ (by kernel_rfl) rfl wotsCounts_plain (by kernel_rfl)
end Go.Proofs.YtobbbljnkdfkeaaDoor
