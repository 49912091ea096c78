/-
 ARGUMENTS OPENED: a hint by value.
-/
import Derived.Test.YtflalpcceeocaaaDo
import Derived.Test.YtflalpcceeocaaaDh1
namespace Go.Proofs.Ytflalpcceeocaaa
open Go.ChangeShapes Go.WideShapes Go.ChangeAt Go.RowKit
set_option maxRecDepth 100000
section
variable {H : Type} {enc : TypeId × Value → H} {P : Program}
def boolAtD : Value → Bool
 | .bool a => a
 | _ => false
/-- an array of bools that came in by value -/
theorem open_arr_boolsD {W : World} {base n : Nat} {t e : TypeId} {v : Value} {d : DataW H} {ps : List MemPlace} (ht : P.underlying t = some (.array n e)) (he : P.underlying e = some .bool) (ce : P.cellsOf e = 1) (ct : P.cellsOf t = n)
  (hval : Value.okWide P W .any base t v) (h : DataW.Trod enc P W 0 (fun _ => true) true t v d ps) : ∃ f : Nat → Bool, v = .agg ((List.range n).map fun i => Value.bool (f i)).toArray := by
 simp only [Value.okWide, ht] at hval
 obtain ⟨xs, rfl, hsz, _⟩ := hval
 rw [ct] at hsz
 obtain ⟨fuel, hf⟩ := h
 cases fuel with
 | zero => simp [DataW.trod] at hf
 | succ m =>
  rw [DataW.trod_step] at hf
  unfold DataW.trodStep at hf
  simp only [ht, Value.cells, ce, Nat.mul_one] at hf
  rw [if_pos (by simp only [Array.length_toList]; omega)] at hf
  simp only [Option.map_eq_some_iff] at hf
  obtain ⟨ys, hy, _⟩ := hf
  have each : ∀ i, i < n → ∃ a, xs.toList[i]? = some (.bool a) := fun i hi => by
   obtain ⟨y, hy1⟩ := mapM_eachD hy i (List.mem_range.2 hi)
   obtain ⟨a, ha, _⟩ := DataW.trod_bool he hy1
   refine ⟨a, ?_⟩
   have := congrArg (·[0]?) ha
   simpa using this
  refine ⟨fun i => boolAtD (xs.toList.getD i default), ?_⟩
  congr 1
  apply Array.ext
  ·simp
   omega
  intro i h1 h2
  obtain ⟨a, ha⟩ := each i (by omega)
  have hx : xs[i] = .bool a := by
   rw [Array.getElem?_toList, Array.getElem?_eq_getElem h1] at ha
   exact Option.some.inj ha
  have hy2 : xs.toList.getD i default = .bool a := by rw [List.getD_eq_getElem?_getD, ha]; rfl
  rw [hx]
  simp only [List.getElem_toArray, List.getElem_map, List.getElem_range]
  rw [hy2]
  rfl
end
theorem cells_hint : Try.prog.cellsOf 39 = 256 := by kernel_rfl
section
variable {H : Type} {enc : TypeId × Value → H}
theorem open_hint {W : World} {base : Nat} {v : Value} {d : DataW H} {ps : List MemPlace} (hval : Value.okWide Try.prog W .any base 39 v) (h : DataW.Trod enc Try.prog W 0 (fun _ => true) true 39 v d ps) : ∃ b : Nat → Bool, v = .agg (hc b).toArray := by
 obtain ⟨f, rfl⟩ := open_arr_boolsD Try.underlying39 Try.underlying4 cells_bool cells_hint hval h
 exact ⟨f, rfl⟩
end
end Go.Proofs.Ytflalpcceeocaaa
