/-
 ARGUMENTS OPENED: a polynomial by value.
-/
import Derived.Test.YtflalpcceeocaaaDd2
import Derived.Deep.Matrix
import Derived.WideKeyArr2
import Derived.Deep.Grids
namespace Go.Proofs.Ytflalpcceeocaaa
open Go.ChangeShapes Go.WideShapes Go.ChangeAt Go.RowKit
set_option maxRecDepth 100000
section
variable {H : Type} {enc : TypeId × Value → H} {P : Program}

theorem mapM_eachD {α β : Type} {f : α → Option β} : ∀ {L : List α} {xs : List β}, L.mapM f = some xs → ∀ i ∈ L, ∃ y, f i = some y
 | [], _, _, i, hi => by cases hi
 | a :: L, xs, h, i, hi => by
  rw [List.mapM_cons] at h
  simp only [bind, Option.bind_eq_some_iff, pure, Option.some.injEq] at h
  obtain ⟨y, hy, ys, hys, _⟩ := h
  rcases List.mem_cons.1 hi with rfl | hi
  ·exact ⟨y, hy⟩
  ·exact mapM_eachD hys i hi

def intAtD : Value → Int
 | .int _ a => a
 | _ => 0
/-- an array of numbers that came in by value -/
theorem open_arr_intsD {W : World} {base n : Nat} {t e : TypeId} {q : IntKind} {v : Value} {d : DataW H} {ps : List MemPlace} (ht : P.underlying t = some (.array n e)) (he : P.underlying e = some (.int q)) (ce : P.cellsOf e = 1) (ct : P.cellsOf t = n)
  (hval : Value.okWide P W .any base t v) (h : DataW.Trod enc P W 0 (fun _ => true) true t v d ps) : ∃ zs : List Int, v = .agg (zs.map (Value.int q)).toArray ∧ zs.length = n ∧ ∀ z ∈ zs, (Lit.int q z).wf = true := by
 simp only [Value.okWide, ht] at hval
 obtain ⟨xs, rfl, hsz, _⟩ := hval
 rw [ct] at hsz
 obtain ⟨fuel, hf⟩ := h
 cases fuel with
 | zero => simp [DataW.trod] at hf
 | succ m =>
  rw [DataW.trod_step] at hf
  unfold DataW.trodStep at hf
  simp only [ht, Value.cells, ce, Nat.mul_one] at hf
  rw [if_pos (by simp only [Array.length_toList]; omega)] at hf
  simp only [Option.map_eq_some_iff] at hf
  obtain ⟨ys, hy, _⟩ := hf
  have each : ∀ i, i < n → ∃ a, xs.toList[i]? = some (.int q a) ∧ (Lit.int q a).wf = true := fun i hi => by
   obtain ⟨y, hy1⟩ := mapM_eachD hy i (List.mem_range.2 hi)
   obtain ⟨a, ha, _, wa⟩ := DataW.trod_int he hy1
   refine ⟨a, ?_, wa⟩
   have := congrArg (·[0]?) ha
   simpa using this
  refine ⟨xs.toList.map intAtD, ?_, by simp; omega, fun z hz => ?_⟩
  ·congr 1
   apply Array.ext
   ·simp
   intro i h1 h2
   obtain ⟨a, ha, _⟩ := each i (by omega)
   have hx : xs[i] = .int q a := by
    rw [Array.getElem?_toList, Array.getElem?_eq_getElem h1] at ha
    exact Option.some.inj ha
   simp [hx, intAtD]
  ·simp only [List.mem_map] at hz
   obtain ⟨x, hx, rfl⟩ := hz
   obtain ⟨i, hi, hxi⟩ := List.getElem_of_mem hx
   simp only [Array.length_toList] at hi
   obtain ⟨a, ha, wa⟩ := each i (by omega)
   rw [List.getElem?_eq_getElem (by simpa using hi), hxi] at ha
   rw [Option.some.inj ha]
   exact wa

end
theorem cells_i32 : Try.prog.cellsOf 21 = 1 := by kernel_rfl
theorem cells_dpoly : Try.prog.cellsOf 34 = 256 := by kernel_rfl
section
variable {H : Type} {enc : TypeId × Value → H}
/-- a polynomial of 32 bits that came in by value -/
theorem open_dpoly {W : World} {base : Nat} {v : Value} {d : DataW H} {ps : List MemPlace} (hval : Value.okWide Try.prog W .any base 34 v) (h : DataW.Trod enc Try.prog W 0 (fun _ => true) true 34 v d ps) : ∃ p : Nat → Int, v = polyD p ∧ ∀ i, i < 256 → i32 (p i) := by
 obtain ⟨zs, rfl, hl, hz⟩ := open_arr_intsD Try.underlying34 Try.underlying21 cells_i32 cells_dpoly hval h
 refine ⟨nthI zs, ?_, fun i hi => ?_⟩
 ·unfold polyD
  rw [dc_list zs hl]
 ·unfold nthI i32
  rw [List.getD_eq_getElem?_getD, List.getElem?_eq_getElem (by omega)]
  have h1 := hz zs[i] (List.getElem_mem _)
  simpa [Lit.wf, IntKind.min, IntKind.max, IntKind.signed, IntKind.bits] using h1
end
end Go.Proofs.Ytflalpcceeocaaa
