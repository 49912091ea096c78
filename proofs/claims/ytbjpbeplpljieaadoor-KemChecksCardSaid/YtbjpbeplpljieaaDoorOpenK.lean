/-
 ARGUMENTS OPENED: an array of bytes by value.
-/
import Derived.Test.YtbjpbeplpljieaaDoorZA
import Derived.Deep.Matrix
import Derived.WideKeyArr2
import Derived.Deep.Grids
namespace Go.Proofs.YtbjpbeplpljieaaDoor
open Go.ChangeShapes Go.WideShapes Go.ChangeAt Go.RowKit
set_option maxRecDepth 100000

section
variable {H : Type} {enc : TypeId × Value → H} {P : Program}

theorem mapM_each {α β : Type} {f : α → Option β} : ∀ {L : List α} {xs : List β}, L.mapM f = some xs → ∀ i ∈ L, ∃ y, f i = some y
 | [], _, _, i, hi => by cases hi
 | a :: L, xs, h, i, hi => by
  rw [List.mapM_cons] at h
  simp only [bind, Option.bind_eq_some_iff, pure, Option.some.injEq] at h
  obtain ⟨y, hy, ys, hys, _⟩ := h
  rcases List.mem_cons.1 hi with rfl | hi
  ·exact ⟨y, hy⟩
  ·exact mapM_each hys i hi

def intAt : Value → Int
 | .int _ a => a
 | _ => 0
/-- an array of numbers that came in by value -/
theorem open_arr_ints {W : World} {base n : Nat} {t e : TypeId} {q : IntKind} {v : Value} {d : DataW H} {ps : List MemPlace} (ht : P.underlying t = some (.array n e)) (he : P.underlying e = some (.int q)) (ce : P.cellsOf e = 1) (ct : P.cellsOf t = n)
  (hval : Value.okWide P W .any base t v) (h : DataW.Trod enc P W 0 (fun _ => true) true t v d ps) : ∃ zs : List Int, v = .agg (zs.map (Value.int q)).toArray ∧ zs.length = n ∧ ∀ z ∈ zs, (Lit.int q z).wf = true := by
 simp only [Value.okWide, ht] at hval
 obtain ⟨xs, rfl, hsz, _⟩ := hval
 rw [ct] at hsz
 obtain ⟨fuel, hf⟩ := h
 cases fuel with
 | zero => simp [DataW.trod] at hf
 | succ m =>
  rw [DataW.trod_step] at hf
  unfold DataW.trodStep at hf
  simp only [ht, Value.cells, ce, Nat.mul_one] at hf
  rw [if_pos (by simp only [Array.length_toList]; omega)] at hf
  simp only [Option.map_eq_some_iff] at hf
  obtain ⟨ys, hy, _⟩ := hf
  have each : ∀ i, i < n → ∃ a, xs.toList[i]? = some (.int q a) ∧ (Lit.int q a).wf = true := fun i hi => by
   obtain ⟨y, hy1⟩ := mapM_each hy i (List.mem_range.2 hi)
   obtain ⟨a, ha, _, wa⟩ := DataW.trod_int he hy1
   refine ⟨a, ?_, wa⟩
   have := congrArg (·[0]?) ha
   simpa using this
  refine ⟨xs.toList.map intAt, ?_, by simp; omega, fun z hz => ?_⟩
  ·congr 1
   apply Array.ext
   ·simp
   intro i h1 h2
   obtain ⟨a, ha, _⟩ := each i (by omega)
   have hx : xs[i] = .int q a := by
    rw [Array.getElem?_toList, Array.getElem?_eq_getElem h1] at ha
    exact Option.some.inj ha
   simp [hx, intAt]
  ·simp only [List.mem_map] at hz
   obtain ⟨x, hx, rfl⟩ := hz
   obtain ⟨i, hi, hxi⟩ := List.getElem_of_mem hx
   simp only [Array.length_toList] at hi
   obtain ⟨a, ha, wa⟩ := each i (by omega)
   rw [List.getElem?_eq_getElem (by simpa using hi), hxi] at ha
   rw [Option.some.inj ha]
   exact wa

theorem wf_u8 {z : Int} (h : (Lit.int .u8 z).wf = true) : 0 ≤ z ∧ z ≤ 255 := by simpa [Lit.wf, IntKind.min, IntKind.max, IntKind.signed, IntKind.bits] using h
theorem bytes_of_ints (zs : List Int) (h : ∀ z ∈ zs, (Lit.int .u8 z).wf = true) : zs.map (Value.int .u8) = Lib.byteCells (zs.map fun z => UInt8.ofNat z.toNat) := by
 unfold Lib.byteCells
 rw [List.map_map]
 apply List.map_congr_left
 intro z hz
 have := wf_u8 (h z hz)
 have e : (UInt8.ofNat z.toNat).toNat = z.toNat := by simp; omega
 show Value.int .u8 z = .int .u8 (((UInt8.ofNat z.toNat).toNat : Nat) : Int)
 rw [e]
 congr 1
 omega

end
section
variable {H : Type} {enc : TypeId × Value → H}
theorem cells_b32 : Tryd.prog.cellsOf 22 = 32 := by kernel_rfl
theorem open_b32 {W : World} {base : Nat} {v : Value} {d : DataW H} {ps : List MemPlace} (hval : Value.okWide Tryd.prog W .any base 22 v) (h : DataW.Trod enc Tryd.prog W 0 (fun _ => true) true 22 v d ps) :
  ∃ b : List UInt8, b.length = 32 ∧ v = .agg (Lib.byteCells b).toArray := by
 obtain ⟨zs, rfl, hl, hwf⟩ := open_arr_ints Tryd.underlying22 Tryd.underlying5 cells_u8 cells_b32 hval h
 exact ⟨zs.map fun z => UInt8.ofNat z.toNat, by simpa using hl, by rw [bytes_of_ints zs hwf]⟩
end
end Go.Proofs.YtbjpbeplpljieaaDoor
