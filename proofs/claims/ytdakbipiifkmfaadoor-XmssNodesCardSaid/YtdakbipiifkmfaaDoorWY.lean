import Derived.Test.YtdakbipiifkmfaaDoorWZ
import Derived.Test.YtdakbipiifkmfaaDoorPZ
import Derived.Deep.Matrix
import Derived.WideKeyArr2
import Derived.Deep.Grids
/-
 LAWS over contracts of the program's own functions: few, Public, On, Digits.
-/
namespace Go.Proofs.YtdakbipiifkmfaaDoor
open Go.RowKit
set_option maxRecDepth 100000
/-- both tables lie in memory -/
def Tabs (w : World) : Prop := Vars w ∧ KVars w
theorem Tabs.go {w w' : World} (h : Tabs w) (b : Below w.heap.size w w') : Tabs w' := ⟨h.1.go b, h.2.step b⟩
end Go.Proofs.YtdakbipiifkmfaaDoor

/-
 CHAINS COMPOSE; the pieces of a signature; where its chains end; addresses that agree.
-/
namespace Go.Proofs.YtdakbipiifkmfaaDoor
open Go.RowKit
set_option maxRecDepth 100000
end Go.Proofs.YtdakbipiifkmfaaDoor

/-
 LAW over contracts of the program's own functions: Verifies.
-/
namespace Go.Proofs.YtdakbipiifkmfaaDoor
open Go.RowKit
set_option maxRecDepth 100000
end Go.Proofs.YtdakbipiifkmfaaDoor

/-
 LAW over contracts of the program's own functions: Steps.
-/
namespace Go.Proofs.YtdakbipiifkmfaaDoor
open Go.RowKit
set_option maxRecDepth 100000
end Go.Proofs.YtdakbipiifkmfaaDoor

/-
 THE LAWS' live, over contracts of the program's own functions.
-/
namespace Go.Proofs.YtdakbipiifkmfaaDoor
open Go.RowKit
set_option maxRecDepth 100000
def x0 : S5 := ⟨4043309073, false, 24, 1, 51⟩
def a0 : List UInt32 := List.replicate 8 0
end Go.Proofs.YtdakbipiifkmfaaDoor

/-
 LAW over contracts of the program's own functions: Counts.
-/
namespace Go.Proofs.YtdakbipiifkmfaaDoor
open Go.RowKit
set_option maxRecDepth 100000
/-- bytes and an error are handed back; the bytes lie off whatever both arguments lie off -/
def ResOff (u v : Value) (w : World) (er : Int) (bs : List UInt8) (e : Ending) (w' : World) : Prop := ∃ r, e = .returned (.tuple #[r, .int .i64 er]) ∧ Sl w' w'.heap.size r bs ∧ Below w.heap.size w w' ∧ ∀ g, g < w.heap.size → Off g u → Off g v → Off g r
theorem Tabs.but {w w' : World} {g : Nat} (h : Tabs w) (hb : But w.heap.size g w w') (h1 : 0 ≠ g) (h2 : 1 ≠ g) : Tabs w' := ⟨h.1.but hb h1, h.2.but hb h2⟩
end Go.Proofs.YtdakbipiifkmfaaDoor

/-
 ARGUMENTS OPENED: an address by value; a set by its fields.
-/
namespace Go.Proofs.YtdakbipiifkmfaaDoor
open Go.ChangeShapes Go.WideShapes Go.ChangeAt Go.RowKit
set_option maxRecDepth 100000
section
variable {H : Type} {enc : TypeId × Value → H} {P : Program}

theorem mapM_each {α β : Type} {f : α → Option β} : ∀ {L : List α} {xs : List β}, L.mapM f = some xs → ∀ i ∈ L, ∃ y, f i = some y
 | [], _, _, i, hi => by cases hi
 | a :: L, xs, h, i, hi => by
  rw [List.mapM_cons] at h
  simp only [bind, Option.bind_eq_some_iff, pure, Option.some.injEq] at h
  obtain ⟨y, hy, ys, hys, _⟩ := h
  rcases List.mem_cons.1 hi with rfl | hi
  ·exact ⟨y, hy⟩
  ·exact mapM_each hys i hi

def intAt : Value → Int
 | .int _ a => a
 | _ => 0
/-- an array of numbers that came in by value -/
theorem open_arr_ints {W : World} {base n : Nat} {t e : TypeId} {q : IntKind} {v : Value} {d : DataW H} {ps : List MemPlace} (ht : P.underlying t = some (.array n e)) (he : P.underlying e = some (.int q)) (ce : P.cellsOf e = 1) (ct : P.cellsOf t = n)
  (hval : Value.okWide P W .any base t v) (h : DataW.Trod enc P W 0 (fun _ => true) true t v d ps) : ∃ zs : List Int, v = .agg (zs.map (Value.int q)).toArray ∧ zs.length = n ∧ ∀ z ∈ zs, (Lit.int q z).wf = true := by
 simp only [Value.okWide, ht] at hval
 obtain ⟨xs, rfl, hsz, _⟩ := hval
 rw [ct] at hsz
 obtain ⟨fuel, hf⟩ := h
 cases fuel with
 | zero => simp [DataW.trod] at hf
 | succ m =>
  rw [DataW.trod_step] at hf
  unfold DataW.trodStep at hf
  simp only [ht, Value.cells, ce, Nat.mul_one] at hf
  rw [if_pos (by simp only [Array.length_toList]; omega)] at hf
  simp only [Option.map_eq_some_iff] at hf
  obtain ⟨ys, hy, _⟩ := hf
  have each : ∀ i, i < n → ∃ a, xs.toList[i]? = some (.int q a) ∧ (Lit.int q a).wf = true := fun i hi => by
   obtain ⟨y, hy1⟩ := mapM_each hy i (List.mem_range.2 hi)
   obtain ⟨a, ha, _, wa⟩ := DataW.trod_int he hy1
   refine ⟨a, ?_, wa⟩
   have := congrArg (·[0]?) ha
   simpa using this
  refine ⟨xs.toList.map intAt, ?_, by simp; omega, fun z hz => ?_⟩
  ·congr 1
   apply Array.ext
   ·simp
   intro i h1 h2
   obtain ⟨a, ha, _⟩ := each i (by omega)
   have hx : xs[i] = .int q a := by
    rw [Array.getElem?_toList, Array.getElem?_eq_getElem h1] at ha
    exact Option.some.inj ha
   simp [hx, intAt]
  ·simp only [List.mem_map] at hz
   obtain ⟨x, hx, rfl⟩ := hz
   obtain ⟨i, hi, hxi⟩ := List.getElem_of_mem hx
   simp only [Array.length_toList] at hi
   obtain ⟨a, ha, wa⟩ := each i (by omega)
   rw [List.getElem?_eq_getElem (by simpa using hi), hxi] at ha
   rw [Option.some.inj ha]
   exact wa

end
theorem wf_u32 {z : Int} (h : (Lit.int .u32 z).wf = true) : 0 ≤ z ∧ z ≤ 4294967295 := by simpa [Lit.wf, IntKind.min, IntKind.max, IntKind.signed, IntKind.bits] using h
theorem words_of_ints (zs : List Int) (h : ∀ z ∈ zs, (Lit.int .u32 z).wf = true) : zs.map (Value.int .u32) = wordCells (zs.map fun z => UInt32.ofNat z.toNat) := by
 unfold wordCells
 rw [List.map_map]
 apply List.map_congr_left
 intro z hz
 have := wf_u32 (h z hz)
 have e : (UInt32.ofNat z.toNat).toNat = z.toNat := by simp; omega
 show Value.int .u32 z = .int .u32 (((UInt32.ofNat z.toNat).toNat : Nat) : Int)
 rw [e]
 congr 1
 omega
theorem cells_u32w : Tryd.prog.cellsOf 22 = 1 := by kernel_rfl
theorem cells_adr : Tryd.prog.cellsOf 25 = 8 := by kernel_rfl
section
variable {H : Type} {enc : TypeId × Value → H}
theorem open_adr {W : World} {base : Nat} {v : Value} {d : DataW H} {ps : List MemPlace} (hval : Value.okWide Tryd.prog W .any base 25 v) (h : DataW.Trod enc Tryd.prog W 0 (fun _ => true) true 25 v d ps) :
  ∃ a : List UInt32, a.length = 8 ∧ v = adrV a := by
 obtain ⟨zs, rfl, hl, hwf⟩ := open_arr_ints Tryd.underlying25 Tryd.underlying22 cells_u32w cells_adr hval h
 exact ⟨zs.map fun z => UInt32.ofNat z.toNat, by simpa using hl, by unfold adrV; rw [words_of_ints zs hwf]⟩
end
end Go.Proofs.YtdakbipiifkmfaaDoor
