/-
  ROWS OF MEMORY: a block that holds just a list of cells; words as cells; a whole array read and written; what turns but one block.
-/
import Derived.Test.YtjondbamnbgiaaaDoorRefInts
import Derived.Test.YtjondbamnbgiaaaDoorWords
import Derived.Deep.MidRow
import Derived.Deep.WholeRow
namespace Go.Proofs.YtjondbamnbgiaaaDoor
open Go.RowKit
set_option maxRecDepth 100000

def wordCells (l : List UInt32) : List Value := l.map fun x => .int .u32 (x.toNat : Int)
theorem wordCells_length (l : List UInt32) : (wordCells l).length = l.length := by simp [wordCells]
theorem wordCells_get (l : List UInt32) (k : Nat) (h : k < l.length) : (wordCells l)[k]? = some (.int .u32 (l[k].toNat : Int)) := by
  simp [wordCells, List.getElem?_eq_getElem h]
theorem wordCells_set (l : List UInt32) (k : Nat) (x : UInt32) : (wordCells l).set k (.int .u32 (x.toNat : Int)) = wordCells (l.set k x) := by
  simp [wordCells, List.map_set]
theorem cell_oneWord (l : List UInt32) : ∀ u ∈ wordCells l, u.oneCell' = true := by
  intro u hu
  simp only [wordCells, List.mem_map] at hu
  obtain ⟨b, _, rfl⟩ := hu
  rfl

theorem zero64w : (#[.int .u32 0, .int .u32 0, .int .u32 0, .int .u32 0, .int .u32 0, .int .u32 0, .int .u32 0, .int .u32 0, .int .u32 0, .int .u32 0, .int .u32 0, .int .u32 0, .int .u32 0, .int .u32 0, .int .u32 0, .int .u32 0, .int .u32 0, .int .u32 0, .int .u32 0, .int .u32 0, .int .u32 0, .int .u32 0, .int .u32 0, .int .u32 0, .int .u32 0, .int .u32 0, .int .u32 0, .int .u32 0, .int .u32 0, .int .u32 0, .int .u32 0, .int .u32 0, .int .u32 0, .int .u32 0, .int .u32 0, .int .u32 0, .int .u32 0, .int .u32 0, .int .u32 0, .int .u32 0, .int .u32 0, .int .u32 0, .int .u32 0, .int .u32 0, .int .u32 0, .int .u32 0, .int .u32 0, .int .u32 0, .int .u32 0, .int .u32 0, .int .u32 0, .int .u32 0, .int .u32 0, .int .u32 0, .int .u32 0, .int .u32 0, .int .u32 0, .int .u32 0, .int .u32 0, .int .u32 0, .int .u32 0, .int .u32 0, .int .u32 0, .int .u32 0] : Array Value) = (wordCells (List.replicate 64 0)).toArray := by rfl
theorem zero64b : (#[.int .u8 0, .int .u8 0, .int .u8 0, .int .u8 0, .int .u8 0, .int .u8 0, .int .u8 0, .int .u8 0, .int .u8 0, .int .u8 0, .int .u8 0, .int .u8 0, .int .u8 0, .int .u8 0, .int .u8 0, .int .u8 0, .int .u8 0, .int .u8 0, .int .u8 0, .int .u8 0, .int .u8 0, .int .u8 0, .int .u8 0, .int .u8 0, .int .u8 0, .int .u8 0, .int .u8 0, .int .u8 0, .int .u8 0, .int .u8 0, .int .u8 0, .int .u8 0, .int .u8 0, .int .u8 0, .int .u8 0, .int .u8 0, .int .u8 0, .int .u8 0, .int .u8 0, .int .u8 0, .int .u8 0, .int .u8 0, .int .u8 0, .int .u8 0, .int .u8 0, .int .u8 0, .int .u8 0, .int .u8 0, .int .u8 0, .int .u8 0, .int .u8 0, .int .u8 0, .int .u8 0, .int .u8 0, .int .u8 0, .int .u8 0, .int .u8 0, .int .u8 0, .int .u8 0, .int .u8 0, .int .u8 0, .int .u8 0, .int .u8 0, .int .u8 0] : Array Value) = (Lib.byteCells (List.replicate 64 0)).toArray := by rfl
theorem zero32b : (#[.int .u8 0, .int .u8 0, .int .u8 0, .int .u8 0, .int .u8 0, .int .u8 0, .int .u8 0, .int .u8 0, .int .u8 0, .int .u8 0, .int .u8 0, .int .u8 0, .int .u8 0, .int .u8 0, .int .u8 0, .int .u8 0, .int .u8 0, .int .u8 0, .int .u8 0, .int .u8 0, .int .u8 0, .int .u8 0, .int .u8 0, .int .u8 0, .int .u8 0, .int .u8 0, .int .u8 0, .int .u8 0, .int .u8 0, .int .u8 0, .int .u8 0, .int .u8 0] : Array Value) = (Lib.byteCells (List.replicate 32 0)).toArray := by rfl
theorem zero24b : (#[.int .u8 0, .int .u8 0, .int .u8 0, .int .u8 0, .int .u8 0, .int .u8 0, .int .u8 0, .int .u8 0, .int .u8 0, .int .u8 0, .int .u8 0, .int .u8 0, .int .u8 0, .int .u8 0, .int .u8 0, .int .u8 0, .int .u8 0, .int .u8 0, .int .u8 0, .int .u8 0, .int .u8 0, .int .u8 0, .int .u8 0, .int .u8 0] : Array Value) = (Lib.byteCells (List.replicate 24 0)).toArray := by rfl
theorem zero8w : (#[.int .u32 0, .int .u32 0, .int .u32 0, .int .u32 0, .int .u32 0, .int .u32 0, .int .u32 0, .int .u32 0] : Array Value) = (wordCells (List.replicate 8 0)).toArray := by rfl
/-- block g holds just the cells cs -/
def Row (w : World) (g : Nat) (T : TypeId) (cs : List Value) : Prop := w.heap[g]? = some (.cells cs.toArray T (0, 0))
section
variable {w w' : World} {g B : Nat} {T : TypeId} {cs : List Value}
theorem Row.lt (h : Row w g T cs) : g < w.heap.size := (Array.getElem?_eq_some_iff.1 h).1
theorem Row.cell (h : Row w g T cs) (k : Nat) : w.cell? ⟨g, k, none⟩ = cs[k]? := by
  rw [cell_of_row w g k cs.toArray T (0, 0) h]; simp
theorem Row.free (h : Row w g T cs) (k : Nat) : w.frozen? ⟨g, k, none⟩ = false := frozen_of_row w g k cs.toArray T h
theorem Row.drew (h : Row w g T cs) : Row w.drew g T cs := h
theorem Row.set_ (h : Row w g T cs) (k : Nat) (v : Value) : Row (w.setCell ⟨g, k, none⟩ v) g T (cs.set k v) := by
  unfold Row
  rw [heap_setCell_same w g k cs.toArray T v h]
  simp
theorem Row.below (h : Row w g T cs) (hb : Below B w w') (hg : g < B) : Row w' g T cs := (hb.block g hg).trans h
theorem Row.other (h : Row w g T cs) (a : Addr) (v : Value) (hne : g ≠ a.block) : Row (w.setCell a v) g T cs := (heap_setCell_other w a g v hne).trans h
theorem Row.beside (h : Row w g T cs) {j k : Nat} {v : Value} (hne : g ≠ j) : Row (w.setCell ⟨j, k, none⟩ v).drew g T cs := h.other ⟨j, k, none⟩ v hne
theorem below_set2 {a : World} (h : Below B a w) {j k : Nat} {v : Value} (hj : B ≤ j) : Below B a (w.setCell ⟨j, k, none⟩ v).drew := (h.setCell (p := ⟨j, k, none⟩) hj v).drew
theorem size_set2 {j k : Nat} {v : Value} : (w.setCell ⟨j, k, none⟩ v).drew.heap.size = w.heap.size := by
  show (w.setCell _ v).heap.size = _
  simp [World.setCell]
theorem Row.setRow (h : Row w g T cs) (ds : List Value) : Row (w.setRow g ds.toArray) g T ds := setRow_heap w g _ _ T (0, 0) h
theorem Row.setRow_other {k : Nat} {ds : Array Value} (h : Row w g T cs) (hne : g ≠ k) : Row (w.setRow k ds) g T cs := (Go.setRow_other w k g ds hne).trans h
theorem below_setRow {a : World} {k : Nat} {ds : Array Value} (h : Below B a w) (hk : B ≤ k) : Below B a (w.setRow k ds) :=
  ⟨h.os, h.tape, h.output, Nat.le_trans h.size (by simp), fun i hi => (Go.setRow_other w k i ds (by omega)).trans (h.block i hi)⟩
/-- the result that lies in a variable of its own -/
theorem ret_row {P : Program} {f : Func} {a : Act} {p : Tmp} {ty : TypeId} {d : TypeDesc} {post : Ending → World → Prop} (hf : f.results = #[.cell p ty]) (hdf : a.defers = []) (hp : a.tmps.getD p undef = .pointer (some ⟨g, 0, none⟩)) (hr : Row w g T cs)
    (hu : P.underlying ty = some d) (hd : (match d with | .struct _ | .array _ _ => true | _ => false) = true) (hi : (P.info? ty).map (·.size) = some cs.length) (h : post (.returned (.agg cs.toArray)) w) : bodyPost P f post .ret a w :=
  bodyPost_ret (v := .agg cs.toArray) (results_cell_row hf _ _ g T _ (0, 0) d hp hr hu hd (by simpa using hi)) hdf h
theorem Row.new (w : World) (T : TypeId) (cs : List Value) : Row (w.alloc (.cells cs.toArray T)) w.heap.size T cs := heap_alloc_new w _
theorem asz (w : World) (o : Obj) : (w.alloc o).heap.size = w.heap.size + 1 := by
  show (w.heap.push o).size = _
  simp
theorem Row.new_ {arr : Array Value} (hg : g = w.heap.size) (ha : arr = cs.toArray) : Row (w.alloc (.cells arr T)) g T cs := by
  subst hg; subst ha; exact Row.new w T cs
theorem Row.alloc (h : Row w g T cs) (o : Obj) : Row (w.alloc o) g T cs := (Below.heap_alloc w o g h.lt).trans h
theorem Row.range (h : Row w g T cs) : w.rangeAt g 0 cs := fun j v hv => by
  rw [Nat.zero_add, h.cell j]; exact hv
theorem Row.mid (h : Row w g T cs) (o n : Nat) : w.rangeAt g o ((cs.drop o).take n) := fun j v hv => by
  rw [h.cell (o + j)]
  have hj : j < n := by
    by_cases hj : j < n
    · exact hj
    · rw [List.getElem?_eq_none (by simp; omega)] at hv; cases hv
  rw [List.getElem?_take_of_lt hj, List.getElem?_drop] at hv
  exact hv
theorem Row.there (h : Row w g T cs) (o n : Nat) (hn : o + n ≤ cs.length) : w.there g o n := fun j hj => by
  refine ⟨?_, h.free _⟩
  rw [h.cell (o + j), List.getElem?_eq_getElem (by omega)]
  rfl
/-- cells laid over a row from place o on -/
def over (cs : List Value) : Nat → List Value → List Value
  | _, [] => cs
  | o, v :: r => over (cs.set o v) (o + 1) r
theorem Row.setCells (vs : List Value) : ∀ {w : World} {cs : List Value} (o : Nat), Row w g T cs → Row (w.setCells g o vs) g T (over cs o vs) := by
  induction vs with
  | nil => intro w cs o h; exact h
  | cons v r ih => intro w cs o h; exact ih (o + 1) (h.set_ o v)
theorem over_eq (vs : List Value) : ∀ (cs : List Value) (o : Nat), o + vs.length ≤ cs.length → over cs o vs = cs.take o ++ vs ++ cs.drop (o + vs.length) := by
  induction vs with
  | nil => intro cs o h; simp [over]
  | cons v r ih =>
    intro cs o h
    simp only [List.length_cons] at h
    rw [over, ih _ _ (by simp; omega)]
    have h1 : (cs.set o v).take (o + 1) = cs.take o ++ [v] := by
      rw [List.take_succ_eq_append_getElem (by simp; omega), List.take_set_of_le (Nat.le_refl _)]
      simp
    have h2 : (cs.set o v).drop (o + 1 + r.length) = cs.drop (o + (v :: r).length) := by
      rw [List.drop_set_of_lt (by omega)]
      simp only [List.length_cons]
      rw [show o + 1 + r.length = o + (r.length + 1) by omega]
    rw [h1, h2]
    simp
end

theorem cell_set_other {w : World} {g j k : Nat} {v u : Value} (h : w.cell? ⟨g, j, none⟩ = some v) (hne : ¬ j = k) : ((w.setCell ⟨g, k, none⟩ u).drew).cell? ⟨g, j, none⟩ = some v :=
  (World.cell?_setCell_other w ⟨g, k, none⟩ ⟨g, j, none⟩ u (by intro e; cases e; exact hne rfl)).trans h

/-- everything below B but block g is as it was -/
structure But (B g : Nat) (w w' : World) : Prop where
  os : w'.os = w.os
  tape : w'.tape = w.tape
  output : w'.output = w.output
  size : w.heap.size ≤ w'.heap.size
  block : ∀ k, k < B → k ≠ g → w'.heap[k]? = w.heap[k]?
section
variable {w w' a b c : World} {g B B' : Nat} {T : TypeId} {cs : List Value}
theorem But.refl (B g : Nat) (w : World) : But B g w w := ⟨rfl, rfl, rfl, Nat.le_refl _, fun _ _ _ => rfl⟩
theorem But.trans (h : But B g a b) (k : But B g b c) : But B g a c :=
  ⟨k.os.trans h.os, k.tape.trans h.tape, k.output.trans h.output, Nat.le_trans h.size k.size, fun i hi hg => (k.block i hi hg).trans (h.block i hi hg)⟩
theorem But.of (h : Below B a b) (g : Nat) : But B g a b := ⟨h.os, h.tape, h.output, h.size, fun i hi _ => h.block i hi⟩
theorem But.mono (h : But B g a b) (hB : B' ≤ B) : But B' g a b := ⟨h.os, h.tape, h.output, h.size, fun i hi hg => h.block i (by omega) hg⟩
theorem But.under (h : But B g a b) (hB : B' ≤ B) (hg : B' ≤ g) : Below B' a b := ⟨h.os, h.tape, h.output, h.size, fun i hi => h.block i (by omega) (by omega)⟩
theorem But.chain {w₀ w₁ w₂ : World} (h : But w₀.heap.size g w₀ w₁) (k : But w₁.heap.size g w₁ w₂) : But w₀.heap.size g w₀ w₂ := h.trans (k.mono h.size)
theorem But.cell (h : But B g a b) {p : Addr} (hp : p.block < B) (hg : p.block ≠ g) : b.cell? p = a.cell? p := World.cell?_of_block (w := a) (h.block p.block hp hg)
theorem But.row (h : But B g a b) (hr : Row a B' T cs) (hp : B' < B) (hg : B' ≠ g) : Row b B' T cs := (h.block B' hp hg).trans hr
theorem But.setCell (h : But B g a b) (o : Nat) (v : Value) : But B g a (b.setCell ⟨g, o, none⟩ v) :=
  ⟨h.os, h.tape, h.output, Nat.le_trans h.size (by simp [World.setCell]), fun i hi hg => (heap_setCell_other b ⟨g, o, none⟩ i v hg).trans (h.block i hi hg)⟩
theorem But.drew (h : But B g a b) : But B g a b.drew := ⟨h.os, h.tape, h.output, h.size, h.block⟩
theorem But.setCells (vs : List Value) : ∀ {b : World} (o : Nat), But B g a b → But B g a (b.setCells g o vs) := by
  induction vs with
  | nil => intro b o h; exact h
  | cons v r ih => intro b o h; exact ih (o + 1) (h.setCell o v)

/-- a slice that does not lie in block g -/
def Off (g : Nat) (v : Value) : Prop := ∀ (x : Addr) l c, v = .slice (some x) l c → 0 < l → x.block ≠ g
theorem Sl.but {v : Value} {bs : List UInt8} (h : Sl w B v bs) (ho : Off g v) (hb : But B g w w') : Sl w' B v bs := by
  obtain ⟨A, c, hv, h1, h2, hc⟩ := h
  refine ⟨A, c, hv, h1, h2, fun hn => ?_⟩
  obtain ⟨b, off, hA, hbb, hr⟩ := hc hn
  have hne : b ≠ g := ho ⟨b, off, none⟩ bs.length c (hv.trans (by rw [hA])) hn
  exact ⟨b, off, hA, hbb, fun k hk => (hb.cell (p := ⟨b, off + k, none⟩) hbb hne).trans (hr k hk)⟩
theorem Sl.off {v : Value} {bs : List UInt8} (h : Sl w B v bs) (hB : B ≤ g) : Off g v := by
  obtain ⟨A, c, hv, h1, h2, hc⟩ := h
  intro x l c' hx hl
  rw [hv] at hx
  cases hx
  obtain ⟨b, off, hA, hbb, hr⟩ := hc hl
  cases hA
  show b ≠ g
  omega
theorem Off.nil_ : Off g (.slice none 0 0) := fun x l c h => by cases h
theorem Off.at_ {b o l c : Nat} (h : b ≠ g) : Off g (.slice (some ⟨b, o, none⟩) l c) := fun x l' c' hx _ => by cases hx; exact h
end
end Go.Proofs.YtjondbamnbgiaaaDoor
