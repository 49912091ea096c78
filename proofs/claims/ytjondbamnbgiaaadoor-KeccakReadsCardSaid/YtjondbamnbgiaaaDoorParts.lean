/-
  WORDS: parts of bytes wherever they lie; what a call leaves as it was; whole arrays read and written.
-/
import Derived.Test.YtjondbamnbgiaaaDoorSlc
import Derived.Lib.SmallJoins
namespace Go.Proofs.YtjondbamnbgiaaaDoor
open Go.RowKit
set_option maxRecDepth 100000

/-- v is a slice of slices of bytes that read as bss; all that it reads lies below block B, and not in block g -/
def PartsO (w : World) (B g : Nat) (v : Value) (bss : List (List UInt8)) : Prop :=
  ∃ A c, v = .slice A bss.length c ∧ (0 < bss.length → ∃ q off, A = some ⟨q, off, none⟩ ∧ q < B ∧ q ≠ g ∧ ∀ i (h : i < bss.length), ∃ u, w.cell? ⟨q, off + i, none⟩ = some u ∧ Sl w B u bss[i] ∧ Off g u)
section
variable {w w' : World} {B B' g : Nat} {v : Value} {bss : List (List UInt8)}
theorem PartsO.form (h : PartsO w B g v bss) : ∃ A c, v = .slice A bss.length c := by
  obtain ⟨A, c, hv, _⟩ := h
  exact ⟨A, c, hv⟩
theorem PartsO.at_ {A : Option Addr} {n c : Nat} (h : PartsO w B g (.slice A n c) bss) (hn : 0 < bss.length) : ∃ q off, A = some ⟨q, off, none⟩ ∧ q < B ∧ q ≠ g ∧ ∀ i (h : i < bss.length), ∃ u, w.cell? ⟨q, off + i, none⟩ = some u ∧ Sl w B u bss[i] ∧ Off g u := by
  obtain ⟨A', c', hv, hc⟩ := h
  cases hv
  exact hc hn
theorem PartsO.but (h : PartsO w B g v bss) (hb : But B g w w') : PartsO w' B g v bss := by
  obtain ⟨A, c, hv, hc⟩ := h
  refine ⟨A, c, hv, fun hn => ?_⟩
  obtain ⟨q, off, hA, hq, hg, hr⟩ := hc hn
  refine ⟨q, off, hA, hq, hg, fun i hi => ?_⟩
  obtain ⟨u, hu, hs, ho⟩ := hr i hi
  exact ⟨u, (hb.cell (p := ⟨q, off + i, none⟩) hq hg).trans hu, hs.but ho hb, ho⟩
theorem PartsO.below (h : PartsO w B g v bss) (hb : Below B w w') : PartsO w' B g v bss := h.but (But.of hb g)
theorem PartsO.more (h : PartsO w B g v bss) (hB : B ≤ B') : PartsO w B' g v bss := by
  obtain ⟨A, c, hv, hc⟩ := h
  refine ⟨A, c, hv, fun hn => ?_⟩
  obtain ⟨q, off, hA, hq, hg, hr⟩ := hc hn
  refine ⟨q, off, hA, by omega, hg, fun i hi => ?_⟩
  obtain ⟨u, hu, hs, ho⟩ := hr i hi
  exact ⟨u, hu, hs.more hB, ho⟩
/-- what lies below a block does not lie in it -/
theorem PartsO.moved {g' : Nat} (h : PartsO w B g v bss) (hg' : B ≤ g') : PartsO w B g' v bss := by
  obtain ⟨A, c, hv, hc⟩ := h
  refine ⟨A, c, hv, fun hn => ?_⟩
  obtain ⟨q, off, hA, hq, hg, hr⟩ := hc hn
  refine ⟨q, off, hA, hq, by omega, fun i hi => ?_⟩
  obtain ⟨u, hu, hs, ho⟩ := hr i hi
  exact ⟨u, hu, hs, hs.off hg'⟩
/-- one part, in a row of its own -/
theorem PartsO.one {q n : Nat} {T : TypeId} {u : Value} {bs : List UInt8} {w0 : World} (hq : q < B) (hg : q ≠ g) (hr : Row w q T [u]) (hs : Sl w0 B u bs) (ho : Off g u) (hk : Sl w0 B u bs → Sl w B u bs) : PartsO w B g (.slice (some ⟨q, 0, none⟩) 1 n) [bs] :=
  ⟨_, n, rfl, fun _ => ⟨q, 0, rfl, hq, hg, fun i hi => by
    obtain rfl : i = 0 := by simp at hi; omega
    exact ⟨u, hr.cell 0, hk hs, ho⟩⟩⟩
theorem PartsO.two {q n : Nat} {T : TypeId} {u u2 : Value} {bs bs2 : List UInt8} (hq : q < B) (hg : q ≠ g) (hr : Row w q T [u, u2]) (hs : Sl w B u bs) (ho : Off g u) (hs2 : Sl w B u2 bs2) (ho2 : Off g u2) : PartsO w B g (.slice (some ⟨q, 0, none⟩) 2 n) [bs, bs2] :=
  ⟨_, n, rfl, fun _ => ⟨q, 0, rfl, hq, hg, fun i hi => by
    match i, hi with
    | 0, _ => exact ⟨u, hr.cell 0, hs, ho⟩
    | 1, _ => exact ⟨u2, hr.cell 1, hs2, ho2⟩⟩⟩
theorem PartsO.three {q n : Nat} {T : TypeId} {u u2 u3 : Value} {bs bs2 bs3 : List UInt8} (hq : q < B) (hg : q ≠ g) (hr : Row w q T [u, u2, u3]) (hs : Sl w B u bs) (ho : Off g u) (hs2 : Sl w B u2 bs2) (ho2 : Off g u2) (hs3 : Sl w B u3 bs3) (ho3 : Off g u3) : PartsO w B g (.slice (some ⟨q, 0, none⟩) 3 n) [bs, bs2, bs3] :=
  ⟨_, n, rfl, fun _ => ⟨q, 0, rfl, hq, hg, fun i hi => by
    match i, hi with
    | 0, _ => exact ⟨u, hr.cell 0, hs, ho⟩
    | 1, _ => exact ⟨u2, hr.cell 1, hs2, ho2⟩
    | 2, _ => exact ⟨u3, hr.cell 2, hs3, ho3⟩⟩⟩
end
theorem flat_snoc (bss : List (List UInt8)) (k : Nat) (h : k < bss.length) : (bss.take (k + 1)).flatten = (bss.take k).flatten ++ bss[k] := by
  rw [List.take_succ_eq_append_getElem h, List.flatten_append]
  simp only [List.flatten_cons, List.flatten_nil, List.append_nil]
theorem flat_le (bss : List (List UInt8)) (k : Nat) : (bss.take k).flatten.length ≤ bss.flatten.length := by
  conv => rhs; rw [← List.take_append_drop k bss, List.flatten_append, List.length_append]
  omega

theorem off_own {w : World} {base e n g : Nat} {v : Value} {xs : List Value} (h : w.ownsRow base e 1 v n xs) (hg : g < base) : Off g v := by
  intro x l c hx hl
  rcases h.2 with ⟨rfl, hn⟩ | ⟨q, cap, cur, rfl, hb, _⟩
  · cases hx
  · cases hx
    show q ≠ g
    omega
theorem Below.chain {a b c : World} (h : Below a.heap.size a b) (k : Below b.heap.size b c) : Below a.heap.size a c := h.trans (k.mono h.size)
theorem gives_sl {w w' : World} {v : Value} {bs : List UInt8} (h : Gives w bs v w') : Sl w' w'.heap.size v bs := Sl.of_own h.1
theorem Sl.step {w w' : World} {v : Value} {bs : List UInt8} {B : Nat} (h : Sl w B v bs) (hB : B ≤ w.heap.size) (hb : Below w.heap.size w w') : Sl w' B v bs := h.below (hb.mono hB)

/-- an array of bytes is handed back -/
def SumIs (w : World) (bs : List UInt8) (e : Ending) (w' : World) : Prop := e = .returned (.agg (Lib.byteCells bs).toArray) ∧ Below w.heap.size w w'

theorem PartsO.solo {w : World} {B g q n : Nat} {T : TypeId} {u : Value} {bs : List UInt8} (hr : Row w q T [u]) (hq : q < B) (hg : q ≠ g) (hs : Sl w B u bs) (ho : Off g u) : PartsO w B g (.slice (some ⟨q, 0, none⟩) 1 n) [bs] :=
  ⟨_, n, rfl, fun _ => ⟨q, 0, rfl, hq, hg, fun i hi => by
    obtain rfl : i = 0 := by simp at hi; omega
    exact ⟨u, hr.cell 0, hs, ho⟩⟩⟩
/-- true is handed back; nothing that was there has turned -/
def TrueIs (w : World) (e : Ending) (w' : World) : Prop := e = .returned (.bool true) ∧ Below w.heap.size w w'

/-- a slice over a block whose cells are known, marked or not -/
theorem Sl.of_block {w : World} {B g n : Nat} {T : TypeId} {fr : Nat × Nat} {C : Array Value} {bs : List UInt8} (h : w.heap[g]? = some (.cells C T fr)) (hC : C = (Lib.byteCells bs).toArray) (hB : g < B) (hn : bs.length = n) (hm : n ≤ 1000000) : Sl w B (.slice (some ⟨g, 0, none⟩) n n) bs := by
  subst hn
  refine ⟨_, bs.length, rfl, Nat.le_refl _, by unfold maxLen; omega, fun _ => ⟨g, 0, rfl, hB, fun k hk => ?_⟩⟩
  rw [Go.Joins.cell_of_block h, Nat.zero_add, hC, List.getElem?_toArray]
  exact byteCells_get bs k hk
theorem heap_under {w : World} {g : Nat} {o o2 : Obj} (h : w.heap[g]? = some o) : (w.alloc o2).heap[g]? = some o := (Below.heap_alloc w o2 g (Array.getElem?_eq_some_iff.1 h).1).trans h
theorem heap_new {w : World} {g : Nat} {o : Obj} (h : g = w.heap.size) : (w.alloc o).heap[g]? = some o := by subst h; exact heap_alloc_last w o
theorem below3 (w : World) (a b c : Obj) : Below w.heap.size w (((w.alloc a).alloc b).alloc c) := (((Below.refl _ _).alloc (Nat.le_refl _) _).alloc (by rw [asz]; omega) _).alloc (by rw [asz, asz]; omega) _
theorem range_below {w w' : World} {B b o : Nat} {cs : List Value} (h : w.rangeAt b o cs) (hb : Below B w w') (hlt : b < B) : w'.rangeAt b o cs := fun j v hv => (hb.cell (p := ⟨b, o + j, none⟩) hlt).trans (h j v hv)
/-- a whole array is stored into a row: the world behind it under a name of its own -/
theorem wpList_store_any {P : Program} {ops : Array Oper} {rest : List Oper} {o : Oper} {a : Act} {w : World} {Q : Exit → Act → World → Prop} (hgd : o.guard = none) (ty : TypeId) (x y : Operand) (ho : o.op = .store ty x y)
    (g : Nat) (hx : a.eval x = .pointer (some ⟨g, 0, none⟩)) (ds : List Value) (hy : a.eval y = .agg ds.toArray)
    (t : TypeId) (cs : List Value) (hr : Row w g t cs) (hi : (P.info? ty).map (·.size) = some ds.length)
    (hold : cs.length = ds.length) (h1 : ∀ u ∈ ds, u.oneCell' = true)
    (h : ∀ w2, Row w2 g t ds → But w.heap.size g w w2 → w2.heap.size = w.heap.size → wpList P ops Q rest (a.put o.dst undef) w2) : wpList P ops Q (o :: rest) a w :=
  wpList_store_row hgd ty x y ho g ds.toArray hx hy t cs.toArray hr (by simpa using hi) (by simpa using hold) (all_oneCell_toArray h1)
    (h _ (hr.setRow ds) ⟨rfl, rfl, rfl, Nat.le_of_eq (by simp), fun k _ hk => Go.setRow_other w g k _ hk⟩ (by simp))
theorem wpList_load_any {P : Program} {ops : Array Oper} {rest : List Oper} {o : Oper} {a : Act} {w : World} {Q : Exit → Act → World → Prop} (hgd : o.guard = none) (ty : TypeId) (x : Operand) (ho : o.op = .load ty x)
    (g : Nat) (hx : a.eval x = .pointer (some ⟨g, 0, none⟩)) (t : TypeId) (cs : List Value) (d : TypeDesc) (hr : Row w g t cs)
    (hu : P.underlying ty = some d) (hd : (match d with | .struct _ | .array _ _ => true | _ => false) = true) (hi : (P.info? ty).map (·.size) = some cs.length)
    (h : wpList P ops Q rest (a.put o.dst (.agg cs.toArray)) w) : wpList P ops Q (o :: rest) a w :=
  wpList_load_row hgd ty x ho g hx t cs.toArray (0, 0) d hr hu hd (by simpa using hi) h
theorem size_bytes (n : Nat) (l : List UInt8) (h : l.length = n) : some n = some (Lib.byteCells l).length := by rw [Lib.byteCells_length, h]
theorem info_b32 : (Tryd.prog.info? 31).map (·.size) = some 32 := by kernel_rfl
theorem info_b64 : (Tryd.prog.info? 33).map (·.size) = some 64 := by kernel_rfl
/-- bytes of its own are handed back -/
def OwnIs (w : World) (bs : List UInt8) (e : Ending) (w' : World) : Prop := ∃ v, e = .returned v ∧ Gives w bs v w'
theorem two_flat (a b : List UInt8) : [a, b].flatten = a ++ b := by simp
theorem flat_one (k : List UInt8) : [k].flatten = k := by simp
theorem But.undrew {w w' : World} {B g : Nat} (h : But B g w.drew w') : But B g w w' := ⟨h.os, h.tape, h.output, h.size, h.block⟩
end Go.Proofs.YtjondbamnbgiaaaDoor
