/-
  WORDS for the generator's state: structs of bytes as rows; a store into the middle of a row.
-/
import Derived.Test.YtanpplniedphkaaDoorCov0
import Derived.Great.Walk
namespace Go.Proofs.YtanpplniedphkaaDoor
open Go.RowKit
set_option maxRecDepth 100000

theorem byteCells_take (s : List UInt8) (n : Nat) : (Lib.byteCells s).take n = Lib.byteCells (s.take n) := by simp [Lib.byteCells, List.map_take]
theorem byteCells_drop (s : List UInt8) (n : Nat) : (Lib.byteCells s).drop n = Lib.byteCells (s.drop n) := by simp [Lib.byteCells, List.map_drop]
theorem byteCells_mid (s ds : List UInt8) (o : Nat) : (Lib.byteCells s).take o ++ Lib.byteCells ds ++ (Lib.byteCells s).drop (o + (Lib.byteCells ds).length) = Lib.byteCells (s.take o ++ ds ++ s.drop (o + ds.length)) := by
  rw [byteCells_take, byteCells_drop, Lib.byteCells_length, Lib.byteCells_append, Lib.byteCells_append]
/-- a piece of a row of bytes, as a slice -/
theorem Row.sub {w : World} {g : Nat} {T : TypeId} {s : List UInt8} (hr : Row w g T (Lib.byteCells s)) (o n : Nat) (h : o + n ≤ s.length) (hm : n ≤ 1000000) : Sl w w.heap.size (.slice (some ⟨g, o, none⟩) n n) ((s.drop o).take n) :=
  Sl.of_row hr hr.lt (by simp; omega) (Nat.le_refl _) (by unfold maxLen; omega) (fun k hk => by
    have hk2 : k < n := by simp at hk; omega
    rw [byteCells_get s (o + k) (by omega), List.getElem_take, List.getElem_drop])
/-- a beginning of what a slice reads -/
theorem Sl.begins {w : World} {B : Nat} {A : Option Addr} {n c : Nat} {bs : List UInt8} (h : Sl w B (.slice A n c) bs) (j : Nat) (hj : j ≤ bs.length) : Sl w B (.slice A j c) (bs.take j) := by
  have hl := h.len
  subst hl
  obtain ⟨A', c', hv, h1, h2, hc⟩ := h
  cases hv
  have hjl : (bs.take j).length = j := by simp; omega
  refine ⟨A, c, by rw [hjl], by omega, h2, fun hn => ?_⟩
  rw [hjl] at hn
  obtain ⟨b, off, rfl, hb, hr⟩ := hc (by omega)
  refine ⟨b, off, rfl, hb, fun k hk => ?_⟩
  rw [hjl] at hk
  rw [hr k (by omega)]
  simp

section
variable {P : Program} {md : Region.Mode} {ops : Array Oper} {Q : Exit → Act → World → Prop} {S : World → Prop} {fuel : Nat} {listed : Array Bool} {a : Act} {w : World}
theorem row_mid {b o : Nat} {T : TypeId} {s ds : List UInt8} (hr : Row w b T (Lib.byteCells s)) (ho : o + ds.length ≤ s.length) :
    Row (w.setCells b o (Lib.byteCells ds)) b T (Lib.byteCells (s.take o ++ ds ++ s.drop (o + ds.length))) := by
  have h := hr.setCells (Lib.byteCells ds) o
  rw [over_eq _ _ _ (by rw [Lib.byteCells_length, Lib.byteCells_length]; exact ho), byteCells_mid] at h
  exact h
theorem size_setCells (vs : List Value) : ∀ (w : World) (g o : Nat), (w.setCells g o vs).heap.size = w.heap.size := by
  induction vs with
  | nil => intro w g o; rfl
  | cons v r ih =>
    intro w g o
    show ((w.setCell ⟨g, o, none⟩ v).setCells g (o + 1) r).heap.size = _
    rw [ih]
    simp [World.setCell]
theorem step_storeMid (i : Nat) (ty : TypeId) (x y : Operand) (hop : (ops[i]?).map (fun o => (o.op, o.dst)) = some (.store ty x y, none)) (hw : (ops[i]?).map (fun o => Region.wanted o (yielded ops a.tmps)) = some true)
    (b o : Nat) (hx : a.eval x = .pointer (some ⟨b, o, none⟩)) (ds : List UInt8) (hy : a.eval y = .agg (Lib.byteCells ds).toArray) (T : TypeId) (s : List UInt8) (hr : Row w b T (Lib.byteCells s)) (ho : o + ds.length ≤ s.length) (hi : (P.info? ty).map (·.size) = some (Lib.byteCells ds).length)
    (h : ∀ w2, Row w2 b T (Lib.byteCells (s.take o ++ ds ++ s.drop (o + ds.length))) → But w.heap.size b w w2 → w2.heap.size = w.heap.size → S w2 ∧ wpAnyH P md ops Q S fuel (listed.setIfInBounds i true) a w2) : HStep P md ops Q S fuel listed a w i := by
  unfold HStep
  cases hoi : ops[i]? with
  | none => rw [hoi] at hop; cases hop
  | some op =>
    rw [hoi] at hop hw
    simp only [Option.map_some, Option.some.injEq, Prod.mk.injEq] at hop hw
    refine wpOp_step hoi fun K' hK => ?_
    rw [if_pos hw]
    refine wp_store_mid ty x y hop.1 b o (Lib.byteCells ds).toArray hx hy (by simpa using hr.there o (Lib.byteCells ds).length (by rw [Lib.byteCells_length, Lib.byteCells_length]; exact ho)) (by simpa using hi) (all_oneCell_toArray (cell_oneCell ds)) (hK _ _ ?_)
    rw [hop.2]
    exact h _ (row_mid hr ho) (But.setCells _ o (But.refl _ _ _)) (size_setCells _ _ _ _)
theorem wpList_storeMid {rest : List Oper} {op : Oper} (hgd : op.guard = none) (ty : TypeId) (x y : Operand) (hop : op.op = .store ty x y)
    (b o : Nat) (hx : a.eval x = .pointer (some ⟨b, o, none⟩)) (ds : List UInt8) (hy : a.eval y = .agg (Lib.byteCells ds).toArray) (T : TypeId) (s : List UInt8) (hr : Row w b T (Lib.byteCells s)) (ho : o + ds.length ≤ s.length) (hi : (P.info? ty).map (·.size) = some (Lib.byteCells ds).length)
    (h : ∀ w2, Row w2 b T (Lib.byteCells (s.take o ++ ds ++ s.drop (o + ds.length))) → But w.heap.size b w w2 → w2.heap.size = w.heap.size → wpList P ops Q rest (a.put op.dst undef) w2) : wpList P ops Q (op :: rest) a w :=
  wpList_store_mid hgd ty x y hop b o (Lib.byteCells ds).toArray hx hy (by simpa using hr.there o (Lib.byteCells ds).length (by rw [Lib.byteCells_length, Lib.byteCells_length]; exact ho)) (by simpa using hi) (all_oneCell_toArray (cell_oneCell ds))
    (h _ (row_mid hr ho) (But.setCells _ o (But.refl _ _ _)) (size_setCells _ _ _ _))
end

theorem gives_off {w w' : World} {v : Value} {bs : List UInt8} (h : Gives w bs v w') (g : Nat) (hg : g < w.heap.size) : Off g v := by
  intro x l c hv hl
  rcases h.1.2 with ⟨h0, _⟩ | ⟨gb, cap, cur, h0, hb, _⟩
  · rw [hv] at h0; cases h0
  · rw [hv] at h0
    injection h0 with h1 h2 h3
    injection h1 with h1
    rw [h1]
    show gb ≠ g
    omega
/-! the generator's state: K and V, one behind the other -/
def keyL (s : List UInt8) : List UInt8 := (s.drop 0).take 32
def valL (s : List UInt8) : List UInt8 := (s.drop 32).take 32
def stepL (s : List UInt8) : List UInt8 := s.take 32 ++ macB (keyL s) (valL s) ++ s.drop 64
def mixL (p : UInt8) (text s : List UInt8) : List UInt8 := stepL (s.take 0 ++ macB (keyL s) (valL s ++ p :: text) ++ s.drop 32)
def updL (text s : List UInt8) : List UInt8 := if text = [] then mixL 0 text s else mixL 1 text (mixL 0 text s)
theorem stepL_length (s : List UInt8) (h : s.length = 64) : (stepL s).length = 64 := by unfold stepL; simp [macB_length]; omega
theorem mixL_length (p : UInt8) (text s : List UInt8) (h : s.length = 64) : (mixL p text s).length = 64 := by
  unfold mixL
  exact stepL_length _ (by simp [macB_length]; omega)
theorem updL_length (text s : List UInt8) (h : s.length = 64) : (updL text s).length = 64 := by
  unfold updL
  split
  · exact mixL_length _ _ _ h
  · exact mixL_length _ _ _ (mixL_length _ _ _ h)
theorem keyL_length (s : List UInt8) (h : s.length = 64) : (keyL s).length = 32 := by unfold keyL; simp; omega
theorem valL_length (s : List UInt8) (h : s.length = 64) : (valL s).length = 32 := by unfold valL; simp; omega
theorem info_st : (Tryd.prog.info? 81).map (·.size) = some 64 := by kernel_rfl
end Go.Proofs.YtanpplniedphkaaDoor
