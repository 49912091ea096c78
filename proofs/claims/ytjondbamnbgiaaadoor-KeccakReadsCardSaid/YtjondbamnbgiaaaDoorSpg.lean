/-
  THE SPONGE IN MEMORY: 27 cells from place o of a block on: lanes, rate, place.
-/
import Derived.Test.YtjondbamnbgiaaaDoorPerm
import Derived.Test.YtjondbamnbgiaaaDoorSlc
namespace Go.Proofs.YtjondbamnbgiaaaDoor
open Go.RowKit
set_option maxRecDepth 100000

def spCells (pre : List Value) (s : Sp) (rate : Nat) (post : List Value) : List Value := pre ++ (laneCells s.l ++ (.int .i64 (rate : Int) :: .int .i64 (s.at_ : Int) :: post))
/-- block g holds just: o cells pre, the sponge s with that rate, the cells post -/
structure SpAt (w : World) (g o : Nat) (T : TypeId) (pre : List Value) (s : Sp) (rate : Nat) (post : List Value) : Prop where
  row : Row w g T (spCells pre s rate post)
  pre : pre.length = o
  len : s.l.length = 25
section
variable {w w' : World} {g o : Nat} {T : TypeId} {pre post : List Value} {s : Sp} {rate : Nat}
theorem spCells_lane (hp : pre.length = o) (hl : s.l.length = 25) (k : Nat) (hk : k < 25) : (spCells pre s rate post)[o + k]? = some (.int .u64 ((lane s.l k).toNat : Int)) := by
  unfold spCells
  rw [List.getElem?_append_right (by omega), show o + k - pre.length = k by omega, List.getElem?_append_left (by rw [laneCells_length]; omega), laneCells_lane _ _ (by omega)]
theorem spCells_rate (hp : pre.length = o) (hl : s.l.length = 25) : (spCells pre s rate post)[o + 25]? = some (.int .i64 (rate : Int)) := by
  unfold spCells
  rw [List.getElem?_append_right (by omega), show o + 25 - pre.length = 25 by omega, List.getElem?_append_right (by rw [laneCells_length]; omega), laneCells_length, hl]
  rfl
theorem spCells_at (hp : pre.length = o) (hl : s.l.length = 25) : (spCells pre s rate post)[o + 26]? = some (.int .i64 (s.at_ : Int)) := by
  unfold spCells
  rw [List.getElem?_append_right (by omega), show o + 26 - pre.length = 26 by omega, List.getElem?_append_right (by rw [laneCells_length]; omega), laneCells_length, hl]
  rfl
theorem spCells_setLane (hp : pre.length = o) (hl : s.l.length = 25) (k : Nat) (hk : k < 25) (x : UInt64) : (spCells pre s rate post).set (o + k) (.int .u64 (x.toNat : Int)) = spCells pre ⟨s.l.set k x, s.at_⟩ rate post := by
  unfold spCells
  rw [List.set_append_right _ _ (by omega), show o + k - pre.length = k by omega, List.set_append_left _ _ (by rw [laneCells_length]; omega), laneCells_set]
theorem spCells_setAt (hp : pre.length = o) (hl : s.l.length = 25) (n : Nat) : (spCells pre s rate post).set (o + 26) (.int .i64 (n : Int)) = spCells pre ⟨s.l, n⟩ rate post := by
  unfold spCells
  rw [List.set_append_right _ _ (by omega), show o + 26 - pre.length = 26 by omega, List.set_append_right _ _ (by rw [laneCells_length]; omega), laneCells_length, hl]
  rfl
theorem spCells_length : (spCells pre s rate post).length = pre.length + (s.l.length + (2 + post.length)) := by
  simp only [spCells, List.length_append, laneCells_length, List.length_cons]
  omega
theorem spCells_over (hp : pre.length = o) (hl : s.l.length = 25) (l : List UInt64) (h : l.length = 25) : over (spCells pre s rate post) o (laneCells l) = spCells pre ⟨l, s.at_⟩ rate post := by
  rw [over_eq _ _ _ (by rw [spCells_length, laneCells_length]; omega), laneCells_length, h]
  unfold spCells
  rw [List.take_left' hp, List.append_assoc, ← List.drop_drop, List.drop_left' hp, List.drop_left' (by rw [laneCells_length, hl])]
theorem SpAt.lane_cell (h : SpAt w g o T pre s rate post) (k : Nat) (hk : k < 25) : w.cell? ⟨g, o + k, none⟩ = some (.int .u64 ((lane s.l k).toNat : Int)) := (h.row.cell _).trans (spCells_lane h.pre h.len k hk)
theorem SpAt.rate_cell (h : SpAt w g o T pre s rate post) : w.cell? ⟨g, o + 25, none⟩ = some (.int .i64 (rate : Int)) := (h.row.cell _).trans (spCells_rate h.pre h.len)
theorem SpAt.at_cell (h : SpAt w g o T pre s rate post) : w.cell? ⟨g, o + 26, none⟩ = some (.int .i64 (s.at_ : Int)) := (h.row.cell _).trans (spCells_at h.pre h.len)
theorem SpAt.free (h : SpAt w g o T pre s rate post) (k : Nat) : w.frozen? ⟨g, k, none⟩ = false := h.row.free k
theorem SpAt.lt (h : SpAt w g o T pre s rate post) : g < w.heap.size := h.row.lt
theorem SpAt.lanes (h : SpAt w g o T pre s rate post) : w.rangeAt g o (laneCells s.l) := fun j v hv => by
  have hj : j < 25 := by
    rcases Nat.lt_or_ge j 25 with hj | hj
    · exact hj
    · rw [List.getElem?_eq_none (by rw [laneCells_length, h.len]; exact hj)] at hv; cases hv
  rw [laneCells_lane _ _ (by rw [h.len]; exact hj)] at hv
  rw [h.lane_cell j hj, hv]
theorem SpAt.there (h : SpAt w g o T pre s rate post) (n : Nat) (hn : n = 25) : w.there g o n := h.row.there o n (by rw [spCells_length, h.pre, h.len]; omega)
theorem SpAt.setAt (h : SpAt w g o T pre s rate post) (n : Nat) : SpAt (w.setCell ⟨g, o + 26, none⟩ (.int .i64 (n : Int))) g o T pre ⟨s.l, n⟩ rate post :=
  ⟨(congrArg (Row _ g T) (spCells_setAt h.pre h.len n)).mp (h.row.set_ _ _), h.pre, h.len⟩
theorem SpAt.setLane (h : SpAt w g o T pre s rate post) (k : Nat) (hk : k < 25) (x : UInt64) : SpAt (w.setCell ⟨g, o + k, none⟩ (.int .u64 (x.toNat : Int))) g o T pre ⟨s.l.set k x, s.at_⟩ rate post :=
  ⟨(congrArg (Row _ g T) (spCells_setLane h.pre h.len k hk x)).mp (h.row.set_ _ _), h.pre, (List.length_set).trans h.len⟩
theorem SpAt.setLanes (h : SpAt w g o T pre s rate post) (l : List UInt64) (hl : l.length = 25) : SpAt (w.setCells g o (laneCells l)) g o T pre ⟨l, s.at_⟩ rate post :=
  ⟨(congrArg (Row _ g T) (spCells_over h.pre h.len l hl)).mp (h.row.setCells (laneCells l) o), h.pre, hl⟩
theorem SpAt.below (h : SpAt w g o T pre s rate post) (hb : Below w.heap.size w w') : SpAt w' g o T pre s rate post := ⟨h.row.below hb h.lt, h.pre, h.len⟩
theorem SpAt.drew (h : SpAt w g o T pre s rate post) : SpAt w.drew g o T pre s rate post := ⟨h.row, h.pre, h.len⟩
theorem Vars.butG (h : Vars w) (hb : But w.heap.size g w w') (hg : 0 ≠ g) : Vars w' := fun k hk => (hb.cell (p := ⟨0, k, none⟩) h.pos hg).trans (h k hk)
end
/-- the place of the next byte is handed back; the sponge has gone on; nothing else has turned -/
def NextIs (w : World) (g o : Nat) (T : TypeId) (pre : List Value) (s : Sp) (rate : Nat) (post : List Value) (e : Ending) (w' : World) : Prop :=
  e = .returned (.int .i64 (((s.next rate).at_ - 1 : Nat) : Int)) ∧ SpAt w' g o T pre (s.next rate) rate post ∧ But w.heap.size g w w'
/-- nothing is handed back; the sponge has become s; nothing else has turned -/
def SpIs (w : World) (g o : Nat) (T : TypeId) (pre : List Value) (s : Sp) (rate : Nat) (post : List Value) (e : Ending) (w' : World) : Prop :=
  e = .returned (.tuple #[]) ∧ SpAt w' g o T pre s rate post ∧ But w.heap.size g w w'
theorem Sp.next_full (s : Sp) (rate : Nat) (h : s.at_ = rate) : s.next rate = ⟨permL s.l, 1⟩ := if_pos h
theorem Sp.next_more (s : Sp) (rate : Nat) (h : ¬ s.at_ = rate) : s.next rate = ⟨s.l, s.at_ + 1⟩ := if_neg h
end Go.Proofs.YtjondbamnbgiaaaDoor
