/-
  THE HASH IN MEMORY: what a block holds behind New and Write; New, isMade, Len.
-/
import Derived.Test.YthafhghnciofaaaDoorSlc
namespace Go.Proofs.YthafhghnciofaaaDoor
open Go.RowKit
set_option maxRecDepth 100000

def hashCells (st : St) (blk : List UInt8) (n : Nat) : List Value := .bool true :: (wordCells st.list ++ (Lib.byteCells blk ++ [.int .i64 (n : Int)]))
theorem hashCells_length (st : St) (blk : List UInt8) (n : Nat) (h : blk.length = 64) : (hashCells st blk n).length = 74 := by
  simp [hashCells, wordCells_length, St.list_length, Lib.byteCells_length, h]
theorem hashCells_size (st : St) (blk : List UInt8) (n : Nat) (h : blk.length = 64) : (hashCells st blk n)[73]? = some (.int .i64 (n : Int)) := by
  rw [hashCells, List.getElem?_cons_succ, List.getElem?_append_right (by simp [wordCells_length, St.list_length]), List.getElem?_append_right (by simp [wordCells_length, St.list_length, Lib.byteCells_length, h])]
  simp [wordCells_length, St.list_length, Lib.byteCells_length, h]
theorem hashCells_st (st : St) (blk : List UInt8) (n : Nat) : ((hashCells st blk n).drop 1).take 8 = wordCells st.list := by
  rw [hashCells, List.drop_succ_cons, List.drop_zero, List.take_append_of_le_length (by simp [wordCells_length, St.list_length])]
  exact List.take_of_length_le (by simp [wordCells_length, St.list_length])
theorem hashCells_blk (st : St) (blk : List UInt8) (n : Nat) (h : blk.length = 64) : ((hashCells st blk n).drop 9).take 64 = Lib.byteCells blk := by
  have e : (hashCells st blk n).drop 9 = Lib.byteCells blk ++ [.int .i64 (n : Int)] := by
    rw [hashCells, List.drop_succ_cons, List.drop_append_of_le_length (by simp [wordCells_length, St.list_length]), List.drop_of_length_le (by simp [wordCells_length, St.list_length]), List.nil_append]
  rw [e, List.take_append_of_le_length (by rw [Lib.byteCells_length]; omega)]
  exact List.take_of_length_le (by rw [Lib.byteCells_length]; omega)
theorem hashCells_byte (st : St) (blk : List UInt8) (n k : Nat) (h : k < blk.length) : (hashCells st blk n)[9 + k]? = some (.int .u8 (blk[k].toNat : Int)) := by
  rw [show 9 + k = (8 + k) + 1 by omega, hashCells, List.getElem?_cons_succ, List.getElem?_append_right (by simp [wordCells_length, St.list_length]), List.getElem?_append_left (by simp [wordCells_length, St.list_length, Lib.byteCells_length]; omega)]
  rw [show 8 + k - (wordCells st.list).length = k by simp [wordCells_length, St.list_length]]
  exact byteCells_get blk k h
theorem hashCells_word (st : St) (blk : List UInt8) (n k : Nat) (h : k < 8) : (hashCells st blk n)[1 + k]? = some (.int .u32 ((st.list[k]'h).toNat : Int)) := by
  rw [show 1 + k = k + 1 by omega, hashCells, List.getElem?_cons_succ, List.getElem?_append_left (by simp [wordCells_length, St.list_length]; omega)]
  exact wordCells_get _ _ h
theorem hashCells_one (st : St) (blk : List UInt8) (n : Nat) : ∀ u ∈ hashCells st blk n, u.oneCell' = true := by
  intro u hu
  simp only [hashCells, List.mem_cons, List.mem_append, List.not_mem_nil, or_false] at hu
  rcases hu with rfl | hu | hu | rfl
  · rfl
  · exact cell_oneWord _ u hu
  · exact cell_oneCell _ u hu
  · rfl
/-- the last cell: how many bytes -/
theorem hashCells_setSize (st : St) (blk : List UInt8) (n m : Nat) (h : blk.length = 64) : (hashCells st blk n).set 73 (.int .i64 (m : Int)) = hashCells st blk m := by
  rw [hashCells, List.set_cons_succ, List.set_append_right _ _ (by simp [wordCells_length, St.list_length]), List.set_append_right _ _ (by simp [wordCells_length, St.list_length, Lib.byteCells_length, h])]
  simp [wordCells_length, St.list_length, Lib.byteCells_length, h, hashCells]
theorem hashCells_splice (st : St) (blk cs : List UInt8) (n r : Nat) (h : blk.length = 64) (hr : r + cs.length ≤ 64) : splice (hashCells st blk n) (9 + r) (Lib.byteCells cs) = hashCells st (splice blk r cs) n := by
  have h9 : (Value.bool true :: wordCells st.list).length = 9 := by simp [wordCells_length, St.list_length]
  have e : hashCells st blk n = (Value.bool true :: wordCells st.list) ++ (Lib.byteCells blk ++ [.int .i64 (n : Int)]) := by simp [hashCells]
  have e2 : hashCells st (splice blk r cs) n = (Value.bool true :: wordCells st.list) ++ (Lib.byteCells (splice blk r cs) ++ [.int .i64 (n : Int)]) := by simp [hashCells]
  rw [e2, e]
  generalize (Value.bool true :: wordCells st.list) = hd at h9 ⊢
  unfold splice
  rw [Lib.byteCells_length, List.take_append, h9, List.take_of_length_le (by omega), show 9 + r - 9 = r by omega, List.take_append_of_le_length (by rw [Lib.byteCells_length]; omega),
    show 9 + r + cs.length = 9 + (r + cs.length) by omega, ← List.drop_drop, List.drop_append_of_le_length (l₁ := hd) (by omega), List.drop_of_length_le (l := hd) (by omega), List.nil_append,
    List.drop_append_of_le_length (by rw [Lib.byteCells_length]; omega)]
  simp [Lib.byteCells, List.append_assoc]
theorem hashCells_setSt (st s2 : St) (blk : List UInt8) (n : Nat) : over (hashCells st blk n) 1 (wordCells s2.list) = hashCells s2 blk n := by
  rw [over_eq _ _ _ (by simp [hashCells, wordCells_length, St.list_length])]
  simp [hashCells, wordCells_length, St.list_length]

/-- block g holds a Hash to which the bytes m have been written -/
def HashAt (w : World) (g : Nat) (m : List UInt8) : Prop :=
  0 ≠ g ∧ ∃ blk : List UInt8, Row w g 59 (hashCells (states m (m.length / 64)) blk m.length) ∧ blk.length = 64 ∧ blk.take (m.length % 64) = m.drop (64 * (m.length / 64))
section
variable {w w' : World} {B g j : Nat} {m : List UInt8}
theorem HashAt.lt (h : HashAt w g m) : g < w.heap.size := by
  obtain ⟨_, blk, hr, _⟩ := h
  exact hr.lt
theorem HashAt.below (h : HashAt w g m) (hb : Below B w w') (hg : g < B) : HashAt w' g m := by
  obtain ⟨h0, blk, hr, h1, h2⟩ := h
  exact ⟨h0, blk, hr.below hb hg, h1, h2⟩
theorem HashAt.step (h : HashAt w g m) (hb : Below w.heap.size w w') : HashAt w' g m := h.below hb h.lt
theorem HashAt.but (h : HashAt w g m) (hb : But w.heap.size j w w') (hj : g ≠ j) : HashAt w' g m := by
  have hlt := h.lt
  obtain ⟨h0, blk, hr, h1, h2⟩ := h
  exact ⟨h0, blk, hb.row hr hlt hj, h1, h2⟩
theorem HashAt.drew (h : HashAt w g m) : HashAt w.drew g m := h
end

theorem But.undrew {w w' : World} {B g : Nat} (h : But B g w.drew w') : But B g w w' := ⟨h.os, h.tape, h.output, h.size, h.block⟩
theorem zeros64s : (#[.int .u8 0] : Array Value) = (Lib.byteCells (List.replicate 1 0)).toArray := rfl

/-- a new Hash without bytes -/
def NewIs (w : World) (e : Ending) (w' : World) : Prop := ∃ g, e = .returned (.pointer (some ⟨g, 0, none⟩)) ∧ g = w.heap.size ∧ HashAt w' g [] ∧ Below w.heap.size w w'

theorem new_any (w : World) (hv : Vars w) : Calls Tryd.prog 20 #[] w (NewIs w) := by
  unfold NewIs
  have hpos := hv.pos
  go_enter Tryd.func20, Tryd.ntmps20
  go_wp2_with (refine wpList_build_eq rfl 59 _ rfl (hashCells start (List.replicate 64 0) 0).toArray (by kernel_rfl) ?_)
  go_ret
  refine ⟨w.heap.size, rfl, rfl, ⟨by omega, List.replicate 64 0, ?_, by simp, rfl⟩, (Below.refl _ _).alloc (Nat.le_refl _) _⟩
  exact Row.new_ rfl rfl
theorem isMade_yes (g : Nat) (m : List UInt8) (w : World) (h : HashAt w g m) : Calls Tryd.prog 41 #[.pointer (some ⟨g, 0, none⟩)] w fun e w' => e = .returned (.bool true) ∧ w' = w := by
  obtain ⟨_, blk, hr, hbl, _⟩ := h
  have hc : w.cell? ⟨g, 0, none⟩ = some (.bool true) := by rw [hr.cell]; rfl
  go_enter Tryd.func41, Tryd.ntmps41
  go_wp2
  go_ret
  exact ⟨rfl, rfl⟩
theorem isMade_nil (w : World) : Calls Tryd.prog 41 #[.pointer none] w fun e w' => e = .returned (.bool false) ∧ w' = w := by
  go_enter Tryd.func41, Tryd.ntmps41
  go_wp2
  go_ret
  exact ⟨rfl, rfl⟩
theorem isMade_no (g : Nat) (w : World) (hc : w.cell? ⟨g, 0, none⟩ = some (.bool false)) : Calls Tryd.prog 41 #[.pointer (some ⟨g, 0, none⟩)] w fun e w' => e = .returned (.bool false) ∧ w' = w := by
  go_enter Tryd.func41, Tryd.ntmps41
  go_wp2
  go_ret
  exact ⟨rfl, rfl⟩
theorem len_any (g : Nat) (m : List UInt8) (w : World) (h : HashAt w g m) : Calls Tryd.prog 24 #[.pointer (some ⟨g, 0, none⟩)] w fun e w' => e = .returned (.int .i64 (m.length : Int)) ∧ w' = w := by
  have hh := h
  obtain ⟨_, blk, hr, hbl, _⟩ := h
  have hc : w.cell? ⟨g, 73, none⟩ = some (.int .i64 (m.length : Int)) := by rw [hr.cell]; exact hashCells_size _ _ _ hbl
  go_enter Tryd.func24, Tryd.ntmps24
  go_wp2_with (go_at_call 41; refine (isMade_yes g m _ hh).mono ?_)
  rintro e wK ⟨rfl, rfl⟩
  go_wp2
  go_ret
  exact ⟨rfl, rfl⟩
end Go.Proofs.YthafhghnciofaaaDoor
