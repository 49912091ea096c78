/-
  WALKS: integers as bytes (octet.Big, BigOf, Little, LittleOf, U16, U32, U64 and what they call).
-/
import Derived.Test.YtjondbamnbgiaaaDoorWords
namespace Go.Proofs.YtjondbamnbgiaaaDoor
open Go.RowKit
set_option maxRecDepth 100000

theorem info_u8 : (Tryd.prog.info? 5).map (fun i => (i.zero, i.size, i.bytes)) = some (some (.int .u8 0), 1, 1) := by kernel_rfl

/-- A block that is just the bytes bs. -/
def Blk (w : World) (g : Nat) (bs : List UInt8) : Prop := w.heap[g]? = some (.cells (Lib.byteCells bs).toArray 5 (0, 0))
section
variable {w w' : World} {g B : Nat} {bs : List UInt8}
theorem Blk.lt (h : Blk w g bs) : g < w.heap.size := (Array.getElem?_eq_some_iff.1 h).1
theorem Blk.cell (h : Blk w g bs) (k : Nat) (hk : k < bs.length) : w.cell? ⟨g, k, none⟩ = some (.int .u8 bs[k].toNat) := by
  rw [cell_of_row w g k _ _ _ h]; simpa using byteCells_get bs k hk
theorem Blk.free (h : Blk w g bs) (k : Nat) : w.frozen? ⟨g, k, none⟩ = false := by
  unfold Blk at h
  simp [World.frozen?, h]
theorem Blk.drew (h : Blk w g bs) : Blk w.drew g bs := h
theorem Blk.set_ (h : Blk w g bs) (k : Nat) (b : UInt8) : Blk (w.setCell ⟨g, k, none⟩ (.int .u8 b.toNat)) g (bs.set k b) := by
  unfold Blk at h ⊢
  have e : Lib.byteCells (bs.set k b) = (Lib.byteCells bs).set k (.int .u8 b.toNat) := by simp [Lib.byteCells, List.map_set]
  rw [e]
  simp [World.setCell, Array.getElem?_modify, h]
theorem Blk.below (h : Blk w g bs) (hb : Below B w w') (hg : g < B) : Blk w' g bs := (hb.block g hg).trans h
theorem Blk.own (h : Blk w g bs) {base : Nat} (hb : base ≤ g) (hm : bs.length ≤ maxLen) : w.ownsRow base 5 1 (.slice (some ⟨g, 0, none⟩) bs.length bs.length) bs.length (Lib.byteCells bs) :=
  ⟨by rw [Lib.byteCells_length, Nat.mul_one], .inr ⟨g, bs.length, _, rfl, hb, h, Nat.le_refl _, hm, by simp [Lib.byteCells], by rw [List.take_of_length_le (by simp [Lib.byteCells])]⟩⟩
theorem Blk.new (w : World) (bs : List UInt8) : Blk (w.alloc (.cells (Lib.byteCells bs).toArray 5)) w.heap.size bs := heap_alloc_new w _
end
theorem made_zero (n : Nat) : madeCells #[.int .u8 0] n = (Lib.byteCells (List.replicate n 0)).toArray := by
  apply Array.ext
  · simp [madeCells, Lib.byteCells]
  · intro i h1 h2
    simp [madeCells, Lib.byteCells, Nat.mod_one]

/-- make([]byte, n), n a variable -/
theorem make_run (n : Nat) (hn : n ≤ 281474976710656) (u : World) : (Instr.makeSlice 29 (.int .i64 (n : Int)) (.int .i64 (n : Int))).run Tryd.prog u =
    .ok (.slice (some ⟨u.heap.size, 0, none⟩) n n) (u.alloc (.cells (Lib.byteCells (List.replicate n 0)).toArray 5)) := by
  obtain ⟨i0, hi, hz0, hz1, hz2⟩ := info_parts info_u8
  have h := run_make (P := Tryd.prog) u 29 5 i0 (.int .u8 0) Tryd.underlying29 hi hz0 .i64 .i64 (n : Int) (n : Int) (by omega) (Int.le_refl _) (by rw [hz2]; omega) (by omega)
  have e : (n : Int).toNat = n := by omega
  rw [e] at h
  rw [← made_zero]
  simpa [hz1, Value.cells] using h

end Go.Proofs.YtjondbamnbgiaaaDoor
