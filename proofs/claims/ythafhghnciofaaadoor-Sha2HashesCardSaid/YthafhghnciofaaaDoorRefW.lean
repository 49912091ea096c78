/-
  WALKS: the document's own word, constants.
-/
import Derived.Test.YthafhghnciofaaaDoorLive
import Derived.StillTailTactics
namespace Go.Proofs.YthafhghnciofaaaDoor
open Go.RowKit
set_option maxRecDepth 100000

def WordOk (w : World) (x : UInt32) (e : Ending) (w' : World) : Prop := e = .returned (.int .u32 (x.toNat : Int)) ∧ Below w.heap.size w w'
theorem cell_alloc_keep {w : World} {b o : Nat} {v : Value} {ob : Obj} (h : w.cell? ⟨b, o, none⟩ = some v) (hb : b < w.heap.size) : (w.alloc ob).cell? ⟨b, o, none⟩ = some v :=
  ((Below.alloc (Below.refl _ _) (Nat.le_refl _) ob).cell (p := ⟨b, o, none⟩) hb).trans h

set_option maxHeartbeats 400000 in
theorem word_any (b : List UInt8) (t : Nat) (w : World) (hb : b.length = 64) (ht : t < 16) :
    Calls Tryd.prog 37 #[.agg (Lib.byteCells b).toArray, .int .i64 (t : Int)] w (WordOk w (wordB b t)) := by
  unfold WordOk
  generalize hn0 : w.heap.size = n0 at *
  have hr : ∀ o, Row ((w.alloc (.cells (Lib.byteCells b).toArray 24)).alloc o) n0 24 (Lib.byteCells b) := fun o => (Row.new_ hn0.symm rfl).alloc _
  have hr0 : Row (w.alloc (.cells (Lib.byteCells b).toArray 24)) n0 24 (Lib.byteCells b) := Row.new_ hn0.symm rfl
  have HW : Hid (((bigN [b[4 * t]'(by omega), b[4 * t + 1]'(by omega), b[4 * t + 2]'(by omega), b[4 * t + 3]'(by omega)] : Nat) : Int) % 4294967296 = ((wordB b t).toNat : Int)) := Lib.hid (by
    rw [← wordB_of b t (by omega)]
    have := (wordB b t).toNat_lt
    omega)
  have k0 := hr0.cell (4 * t)
  have k1 := hr0.cell (4 * t + 1)
  have k2 := hr0.cell (4 * t + 2)
  have k3 := hr0.cell (4 * t + 3)
  rw [byteCells_get b _ (by omega)] at k0 k1 k2 k3
  generalize b[4 * t]'(by omega) = x0 at *
  generalize b[4 * t + 1]'(by omega) = x1 at *
  generalize b[4 * t + 2]'(by omega) = x2 at *
  generalize b[4 * t + 3]'(by omega) = x3 at *
  clear hr
  obtain ⟨i0, hi0⟩ : ∃ i0, i0 = 4 * t := ⟨_, rfl⟩
  obtain ⟨i1, hi1⟩ : ∃ i1, i1 = 4 * t + 1 := ⟨_, rfl⟩
  obtain ⟨i2, hi2⟩ : ∃ i2, i2 = 4 * t + 2 := ⟨_, rfl⟩
  obtain ⟨i3, hi3⟩ : ∃ i3, i3 = 4 * t + 3 := ⟨_, rfl⟩
  rw [← hi0] at k0
  rw [← hi1] at k1
  rw [← hi2] at k2
  rw [← hi3] at k3
  have q0 : IntKind.i64.wrap (4 * (t : Int)) = (i0 : Int) := by rw [IntKind.wrap_i64]; omega
  have q1 : IntKind.i64.wrap ((i0 : Int) + 1) = (i1 : Int) := by rw [IntKind.wrap_i64]; omega
  have q2 : IntKind.i64.wrap ((i0 : Int) + 2) = (i2 : Int) := by rw [IntKind.wrap_i64]; omega
  have q3 : IntKind.i64.wrap ((i0 : Int) + 3) = (i3 : Int) := by rw [IntKind.wrap_i64]; omega
  have g0 : (i0 : Int) < 64 := by omega
  have g1 : (i1 : Int) < 64 := by omega
  have g2 : (i2 : Int) < 64 := by omega
  have g3 : (i3 : Int) < 64 := by omega
  clear hi0 hi1 hi2 hi3
  generalize hWA : w.alloc (.cells (Lib.byteCells b).toArray 24) = wA at *
  have hszA : wA.heap.size = n0 + 1 := by rw [← hWA, asz, hn0]
  have hbA : Below n0 w wA := by rw [← hWA]; exact (Below.refl _ _).alloc (by omega) _
  have hnA : n0 < wA.heap.size := by omega
  have hsl : ∀ T, Sl (wA.drew.alloc (.cells #[.int .u8 (x0.toNat : Int), .int .u8 (x1.toNat : Int), .int .u8 (x2.toNat : Int), .int .u8 (x3.toNat : Int)] T)) (wA.heap.size + 1) (.slice (some ⟨wA.heap.size, 0, none⟩) 4 4) [x0, x1, x2, x3] := fun T =>
    Sl.of_bytes (T := T) (Row.new_ (by rfl) (by rfl)) (Nat.lt_succ_self _) (by rfl) (by decide)
  have d0 : wA.drew.cell? ⟨n0, i0, none⟩ = some (.int .u8 (x0.toNat : Int)) := k0
  have d1 : wA.drew.cell? ⟨n0, i1, none⟩ = some (.int .u8 (x1.toNat : Int)) := k1
  have d2 : wA.drew.cell? ⟨n0, i2, none⟩ = some (.int .u8 (x2.toNat : Int)) := k2
  have d3 : wA.drew.cell? ⟨n0, i3, none⟩ = some (.int .u8 (x3.toNat : Int)) := k3
  have hnD : n0 < wA.drew.heap.size := hnA
  go_enter Tryd.func37, Tryd.ntmps37
  go_wp2
  go_still_tail 19, (by kernel_rfl)
  change wpList _ _ _ _ _ wA.drew
  have hb2 : ∀ o, Below n0 w (wA.drew.alloc o) := fun o => hbA.drew.alloc (by show n0 ≤ wA.heap.size; omega) o
  have hsw : wA.heap.size = wA.drew.heap.size := rfl
  rw [hsw] at hsl
  clear hWA hr0 k0 k1 k2 k3 d0 d1 d2 d3 hbA hsw hszA hnA hnD
  generalize wA.drew = w2 at *
  go_wp2_with (go_at_call 51; refine (refNumber_any (w2.heap.size + 1) (.slice (some ⟨w2.heap.size, 0, none⟩) 4 4) [x0, x1, x2, x3] _ (hsl _) (by simp) (by simp)).mono ?_)
  rintro e w' ⟨rfl, rfl⟩
  go_wp2
  go_ret
  refine ⟨?_, hb2 _⟩
  rw [← HW.out]
  rfl

theorem constants_any (w : World) : Calls Tryd.prog 36 #[] w fun e w' => e = .returned (.agg (wordCells cK).toArray) ∧ Below w.heap.size w w' := by
  have hl : cK.length = 64 := rfl
  go_enter Tryd.func36, Tryd.ntmps36
  go_wp2_with (first | refine wpList_build_eq rfl 63 _ rfl (wordCells cK).toArray (by kernel_rfl) ?_ | refine wpList_store_any rfl 63 (.tmp 0) (.tmp 1) rfl w.heap.size rfl (wordCells cK) rfl 63 (wordCells (List.replicate 64 0)) (Row.new_ rfl zero64w) (info_w64.trans (size_words _ _ hl)) (by rw [wordCells_length, wordCells_length]; rfl) (cell_oneWord _) ?_)
  intro w2 hr2 bt _
  try simp only [asz] at bt
  go_wp2
  exact ret_row Tryd.results36 rfl rfl hr2 Tryd.underlying63 rfl (info_w64.trans (size_words _ _ hl)) ⟨rfl, (Below.alloc (Below.refl _ _) (Nat.le_refl _) _).trans (bt.under (Nat.le_succ _) (Nat.le_refl _))⟩
end Go.Proofs.YthafhghnciofaaaDoor
