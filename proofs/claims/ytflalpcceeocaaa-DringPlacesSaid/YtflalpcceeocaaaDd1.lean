/-
 POLYNOMIALS IN MEMORY: 256 cells of 32 bits.
-/
import Derived.Test.YtflalpcceeocaaaLaw
namespace Go.Proofs.Ytflalpcceeocaaa
open Go.RowKit
set_option maxRecDepth 100000
def dc (p : Nat → Int) : List Value := (List.range 256).map fun i => .int .i32 (p i)
theorem dc_length (p : Nat → Int) : (dc p).length = 256 := by simp [dc]
theorem dc_get (p : Nat → Int) {k : Nat} (h : k < 256) : (dc p)[k]? = some (.int .i32 (p k)) := by
 unfold dc
 rw [List.getElem?_map, List.getElem?_range h]
 rfl
theorem dc_of {p r : Nat → Int} (h : ∀ i, i < 256 → p i = r i) : dc p = dc r := by
 unfold dc
 exact List.map_congr_left fun i hi => by rw [h i (List.mem_range.1 hi)]
theorem dc_inj {p r : Nat → Int} (h : dc p = dc r) (i : Nat) (hi : i < 256) : p i = r i := by
 have h1 := dc_get p hi
 rw [h, dc_get r hi] at h1
 simp only [Option.some.injEq, Value.int.injEq, true_and] at h1
 omega
theorem dc_iff {p r : Nat → Int} : dc p = dc r ↔ ∀ i, i < 256 → p i = r i := ⟨fun h i hi => dc_inj h i hi, dc_of⟩
def dup (p : Nat → Int) (k : Nat) (v : Int) (i : Nat) : Int := if i = k then v else p i
theorem dc_set (p : Nat → Int) (k : Nat) (v : Int) : (dc p).set k (.int .i32 v) = dc (dup p k v) := by
 apply List.ext_getElem?
 intro i
 rw [List.getElem?_set]
 by_cases hi : i < 256
 ·rw [dc_get _ hi]
  by_cases h : k = i
  ·subst h
   rw [if_pos rfl, if_pos (by rw [dc_length]; exact hi), dc_get _ hi]
   unfold dup
   rw [if_pos rfl]
  ·rw [if_neg h, dc_get _ hi]
   unfold dup
   rw [if_neg (fun q => h q.symm)]
 ·rw [List.getElem?_eq_none (by rw [dc_length]; omega)]
  by_cases h : k = i
  ·rw [if_pos h, if_neg (by rw [dc_length]; omega), List.getElem?_eq_none (by rw [dc_length]; omega)]
  ·rw [if_neg h, List.getElem?_eq_none (by rw [dc_length]; omega)]
theorem dc_one (p : Nat → Int) : ∀ u ∈ dc p, u.oneCell' = true := by
 intro u hu
 unfold dc at hu
 obtain ⟨i, _, rfl⟩ := List.mem_map.1 hu
 rfl
theorem dc_zero : dc (fun _ => 0) = List.replicate 256 (.int .i32 0) := rfl
/-- the numbers of a list -/
def nthI (zs : List Int) (i : Nat) : Int := zs.getD i 0
theorem dc_list (zs : List Int) (hl : zs.length = 256) : zs.map (Value.int .i32) = dc (nthI zs) := by
 apply List.ext_getElem?
 intro i
 by_cases hi : i < 256
 ·rw [dc_get _ hi, List.getElem?_map, List.getElem?_eq_getElem (by omega)]
  unfold nthI
  rw [List.getD_eq_getElem?_getD, List.getElem?_eq_getElem (by omega)]
  rfl
 ·rw [List.getElem?_eq_none (by simp; omega), List.getElem?_eq_none (by rw [dc_length]; omega)]
/-- r up to place k, then p -/
def dhf (r p : Nat → Int) (k i : Nat) : Int := if i < k then r i else p i
theorem dhf_zero (r p : Nat → Int) : dc (dhf r p 0) = dc p := dc_of fun _ _ => if_neg (by omega)
theorem dhf_all (r p : Nat → Int) : dc (dhf r p 256) = dc r := dc_of fun _ hi => if_pos hi
theorem dhf_next (r p : Nat → Int) (k : Nat) : dc (dup (dhf r p k) k (r k)) = dc (dhf r p (k + 1)) := dc_of fun i _ => by
 unfold dup dhf
 by_cases h : i = k
 ·rw [if_pos h, if_pos (by omega), h]
 ·rw [if_neg h]
  by_cases h2 : i < k
  ·rw [if_pos h2, if_pos (by omega)]
  ·rw [if_neg h2, if_neg (by omega)]
theorem dhf_at (r p : Nat → Int) {k : Nat} (h : k < 256) : (dc (dhf r p k))[k]? = some (.int .i32 (p k)) := by
 rw [dc_get _ h, show dhf r p k k = p k from if_neg (by omega)]
end Go.Proofs.Ytflalpcceeocaaa
