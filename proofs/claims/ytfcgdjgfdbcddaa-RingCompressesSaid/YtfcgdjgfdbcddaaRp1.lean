/-
 POLYNOMIALS IN MEMORY: 256 cells of 16 bits.
-/
import Derived.Test.YtfcgdjgfdbcddaaLaw
import Derived.Test.YtfcgdjgfdbcddaaRg3
namespace Go.Proofs.Ytfcgdjgfdbcddaa
open Go.RowKit
set_option maxRecDepth 100000
def pc (p : Nat → Nat) : List Value := (List.range 256).map fun i => .int .u16 (p i : Int)
theorem pc_length (p : Nat → Nat) : (pc p).length = 256 := by simp [pc]
theorem pc_get (p : Nat → Nat) {k : Nat} (h : k < 256) : (pc p)[k]? = some (.int .u16 (p k : Int)) := by
 unfold pc
 rw [List.getElem?_map, List.getElem?_range h]
 rfl
theorem pc_of {p r : Nat → Nat} (h : ∀ i, i < 256 → p i = r i) : pc p = pc r := by
 unfold pc
 exact List.map_congr_left fun i hi => by rw [h i (List.mem_range.1 hi)]
theorem pc_inj {p r : Nat → Nat} (h : pc p = pc r) (i : Nat) (hi : i < 256) : p i = r i := by
 have h1 := pc_get p hi
 rw [h, pc_get r hi] at h1
 simp only [Option.some.injEq, Value.int.injEq, true_and] at h1
 omega
theorem pc_iff {p r : Nat → Nat} : pc p = pc r ↔ ∀ i, i < 256 → p i = r i := ⟨fun h i hi => pc_inj h i hi, pc_of⟩
def upd (p : Nat → Nat) (k v : Nat) (i : Nat) : Nat := if i = k then v else p i
theorem pc_set (p : Nat → Nat) (k v : Nat) : (pc p).set k (.int .u16 (v : Int)) = pc (upd p k v) := by
 apply List.ext_getElem?
 intro i
 rw [List.getElem?_set]
 by_cases hi : i < 256
 ·rw [pc_get _ hi]
  by_cases h : k = i
  ·subst h
   rw [if_pos rfl, if_pos (by rw [pc_length]; exact hi), pc_get _ hi]
   unfold upd
   rw [if_pos rfl]
  ·rw [if_neg h, pc_get _ hi]
   unfold upd
   rw [if_neg (fun q => h q.symm)]
 ·rw [List.getElem?_eq_none (by rw [pc_length]; omega)]
  by_cases h : k = i
  ·rw [if_pos h, if_neg (by rw [pc_length]; omega), List.getElem?_eq_none (by rw [pc_length]; omega)]
  ·rw [if_neg h, List.getElem?_eq_none (by rw [pc_length]; omega)]
theorem pc_one (p : Nat → Nat) : ∀ u ∈ pc p, u.oneCell' = true := by
 intro u hu
 unfold pc at hu
 obtain ⟨i, _, rfl⟩ := List.mem_map.1 hu
 rfl
theorem pc_zero : pc (fun _ => 0) = List.replicate 256 (.int .u16 0) := rfl
/-- the numbers of a list -/
def nthN (zs : List Int) (i : Nat) : Nat := (zs.getD i 0).toNat
theorem pc_list (zs : List Int) (hl : zs.length = 256) (h : ∀ z ∈ zs, (0 : Int) ≤ z) : zs.map (Value.int .u16) = pc (nthN zs) := by
 apply List.ext_getElem?
 intro i
 by_cases hi : i < 256
 ·rw [pc_get _ hi, List.getElem?_map, List.getElem?_eq_getElem (by omega)]
  unfold nthN
  rw [List.getD_eq_getElem?_getD, List.getElem?_eq_getElem (by omega)]
  have h1 := h zs[i] (List.getElem_mem _)
  simp
  omega
 ·rw [List.getElem?_eq_none (by simp; omega), List.getElem?_eq_none (by rw [pc_length]; omega)]
end Go.Proofs.Ytfcgdjgfdbcddaa
