/-
 THE WALK of the laws' few; five parts in a row.
-/
import Derived.Test.YtpajdmbajopofaaMD
namespace Go.Proofs.Ytpajdmbajopofaa
open Go.RowKit
set_option maxRecDepth 100000

/-- texts of at most 2000 bytes each -/
def few4B (bss : List (List UInt8)) : Bool := bss.all (fun b => decide (b.length ≤ 2000))
theorem few4_no (bss : List (List UInt8)) (k : Nat) (h : k < bss.length) (hb : 2000 < bss[k].length) : few4B bss = false := by
 unfold few4B
 rw [List.all_eq_false]
 exact ⟨bss[k], List.getElem_mem h, by simp; omega⟩
theorem few4_yes {bss : List (List UInt8)} (h : few4B bss = true) : ∀ b ∈ bss, b.length ≤ 2000 := by
 unfold few4B at h
 simp only [List.all_eq_true, decide_eq_true_eq] at h
 exact h
theorem PartsO.five {w : World} {B g q n : Nat} {T : TypeId} {u1 u2 u3 u4 u5 : Value} {b1 b2 b3 b4 b5 : List UInt8} (hq : q < B) (hg : q ≠ g) (hr : Row w q T [u1, u2, u3, u4, u5]) (h1 : Sl w B u1 b1) (o1 : Off g u1) (h2 : Sl w B u2 b2) (o2 : Off g u2) (h3 : Sl w B u3 b3) (o3 : Off g u3) (h4 : Sl w B u4 b4) (o4 : Off g u4) (h5 : Sl w B u5 b5) (o5 : Off g u5) :
  PartsO w B g (.slice (some ⟨q, 0, none⟩) 5 n) [b1, b2, b3, b4, b5] :=
 ⟨_, n, rfl, fun _ => ⟨q, 0, rfl, hq, hg, fun i hi => by
  match i, hi with
  | 0, _ => exact ⟨u1, hr.cell 0, h1, o1⟩
  | 1, _ => exact ⟨u2, hr.cell 1, h2, o2⟩
  | 2, _ => exact ⟨u3, hr.cell 2, h3, o3⟩
  | 3, _ => exact ⟨u4, hr.cell 3, h4, o4⟩
  | 4, _ => exact ⟨u5, hr.cell 4, h5, o5⟩⟩⟩
end Go.Proofs.Ytpajdmbajopofaa
