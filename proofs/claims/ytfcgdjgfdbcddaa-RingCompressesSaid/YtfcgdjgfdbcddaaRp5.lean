/-
 THE INVERSE TRANSFORM's sums.
-/
import Derived.Test.YtfcgdjgfdbcddaaRp4
namespace Go.Proofs.Ytfcgdjgfdbcddaa
open Go.RowKit
set_option maxRecDepth 100000
section
variable {ops : Array Oper} {rest : List Oper} {o : Oper} {a : Act} {w : World} {Q : Exit → Act → World → Prop} {x y : Operand} {op : Oper}
theorem wl_storeI {g k v n : Nat} {T : TypeId} {q : Nat → Nat} (hgd : o.guard = none) (hk : k < n) (ho : o.op = .store 3 x y) (hx : a.eval x = .pointer (some ⟨g, k, none⟩)) (hy : a.eval y = .int .i64 (v : Int)) (hr : Row w g T (ic n q))
 (h : ∀ w2, Row w2 g T (ic n (upd q k v)) → But w.heap.size g w w2 → w2.heap.size = w.heap.size → wpList Try.prog ops Q rest (a.put o.dst undef) w2) : wpList Try.prog ops Q (o :: rest) a w := by
 have hs := hr.set_ k (.int .i64 (v : Int))
 rw [ic_set] at hs
 refine wpList_plain hgd fun K hK => ?_
 unfold Oper.wp
 rw [run_storeI hk hr ho hx hy]
 exact hK _ _ (h _ hs ((But.refl _ _ _).setCell _ _) (by simp [World.setCell]))
end
/-- what is added to number j in round i: c * 3303 * g^j, one factor after the other -/
def tS (g c : Nat) : Nat → Nat
 | 0 => c % 3329 * 3303 % 3329
 | j + 1 => tS g c j * g % 3329
theorem tS_lt (g c : Nat) : ∀ j, tS g c j < 3329
 | 0 => Nat.mod_lt _ (by decide)
 | _ + 1 => Nat.mod_lt _ (by decide)
theorem tS_is (g c : Nat) : ∀ j, rM (tS g c j : Int) ((c : Int) * 3303 * (g : Int) ^ j)
 | 0 => by
  rw [Int.pow_zero, Int.mul_one]
  refine (rM_nat _).trans ?_
  rw [Int.natCast_mul]
  exact (rM_nat _).mul (rM.of rfl)
 | j + 1 => by
  refine (rM_nat _).trans ?_
  rw [Int.natCast_mul, Int.pow_succ, ← Int.mul_assoc]
  exact (tS_is g c j).mul (rM.of rfl)
/-- the root that goes back -/
def gB (i : Nat) : Nat := rtN i ^ 255 % 3329
/-- the sums, when i rounds and k numbers of the next are done -/
def invS (c : Nat → Nat) (i k j : Nat) : Nat := nS i (fun i' => tS (gB i') (c i') j) + if j < k then tS (gB i) (c i) j else 0
theorem invS_zero (c : Nat → Nat) : invS c 0 0 = fun _ => 0 := funext fun _ => rfl
theorem invS_row (c : Nat → Nat) (i : Nat) : ic 128 (invS c i 128) = ic 128 (invS c (i + 1) 0) := ic_of fun j hj => by
 unfold invS
 rw [if_pos hj, if_neg (by omega)]
 rfl
theorem invS_next (c : Nat → Nat) (i k : Nat) : upd (invS c i k) k (invS c i k k + tS (gB i) (c i) k) = invS c i (k + 1) := by
 funext m
 unfold upd
 by_cases h : m = k
 ·subst h
  rw [if_pos rfl]
  unfold invS
  rw [if_neg (by omega), if_pos (by omega), Nat.add_zero]
 ·rw [if_neg h]
  unfold invS
  by_cases h2 : m < k
  ·rw [if_pos h2, if_pos (by omega)]
  ·rw [if_neg h2, if_neg (by omega)]
theorem invS_le (c : Nat → Nat) (i k j : Nat) (hi : i ≤ 128) : invS c i k j ≤ 1000000 := by
 have h := nS_le (f := fun i' => tS (gB i') (c i') j) (fun i' => Nat.le_of_lt (tS_lt _ _ _)) i
 have h2 := tS_lt (gB i) (c i) j
 unfold invS
 have h3 : i * 3329 ≤ 128 * 3329 := Nat.mul_le_mul_right _ hi
 split <;> omega
theorem invS_sum (c : Nat → Nat) (j : Nat) : rM (invS c 128 0 j : Int) (rS 128 (fun i => (c i : Int) * 3303 * (rtN i : Int) ^ (255 * j))) := by
 unfold invS
 rw [if_neg (by omega), Nat.add_zero, nS_int]
 refine rM_S fun i _ => (tS_is _ _ _).trans ?_
 refine (rM.of rfl).mul ?_
 rw [Int.pow_mul]
 refine rM.pow ?_ j
 unfold gB
 rw [Int.natCast_emod, Int.natCast_pow]
 exact rM_mod _
theorem inv_even (p : Nat → Nat) (j : Nat) : invS (fun i => p (2 * i)) 128 0 j % 3329 = invN p (2 * j) := by
 unfold invN
 rw [show 2 * j % 2 = 0 by omega, show 2 * j / 2 = j by omega, ← rd_same]
 exact rd_of (invS_sum _ _)
theorem inv_odd (p : Nat → Nat) (j : Nat) : invS (fun i => p (2 * i + 1)) 128 0 j % 3329 = invN p (2 * j + 1) := by
 unfold invN
 rw [show (2 * j + 1) % 2 = 1 by omega, show (2 * j + 1) / 2 = j by omega, ← rd_same]
 exact rd_of (invS_sum _ _)
end Go.Proofs.Ytfcgdjgfdbcddaa
