/-
 STORES into polynomials; Horner's rule.
-/
import Derived.Test.YtfcgdjgfdbcddaaRr2
namespace Go.Proofs.Ytfcgdjgfdbcddaa
open Go.RowKit
set_option maxRecDepth 100000
section
variable {ops : Array Oper} {rest : List Oper} {o : Oper} {a : Act} {w : World} {Q : Exit → Act → World → Prop} {x y : Operand} {op : Oper}
theorem wl_at (d : Nat) (hd : o.dst = some d) (v : Value) (hgd : o.guard = none) (hrun : (execOp a.eval o).run Try.prog w = .ok (.value v) w) {a2 : Act} (h : wpList Try.prog ops Q rest a2 w) (ha : a.put (some d) v = a2 := by ((try simp only [Act.put, arr9, hd9, tl9]); rfl)) : wpList Try.prog ops Q (o :: rest) a w := wl_value v hgd hrun (by rw [hd, ha]; exact h)
theorem wl_storeP {g k v : Nat} {q : Nat → Nat} (hgd : o.guard = none) (hk : k < 256) (ho : o.op = .store 22 x y) (hx : a.eval x = .pointer (some ⟨g, k, none⟩)) (hy : a.eval y = .int .u16 (v : Int)) (hr : Row w g 24 (pc q))
 (h : ∀ w2, Row w2 g 24 (pc (upd q k v)) → But w.heap.size g w w2 → w2.heap.size = w.heap.size → wpList Try.prog ops Q rest (a.put o.dst undef) w2) : wpList Try.prog ops Q (o :: rest) a w := by
 have hc := hr.cell k
 rw [pc_get _ hk] at hc
 have hf := hr.free k
 have hs := hr.set_ k (.int .u16 (v : Int))
 rw [pc_set] at hs
 refine wpList_plain hgd fun K hK => ?_
 unfold Oper.wp
 rw [show (execOp a.eval o).run Try.prog w = .ok .skip (w.setCell ⟨g, k, none⟩ (.int .u16 (v : Int))) from by
  unfold execOp
  simp only [ho, hx, hy]
  go_simp]
 exact hK _ _ (h _ hs ((But.refl _ _ _).setCell _ _) (by simp [World.setCell]))
theorem dec_i {i : Int} (h : -1 ≤ i ∧ i ≤ 1000000) (ho : op.op = .binOp .sub 3 x (.const (.int .i64 1)) 3) (hx : a.eval x = .int .i64 i) : (execOp a.eval op).run Try.prog w = .ok (.value (.int .i64 (i - 1))) w := by
 have hc : a.eval (.const (.int .i64 1)) = .int .i64 1 := rfl
 have hw : IntKind.i64.wrap (i - 1) = i - 1 := by rw [IntKind.wrap_i64]; omega
 clear h
 unfold execOp
 simp only [ho, hx, hc]
 go_simp
end
/-- the sum by Horner's rule, from number 127 down -/
def hz (g : Nat) (c : Nat → Nat) : Nat → Nat
 | 0 => 0
 | m + 1 => (hz g c m * g + c (127 - m)) % 3329
theorem hz_lt (g : Nat) (c : Nat → Nat) : ∀ m, hz g c m < 3329
 | 0 => by show 0 < 3329; decide
 | m + 1 => Nat.mod_lt _ (by decide)
theorem rS_first (f : Nat → Int) : ∀ n, rS (n + 1) f = f 0 + rS n (fun t => f (t + 1))
 | 0 => by show 0 + f 0 = f 0 + 0; omega
 | n + 1 => by
  show rS (n + 1) f + f (n + 1) = f 0 + (rS n (fun t => f (t + 1)) + f (n + 1))
  rw [rS_first f n]
  omega
theorem hz_sum (g : Nat) (c : Nat → Nat) : ∀ m, m ≤ 128 → rM (hz g c m : Int) (rS m (fun t => (c (128 - m + t) : Int) * (g : Int) ^ t))
 | 0, _ => rfl
 | m + 1, h => by
  have ih := hz_sum g c m (by omega)
  rw [rS_first, show hz g c (m + 1) = (hz g c m * g + c (127 - m)) % 3329 from rfl, Int.pow_zero, Int.mul_one, show 128 - (m + 1) + 0 = 127 - m by omega]
  refine (rM_nat _).trans ?_
  rw [Int.natCast_add, Int.natCast_mul]
  refine ((ih.mul (rM.of rfl)).add (rM.of rfl)).trans (rM.of ?_)
  rw [← rS_mulr, Int.add_comm]
  congr 1
  refine rS_congr fun t ht => ?_
  rw [show 128 - (m + 1) + (t + 1) = 128 - m + t by omega, Int.pow_succ, Int.mul_assoc]
theorem hz_even (p : Nat → Nat) (k : Nat) : hz (rtN k) (fun j => p (2 * j)) 128 = nttN p (2 * k) := by
 have h := hz_sum (rtN k) (fun j => p (2 * j)) 128 (Nat.le_refl _)
 have h2 := hz_lt (rtN k) (fun j => p (2 * j)) 128
 rw [show nttN p (2 * k) = rd (evP (rtN k) (iP p)) by unfold nttN; rw [if_pos (by omega), show 2 * k / 2 = k by omega]]
 rw [← Nat.mod_eq_of_lt h2, ← rd_same]
 refine rd_of (h.trans (rM.of ?_))
 exact rS_congr fun t _ => by rw [show 128 - 128 + t = t by omega]; rfl
theorem hz_odd (p : Nat → Nat) (k : Nat) : hz (rtN k) (fun j => p (2 * j + 1)) 128 = nttN p (2 * k + 1) := by
 have h := hz_sum (rtN k) (fun j => p (2 * j + 1)) 128 (Nat.le_refl _)
 have h2 := hz_lt (rtN k) (fun j => p (2 * j + 1)) 128
 rw [show nttN p (2 * k + 1) = rd (odP (rtN k) (iP p)) by unfold nttN; rw [if_neg (by omega), show (2 * k + 1) / 2 = k by omega]]
 rw [← Nat.mod_eq_of_lt h2, ← rd_same]
 refine rd_of (h.trans (rM.of ?_))
 exact rS_congr fun t _ => by rw [show 128 - 128 + t = t by omega]; rfl
theorem half_two (r p : Nat → Nat) (k : Nat) : pc (upd (upd (half r p (2 * k)) (2 * k) (r (2 * k))) (2 * k + 1) (r (2 * k + 1))) = pc (half r p (2 * (k + 1))) := pc_of fun i _ => by
 unfold upd half
 by_cases h : i = 2 * k + 1
 ·rw [if_pos h, if_pos (by omega), h]
 ·rw [if_neg h]
  by_cases h2 : i = 2 * k
  ·rw [if_pos h2, if_pos (by omega), h2]
  ·rw [if_neg h2]
   by_cases h3 : i < 2 * k
   ·rw [if_pos h3, if_pos (by omega)]
   ·rw [if_neg h3, if_neg (by omega)]
end Go.Proofs.Ytfcgdjgfdbcddaa
