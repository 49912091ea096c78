import Derived.Test.YtfcgdjgfdbcddaaDoorRq4
import Derived.Test.YtfcgdjgfdbcddaaDoorZR2
import Derived.Test.YtfcgdjgfdbcddaaDoorZR1
/-
 THE PROGRAM'S OWN Inv.
-/
namespace Go.Proofs.YtfcgdjgfdbcddaaDoor
open Go.RowKit
set_option maxRecDepth 100000
theorem isLay.exp {J H : Nat} (h : isLay J H) (hJ : J < 128) : 2 * (128 / (2 * J)) = 128 / J ∧ (J = 1 ∨ J = 2 ∨ J = 4 ∨ J = 8 ∨ J = 16 ∨ J = 32 ∨ J = 64) := by
 unfold isLay at h
 rcases h with ⟨rfl, rfl⟩ | ⟨rfl, rfl⟩ | ⟨rfl, rfl⟩ | ⟨rfl, rfl⟩ | ⟨rfl, rfl⟩ | ⟨rfl, rfl⟩ | ⟨rfl, rfl⟩ | ⟨rfl, rfl⟩ <;> omega
theorem isLay.back {J H : Nat} (h : isLay J H) (hJ : J < 128) : J = 1 ∧ H = 128 ∨ 1 ≤ J / 2 ∧ isLay (J / 2) (2 * H) ∧ J / 2 < 128 ∧ 2 * (J / 2) = J := by
 unfold isLay at *
 rcases h with ⟨rfl, rfl⟩ | ⟨rfl, rfl⟩ | ⟨rfl, rfl⟩ | ⟨rfl, rfl⟩ | ⟨rfl, rfl⟩ | ⟨rfl, rfl⟩ | ⟨rfl, rfl⟩ | ⟨rfl, rfl⟩ <;> first | omega | simp
end Go.Proofs.YtfcgdjgfdbcddaaDoor

/-
 THE DOCUMENT'S OWN Ntt.
-/
namespace Go.Proofs.YtfcgdjgfdbcddaaDoor
open Go.RowKit
set_option maxRecDepth 100000
end Go.Proofs.YtfcgdjgfdbcddaaDoor

/-
 THE DOCUMENT'S OWN MulNtt.
-/
namespace Go.Proofs.YtfcgdjgfdbcddaaDoor
open Go.RowKit
set_option maxRecDepth 100000
theorem pair_e (p r : Nat → Nat) (k : Nat) : (p (2 * k) % 3329 * (r (2 * k) % 3329) + p (2 * k + 1) % 3329 * (r (2 * k + 1) % 3329) % 3329 * rtN k) % 3329 = pairN p r (2 * k) := by
 unfold pairN
 rw [if_pos (by omega), show 2 * k / 2 = k by omega, ← rd_same]
 refine rd_of ?_
 rw [Int.natCast_add, Int.natCast_mul, Int.natCast_mul]
 refine ((rM_nat _).mul (rM_nat _)).add ?_
 refine ((rM_nat _).mul (rM.of rfl)).trans ?_
 rw [Int.natCast_mul]
 refine (((rM_nat _).mul (rM_nat _)).mul (rM.of rfl)).trans (rM.of (Int.mul_comm _ _))
theorem pair_o (p r : Nat → Nat) (k : Nat) : (p (2 * k) % 3329 * (r (2 * k + 1) % 3329) + p (2 * k + 1) % 3329 * (r (2 * k) % 3329)) % 3329 = pairN p r (2 * k + 1) := by
 unfold pairN
 rw [if_neg (by omega), show (2 * k + 1) / 2 = k by omega, ← rd_same]
 refine rd_of ?_
 rw [Int.natCast_add, Int.natCast_mul, Int.natCast_mul]
 exact ((rM_nat _).mul (rM_nat _)).add ((rM_nat _).mul (rM_nat _))
end Go.Proofs.YtfcgdjgfdbcddaaDoor

/-
 THE PROGRAM'S OWN MulNtt.
-/
namespace Go.Proofs.YtfcgdjgfdbcddaaDoor
open Go.RowKit
set_option maxRecDepth 100000
theorem rt_w (k : Nat) : 17 * (wN k * wN k % 3329) % 3329 = rtN k := by
 unfold wN rtN
 rw [← Nat.mul_mod, Nat.mul_mod_mod, ← Nat.pow_add, Nat.mul_comm, ← Nat.pow_succ]
 show 17 ^ (rvN k + rvN k + 1) % 3329 = _
 rw [show rvN k + rvN k + 1 = 2 * rvN k + 1 by omega]
theorem pair_E (p r : Nat → Nat) (k : Nat) : (p (2 * k) * r (2 * k) % 3329 + rtN k * (p (2 * k + 1) * r (2 * k + 1) % 3329) % 3329) % 3329 = pairN p r (2 * k) := by
 unfold pairN
 rw [if_pos (by omega), show 2 * k / 2 = k by omega, ← rd_same]
 refine rd_of ?_
 rw [Int.natCast_add]
 refine ((rM_nat _).trans (rM.of (Int.natCast_mul _ _))).add ((rM_nat _).trans ?_)
 rw [Int.natCast_mul]
 exact (rM.of rfl).mul ((rM_nat _).trans (rM.of (Int.natCast_mul _ _)))
theorem pair_O (p r : Nat → Nat) (k : Nat) : (p (2 * k) * r (2 * k + 1) % 3329 + p (2 * k + 1) * r (2 * k) % 3329) % 3329 = pairN p r (2 * k + 1) := by
 unfold pairN
 rw [if_neg (by omega), show (2 * k + 1) / 2 = k by omega, ← rd_same]
 refine rd_of ?_
 rw [Int.natCast_add]
 exact ((rM_nat _).trans (rM.of (Int.natCast_mul _ _))).add ((rM_nat _).trans (rM.of (Int.natCast_mul _ _)))
end Go.Proofs.YtfcgdjgfdbcddaaDoor

/-
 THE PROGRAM'S OWN Add, Sub, Mul.
-/
namespace Go.Proofs.YtfcgdjgfdbcddaaDoor
open Go.RowKit
set_option maxRecDepth 100000
theorem run_loadRow13 {P : Program} {a : Act} {w : World} {dst : Option Tmp} {ty T ty2 : TypeId} {x : Operand} {g : Nat} {cs : List Value} {d : TypeDesc} (hx : a.eval x = .pointer (some ⟨g, 0, none⟩)) (hr : Row w g T cs)
 (hu : P.underlying ty = some d) (hd : (match d with | .struct _ | .array _ _ => true | _ => false) = true) (hi : (P.info? ty).map (·.size) = some cs.length) : (execOp a.eval ⟨dst, .load ty x, ty2, "", #[], none⟩).run P w = .ok (.value (.agg cs.toArray)) w := by
 unfold execOp
 simp only [hx, Instr.loadAt, Instr.sureAddr, Sem.run_bind, Sem.run_pure, Result.andThen_ok, run_loadVar_row w g T ty cs.toArray (0, 0) d hr hu hd (by simpa using hi)]
theorem addR (p p2 : Nat → Nat) (i : Nat) : addN p p2 i = (redN p i + redN p2 i) % 3329 := by unfold addN redN rd; omega
theorem subR (p p2 : Nat → Nat) (i : Nat) : subN p p2 i = (redN p i + 3329 - redN p2 i) % 3329 := by unfold subN redN rd; omega
end Go.Proofs.YtfcgdjgfdbcddaaDoor

/-
 THE DOCUMENT'S OWN Compress, Decompress.
-/
namespace Go.Proofs.YtfcgdjgfdbcddaaDoor
open Go.RowKit
set_option maxRecDepth 100000
section
variable {a : Act} {x y : Operand} {op : Oper} {w : World}
theorem rem_ij {i j k : Nat} (h : k = i % j) (hj : 0 < j) (hi : i ≤ 1000000000000) (ho : op.op = .binOp .rem 3 x y 3) (hx : a.eval x = .int .i64 (i : Int)) (hy : a.eval y = .int .i64 (j : Int)) : (execOp a.eval op).run Tryd.prog w = .ok (.value (.int .i64 (k : Int))) w := by
 have hk : k ≤ i := by rw [h]; exact Nat.mod_le _ _
 have e : (i : Int).tmod (j : Int) = (k : Int) := by rw [Int.tmod_eq_emod_of_nonneg (by omega), h, Int.natCast_emod]
 have hw : IntKind.i64.wrap (k : Int) = (k : Int) := by rw [IntKind.wrap_i64]; omega
 have hz : ¬ (j : Int) = 0 := by omega
 clear h
 generalize (i : Int) = ii at *
 generalize (j : Int) = jj at *
 generalize (k : Int) = kk at *
 unfold execOp
 simp only [ho, hx, hy]
 go_simp
end
theorem results_row_slot7 {P : Program} {fn : Func} {q p : Tmp} {ty : TypeId} (h : fn.results = #[.cell p ty, .tmp q]) (tmps : Array Value) (w : World) (g : Nat) (t : TypeId) (cs : List Value) (d : TypeDesc) (v : Value)
  (hq : tmps.getD q undef = v) (hp : tmps.getD p undef = .pointer (some ⟨g, 0, none⟩)) (hg : Row w g t cs)
  (hu : P.underlying ty = some d) (hd : (match d with | .struct _ | .array _ _ => true | _ => false) = true) (hi : (P.info? ty).map (·.size) = some cs.length) :
  (results fn tmps).run P w = .ok (.tuple #[.agg cs.toArray, v]) w := by
 have hp' : tmps[p]?.getD undef = .pointer (some ⟨g, 0, none⟩) := by simpa using hp
 have hq' : tmps[q]?.getD undef = v := by simpa using hq
 simp [results, h, hp', hq', asAddr, run_loadVar_row w g t ty cs.toArray (0, 0) d hg hu hd (by simpa using hi)]
theorem ret_rs7 {P : Program} {f : Func} {a : Act} {q p : Tmp} {ty : TypeId} {d : TypeDesc} {post : Ending → World → Prop} {w : World} {g : Nat} {T : TypeId} {cs : List Value} {v : Value} (hf : f.results = #[.cell p ty, .tmp q]) (hdf : a.defers = []) (hq : a.tmps.getD q undef = v) (hp : a.tmps.getD p undef = .pointer (some ⟨g, 0, none⟩)) (hr : Row w g T cs)
  (hu : P.underlying ty = some d) (hd : (match d with | .struct _ | .array _ _ => true | _ => false) = true) (hi : (P.info? ty).map (·.size) = some cs.length) (h : post (.returned (.tuple #[.agg cs.toArray, v])) w) : bodyPost P f post .ret a w :=
 bodyPost_ret (v := .tuple #[.agg cs.toArray, v]) (results_row_slot7 hf _ _ g T cs d v hq hp hr hu hd hi) hdf h
/-- the answer is a polynomial and a code -/
def CodeIs (w : World) (p : Nat → Nat) (er : Int) (e : Ending) (w' : World) : Prop := e = .returned (.tuple #[polyV p, .int .i64 er]) ∧ Below w.heap.size w w'
end Go.Proofs.YtfcgdjgfdbcddaaDoor
