/-
  WORDS INSIDE A FENCE: a store of a row; codes and how far they have come.
-/
import Derived.RangeFuncNested
import Derived.RangeFuncBound
import Derived.RangeFuncCalls
import Derived.RangeFuncLeaves
import Derived.Shelf.Abstract
import Derived.Shelf.RegionOpen
import Derived.WalkKit
import Derived.OwnWalkIn
import Derived.TacticsInMore
import Derived.LoopNIn
import Derived.LoopIn
import Derived.RangeFuncBox
import Derived.RangeFuncWrites
import Derived.Maps.AppendAt
import Derived.Test.YtanpplniedphkaaDoorPa6
namespace Go.Proofs.YtanpplniedphkaaDoor
open Go.RowKit Go.Shelf
set_option maxRecDepth 100000
theorem wpIn_of_wp {n : Nat} {P : Program} {o : Oper} {a : Act} {w : World} {K : Act → World → Prop} {Q : Exit → Act → World → Prop} (hrow : ∀ row args w', (execOp a.eval o).run P w ≠ .ok (.row row args) w') (h : o.wp P a w K Q) : o.wpIn Fence.wide n P a w K Q := by
  refine ⟨fun f _ => trivial, ?_⟩
  have hs : o.semAt Fence.wide.round a.eval = execOp a.eval o := by
    show o.semAt none a.eval = _
    simp [Oper.semAt]
  rw [hs]
  unfold Oper.wp at h
  generalize (execOp a.eval o).run P w = r at h hrow
  cases r with
  | ok nx w' =>
    cases nx with
    | value v => exact h
    | skip => exact h
    | defer d => exact h
    | enter f args => exact ⟨fun hd => (by simp [Fence.wide] at hd), callsIn_wide.2 h⟩
    | row row args => exact absurd rfl (hrow row args w')
    | round => exact h.elim
    | _ => exact h.elim
  | halt c w' =>
    cases c with
    | panic v => exact h
    | _ => exact h.elim
/-- an operation that is walked as everywhere -/
theorem wlIn_plain {n : Nat} {P : Program} {ops : Array Oper} {Q : Exit → Act → World → Prop} {a : Act} {w : World} {rest : List Oper} {o : Oper} (hg : o.guard = none) (hrow : ∀ row args w', (execOp a.eval o).run P w ≠ .ok (.row row args) w')
    (h : ∀ K : Act → World → Prop, (∀ a w, wpListIn Fence.wide n P ops Q rest a w → K a w) → o.wp P a w K Q) : wpListIn Fence.wide n P ops Q (o :: rest) a w :=
  wpListIn_plain hg fun K hK => wpIn_of_wp hrow (h K hK)
/-- a store of a row -/
theorem wlIn_store_any {n : Nat} {P : Program} {ops : Array Oper} {rest : List Oper} {o : Oper} {a : Act} {w : World} {Q : Exit → Act → World → Prop} (hgd : o.guard = none) (ty : TypeId) (x y : Operand) (ho : o.op = .store ty x y)
    (g : Nat) (hx : a.eval x = .pointer (some ⟨g, 0, none⟩)) (ds : List Value) (hy : a.eval y = .agg ds.toArray)
    (t : TypeId) (cs : List Value) (hr : Row w g t cs) (hi : (P.info? ty).map (·.size) = some ds.length)
    (hold : cs.length = ds.length) (h1 : ∀ u ∈ ds, u.oneCell' = true)
    (h : ∀ w2, Row w2 g t ds → But w.heap.size g w w2 → w2.heap.size = w.heap.size → wpListIn Fence.wide n P ops Q rest (a.put o.dst undef) w2) : wpListIn Fence.wide n P ops Q (o :: rest) a w := by
  refine wpListIn_plain hgd fun K hK => ?_
  refine ⟨fun f _ => trivial, ?_⟩
  have hs : o.semAt Fence.wide.round a.eval = execOp a.eval o := by
    show o.semAt none a.eval = _
    simp [Oper.semAt]
  rw [hs]
  unfold execOp
  simp only [ho, hx, hy, Instr.storeAt, Instr.sureAddr, Sem.run_bind, Sem.run_pure, Result.andThen_ok, run_storeVar_row w g t ty cs.toArray ds.toArray hr (by simpa using hi) (by simpa using hold) (all_oneCell_toArray h1)]
  exact hK _ _ (h _ (hr.setRow ds) ⟨rfl, rfl, rfl, Nat.le_of_eq (by simp), fun k _ hk => Go.setRow_other w g k _ hk⟩ (by simp))
/-! codes, and how far they have come -/
abbrev C32 := { x : Nat // x < 4294967296 }
def at32 (bs : List Nat) (t : Nat) : C32 := ⟨(bs.getD (t / 64) 0 + t % 64) % 4294967296, Nat.mod_lt _ (by omega)⟩
def upC (ok : Nat → Bool) (bs : List Nat) (t : Nat) : List C32 := ((List.range t).map (at32 bs)).filter (fun x => ok x.1)
theorem upC_yes {ok : Nat → Bool} {bs : List Nat} {t : Nat} (h : ok (at32 bs t).1 = true) : upC ok bs (t + 1) = upC ok bs t ++ [at32 bs t] := by
  unfold upC
  rw [List.range_succ, List.map_append, List.filter_append]
  simp [h]
theorem upC_no {ok : Nat → Bool} {bs : List Nat} {t : Nat} (h : ok (at32 bs t).1 = false) : upC ok bs (t + 1) = upC ok bs t := by
  unfold upC
  rw [List.range_succ, List.map_append, List.filter_append]
  simp [h]
theorem upC_le {ok : Nat → Bool} {bs : List Nat} {t u : Nat} (h : t ≤ u) : upC ok bs t <+: upC ok bs u := by
  induction u with
  | zero =>
    obtain rfl : t = 0 := by omega
    exact List.prefix_refl _
  | succ u ih =>
    by_cases e : t = u + 1
    · subst e
      exact List.prefix_refl _
    · refine (ih (by omega)).trans ?_
      cases hk : ok (at32 bs u).1 with
      | true => rw [upC_yes hk]; exact List.prefix_append _ _
      | false => rw [upC_no hk]; exact List.prefix_refl _
theorem at32_eq {bs : List Nat} {k j : Nat} (hj : j < 64) (b : Nat) (hb : bs.getD k 0 = b) (hb2 : b + 64 < 4294967296) : (at32 bs (64 * k + j)).1 = b + j := by
  show (bs.getD ((64 * k + j) / 64) 0 + (64 * k + j) % 64) % 4294967296 = b + j
  have e1 : (64 * k + j) / 64 = k := by omega
  have e2 : (64 * k + j) % 64 = j := by omega
  rw [e1, e2, hb]
  omega
theorem grow_of {w w' : World} (h : Below w.heap.size w w') : w.grownBy w' none := ⟨h.os, h.tape, h.output, h.size, fun k hk _ => h.block k hk⟩
theorem upC_length {ok : Nat → Bool} {bs : List Nat} {t : Nat} : (upC ok bs t).length ≤ t := by
  unfold upC
  refine Nat.le_trans (List.length_filter_le _ _) ?_
  simp
end Go.Proofs.YtanpplniedphkaaDoor
