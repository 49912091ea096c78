/-
 WORDS for walks of package disk: values at a slot, stores of one cell; regions within a round of a range over a function.
-/
import Derived.RangeFuncNested
import Derived.RangeFuncBound
import Derived.RangeFuncCalls
import Derived.RangeFuncLeaves
import Derived.WalkKit
import Derived.OwnWalkIn
import Derived.TacticsInMore
import Derived.LoopNIn
import Derived.LoopIn
import Derived.RangeFuncBox
import Derived.RangeFuncWrites
import Derived.RangeFuncRecord
import Derived.Maps.AppendAt
import Derived.Deep.AppendLies
import Derived.Test.YtpajdmbajopofaaDk2
namespace Go.Proofs.Ytpajdmbajopofaa
open Go.RowKit
set_option maxRecDepth 100000
attribute [local go_sem] Oper.semAt_some
section
variable {P : Program} {ops : Array Oper} {w : World} {Q : Exit → Act → World → Prop} {a : Act} {o : Oper} {rest : List Oper}
theorem wl_value (v : Value) (hgd : o.guard = none) (hrun : (execOp a.eval o).run P w = .ok (.value v) w) (h : wpList P ops Q rest (a.put o.dst v) w) : wpList P ops Q (o :: rest) a w := by
 refine wpList_plain hgd fun K hK => ?_
 unfold Oper.wp
 rw [hrun]
 exact hK _ _ h
theorem wl_valueW (v : Value) (w' : World) (hgd : o.guard = none) (hrun : (execOp a.eval o).run P w = .ok (.value v) w') (h : wpList P ops Q rest (a.put o.dst v) w') : wpList P ops Q (o :: rest) a w := by
 refine wpList_plain hgd fun K hK => ?_
 unfold Oper.wp
 rw [hrun]
 exact hK _ _ h
end
section
variable {ops : Array Oper} {rest : List Oper} {o : Oper} {a : Act} {w : World} {Q : Exit → Act → World → Prop}
theorem wl_at (d : Nat) (hd : o.dst = some d) (v : Value) (hgd : o.guard = none) (hrun : (execOp a.eval o).run Try.prog w = .ok (.value v) w) {a2 : Act} (h : wpList Try.prog ops Q rest a2 w) (ha : a.put (some d) v = a2 := by ((try simp only [Act.put, arr9, hd9, tl9]); rfl)) : wpList Try.prog ops Q (o :: rest) a w := wl_value v hgd hrun (by rw [hd, ha]; exact h)
end
section
variable {P : Program} {md : Region.Mode} {ops : Array Oper} {Q : Exit → Act → World → Prop} {S : World → Prop} {fuel : Nat} {listed : Array Bool} {a : Act} {w : World}
theorem held_three (i j k : Nat) (hr : Region.ready md ops listed = [i, j, k]) (h1 : HStep P md ops Q S fuel listed a w i) (h2 : HStep P md ops Q S fuel listed a w j) (h3 : HStep P md ops Q S fuel listed a w k) : wpAnyH P md ops Q S (fuel + 1) listed a w :=
 wpAnyH_all hr (by simp) fun m hm => by
  simp only [List.mem_cons, List.not_mem_nil, or_false] at hm
  rcases hm with rfl | rfl | rfl
  ·exact h1
  ·exact h2
  ·exact h3
end
theorem wl_wanted {P : Program} {ops : Array Oper} {rest : List Oper} {o : Oper} {a : Act} {w : World} {Q : Exit → Act → World → Prop} (hw : Region.wanted o (yielded ops a.tmps) = true)
  (h : ∀ K : Act → World → Prop, (∀ a w, wpList P ops Q rest a w → K a w) → o.wp P a w K Q) : wpList P ops Q (o :: rest) a w :=
 wpList_step fun K hK => by rw [if_pos hw]; exact h K hK
/-- a load of a row, whatever its guard -/
theorem wl_loadW {P : Program} {ops : Array Oper} {rest : List Oper} {o : Oper} {a : Act} {w : World} {Q : Exit → Act → World → Prop} (ty : TypeId) (x : Operand) (ho : o.op = .load ty x)
  (g : Nat) (hx : a.eval x = .pointer (some ⟨g, 0, none⟩)) (t : TypeId) (cs : List Value) (d : TypeDesc) (hw : Region.wanted o (yielded ops a.tmps) = true) (hr : Row w g t cs)
  (hu : P.underlying ty = some d) (hd : (match d with | .struct _ | .array _ _ => true | _ => false) = true) (hi : (P.info? ty).map (·.size) = some cs.length)
  (h : wpList P ops Q rest (a.put o.dst (.agg cs.toArray)) w) : wpList P ops Q (o :: rest) a w :=
 wl_wanted hw fun _ hK => wp_load_row ty x ho g hx t cs.toArray (0, 0) d hr hu hd (by simpa using hi) (hK _ _ h)
section
variable {ops : Array Oper} {rest : List Oper} {o : Oper} {a : Act} {w : World} {Q : Exit → Act → World → Prop}
theorem wl_atW (d : Nat) (hd : o.dst = some d) (v : Value) (hw : Region.wanted o (yielded ops a.tmps) = true) (hrun : (execOp a.eval o).run Try.prog w = .ok (.value v) w) {a2 : Act} (h : wpList Try.prog ops Q rest a2 w) (ha : a.put (some d) v = a2 := by ((try simp only [Act.put, arr9, hd9, tl9]); rfl)) : wpList Try.prog ops Q (o :: rest) a w := by
 refine wl_wanted hw fun K hK => ?_
 unfold Oper.wp
 rw [hrun, Oper.upon_value, hd, ha]
 exact hK _ _ h
end
theorem wl_store1 {P : Program} {ops : Array Oper} {rest : List Oper} {o : Oper} {a : Act} {w : World} {Q : Exit → Act → World → Prop} (hgd : o.guard = none) (hd : o.dst = none) (w' : World) (hrun : (execOp a.eval o).run P w = .ok .skip w')
  (h : ∀ w2, w2 = w' → wpList P ops Q rest a w2) : wpList P ops Q (o :: rest) a w :=
 wpList_plain hgd fun _ hK => by
  unfold Oper.wp
  rw [hrun]
  have := hK _ _ (h _ rfl)
  simpa [Oper.upon, Act.put, hd] using this
theorem wpIn_of_wp {n : Nat} {P : Program} {o : Oper} {a : Act} {w : World} {K : Act → World → Prop} {Q : Exit → Act → World → Prop} (hrow : ∀ row args w', (execOp a.eval o).run P w ≠ .ok (.row row args) w') (h : o.wp P a w K Q) : o.wpIn Fence.wide n P a w K Q := by
 refine ⟨fun f _ => trivial, ?_⟩
 have hs : o.semAt Fence.wide.round a.eval = execOp a.eval o := by
  show o.semAt none a.eval = _
  simp [Oper.semAt]
 rw [hs]
 unfold Oper.wp at h
 generalize (execOp a.eval o).run P w = r at h hrow
 cases r with
 | ok nx w' =>
  cases nx with
  | value v => exact h
  | skip => exact h
  | defer d => exact h
  | enter f args => exact ⟨fun hd => (by simp [Fence.wide] at hd), callsIn_wide.2 h⟩
  | row row args => exact absurd rfl (hrow row args w')
  | round => exact h.elim
  | _ => exact h.elim
 | halt c w' =>
  cases c with
  | panic v => exact h
  | _ => exact h.elim
/-- an operation that is walked as everywhere -/
theorem wlIn_plain {n : Nat} {P : Program} {ops : Array Oper} {Q : Exit → Act → World → Prop} {a : Act} {w : World} {rest : List Oper} {o : Oper} (hg : o.guard = none) (hrow : ∀ row args w', (execOp a.eval o).run P w ≠ .ok (.row row args) w')
  (h : ∀ K : Act → World → Prop, (∀ a w, wpListIn Fence.wide n P ops Q rest a w → K a w) → o.wp P a w K Q) : wpListIn Fence.wide n P ops Q (o :: rest) a w :=
 wpListIn_plain hg fun K hK => wpIn_of_wp hrow (h K hK)
/-- a store of a row -/
theorem wlIn_store_any {n : Nat} {P : Program} {ops : Array Oper} {rest : List Oper} {o : Oper} {a : Act} {w : World} {Q : Exit → Act → World → Prop} (hgd : o.guard = none) (ty : TypeId) (x y : Operand) (ho : o.op = .store ty x y)
  (g : Nat) (hx : a.eval x = .pointer (some ⟨g, 0, none⟩)) (ds : List Value) (hy : a.eval y = .agg ds.toArray)
  (t : TypeId) (cs : List Value) (hr : Row w g t cs) (hi : (P.info? ty).map (·.size) = some ds.length)
  (hold : cs.length = ds.length) (h1 : ∀ u ∈ ds, u.oneCell' = true)
  (h : ∀ w2, Row w2 g t ds → But w.heap.size g w w2 → w2.heap.size = w.heap.size → wpListIn Fence.wide n P ops Q rest (a.put o.dst undef) w2) : wpListIn Fence.wide n P ops Q (o :: rest) a w := by
 refine wpListIn_plain hgd fun K hK => ?_
 refine ⟨fun f _ => trivial, ?_⟩
 have hs : o.semAt Fence.wide.round a.eval = execOp a.eval o := by
  show o.semAt none a.eval = _
  simp [Oper.semAt]
 rw [hs]
 unfold execOp
 simp only [ho, hx, hy, Instr.storeAt, Instr.sureAddr, Sem.run_bind, Sem.run_pure, Result.andThen_ok, run_storeVar_row w g t ty cs.toArray ds.toArray hr (by simpa using hi) (by simpa using hold) (all_oneCell_toArray h1)]
 exact hK _ _ (h _ (hr.setRow ds) ⟨rfl, rfl, rfl, Nat.le_of_eq (by simp), fun k _ hk => Go.setRow_other w g k _ hk⟩ (by simp))
theorem grow_of {w w' : World} (h : Below w.heap.size w w') : w.grownBy w' none := ⟨h.os, h.tape, h.output, h.size, fun k hk _ => h.block k hk⟩
theorem keeps_below {B : Nat} {W W' : World} (h : Below W.heap.size W W') : KeepsFrom B W W' :=
 ⟨h.size, fun k _ _ hk _ => (h.block k (Array.getElem?_eq_some_iff.1 hk).1).trans hk⟩
section
variable {P : Program} {ops : Array Oper} {Q : Exit → Act → World → Prop} {l n : Nat}
def plainOp (o : Oper) : Bool := match o.op with
  | .defer _ => false
  | _ => true
theorem plainOp_spec {o : Oper} (h : plainOp o = true) : ∀ c, o.op ≠ .defer c := fun c e => by
  unfold plainOp at h
  rw [e] at h
  cases h
theorem oper_inRound {o : Oper} {a : Act} {w : World} {K : Act → World → Prop} (hd : plainOp o = true) (h : o.wp P a w K Q) : o.wpIn (Fence.wide.inRound l) n P a w K Q := by
  refine ⟨fun f _ => trivial, ?_⟩
  rw [Oper.semAt_eq _ _ _ (plainOp_spec hd)]
  unfold Oper.wp at h
  generalize (execOp a.eval o).run P w = r at h
  cases r with
  | ok nx w' =>
    cases nx with
    | value v => exact h
    | skip => exact h
    | defer d => exact h
    | enter f args => exact ⟨fun hd => (by simp [Fence.wide] at hd), CallsIn.inRound l (callsIn_wide.2 h)⟩
    | row row args =>
      refine ⟨fun hd => (by simp [Fence.wide] at hd), fun c cs _ => ?_⟩
      obtain ⟨v, w2, r, s⟩ := h c cs
      exact ⟨v, w2, r, stepsIn_wide.2 s⟩
    | _ => exact h.elim
  | halt c w' =>
    cases c with
    | panic v => exact h
    | _ => exact h.elim
theorem wpOp_inRound (hp : ops.toList.all plainOp = true) (hno : ¬ LetsOut Q) {i : Nat} {a : Act} {w : World} {K : Act → World → Prop} (h : wpOp P ops Q i K a w) : wpOpIn (Fence.wide.inRound l) n P ops Q i K a w := by
  unfold wpOp at h
  unfold wpOpIn
  cases ho : ops[i]? with
  | none => rw [ho] at h; exact h
  | some o =>
    rw [ho] at h
    simp only at h ⊢
    split
    · rename_i hw
      rw [if_pos hw] at h
      refine oper_inRound (List.all_eq_true.1 hp o ?_) (h.resolve_right fun h2 => hno h2.2)
      exact List.mem_of_getElem? (by rw [← Array.getElem?_toList] at ho; exact ho)
    · rename_i hw
      rw [if_neg hw] at h
      exact ⟨fun f _ => trivial, h⟩
theorem wpAny_inRound (hp : ops.toList.all plainOp = true) (hno : ¬ LetsOut Q) {md : Region.Mode} : ∀ (fuel : Nat) (listed : Array Bool) (a : Act) (w : World), wpAny P md ops Q fuel listed a w → wpAnyIn (Fence.wide.inRound l) n P md ops Q fuel listed a w
  | 0, _, _, _, h => h
  | fuel + 1, _, _, _, h => ⟨h.1, fun i hi => wpOpIn_mono (fun a' w' h' => wpAny_inRound hp hno fuel _ a' w' h') (wpOp_inRound hp hno (h.2 i hi))⟩
/-- a region that draws its order, within a round: by the laws outside -/
theorem region_inRound {S : World → Prop} {id : Nat} {a : Act} {w : World} (hm : P.follows .mixedOrders = true) (hp : ops.toList.all plainOp = true) (hno : ¬ LetsOut Q) (hS : S w.drew)
    (h : S w.drew → wpAnyH P .any ops Q S ops.size (Array.replicate ops.size false) a w.drew) : (Code.region id ops true).wpIn (Fence.wide.inRound l) n P Q a w :=
  wpIn_region_any hm (wpAny_inRound hp hno _ _ _ _ (wpAny_of_held _ _ _ _ (h hS)))
theorem wpList_inRound (hno : ¬ LetsOut Q) : ∀ (r : List Oper) (a : Act) (w : World), r.all plainOp = true → wpList P ops Q r a w → wpListIn (Fence.wide.inRound l) n P ops Q r a w
  | [], _, _, _, h => h
  | o :: r, a, w, hp, h => by
    simp only [List.all_cons, Bool.and_eq_true] at hp
    unfold wpList at h
    unfold wpListIn
    split
    · rename_i hw
      rw [if_pos hw] at h
      exact Oper.wpIn_mono (fun a' w' h' => wpList_inRound hno r a' w' hp.2 h') (oper_inRound hp.1 (h.resolve_right fun h2 => hno h2.2))
    · rename_i hw
      rw [if_neg hw] at h
      exact ⟨fun f _ => trivial, wpList_inRound hno r _ w hp.2 h⟩
/-- a region whose order is fixed, likewise -/
theorem list_inRound {r : List Oper} {id : Nat} {a : Act} {w : World} (hp : r.all plainOp = true) (hno : ¬ LetsOut Q) (h : wpList P r.toArray Q r a w) : (Code.region id r.toArray false).wpIn (Fence.wide.inRound l) n P Q a w :=
  wpIn_region_lit (wpList_inRound hno r a w hp h)
end
/-- a load out of the middle of a row, inside a fence -/
theorem wlIn_load_mid {n : Nat} {P : Program} {ops : Array Oper} {rest : List Oper} {o : Oper} {a : Act} {w : World} {Q : Exit → Act → World → Prop} (hgd : o.guard = none) (ty : TypeId) (x : Operand) (ho : o.op = .load ty x)
    (b off : Nat) (hx : a.eval x = .pointer (some ⟨b, off, none⟩)) (cs : List Value) (d : TypeDesc) (hc : w.rangeAt b off cs)
    (hu : P.underlying ty = some d) (hd : d.isRow = true) (hi : (P.info? ty).map (·.size) = some cs.length)
    (h : wpListIn Fence.wide n P ops Q rest (a.put o.dst (.agg cs.toArray)) w) : wpListIn Fence.wide n P ops Q (o :: rest) a w := by
  refine wpListIn_plain hgd fun K hK => ?_
  refine ⟨fun f _ => trivial, ?_⟩
  have hs : o.semAt Fence.wide.round a.eval = execOp a.eval o := by
    show o.semAt none a.eval = _
    simp [Oper.semAt]
  rw [hs]
  unfold execOp
  simp only [ho, hx, Instr.loadAt, Instr.sureAddr, Sem.run_bind, Sem.run_pure, Result.andThen_ok, run_loadVar_mid w b off ty cs d hc hu hd hi]
  exact hK _ _ h
theorem notcells_ne {W : World} {g B : Nat} {T : TypeId} {cs : List Value} {row : Option Nat} (h : Row W g T cs) (hr : ∀ r, row = some r → B ≤ r ∧ ∃ o : Obj, W.heap[r]? = some o ∧ o.isCells = false) : some g ≠ row := by
  intro e
  obtain ⟨_, o, ho, hc⟩ := hr g e.symm
  rw [show W.heap[g]? = _ from h] at ho
  cases ho
  cases hc
theorem Boxed.row1 {W : World} {B : Nat} {t : TypeId} {v : Value} (h : Boxed W B t v) : Row W B t [v] := h
/-- a row is stored, within a round -/
theorem wlIn_store_anyR {l n : Nat} {P : Program} {ops : Array Oper} {rest : List Oper} {o : Oper} {a : Act} {w : World} {Q : Exit → Act → World → Prop} (hgd : o.guard = none) (ty : TypeId) (x y : Operand) (ho : o.op = .store ty x y)
    (g : Nat) (hx : a.eval x = .pointer (some ⟨g, 0, none⟩)) (ds : List Value) (hy : a.eval y = .agg ds.toArray)
    (t : TypeId) (cs : List Value) (hr : Row w g t cs) (hi : (P.info? ty).map (·.size) = some ds.length)
    (hold : cs.length = ds.length) (h1 : ∀ u ∈ ds, u.oneCell' = true)
    (h : ∀ w2, Row w2 g t ds → But w.heap.size g w w2 → w2.heap.size = w.heap.size → wpListIn (Fence.wide.inRound l) n P ops Q rest (a.put o.dst undef) w2) : wpListIn (Fence.wide.inRound l) n P ops Q (o :: rest) a w :=
  wpListIn_plain hgd fun K hK => oper_inRound (by unfold plainOp; rw [ho]) (wp_store_row ty x y ho g ds.toArray hx hy t cs.toArray hr (by simpa using hi) (by simpa using hold) (all_oneCell_toArray h1)
    (hK _ _ (h _ (hr.setRow ds) ⟨rfl, rfl, rfl, Nat.le_of_eq (by simp), fun k _ hk => Go.setRow_other w g k _ hk⟩ (by simp))))
theorem row_put {W : World} {B D : Nat} {t : TypeId} {cs : List Value} (h : Row W B t cs) (hD : B ≠ D) (o : Obj) : Row (W.putObj D o) B t cs := by
  unfold Row at h ⊢
  rw [← h]
  simp [World.putObj, Ne.symm hD]
theorem box_put {W : World} {B D : Nat} {t : TypeId} {v : Value} (h : Boxed W B t v) (hD : B ≠ D) (o : Obj) : Boxed (W.putObj D o) B t v := by
 unfold Boxed at h ⊢
 rw [← h]
 simp [World.putObj, Ne.symm hD]
theorem results_cell1 {P : Program} {fn : Func} {p : Tmp} {tp : TypeId} (h : fn.results = #[.cell p tp]) (tmps : Array Value) (w : World) (a : Addr) (va : Value)
  (hp : tmps.getD p undef = .pointer (some a)) (ha : (loadVar tp a).run P w = .ok va w) : (results fn tmps).run P w = .ok va w := by
 simp only [results, h]
 simp only [Array.getD_eq_getD_getElem?] at hp
 simp [Sem.run_bind, Result.andThen, hp, ha, asAddr]
end Go.Proofs.Ytpajdmbajopofaa
