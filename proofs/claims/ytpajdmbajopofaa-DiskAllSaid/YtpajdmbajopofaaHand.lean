/-
 STEPS BY HAND in a region that draws its order, under a condition on the world: a load of a whole row, a value, a call that is alone.
-/
import Derived.Test.YtpajdmbajopofaaMA
import Derived.Deep.RegionHeld3
namespace Go.Proofs.Ytpajdmbajopofaa
open Go.RowKit
set_option maxRecDepth 100000
theorem arr9 {α : Type} (l : List α) (i : Nat) (a : α) : l.toArray.setIfInBounds i a = (l.set i a).toArray := List.setIfInBounds_toArray ..
theorem hd9 {α : Type} (a b : α) (l : List α) : (a :: l).set 0 b = b :: l := rfl
theorem tl9 {α : Type} (a b : α) (l : List α) (i : Nat) : (a :: l).set (i + 1) b = a :: l.set i b := rfl
section
variable {P : Program} {md : Region.Mode} {ops : Array Oper} {Q : Exit → Act → World → Prop} {S : World → Prop} {fuel : Nat} {listed : Array Bool} {a : Act} {w : World}

/-- what may be taken first: the closed looks -/
def mayTake (md : Region.Mode) (ops : Array Oper) (listed : Array Bool) (i : Nat) : Bool := Region.noSelect ops && Region.free md ops listed i && (Region.ready md ops listed).contains i

theorem held_load (i : Nat) (ty : TypeId) (x : Operand) (dst : Option Tmp) (hside : mayTake md ops listed i = true)
  (hop : (ops[i]?).map (fun o => (o.op, o.dst)) = some (.load ty x, dst)) (hw : (ops[i]?).map (fun o => Region.wanted o (yielded ops a.tmps)) = some true)
  (b o : Nat) (hx : a.eval x = .pointer (some ⟨b, o, none⟩)) (cs : List Value) (d : TypeDesc) (hS : ∀ w, S w → w.rangeAt b o cs)
  (hu : P.underlying ty = some d) (hd : d.isRow = true) (hi : (P.info? ty).map (·.size) = some cs.length)
  (hQ : ∀ c a v w, Q (.panic c) (a.put dst v) w → Q (.panic c) a w) (hSw : S w)
  (h : wpAnyH P md ops Q S fuel (listed.setIfInBounds i true) (a.put dst (.agg cs.toArray)) w) : wpAnyH P md ops Q S (fuel + 1) listed a w := by
 cases ho : ops[i]? with
 | none => rw [ho] at hop; cases hop
 | some op =>
  rw [ho] at hop hw
  simp only [Option.map_some, Option.some.injEq, Prod.mk.injEq] at hop hw
  obtain ⟨h1, h2⟩ := hop
  simp only [mayTake, Bool.and_eq_true] at hside
  subst h2
  exact wpAnyH_take ho hside.1.1 hside.1.2 hside.2 (fun c a w => hQ c a _ w) (yieldsIf_load_mid hw ty x h1 b o hx cs d hS hu hd hi) hSw h

theorem held_value (i : Nat) (opv : Op) (ty : TypeId) (dst : Option Tmp) (v : Value) (hside : mayTake md ops listed i = true)
  (hop : (ops[i]?).map (fun o => (o.op, o.type, o.dst)) = some (opv, ty, dst)) (hw : (ops[i]?).map (fun o => Region.wanted o (yielded ops a.tmps)) = some true)
  (hrun : ∀ w, S w → (execOp a.eval ⟨dst, opv, ty, "", #[], none⟩).run P w = .ok (.value v) w)
  (hQ : ∀ c a v w, Q (.panic c) (a.put dst v) w → Q (.panic c) a w) (hSw : S w)
  (h : wpAnyH P md ops Q S fuel (listed.setIfInBounds i true) (a.put dst v) w) : wpAnyH P md ops Q S (fuel + 1) listed a w := by
 cases ho : ops[i]? with
 | none => rw [ho] at hop; cases hop
 | some op =>
  rw [ho] at hop hw
  simp only [Option.map_some, Option.some.injEq, Prod.mk.injEq] at hop hw
  simp only [mayTake, Bool.and_eq_true] at hside
  obtain ⟨dst', op', ty', pos', after', guard'⟩ := op
  obtain ⟨rfl, rfl, rfl⟩ := hop
  refine wpAnyH_take ho hside.1.1 hside.1.2 hside.2 (fun c a w => hQ c a _ w) (.inl ⟨hw, fun w hw' => ?_⟩) hSw h
  rw [← hrun w hw']
  unfold execOp
  rfl

theorem hdv0 (i : Nat) (dst : Tmp) (v : Value) {opv : Op} {ty : TypeId} {L2 : Array Bool} {a2 : Act} (hop : (ops[i]?).map (fun o => (o.op, o.type, o.dst)) = some (opv, ty, some dst))
 (hSw : S w) (h : wpAnyH P md ops Q S fuel L2 a2 w)
 (hL : listed.setIfInBounds i true = L2 := by ((try simp only [arr9, hd9, tl9]); rfl)) (ha : a.put (some dst) v = a2 := by ((try simp only [Act.put, arr9, hd9, tl9]); rfl))
 (hrun : ∀ w, S w → (execOp a.eval ⟨some dst, opv, ty, "", #[], none⟩).run P w = .ok (.value v) w := by intro w hS; first | kernel_rfl | go_simp)
 (hside : mayTake md ops listed i = true := by kernel_rfl) (hw : (ops[i]?).map (fun o => Region.wanted o (yielded ops a.tmps)) = some true := by kernel_rfl)
 (hQ : ∀ c a v w, Q (.panic c) (a.put (some dst) v) w → Q (.panic c) a w := by exact fun _ _ _ _ h => h) : wpAnyH P md ops Q S (fuel + 1) listed a w := held_value i opv ty (some dst) v hside hop hw hrun hQ hSw (by subst hL; subst ha; exact h)
theorem hdv (i : Nat) (dst : Tmp) (v : Value) {opv : Op} {ty : TypeId} {L2 : Array Bool} {a2 : Act} (hop : (ops[i]?).map (fun o => (o.op, o.type, o.dst)) = some (opv, ty, some dst))
 (hrun : ∀ w, S w → (execOp a.eval ⟨some dst, opv, ty, "", #[], none⟩).run P w = .ok (.value v) w) (hSw : S w) (h : wpAnyH P md ops Q S fuel L2 a2 w)
 (hL : listed.setIfInBounds i true = L2 := by ((try simp only [arr9, hd9, tl9]); rfl)) (ha : a.put (some dst) v = a2 := by ((try simp only [Act.put, arr9, hd9, tl9]); rfl))
 (hside : mayTake md ops listed i = true := by kernel_rfl) (hw : (ops[i]?).map (fun o => Region.wanted o (yielded ops a.tmps)) = some true := by kernel_rfl)
 (hQ : ∀ c a v w, Q (.panic c) (a.put (some dst) v) w → Q (.panic c) a w := by exact fun _ _ _ _ h => h) : wpAnyH P md ops Q S (fuel + 1) listed a w := hdv0 i dst v hop hSw h hL ha hrun hside hw hQ

/-- a call that alone may come up -/
theorem held_call (i : Nat) (opv : Op) (ty : TypeId) (dst : Option Tmp) (f : FuncId) (args : Array Value) (hr : Region.ready md ops listed = [i])
  (hop : (ops[i]?).map (fun o => (o.op, o.type, o.dst)) = some (opv, ty, dst)) (hw : (ops[i]?).map (fun o => Region.wanted o (yielded ops a.tmps)) = some true)
  (hrun : (execOp a.eval ⟨dst, opv, ty, "", #[], none⟩).run P w = .ok (.enter f args) w)
  (hc : Calls P f args w fun e w' => ∃ v, e = .returned v ∧ S w' ∧ wpAnyH P md ops Q S fuel (listed.setIfInBounds i true) (a.put dst v) w') : wpAnyH P md ops Q S (fuel + 1) listed a w := by
 refine wpAnyH_ready hr (by simp) ?_
 cases ho : ops[i]? with
 | none => rw [ho] at hop; cases hop
 | some op =>
  rw [ho] at hop hw
  simp only [Option.map_some, Option.some.injEq, Prod.mk.injEq] at hop hw
  obtain ⟨dst', op', ty', pos', after', guard'⟩ := op
  obtain ⟨rfl, rfl, rfl⟩ := hop
  refine AllReadyH.cons ho (fun K hK => ?_) AllReadyH.nil
  rw [if_pos hw]
  have hrun' : (execOp a.eval ⟨dst', op', ty', pos', after', guard'⟩).run P w = .ok (.enter f args) w := by
   rw [← hrun]
   unfold execOp
   rfl
  unfold Oper.wp
  rw [hrun', Oper.upon_enter]
  refine hc.mono fun e w' he => ?_
  obtain ⟨v, rfl, h1, h2⟩ := he
  exact hK.out _ _ h1 fun _ => h2

/-- '==' of two arrays -/
theorem run_eql_agg {x y : Operand} {ρ : Operand → Value} {p q : Array Value} {T U ty : TypeId} {d : Option Tmp} {r : Bool} (hg : P.eqGuardType P.depth T = false) (heq : (Op.equalIn 10000 T (.agg p) (.agg q)).run P w = .ok r w) (hx : ρ x = .agg p) (hy : ρ y = .agg q) :
  (execOp ρ ⟨d, .binOp .eql T x y U, ty, "", #[], none⟩).run P w = .ok (.value (.bool r)) w := by
 have hbin : (binOp .eql T (.agg p) (.agg q)).run P w = .ok (.bool r) w := by
  have e : binOp .eql T (.agg p) (.agg q) = (do pure (.bool (← Op.equal T (.agg p) (.agg q)))) := by rfl
  have e2 : Op.equal T (.agg p) (.agg q) = Op.equalIn 10000 T (.agg p) (.agg q) := by rfl
  rw [e, e2, Sem.run_bind, heq]
  rfl
 have hgd : (eqGuard .eql T x y (.agg p) (.agg q)).run P w = .ok () w := by
  unfold eqGuard
  simp [go_sem, hg]
 unfold execOp
 simp only [hx, hy, Sem.run_bind, hgd, hbin, Result.andThen_ok]
 rfl
/-- s[:j] -/
theorem run_slice_op {t ty : TypeId} {x hi : Operand} {ρ : Operand → Value} {u v h : Value} {d : Option Tmp} (hx : ρ x = u ∧ ρ hi = h) (hrun : (Instr.sliceAt t u none (some h) none).run P w = .ok v w) :
  (execOp ρ ⟨d, .slice t x none (some hi) none, ty, "", #[], none⟩).run P w = .ok (.value v) w := by
 obtain ⟨rfl, rfl⟩ := hx
 unfold execOp
 simp only [Option.map_some, Option.map_none, Sem.run_bind, hrun, Result.andThen_ok]
 rfl
/-- s[i:] -/
theorem run_slice_op_lo {t ty : TypeId} {x lo : Operand} {ρ : Operand → Value} {u v h : Value} {d : Option Tmp} (hx : ρ x = u ∧ ρ lo = h) (hrun : (Instr.sliceAt t u (some h) none none).run P w = .ok v w) :
  (execOp ρ ⟨d, .slice t x (some lo) none none, ty, "", #[], none⟩).run P w = .ok (.value v) w := by
 obtain ⟨rfl, rfl⟩ := hx
 unfold execOp
 simp only [Option.map_some, Option.map_none, Sem.run_bind, hrun, Result.andThen_ok]
 rfl
/-- one operation that may come up now, carried out; S is shown anew behind it -/
def HStep (P : Program) (md : Region.Mode) (ops : Array Oper) (Q : Exit → Act → World → Prop) (S : World → Prop) (fuel : Nat) (listed : Array Bool) (a : Act) (w : World) (i : Nat) : Prop :=
 wpOp P ops Q i (fun a' w' => S w' ∧ wpAnyH P md ops Q S fuel (listed.setIfInBounds i true) a' w') a w
theorem held_one (i : Nat) (hr : Region.ready md ops listed = [i]) (h : HStep P md ops Q S fuel listed a w i) : wpAnyH P md ops Q S (fuel + 1) listed a w :=
 wpAnyH_all hr (by simp) fun j hj => by
  simp only [List.mem_cons, List.not_mem_nil, or_false] at hj
  subst hj; exact h
theorem held_two (i j : Nat) (hr : Region.ready md ops listed = [i, j]) (h1 : HStep P md ops Q S fuel listed a w i) (h2 : HStep P md ops Q S fuel listed a w j) : wpAnyH P md ops Q S (fuel + 1) listed a w :=
 wpAnyH_all hr (by simp) fun k hk => by
  simp only [List.mem_cons, List.not_mem_nil, or_false] at hk
  rcases hk with rfl | rfl
  ·exact h1
  ·exact h2
theorem step_value (i : Nat) (opv : Op) (ty : TypeId) (dst : Option Tmp) (v : Value) (w' : World)
  (hop : (ops[i]?).map (fun o => (o.op, o.type, o.dst)) = some (opv, ty, dst)) (hw : (ops[i]?).map (fun o => Region.wanted o (yielded ops a.tmps)) = some true)
  (hrun : (execOp a.eval ⟨dst, opv, ty, "", #[], none⟩).run P w = .ok (.value v) w') (hS : S w')
  (h : wpAnyH P md ops Q S fuel (listed.setIfInBounds i true) (a.put dst v) w') : HStep P md ops Q S fuel listed a w i := by
 unfold HStep
 cases ho : ops[i]? with
 | none => rw [ho] at hop; cases hop
 | some op =>
  rw [ho] at hop hw
  simp only [Option.map_some, Option.some.injEq, Prod.mk.injEq] at hop hw
  obtain ⟨dst', op', ty', pos', after', guard'⟩ := op
  obtain ⟨rfl, rfl, rfl⟩ := hop
  have hrun' : (execOp a.eval ⟨dst', op', ty', pos', after', guard'⟩).run P w = .ok (.value v) w' := by
   rw [← hrun]
   unfold execOp
   rfl
  refine wpOp_step ho fun K' hK => ?_
  rw [if_pos hw]
  unfold Oper.wp
  rw [hrun']
  exact hK _ _ ⟨hS, h⟩
theorem step_call (i : Nat) (opv : Op) (ty : TypeId) (dst : Option Tmp) (f : FuncId) (args : Array Value)
  (hop : (ops[i]?).map (fun o => (o.op, o.type, o.dst)) = some (opv, ty, dst)) (hw : (ops[i]?).map (fun o => Region.wanted o (yielded ops a.tmps)) = some true)
  (hrun : (execOp a.eval ⟨dst, opv, ty, "", #[], none⟩).run P w = .ok (.enter f args) w)
  (hc : Calls P f args w fun e w' => ∃ v, e = .returned v ∧ S w' ∧ wpAnyH P md ops Q S fuel (listed.setIfInBounds i true) (a.put dst v) w') : HStep P md ops Q S fuel listed a w i := by
 unfold HStep
 cases ho : ops[i]? with
 | none => rw [ho] at hop; cases hop
 | some op =>
  rw [ho] at hop hw
  simp only [Option.map_some, Option.some.injEq, Prod.mk.injEq] at hop hw
  obtain ⟨dst', op', ty', pos', after', guard'⟩ := op
  obtain ⟨rfl, rfl, rfl⟩ := hop
  have hrun' : (execOp a.eval ⟨dst', op', ty', pos', after', guard'⟩).run P w = .ok (.enter f args) w := by
   rw [← hrun]
   unfold execOp
   rfl
  refine wpOp_step ho fun K' hK => ?_
  rw [if_pos hw]
  unfold Oper.wp
  rw [hrun', Oper.upon_enter]
  refine hc.mono fun e w' he => ?_
  obtain ⟨v, rfl, h1, h2⟩ := he
  exact hK _ _ ⟨h1, h2⟩
theorem run_makeSlice {t ty : TypeId} {x y : Operand} {ρ : Operand → Value} {v : Value} {w' : World} {d : Option Tmp} (h : (Instr.makeSlice t (ρ x) (ρ y)).run P w = .ok v w') :
  (execOp ρ ⟨d, .makeSlice t x y, ty, "", #[], none⟩).run P w = .ok (.value v) w' := by
 unfold execOp
 simp only [Sem.run_bind, h, Result.andThen_ok]
 rfl
end
end Go.Proofs.Ytpajdmbajopofaa
