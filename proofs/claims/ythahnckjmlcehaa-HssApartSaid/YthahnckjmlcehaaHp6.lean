/-
  A REGION WITHIN A ROUND of a range over a function, walked by the laws outside of a fence; the iterator of slices.Backward.
-/
import Derived.RangeFuncNested
import Derived.RangeFuncBound
import Derived.RangeFuncCalls
import Derived.RangeFuncLeaves
import Derived.WalkKit
import Derived.OwnWalkIn
import Derived.TacticsInMore
import Derived.LoopNIn
import Derived.LoopIn
import Derived.RangeFuncBox
import Derived.RangeFuncWrites
import Derived.Test.YthahnckjmlcehaaHp5
namespace Go.Proofs.Ythahnckjmlcehaa
open Go.RowKit
set_option maxRecDepth 100000
attribute [local go_sem] Oper.semAt_some
section
variable {P : Program} {ops : Array Oper} {Q : Exit → Act → World → Prop} {l n : Nat}
def plainOp (o : Oper) : Bool := match o.op with
  | .defer _ => false
  | _ => true
theorem plainOp_spec {o : Oper} (h : plainOp o = true) : ∀ c, o.op ≠ .defer c := fun c e => by
  unfold plainOp at h
  rw [e] at h
  cases h
theorem oper_inRound {o : Oper} {a : Act} {w : World} {K : Act → World → Prop} (hd : plainOp o = true) (h : o.wp P a w K Q) : o.wpIn (Fence.wide.inRound l) n P a w K Q := by
  refine ⟨fun f _ => trivial, ?_⟩
  rw [Oper.semAt_eq _ _ _ (plainOp_spec hd)]
  unfold Oper.wp at h
  generalize (execOp a.eval o).run P w = r at h
  cases r with
  | ok nx w' =>
    cases nx with
    | value v => exact h
    | skip => exact h
    | defer d => exact h
    | enter f args => exact ⟨fun hd => (by simp [Fence.wide] at hd), CallsIn.inRound l (callsIn_wide.2 h)⟩
    | row row args =>
      refine ⟨fun hd => (by simp [Fence.wide] at hd), fun c cs _ => ?_⟩
      obtain ⟨v, w2, r, s⟩ := h c cs
      exact ⟨v, w2, r, stepsIn_wide.2 s⟩
    | _ => exact h.elim
  | halt c w' =>
    cases c with
    | panic v => exact h
    | _ => exact h.elim
theorem wpOp_inRound (hp : ops.toList.all plainOp = true) (hno : ¬ LetsOut Q) {i : Nat} {a : Act} {w : World} {K : Act → World → Prop} (h : wpOp P ops Q i K a w) : wpOpIn (Fence.wide.inRound l) n P ops Q i K a w := by
  unfold wpOp at h
  unfold wpOpIn
  cases ho : ops[i]? with
  | none => rw [ho] at h; exact h
  | some o =>
    rw [ho] at h
    simp only at h ⊢
    split
    · rename_i hw
      rw [if_pos hw] at h
      refine oper_inRound (List.all_eq_true.1 hp o ?_) (h.resolve_right fun h2 => hno h2.2)
      exact List.mem_of_getElem? (by rw [← Array.getElem?_toList] at ho; exact ho)
    · rename_i hw
      rw [if_neg hw] at h
      exact ⟨fun f _ => trivial, h⟩
theorem wpAny_inRound (hp : ops.toList.all plainOp = true) (hno : ¬ LetsOut Q) {md : Region.Mode} : ∀ (fuel : Nat) (listed : Array Bool) (a : Act) (w : World), wpAny P md ops Q fuel listed a w → wpAnyIn (Fence.wide.inRound l) n P md ops Q fuel listed a w
  | 0, _, _, _, h => h
  | fuel + 1, _, _, _, h => ⟨h.1, fun i hi => wpOpIn_mono (fun a' w' h' => wpAny_inRound hp hno fuel _ a' w' h') (wpOp_inRound hp hno (h.2 i hi))⟩
/-- a region that draws its order, within a round: by the laws outside -/
theorem region_inRound {S : World → Prop} {id : Nat} {a : Act} {w : World} (hm : P.follows .mixedOrders = true) (hp : ops.toList.all plainOp = true) (hno : ¬ LetsOut Q) (hS : S w.drew)
    (h : S w.drew → wpAnyH P .any ops Q S ops.size (Array.replicate ops.size false) a w.drew) : (Code.region id ops true).wpIn (Fence.wide.inRound l) n P Q a w :=
  wpIn_region_any hm (wpAny_inRound hp hno _ _ _ _ (wpAny_of_held _ _ _ _ (h hS)))
theorem wpList_inRound (hno : ¬ LetsOut Q) : ∀ (r : List Oper) (a : Act) (w : World), r.all plainOp = true → wpList P ops Q r a w → wpListIn (Fence.wide.inRound l) n P ops Q r a w
  | [], _, _, _, h => h
  | o :: r, a, w, hp, h => by
    simp only [List.all_cons, Bool.and_eq_true] at hp
    unfold wpList at h
    unfold wpListIn
    split
    · rename_i hw
      rw [if_pos hw] at h
      exact Oper.wpIn_mono (fun a' w' h' => wpList_inRound hno r a' w' hp.2 h') (oper_inRound hp.1 (h.resolve_right fun h2 => hno h2.2))
    · rename_i hw
      rw [if_neg hw] at h
      exact ⟨fun f _ => trivial, wpList_inRound hno r _ w hp.2 h⟩
/-- a region whose order is fixed, likewise -/
theorem list_inRound {r : List Oper} {id : Nat} {a : Act} {w : World} (hp : r.all plainOp = true) (hno : ¬ LetsOut Q) (h : wpList P r.toArray Q r a w) : (Code.region id r.toArray false).wpIn (Fence.wide.inRound l) n P Q a w :=
  wpIn_region_lit (wpList_inRound hno r a w hp h)
end
/-- a load out of the middle of a row, inside a fence -/
theorem wlIn_load_mid {n : Nat} {P : Program} {ops : Array Oper} {rest : List Oper} {o : Oper} {a : Act} {w : World} {Q : Exit → Act → World → Prop} (hgd : o.guard = none) (ty : TypeId) (x : Operand) (ho : o.op = .load ty x)
    (b off : Nat) (hx : a.eval x = .pointer (some ⟨b, off, none⟩)) (cs : List Value) (d : TypeDesc) (hc : w.rangeAt b off cs)
    (hu : P.underlying ty = some d) (hd : d.isRow = true) (hi : (P.info? ty).map (·.size) = some cs.length)
    (h : wpListIn Fence.wide n P ops Q rest (a.put o.dst (.agg cs.toArray)) w) : wpListIn Fence.wide n P ops Q (o :: rest) a w := by
  refine wpListIn_plain hgd fun K hK => ?_
  refine ⟨fun f _ => trivial, ?_⟩
  have hs : o.semAt Fence.wide.round a.eval = execOp a.eval o := by
    show o.semAt none a.eval = _
    simp [Oper.semAt]
  rw [hs]
  unfold execOp
  simp only [ho, hx, Instr.loadAt, Instr.sureAddr, Sem.run_bind, Sem.run_pure, Result.andThen_ok, run_loadVar_mid w b off ty cs d hc hu hd hi]
  exact hK _ _ h
/-! slices.Backward -/
/-- what the iterator tells: an index and the sets there -/
def bkE (lv : List (Nat × Nat)) (k : Fin lv.length) : Array Value := #[.int .i64 (k.val : Int), .agg (stC lv[k].1 lv[k].2).toArray]
/-- the first t indices, downwards -/
def dnL (n t : Nat) : List (Fin n) := (List.range t).filterMap fun i => if h : n - 1 - i < n then some ⟨n - 1 - i, h⟩ else none
theorem dnL_succ {n t : Nat} (h : t < n) : dnL n (t + 1) = dnL n t ++ [⟨n - 1 - t, by omega⟩] := by
  unfold dnL
  rw [List.range_succ, List.filterMap_append]
  simp only [List.filterMap_cons, List.filterMap_nil]
  rw [dif_pos (by omega)]
/-- blocks p and q lie as they lay -/
def Kp2 (p q : Nat) (W W' : World) : Prop := W.heap.size ≤ W'.heap.size ∧ W'.heap[p]? = W.heap[p]? ∧ W'.heap[q]? = W.heap[q]?
theorem Kp2.refl (p q : Nat) (W : World) : Kp2 p q W W := ⟨Nat.le_refl _, rfl, rfl⟩
theorem Kp2.trans {p q : Nat} {A B C : World} (h : Kp2 p q A B) (k : Kp2 p q B C) : Kp2 p q A C := ⟨Nat.le_trans h.1 k.1, k.2.1.trans h.2.1, k.2.2.trans h.2.2⟩
set_option maxHeartbeats 4000000 in
theorem back_in (l bS g : Nat) (lv : List (Nat × Nat)) (hlen : lv.length ≤ 8) (J Jx : List (Fin lv.length) → World → Prop) (W : World)
    (hY : ∀ pre x W1, J pre W1 → pre.length < 100 → YieldAt Fence.wide 2 Try.prog l (bkE lv x) W1 fun e W' =>
      (e = .returned (.bool true) ∧ J (pre ++ [x]) W' ∧ Kp2 bS g W1 W') ∨ (e = .returned (.bool false) ∧ Jx (pre ++ [x]) W'))
    (hB : Boxed W bS 46 (.slice (some ⟨g, 0, none⟩) lv.length lv.length)) (hg : StAt W g lv) (h0 : J [] W) :
    CallsIn Fence.wide 3 Try.prog 46 (#[.func (.yield l) #[] #[]] ++ #[.pointer (some ⟨bS, 0, none⟩)]) W fun e W' => (∃ v, e = .returned v) ∧ ((∃ xs, xs = dnL lv.length lv.length ∧ J xs W') ∨ (∃ pre : List (Fin lv.length), True ∧ Jx pre W')) := by
  have H0 : Shh (J (dnL lv.length (lv.length - lv.length)) W ∧ Kp2 bS g W W) := ⟨by rw [Nat.sub_self]; exact h0, Kp2.refl _ _ _⟩
  have HB : Shh (∀ Z, Kp2 bS g W Z → Boxed Z bS 46 (.slice (some ⟨g, 0, none⟩) lv.length lv.length) ∧ StAt Z g lv) := ⟨fun Z hZ => ⟨hZ.2.1.trans hB, hZ.2.2.trans hg⟩⟩
  have HY := Shh.mk hY
  have hc0 := hB.cell
  clear hY h0 hB hg
  refine callsIn_of_wp Try.func46 rfl trivial ?_ rfl
  simp only [Try.ntmps46, List.size_toArray, List.length_cons, List.length_nil, Nat.reduceAdd, Nat.reduceSub, Array.replicate_succ, Array.replicate_zero, List.push_toArray, List.append_toArray, List.nil_append, List.cons_append]
  gi_wp2
  gi_loopw [3] (fun i wr => ∃ (m : Nat) (z : Int), m ≤ lv.length ∧ z = (m : Int) - 1 ∧ i = .int .i64 z ∧ Shh (J (dnL lv.length (lv.length - m)) wr ∧ Kp2 bS g W wr)) (fun i _ => (intOf i + 1).toNat)
  case atStart => exact ⟨lv.length, (lv.length : Int) - 1, Nat.le_refl _, rfl, by go_num, H0⟩
  case round =>
    clear H0 hc0
    obtain ⟨m, z, hm, hz, rfl, H⟩ := hrel
    by_cases hpos : 0 < m
    · obtain ⟨k, rfl⟩ : ∃ k, m = k + 1 := ⟨m - 1, by omega⟩
      obtain rfl : z = (k : Int) := by omega
      have hklt : k < lv.length := by omega
      have hbx := HB.out wr H.out.2
      have hc1 := hbx.1.cell
      have hrg := hbx.2.at_ k hklt
      clear hbx hz
      obtain ⟨fn, tmps, assign, body, hy, hR⟩ := HY.out _ ⟨k, hklt⟩ wr H.out.1 (by unfold dnL; refine Nat.lt_of_le_of_lt (List.length_filterMap_le _ _) ?_; simp; omega)
      have hy2 : (Instr.yield l #[.int .i64 (k : Int), .agg (stC lv[k].1 lv[k].2).toArray]).run Try.prog wr = .ok (.round l fn tmps assign body) wr := hy
      have HD : Shh (dnL lv.length (lv.length - k) = dnL lv.length (lv.length - (k + 1)) ++ [⟨k, hklt⟩]) := ⟨by
        have e : lv.length - k = lv.length - (k + 1) + 1 := by omega
        rw [e, dnL_succ (by omega)]
        congr 2
        apply Fin.ext
        show lv.length - 1 - (lv.length - (k + 1)) = k
        omega⟩
      have HR := Shh.mk hR
      clear hy hR
      generalize lv[k] = x at hrg hy2
      gi_wp2_with (refine wlIn_load_mid rfl 52 (.tmp 15) rfl g (k * 10) (by go_num) (stC x.1 x.2) _ hrg Try.underlying52 rfl info_st ?_)
      refine HR.out.mono ?_
      rintro e W3 (⟨rfl, hJ3, hk3⟩ | ⟨rfl, hJx3⟩)
      · have F3 : Shh (J (dnL lv.length (lv.length - k)) W3 ∧ Kp2 bS g W W3) := ⟨by rw [HD.out]; exact hJ3, H.out.2.trans hk3⟩
        clear H hJ3 hk3 hy2 hrg hc1 HR HD
        gi_wp2
        go_roundw
        case rel => exact ⟨k, (k : Int) - 1, by omega, rfl, by go_num, F3⟩
        case measure => simp [intOf]
      · have F3 := Shh.mk hJx3
        clear H hJx3 hy2 hrg hc1 HR HD
        gi_wp2
        refine bodyPost_ret (results_none rfl _ _ _) rfl ?_
        exact ⟨⟨_, rfl⟩, .inr ⟨_, trivial, F3.out⟩⟩
    · obtain rfl : m = 0 := by omega
      have hz1 : ¬ (0 : Int) ≤ z := by omega
      have HE : Shh (J (dnL lv.length lv.length) wr) := ⟨H.out.1⟩
      clear H
      gi_wp2
      go_end0
      exact ⟨⟨_, rfl⟩, .inl HE.out⟩
end Go.Proofs.Ythahnckjmlcehaa
