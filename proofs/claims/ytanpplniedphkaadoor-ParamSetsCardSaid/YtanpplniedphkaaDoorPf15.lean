/-
  WALK: ParamSets: at every code and bound.
-/
import Derived.Test.YtanpplniedphkaaDoorPf11
import Derived.Test.YtanpplniedphkaaDoorPb5
import Derived.Great.Walk
namespace Go.Proofs.YtanpplniedphkaaDoor
open Go.RowKit Go.Shelf
set_option maxRecDepth 100000
theorem wpList_min6 {P : Program} {ops : Array Oper} {rest : List Oper} {o : Oper} {a : Act} {w : World} {Q : Exit → Act → World → Prop} (hgd : o.guard = none) (x y : Operand) (T T' : TypeId) (ho : o.op = .call { callee := .builtin .min, args := #[x, y], argTypes := #[T, T'] })
    (i j m : Int) (hx : a.eval x = .int .i64 i) (hy : a.eval y = .int .i64 j) (hm : (if j < i then j else i) = m) (h : wpList P ops Q rest (a.put o.dst (.int .i64 m)) w) : wpList P ops Q (o :: rest) a w := by
  refine Go.Great.wpList_runTo hgd o.dst rfl (.int .i64 m) w ?_ h
  have hrun := run_min_int2 (P := P) (w := w) #[T, T'] o.type .i64 .i64 i j
  rw [hm] at hrun
  simp [execOp, ho, resolve, invoke, builtin, hx, hy, hrun, Result.andThen]
theorem run_neq_agg {P : Program} {w : World} {x y : Operand} {ρ : Operand → Value} {p q : Array Value} {T U ty : TypeId} {d : Option Tmp} {r : Bool} (hg : P.eqGuardType P.depth T = false) (heq : (Op.equalIn 10000 T (.agg p) (.agg q)).run P w = .ok r w) (hx : ρ x = .agg p) (hy : ρ y = .agg q) :
    (execOp ρ ⟨d, .binOp .neq T x y U, ty, "", #[], none⟩).run P w = .ok (.value (.bool (!r))) w := by
  have hbin : (binOp .neq T (.agg p) (.agg q)).run P w = .ok (.bool (!r)) w := by
    have e : binOp .neq T (.agg p) (.agg q) = (do pure (.bool (!(← Op.equal T (.agg p) (.agg q))))) := by rfl
    have e2 : Op.equal T (.agg p) (.agg q) = Op.equalIn 10000 T (.agg p) (.agg q) := by rfl
    rw [e, e2, Sem.run_bind, heq]
    rfl
  have hgd : (eqGuard .neq T x y (.agg p) (.agg q)).run P w = .ok () w := by
    unfold eqGuard
    simp [go_sem, hg]
  unfold execOp
  simp only [hx, hy, Sem.run_bind, hgd, hbin, Result.andThen_ok]
  rfl
/-- a comparison of two rows, whatever its guard -/
theorem wl_neqW {P : Program} {ops : Array Oper} {rest : List Oper} {o : Oper} {a : Act} {w : World} {Q : Exit → Act → World → Prop} (T U : TypeId) (x y : Operand) (ho : o.op = .binOp .neq T x y U)
    (p q : Array Value) (hx : a.eval x = .agg p) (hy : a.eval y = .agg q) (hw : Region.wanted o (yielded ops a.tmps) = true) (hg : P.eqGuardType P.depth T = false) (r : Bool) (heq : (Op.equalIn 10000 T (.agg p) (.agg q)).run P w = .ok r w)
    (h : wpList P ops Q rest (a.put o.dst (.bool (!r))) w) : wpList P ops Q (o :: rest) a w := by
  refine wl_wanted hw fun K hK => ?_
  obtain ⟨dst, op, ty, pos, after, guard⟩ := o
  obtain rfl := ho
  have hrun := run_neq_agg (P := P) (w := w) (x := x) (y := y) (ρ := a.eval) (p := p) (q := q) (T := T) (U := U) (ty := ty) (d := dst) (r := r) hg heq hx hy
  have hrun' : (execOp a.eval ⟨dst, .binOp .neq T x y U, ty, pos, after, guard⟩).run P w = .ok (.value (.bool (!r))) w := by
    rw [← hrun]
    unfold execOp
    rfl
  unfold Oper.wp
  rw [hrun', Oper.upon_value]
  exact hK _ _ h
theorem SU.begins {w : World} {g cp n : Nat} {l : List Nat} (h : SU w (.slice (some ⟨g, 0, none⟩) l.length cp) l) (hn : n ≤ l.length) : SU w (.slice (some ⟨g, 0, none⟩) n cp) (l.take n) := by
  obtain ⟨a, c, e, h⟩ := h
  cases e
  rcases h with ⟨h0, _⟩ | ⟨g', e2, hg, h1, h2, h3⟩
  · cases h0
  · cases e2
    refine ⟨_, _, by rw [List.length_take_of_le hn], .inr ⟨g, rfl, hg, by rw [List.length_take_of_le hn]; omega, h2, fun j hj => ?_⟩⟩
    rw [List.length_take_of_le hn] at hj
    rw [List.getElem_take]
    exact h3 j (by omega)
set_option maxHeartbeats 8000000 in
theorem sets_of (c m : Nat) (hm : m < 256) (oc oN oW oP oS oe lc ln lh le xc xn xh xl xe : Int) (os ls xs : Bool) (w : World)
    (hO1 : ∀ W, Calls Tryd.prog 18 #[.int .u32 (c : Int)] W (OldIs (.tuple #[.agg #[.int .u32 oc, .bool os, .int .i64 oN, .int .i64 oW, .int .i64 oP, .int .i64 oS], .int .i64 oe]) W))
    (hL1 : ∀ W, Calls Tryd.prog 19 #[.int .u32 (c : Int)] W (OldIs (.tuple #[.agg #[.int .u32 lc, .bool ls, .int .i64 ln, .int .i64 lh], .int .i64 le]) W))
    (hX1 : ∀ W, Calls Tryd.prog 20 #[.int .u32 (c : Int)] W (OldIs (.tuple #[.agg #[.int .u32 xc, .bool xs, .int .i64 xn, .int .i64 xh, .int .i64 xl], .int .i64 xe]) W))
    (hO2 : ∀ W, Calls Tryd.prog 21 #[.int .u32 (c : Int)] W (OldIs (.tuple #[.agg #[.int .u32 oc, .bool os, .int .i64 oN, .int .i64 oW, .int .i64 oP, .int .i64 oS], .int .i64 oe]) W))
    (hL2 : ∀ W, Calls Tryd.prog 22 #[.int .u32 (c : Int)] W (OldIs (.tuple #[.agg #[.int .u32 lc, .bool ls, .int .i64 ln, .int .i64 lh], .int .i64 le]) W))
    (hX2 : ∀ W, Calls Tryd.prog 23 #[.int .u32 (c : Int)] W (OldIs (.tuple #[.agg #[.int .u32 xc, .bool xs, .int .i64 xn, .int .i64 xh, .int .i64 xl], .int .i64 xe]) W))
    (qO : ∀ W, (Op.equalIn 10000 46 (.agg #[.int .u32 oc, .bool os, .int .i64 oN, .int .i64 oW, .int .i64 oP, .int .i64 oS]) (.agg #[.int .u32 oc, .bool os, .int .i64 oN, .int .i64 oW, .int .i64 oP, .int .i64 oS])).run Tryd.prog W = .ok true W)
    (qL : ∀ W, (Op.equalIn 10000 50 (.agg #[.int .u32 lc, .bool ls, .int .i64 ln, .int .i64 lh]) (.agg #[.int .u32 lc, .bool ls, .int .i64 ln, .int .i64 lh])).run Tryd.prog W = .ok true W)
    (qX : ∀ W, (Op.equalIn 10000 54 (.agg #[.int .u32 xc, .bool xs, .int .i64 xn, .int .i64 xh, .int .i64 xl]) (.agg #[.int .u32 xc, .bool xs, .int .i64 xn, .int .i64 xh, .int .i64 xl])).run Tryd.prog W = .ok true W) :
    Calls Tryd.prog 4 #[.int .u32 (c : Int), .int .u8 (m : Int)] w (TrueIs w) := by
  unfold TrueIs
  have e1 : (oe != oe) = false := by simp
  have e2 : (le != le) = false := by simp
  have e3 : (xe != xe) = false := by simp
  have QO := Shh.mk qO
  have QL := Shh.mk qL
  have QX := Shh.mk qX
  clear qO qL qX
  have F0 : Shh (Below w.heap.size w w) := ⟨Below.refl _ _⟩
  go_enter Tryd.func4, Tryd.ntmps4
  go_wp2_with (go_at_call 18; refine (hO1 _).mono ?_)
  unfold OldIs
  rintro e w1 ⟨rfl, b1⟩
  obtain ⟨G1, hG1⟩ : ∃ G, Shh (G = w1.heap.size) := ⟨_, ⟨rfl⟩⟩
  go_wp2_with (refine wpList_store_any rfl 46 (.tmp 5) (.tmp 23) rfl G1 (by rw [hG1.out]; rfl) [.int .u32 oc, .bool os, .int .i64 oN, .int .i64 oW, .int .i64 oP, .int .i64 oS] rfl 46 _ (Row.new_ hG1.out rfl) info_ots rfl oneCell6 ?_)
  intro Z1 hr bt _
  have bb : Below w1.heap.size w1 Z1 := (Below.alloc (Below.refl _ _) (Nat.le_refl _) _).trans (bt.under (by have := hG1.out; first | omega | (simp only [asz]; omega)) (by have := hG1.out; omega))
  have F1 : Shh (Below w.heap.size w Z1 ∧ Row Z1 G1 46 [.int .u32 oc, .bool os, .int .i64 oN, .int .i64 oW, .int .i64 oP, .int .i64 oS]) := ⟨Below.chain F0.out (Below.chain b1 bb), hr⟩
  rw [← hG1.out]
  clear hr bt bb b1 hG1 hO1 F0
  go_wp2_with (go_at_call 19; refine (hL1 _).mono ?_)
  unfold OldIs
  rintro e w2 ⟨rfl, b2⟩
  obtain ⟨G2, hG2⟩ : ∃ G, Shh (G = w2.heap.size) := ⟨_, ⟨rfl⟩⟩
  go_wp2_with (refine wpList_store_any rfl 50 (.tmp 7) (.tmp 28) rfl G2 (by rw [hG2.out]; rfl) [.int .u32 lc, .bool ls, .int .i64 ln, .int .i64 lh] rfl 50 _ (Row.new_ hG2.out rfl) info_lms rfl oneCell4 ?_)
  intro Z2 hr bt _
  have bb : Below w2.heap.size w2 Z2 := (Below.alloc (Below.refl _ _) (Nat.le_refl _) _).trans (bt.under (by have := hG2.out; first | omega | (simp only [asz]; omega)) (by have := hG2.out; omega))
  have F2 : Shh (Below w.heap.size w Z2 ∧ Row Z2 G1 46 [.int .u32 oc, .bool os, .int .i64 oN, .int .i64 oW, .int .i64 oP, .int .i64 oS] ∧ Row Z2 G2 50 [.int .u32 lc, .bool ls, .int .i64 ln, .int .i64 lh]) := ⟨Below.chain F1.out.1 (Below.chain b2 bb), (F1.out.2).go (Below.chain b2 bb), hr⟩
  rw [← hG2.out]
  clear hr bt bb b2 hG2 hL1 F1
  go_wp2_with (go_at_call 20; refine (hX1 _).mono ?_)
  unfold OldIs
  rintro e w3 ⟨rfl, b3⟩
  obtain ⟨G3, hG3⟩ : ∃ G, Shh (G = w3.heap.size) := ⟨_, ⟨rfl⟩⟩
  go_wp2_with (refine wpList_store_any rfl 54 (.tmp 9) (.tmp 33) rfl G3 (by rw [hG3.out]; rfl) [.int .u32 xc, .bool xs, .int .i64 xn, .int .i64 xh, .int .i64 xl] rfl 54 _ (Row.new_ hG3.out rfl) info_xms rfl oneCell5 ?_)
  intro Z3 hr bt _
  have bb : Below w3.heap.size w3 Z3 := (Below.alloc (Below.refl _ _) (Nat.le_refl _) _).trans (bt.under (by have := hG3.out; first | omega | (simp only [asz]; omega)) (by have := hG3.out; omega))
  have F3 : Shh (Below w.heap.size w Z3 ∧ Row Z3 G1 46 [.int .u32 oc, .bool os, .int .i64 oN, .int .i64 oW, .int .i64 oP, .int .i64 oS] ∧ Row Z3 G2 50 [.int .u32 lc, .bool ls, .int .i64 ln, .int .i64 lh] ∧ Row Z3 G3 54 [.int .u32 xc, .bool xs, .int .i64 xn, .int .i64 xh, .int .i64 xl]) := ⟨Below.chain F2.out.1 (Below.chain b3 bb), (F2.out.2.1).go (Below.chain b3 bb), (F2.out.2.2).go (Below.chain b3 bb), hr⟩
  rw [← hG3.out]
  clear hr bt bb b3 hG3 hX1 F2
  go_wp2_with (go_at_call 21; refine (hO2 _).mono ?_)
  unfold OldIs
  rintro e w4 ⟨rfl, b4⟩
  obtain ⟨G4, hG4⟩ : ∃ G, Shh (G = w4.heap.size) := ⟨_, ⟨rfl⟩⟩
  go_wp2_with (refine wpList_store_any rfl 46 (.tmp 11) (.tmp 38) rfl G4 (by rw [hG4.out]; rfl) [.int .u32 oc, .bool os, .int .i64 oN, .int .i64 oW, .int .i64 oP, .int .i64 oS] rfl 46 _ (Row.new_ hG4.out rfl) info_ots rfl oneCell6 ?_)
  intro Z4 hr bt _
  have bb : Below w4.heap.size w4 Z4 := (Below.alloc (Below.refl _ _) (Nat.le_refl _) _).trans (bt.under (by have := hG4.out; first | omega | (simp only [asz]; omega)) (by have := hG4.out; omega))
  have F4 : Shh (Below w.heap.size w Z4 ∧ Row Z4 G1 46 [.int .u32 oc, .bool os, .int .i64 oN, .int .i64 oW, .int .i64 oP, .int .i64 oS] ∧ Row Z4 G2 50 [.int .u32 lc, .bool ls, .int .i64 ln, .int .i64 lh] ∧ Row Z4 G3 54 [.int .u32 xc, .bool xs, .int .i64 xn, .int .i64 xh, .int .i64 xl] ∧ Row Z4 G4 46 [.int .u32 oc, .bool os, .int .i64 oN, .int .i64 oW, .int .i64 oP, .int .i64 oS]) := ⟨Below.chain F3.out.1 (Below.chain b4 bb), (F3.out.2.1).go (Below.chain b4 bb), (F3.out.2.2.1).go (Below.chain b4 bb), (F3.out.2.2.2).go (Below.chain b4 bb), hr⟩
  rw [← hG4.out]
  clear hr bt bb b4 hG4 hO2 F3
  go_wp2_with (go_at_call 22; refine (hL2 _).mono ?_)
  unfold OldIs
  rintro e w5 ⟨rfl, b5⟩
  obtain ⟨G5, hG5⟩ : ∃ G, Shh (G = w5.heap.size) := ⟨_, ⟨rfl⟩⟩
  go_wp2_with (refine wpList_store_any rfl 50 (.tmp 13) (.tmp 43) rfl G5 (by rw [hG5.out]; rfl) [.int .u32 lc, .bool ls, .int .i64 ln, .int .i64 lh] rfl 50 _ (Row.new_ hG5.out rfl) info_lms rfl oneCell4 ?_)
  intro Z5 hr bt _
  have bb : Below w5.heap.size w5 Z5 := (Below.alloc (Below.refl _ _) (Nat.le_refl _) _).trans (bt.under (by have := hG5.out; first | omega | (simp only [asz]; omega)) (by have := hG5.out; omega))
  have F5 : Shh (Below w.heap.size w Z5 ∧ Row Z5 G1 46 [.int .u32 oc, .bool os, .int .i64 oN, .int .i64 oW, .int .i64 oP, .int .i64 oS] ∧ Row Z5 G2 50 [.int .u32 lc, .bool ls, .int .i64 ln, .int .i64 lh] ∧ Row Z5 G3 54 [.int .u32 xc, .bool xs, .int .i64 xn, .int .i64 xh, .int .i64 xl] ∧ Row Z5 G4 46 [.int .u32 oc, .bool os, .int .i64 oN, .int .i64 oW, .int .i64 oP, .int .i64 oS] ∧ Row Z5 G5 50 [.int .u32 lc, .bool ls, .int .i64 ln, .int .i64 lh]) := ⟨Below.chain F4.out.1 (Below.chain b5 bb), (F4.out.2.1).go (Below.chain b5 bb), (F4.out.2.2.1).go (Below.chain b5 bb), (F4.out.2.2.2.1).go (Below.chain b5 bb), (F4.out.2.2.2.2).go (Below.chain b5 bb), hr⟩
  rw [← hG5.out]
  clear hr bt bb b5 hG5 hL2 F4
  go_wp2_with (go_at_call 23; refine (hX2 _).mono ?_)
  unfold OldIs
  rintro e w6 ⟨rfl, b6⟩
  obtain ⟨G6, hG6⟩ : ∃ G, Shh (G = w6.heap.size) := ⟨_, ⟨rfl⟩⟩
  go_wp2_with (refine wpList_store_any rfl 54 (.tmp 15) (.tmp 48) rfl G6 (by rw [hG6.out]; rfl) [.int .u32 xc, .bool xs, .int .i64 xn, .int .i64 xh, .int .i64 xl] rfl 54 _ (Row.new_ hG6.out rfl) info_xms rfl oneCell5 ?_)
  intro Z6 hr bt _
  have bb : Below w6.heap.size w6 Z6 := (Below.alloc (Below.refl _ _) (Nat.le_refl _) _).trans (bt.under (by have := hG6.out; first | omega | (simp only [asz]; omega)) (by have := hG6.out; omega))
  have F6 : Shh (Below w.heap.size w Z6 ∧ Row Z6 G1 46 [.int .u32 oc, .bool os, .int .i64 oN, .int .i64 oW, .int .i64 oP, .int .i64 oS] ∧ Row Z6 G2 50 [.int .u32 lc, .bool ls, .int .i64 ln, .int .i64 lh] ∧ Row Z6 G3 54 [.int .u32 xc, .bool xs, .int .i64 xn, .int .i64 xh, .int .i64 xl] ∧ Row Z6 G4 46 [.int .u32 oc, .bool os, .int .i64 oN, .int .i64 oW, .int .i64 oP, .int .i64 oS] ∧ Row Z6 G5 50 [.int .u32 lc, .bool ls, .int .i64 ln, .int .i64 lh] ∧ Row Z6 G6 54 [.int .u32 xc, .bool xs, .int .i64 xn, .int .i64 xh, .int .i64 xl]) := ⟨Below.chain F5.out.1 (Below.chain b6 bb), (F5.out.2.1).go (Below.chain b6 bb), (F5.out.2.2.1).go (Below.chain b6 bb), (F5.out.2.2.2.1).go (Below.chain b6 bb), (F5.out.2.2.2.2.1).go (Below.chain b6 bb), (F5.out.2.2.2.2.2).go (Below.chain b6 bb), hr⟩
  rw [← hG6.out]
  clear hr bt bb b6 hG6 hX2 F5
  go_wp2_with (go_at_call 24; refine (live6 _).mono ?_)
  unfold TrueIs
  rintro e w7 ⟨rfl, b7⟩
  have F7 : Shh (Below w.heap.size w w7 ∧ Row w7 G1 46 [.int .u32 oc, .bool os, .int .i64 oN, .int .i64 oW, .int .i64 oP, .int .i64 oS] ∧ Row w7 G2 50 [.int .u32 lc, .bool ls, .int .i64 ln, .int .i64 lh] ∧ Row w7 G3 54 [.int .u32 xc, .bool xs, .int .i64 xn, .int .i64 xh, .int .i64 xl] ∧ Row w7 G4 46 [.int .u32 oc, .bool os, .int .i64 oN, .int .i64 oW, .int .i64 oP, .int .i64 oS] ∧ Row w7 G5 50 [.int .u32 lc, .bool ls, .int .i64 ln, .int .i64 lh] ∧ Row w7 G6 54 [.int .u32 xc, .bool xs, .int .i64 xn, .int .i64 xh, .int .i64 xl]) := ⟨Below.chain F6.out.1 b7, (F6.out.2.1).go b7, (F6.out.2.2.1).go b7, (F6.out.2.2.2.1).go b7, (F6.out.2.2.2.2.1).go b7, (F6.out.2.2.2.2.2.1).go b7, (F6.out.2.2.2.2.2.2).go b7⟩
  clear b7 F6
  go_wp2_with (first | refine wl_loadW 46 (.tmp 5) rfl G1 rfl 46 [.int .u32 oc, .bool os, .int .i64 oN, .int .i64 oW, .int .i64 oP, .int .i64 oS] _ rfl (F7.out.2.1) Tryd.underlying46 rfl info_ots ?_ | refine wl_loadW 46 (.tmp 11) rfl G4 rfl 46 [.int .u32 oc, .bool os, .int .i64 oN, .int .i64 oW, .int .i64 oP, .int .i64 oS] _ rfl (F7.out.2.2.2.2.1) Tryd.underlying46 rfl info_ots ?_ | refine wl_loadW 50 (.tmp 7) rfl G2 rfl 50 [.int .u32 lc, .bool ls, .int .i64 ln, .int .i64 lh] _ rfl (F7.out.2.2.1) Tryd.underlying50 rfl info_lms ?_ | refine wl_loadW 50 (.tmp 13) rfl G5 rfl 50 [.int .u32 lc, .bool ls, .int .i64 ln, .int .i64 lh] _ rfl (F7.out.2.2.2.2.2.1) Tryd.underlying50 rfl info_lms ?_ | refine wl_loadW 54 (.tmp 9) rfl G3 rfl 54 [.int .u32 xc, .bool xs, .int .i64 xn, .int .i64 xh, .int .i64 xl] _ rfl (F7.out.2.2.2.1) Tryd.underlying54 rfl info_xms ?_ | refine wl_loadW 54 (.tmp 15) rfl G6 rfl 54 [.int .u32 xc, .bool xs, .int .i64 xn, .int .i64 xh, .int .i64 xl] _ rfl (F7.out.2.2.2.2.2.2) Tryd.underlying54 rfl info_xms ?_ | refine wl_neqW 46 46 (.tmp 53) (.tmp 54) rfl #[.int .u32 oc, .bool os, .int .i64 oN, .int .i64 oW, .int .i64 oP, .int .i64 oS] #[.int .u32 oc, .bool os, .int .i64 oN, .int .i64 oW, .int .i64 oP, .int .i64 oS] rfl rfl rfl (by kernel_rfl) true (QO.out _) ?_ | refine wl_neqW 50 50 (.tmp 63) (.tmp 64) rfl #[.int .u32 lc, .bool ls, .int .i64 ln, .int .i64 lh] #[.int .u32 lc, .bool ls, .int .i64 ln, .int .i64 lh] rfl rfl rfl (by kernel_rfl) true (QL.out _) ?_ | refine wl_neqW 54 54 (.tmp 73) (.tmp 74) rfl #[.int .u32 xc, .bool xs, .int .i64 xn, .int .i64 xh, .int .i64 xl] #[.int .u32 xc, .bool xs, .int .i64 xn, .int .i64 xh, .int .i64 xl] rfl rfl rfl (by kernel_rfl) true (QX.out _) ?_)
  have FB : Shh (Below w.heap.size w w7) := ⟨F7.out.1⟩
  clear F7 QO QL QX
  go_wp2
  go_loopw [17] (fun v wr => ∃ n : Nat, 1 ≤ n ∧ n ≤ 4 ∧ v = .int .i64 (n : Int) ∧ Shh (Below w.heap.size w wr)) (fun v _ => 4 - (intOf v).toNat)
  case atStart => exact ⟨1, by omega, by omega, rfl, FB⟩
  case round =>
    clear FB
    obtain ⟨n, hn1, hn4, rfl, HN⟩ := hrel
    by_cases hlt : n ≤ 3
    · have hll := kN_len (n : Int)
      have hpos : 0 < (kN (n : Int)).length := by rcases (by omega : n = 1 ∨ n = 2 ∨ n = 3) with rfl | rfl | rfl <;> decide +kernel
      have hcodes := refCodes_any n hn1 hlt
      have hall := fun W => codes6_any (n : Int) 1048576 W (by omega)
      have hsome := fun W => codes6_any (n : Int) (m : Int) W (by omega)
      rw [List.take_of_length_le (by omega)] at hall
      rw [Int.toNat_natCast] at hsome
      obtain ⟨l, hl⟩ : ∃ l, kN (n : Int) = l := ⟨_, rfl⟩
      rw [hl] at hll hpos hcodes hall hsome
      clear hl
      obtain ⟨k, hk⟩ : ∃ k, k = min l.length m := ⟨_, rfl⟩
      have hkl : k ≤ l.length := by omega
      have htk' : l.take m = l.take k := by
        by_cases h : m ≤ l.length
        · rw [hk, Nat.min_eq_right h]
        · rw [hk, Nat.min_eq_left (by omega), List.take_of_length_le (by omega), List.take_of_length_le (Nat.le_refl _)]
      have qmin : Shh ((if (m : Int) < (l.length : Int) then (m : Int) else (l.length : Int)) = (k : Int)) := ⟨by split <;> omega⟩
      have HAll := Shh.mk (And.intro hall (And.intro hsome htk'))
      clear hk hall hsome htk'
      go_wp2_with (go_at_call 25; refine (hcodes _).mono ?_)
      unfold SeeIs
      rintro e w8 ⟨v, rfl, hs, b8⟩
      obtain ⟨A, cp, rfl⟩ := hs.form
      obtain ⟨g, rfl, hca, hca2, _⟩ := hs.at_ hpos
      have F := Shh.mk (And.intro hs (Below.chain HN.out b8))
      clear hs b8 HN hcodes
      go_wp2_with (refine wpList_min6 rfl (.tmp 89) (.tmp 91) 3 3 rfl (l.length : Int) (m : Int) (k : Int) rfl rfl qmin.out ?_)
      refine wp_region_held_drew (S := fun _ => True) (by kernel_rfl) trivial (fun hS => ?_)
      clear hS qmin
      generalize hV : World.drew _ = V
      have rS : SU V (.slice (some ⟨g, 0, none⟩) l.length cp) l := by rw [← hV]; exact F.out.1.go (Below.refl _ _).drew
      have FV : Shh (Below w.heap.size w V) := ⟨by rw [← hV]; exact F.out.2.drew⟩
      clear F hV
      obtain ⟨hall, hsome, htk⟩ := HAll.out
      clear HAll
      refine held_value 0 _ _ (some 93) (.int .i64 (n : Int)) (by kernel_rfl) (by rfl) (by kernel_rfl) (fun w hS => by first | kernel_rfl | go_simp) (fun _ _ _ _ h => h) (trivial) ?_
      simp only [Act.put, List.setIfInBounds_toArray, List.set_cons_zero, List.set_cons_succ]
      refine held_value 2 _ _ (some 95) (.slice (some ⟨g, 0, none⟩) l.length cp) (by kernel_rfl) (by rfl) (by kernel_rfl) (fun w hS => by first | kernel_rfl | go_simp) (fun _ _ _ _ h => h) (trivial) ?_
      simp only [Act.put, List.setIfInBounds_toArray, List.set_cons_zero, List.set_cons_succ]
      refine held_one 1 (by kernel_rfl) ?_
      refine step_call 1 _ _ (some 94) 27 #[.int .i64 (n : Int), .int .i64 1048576] (by rfl) (by kernel_rfl) (by first | kernel_rfl | go_simp) ?_
      refine (hall _).mono ?_
      unfold SeeIs; rintro e Y1 ⟨v1, rfl, hs1, byy⟩
      have bx : Below V.heap.size V Y1 := byy
      have r1 := hs1
      have b_V := bx
      have m_Y1 : V.heap.size ≤ Y1.heap.size := bx.size
      clear bx
      refine ⟨_, rfl, trivial, ?_⟩
      simp only [Act.put, List.setIfInBounds_toArray, List.set_cons_zero, List.set_cons_succ]
      refine held_one 3 (by kernel_rfl) ?_
      refine step_call 3 _ _ (some 96) 26 #[v1, .slice (some ⟨g, 0, none⟩) l.length cp] (by rfl) (by kernel_rfl) (by first | kernel_rfl | go_simp) ?_
      refine (equal_u32 _ _ l l Y1 r1 (rS.go b_V) (by omega) (by omega)).mono ?_
      unfold OldIs; rintro e Y2 ⟨rfl, byy⟩
      have bx : Below Y1.heap.size Y1 Y2 := byy
      replace b_V := Below.chain b_V bx
      have b_Y1 := bx
      have m_Y2 : Y1.heap.size ≤ Y2.heap.size := bx.size
      clear bx
      refine ⟨_, rfl, trivial, ?_⟩
      simp only [Act.put, List.setIfInBounds_toArray, List.set_cons_zero, List.set_cons_succ]
      refine held_value 4 _ _ (some 97) (.bool false) (by kernel_rfl) (by rfl) (by kernel_rfl) (fun w hS => by go_simp) (fun _ _ _ _ h => h) (trivial) ?_
      simp only [Act.put, List.setIfInBounds_toArray, List.set_cons_zero, List.set_cons_succ]
      refine held_value 5 _ _ (some 98) (.bool false) (by kernel_rfl) (by rfl) (by kernel_rfl) (fun w hS => by first | kernel_rfl | go_simp) (fun _ _ _ _ h => h) (trivial) ?_
      simp only [Act.put, List.setIfInBounds_toArray, List.set_cons_zero, List.set_cons_succ]
      refine held_value 6 _ _ (some 99) (.int .i64 (n : Int)) (by kernel_rfl) (by rfl) (by kernel_rfl) (fun w hS => by first | kernel_rfl | go_simp) (fun _ _ _ _ h => h) (trivial) ?_
      simp only [Act.put, List.setIfInBounds_toArray, List.set_cons_zero, List.set_cons_succ]
      refine held_value 7 _ _ (some 100) (.int .u8 (m : Int)) (by kernel_rfl) (by rfl) (by kernel_rfl) (fun w hS => by first | kernel_rfl | go_simp) (fun _ _ _ _ h => h) (trivial) ?_
      simp only [Act.put, List.setIfInBounds_toArray, List.set_cons_zero, List.set_cons_succ]
      refine held_value 8 _ _ (some 101) (.int .i64 (m : Int)) (by kernel_rfl) (by rfl) (by kernel_rfl) (fun w hS => by go_simp; rw [IntKind.wrap_i64]; omega) (fun _ _ _ _ h => h) (trivial) ?_
      simp only [Act.put, List.setIfInBounds_toArray, List.set_cons_zero, List.set_cons_succ]
      refine held_value 10 _ _ (some 103) (.slice (some ⟨g, 0, none⟩) l.length cp) (by kernel_rfl) (by rfl) (by kernel_rfl) (fun w hS => by first | kernel_rfl | go_simp) (fun _ _ _ _ h => h) (trivial) ?_
      simp only [Act.put, List.setIfInBounds_toArray, List.set_cons_zero, List.set_cons_succ]
      refine held_value 11 _ _ (some 104) (.int .i64 (k : Int)) (by kernel_rfl) (by rfl) (by kernel_rfl) (fun w hS => by first | kernel_rfl | go_simp) (fun _ _ _ _ h => h) (trivial) ?_
      simp only [Act.put, List.setIfInBounds_toArray, List.set_cons_zero, List.set_cons_succ]
      refine held_value 12 _ _ (some 105) (.slice (some ⟨g, 0, none⟩) k cp) (by kernel_rfl) (by rfl) (by kernel_rfl) (fun w hS => by (have h5 : ¬ cp < k := (by omega)); go_simp <;> omega) (fun _ _ _ _ h => h) (trivial) ?_
      simp only [Act.put, List.setIfInBounds_toArray, List.set_cons_zero, List.set_cons_succ]
      refine held_one 9 (by kernel_rfl) ?_
      refine step_call 9 _ _ (some 102) 27 #[.int .i64 (n : Int), .int .i64 (m : Int)] (by rfl) (by kernel_rfl) (by first | kernel_rfl | go_simp) ?_
      refine (hsome _).mono ?_
      unfold SeeIs; rintro e Y3 ⟨v2, rfl, hs2, byy⟩
      have bx : Below Y2.heap.size Y2 Y3 := byy
      have r2 := hs2
      replace b_V := Below.chain b_V bx
      replace b_Y1 := Below.chain b_Y1 bx
      have b_Y2 := bx
      have m_Y3 : Y2.heap.size ≤ Y3.heap.size := bx.size
      clear bx
      refine ⟨_, rfl, trivial, ?_⟩
      simp only [Act.put, List.setIfInBounds_toArray, List.set_cons_zero, List.set_cons_succ]
      refine held_one 13 (by kernel_rfl) ?_
      refine step_call 13 _ _ (some 106) 26 #[v2, .slice (some ⟨g, 0, none⟩) k cp] (by rfl) (by kernel_rfl) (by first | kernel_rfl | go_simp) ?_
      refine (equal_u32 _ _ (l.take m) (l.take k) Y3 r2 ((rS.go b_V).begins hkl) (by rw [List.length_take]; omega) (by rw [List.length_take]; omega)).mono ?_
      unfold OldIs; rintro e Y4 ⟨rfl, byy⟩
      have bx : Below Y3.heap.size Y3 Y4 := byy
      replace b_V := Below.chain b_V bx
      replace b_Y1 := Below.chain b_Y1 bx
      replace b_Y2 := Below.chain b_Y2 bx
      have b_Y3 := bx
      have m_Y4 : Y3.heap.size ≤ Y4.heap.size := bx.size
      clear bx
      refine ⟨_, rfl, trivial, ?_⟩
      simp only [Act.put, List.setIfInBounds_toArray, List.set_cons_zero, List.set_cons_succ]
      refine held_value 14 _ _ (some 107) (.bool false) (by kernel_rfl) (by rfl) (by kernel_rfl) (fun w hS => by rw [htk]; go_simp) (fun _ _ _ _ h => h) (trivial) ?_
      simp only [Act.put, List.setIfInBounds_toArray, List.set_cons_zero, List.set_cons_succ]
      refine held_value 15 _ _ (some 108) (.bool false) (by kernel_rfl) (by rfl) (by kernel_rfl) (fun w hS => by go_simp) (fun _ _ _ _ h => h) (trivial) ?_
      simp only [Act.put, List.setIfInBounds_toArray, List.set_cons_zero, List.set_cons_succ]
      refine wpAnyH_done (by kernel_rfl) ?_ _
      have F : Shh (Below w.heap.size w Y4) := ⟨Below.chain FV.out b_V⟩
      clear m_Y4 b_Y3 m_Y3 b_Y2 r2 m_Y2 b_Y1 m_Y1 b_V r1
      clear FV rS
      go_wp2
      go_roundw
      case rel => exact ⟨n + 1, by omega, by omega, by go_num, F⟩
      case measure => simp [intOf]; omega
    · have hn : n = 4 := by omega
      clear hn
      go_wp2
      go_ret
      exact ⟨rfl, HN.out⟩
end Go.Proofs.YtanpplniedphkaaDoor
