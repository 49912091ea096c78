import Derived.Test.YtfcgdjgfdbcddaaDoorRq8
/-
 A NEW VARIABLE OF THE TYPE Poly: laid and filled in one step.
-/
namespace Go.Proofs.YtfcgdjgfdbcddaaDoor
open Go.RowKit
set_option maxRecDepth 100000
section
variable {ops : Array Oper} {rest : List Oper} {o1 o2 : Oper} {a : Act} {w : World} {Q : Exit → Act → World → Prop} {y : Operand}
theorem wl_newP (d : Nat) (q : Nat → Nat) (hg1 : o1.guard = none) (hg2 : o2.guard = none) (hd : o1.dst = some d) (hd2 : o2.dst = none) (h1 : o1.op = .alloc 25) (h2 : o2.op = .store 25 (.tmp d) y)
 (hx : (a.put (some d) (.pointer (some ⟨w.heap.size, 0, none⟩))).eval (.tmp d) = .pointer (some ⟨w.heap.size, 0, none⟩)) (hy : (a.put (some d) (.pointer (some ⟨w.heap.size, 0, none⟩))).eval y = .agg (pc q).toArray)
 (h : ∀ g w2, Shh (g = w.heap.size) → Row w2 g 25 (pc q) → Below w.heap.size w w2 → wpList Tryd.prog ops Q rest (a.put (some d) (.pointer (some ⟨g, 0, none⟩))) w2) : wpList Tryd.prog ops Q (o1 :: o2 :: rest) a w := by
 refine wl_allocP hg1 h1 ?_
 rw [hd]
 refine wpList_store_any hg2 25 (.tmp d) y h2 w.heap.size hx (pc q) hy 25 (pc fun _ => 0) (Row.new_ rfl rfl) (info_poly.trans (size_poly q)) (by rw [pc_length, pc_length]) (pc_one q) ?_
 intro w2 r b z
 rw [hd2]
 exact h _ w2 ⟨rfl⟩ r ((bel1 w _).trans (b.under (by rw [asz]; omega) (Nat.le_refl _)))
end
end Go.Proofs.YtfcgdjgfdbcddaaDoor

/-
 WORDS for the laws: three ready operations; '!=' of arrays; a new polynomial in a drawn region.
-/
namespace Go.Proofs.YtfcgdjgfdbcddaaDoor
open Go.RowKit
set_option maxRecDepth 100000
section
variable {P : Program} {md : Region.Mode} {ops : Array Oper} {Q : Exit → Act → World → Prop} {S : World → Prop} {fuel : Nat} {listed : Array Bool} {a : Act} {w : World}
theorem held_three (i j k : Nat) (hr : Region.ready md ops listed = [i, j, k]) (h1 : HStep P md ops Q S fuel listed a w i) (h2 : HStep P md ops Q S fuel listed a w j) (h3 : HStep P md ops Q S fuel listed a w k) : wpAnyH P md ops Q S (fuel + 1) listed a w :=
 wpAnyH_all hr (by simp) fun m hm => by
  simp only [List.mem_cons, List.not_mem_nil, or_false] at hm
  rcases hm with rfl | rfl | rfl
  ·exact h1
  ·exact h2
  ·exact h3
end
theorem run_neq_agg {P : Program} {w : World} {x y : Operand} {ρ : Operand → Value} {p q : Array Value} {T U ty : TypeId} {d : Option Tmp} {r : Bool} (hg : P.eqGuardType P.depth T = false) (heq : (Op.equalIn 10000 T (.agg p) (.agg q)).run P w = .ok r w) (hx : ρ x = .agg p) (hy : ρ y = .agg q) :
 (execOp ρ ⟨d, .binOp .neq T x y U, ty, "", #[], none⟩).run P w = .ok (.value (.bool (!r))) w := by
 have hbin : (binOp .neq T (.agg p) (.agg q)).run P w = .ok (.bool (!r)) w := by
  have e : binOp .neq T (.agg p) (.agg q) = (do pure (.bool (!(← Op.equal T (.agg p) (.agg q))))) := by rfl
  have e2 : Op.equal T (.agg p) (.agg q) = Op.equalIn 10000 T (.agg p) (.agg q) := by rfl
  rw [e, e2, Sem.run_bind, heq]
  rfl
 have hgd : (eqGuard .neq T x y (.agg p) (.agg q)).run P w = .ok () w := by
  unfold eqGuard
  simp [go_sem, hg]
 unfold execOp
 simp only [hx, hy, Sem.run_bind, hgd, hbin, Result.andThen_ok]
 rfl
theorem run_neq_same {P : Program} {w : World} {x y : Operand} {ρ : Operand → Value} {p q : Array Value} {T U ty : TypeId} {d : Option Tmp} (hg : P.eqGuardType P.depth T = false) (heq : (Op.equalIn 10000 T (.agg p) (.agg q)).run P w = .ok true w) (hx : ρ x = .agg p) (hy : ρ y = .agg q) :
 (execOp ρ ⟨d, .binOp .neq T x y U, ty, "", #[], none⟩).run P w = .ok (.value (.bool false)) w := run_neq_agg hg heq hx hy
section
variable {a : Act} {op : Oper} {w : World}
theorem run_allocP (ho : op.op = .alloc 25) : (execOp a.eval op).run Tryd.prog w = .ok (.value (.pointer (some ⟨w.heap.size, 0, none⟩))) (w.alloc (.cells (pc fun _ => 0).toArray 25)) := by
 have hz := zero_poly w
 unfold execOp
 simp only [ho]
 generalize pc (fun _ => 0) = z at *
 go_simp
end
end Go.Proofs.YtfcgdjgfdbcddaaDoor

/-
 LOADS AND COMPARISONS under a guard that holds, in an undrawn list.
-/
namespace Go.Proofs.YtfcgdjgfdbcddaaDoor
open Go.RowKit
set_option maxRecDepth 100000
theorem wl_wanted {P : Program} {ops : Array Oper} {rest : List Oper} {o : Oper} {a : Act} {w : World} {Q : Exit → Act → World → Prop} (hw : Region.wanted o (yielded ops a.tmps) = true)
  (h : ∀ K : Act → World → Prop, (∀ a w, wpList P ops Q rest a w → K a w) → o.wp P a w K Q) : wpList P ops Q (o :: rest) a w :=
 wpList_step fun K hK => by rw [if_pos hw]; exact h K hK
/-- a load of a row, whatever its guard -/
theorem wl_loadW {P : Program} {ops : Array Oper} {rest : List Oper} {o : Oper} {a : Act} {w : World} {Q : Exit → Act → World → Prop} (ty : TypeId) (x : Operand) (ho : o.op = .load ty x)
  (g : Nat) (hx : a.eval x = .pointer (some ⟨g, 0, none⟩)) (t : TypeId) (cs : List Value) (d : TypeDesc) (hw : Region.wanted o (yielded ops a.tmps) = true) (hr : Row w g t cs)
  (hu : P.underlying ty = some d) (hd : (match d with | .struct _ | .array _ _ => true | _ => false) = true) (hi : (P.info? ty).map (·.size) = some cs.length)
  (h : wpList P ops Q rest (a.put o.dst (.agg cs.toArray)) w) : wpList P ops Q (o :: rest) a w :=
 wl_wanted hw fun _ hK => wp_load_row ty x ho g hx t cs.toArray (0, 0) d hr hu hd (by simpa using hi) (hK _ _ h)
/-- a comparison of two rows, whatever its guard -/
theorem wl_eqlW {P : Program} {ops : Array Oper} {rest : List Oper} {o : Oper} {a : Act} {w : World} {Q : Exit → Act → World → Prop} (T U : TypeId) (x y : Operand) (ho : o.op = .binOp .eql T x y U)
  (p q : Array Value) (hx : a.eval x = .agg p) (hy : a.eval y = .agg q) (hw : Region.wanted o (yielded ops a.tmps) = true) (hg : P.eqGuardType P.depth T = false) (r : Bool) (heq : (Op.equalIn 10000 T (.agg p) (.agg q)).run P w = .ok r w)
  (h : wpList P ops Q rest (a.put o.dst (.bool r)) w) : wpList P ops Q (o :: rest) a w := by
 refine wl_wanted hw fun K hK => ?_
 obtain ⟨dst, op, ty, pos, after, guard⟩ := o
 obtain rfl := ho
 have hrun := run_eql_agg (P := P) (w := w) (x := x) (y := y) (ρ := a.eval) (p := p) (q := q) (T := T) (U := U) (ty := ty) (d := dst) (r := r) hg heq hx hy
 have hrun' : (execOp a.eval ⟨dst, .binOp .eql T x y U, ty, pos, after, guard⟩).run P w = .ok (.value (.bool r)) w := by
  rw [← hrun]
  unfold execOp
  rfl
 unfold Oper.wp
 rw [hrun', Oper.upon_value]
 exact hK _ _ h
theorem wl_neqW {P : Program} {ops : Array Oper} {rest : List Oper} {o : Oper} {a : Act} {w : World} {Q : Exit → Act → World → Prop} (T U : TypeId) (x y : Operand) (ho : o.op = .binOp .neq T x y U)
  (p q : Array Value) (hx : a.eval x = .agg p) (hy : a.eval y = .agg q) (hw : Region.wanted o (yielded ops a.tmps) = true) (hg : P.eqGuardType P.depth T = false) (r : Bool) (heq : (Op.equalIn 10000 T (.agg p) (.agg q)).run P w = .ok r w)
  (h : wpList P ops Q rest (a.put o.dst (.bool (!r))) w) : wpList P ops Q (o :: rest) a w := by
 refine wl_wanted hw fun K hK => ?_
 obtain ⟨dst, op, ty, pos, after, guard⟩ := o
 obtain rfl := ho
 have hrun := run_neq_agg (P := P) (w := w) (x := x) (y := y) (ρ := a.eval) (p := p) (q := q) (T := T) (U := U) (ty := ty) (d := dst) (r := r) hg heq hx hy
 have hrun' : (execOp a.eval ⟨dst, .binOp .neq T x y U, ty, pos, after, guard⟩).run P w = .ok (.value (.bool (!r))) w := by
  rw [← hrun]
  unfold execOp
  rfl
 unfold Oper.wp
 rw [hrun', Oper.upon_value]
 exact hK _ _ h
section
variable {ops : Array Oper} {rest : List Oper} {o : Oper} {a : Act} {w : World} {Q : Exit → Act → World → Prop}
theorem wl_atW (d : Nat) (hd : o.dst = some d) (v : Value) (hw : Region.wanted o (yielded ops a.tmps) = true) (hrun : (execOp a.eval o).run Tryd.prog w = .ok (.value v) w) {a2 : Act} (h : wpList Tryd.prog ops Q rest a2 w) (ha : a.put (some d) v = a2 := by ((try simp only [Act.put, arr9, hd9, tl9]); rfl)) : wpList Tryd.prog ops Q (o :: rest) a w := by
 refine wl_wanted hw fun K hK => ?_
 unfold Oper.wp
 rw [hrun, Oper.upon_value, hd, ha]
 exact hK _ _ h
end
end Go.Proofs.YtfcgdjgfdbcddaaDoor

/-
 THE CHAPTER'S EXAMPLES: live.
-/
namespace Go.Proofs.YtfcgdjgfdbcddaaDoor
open Go.RowKit
set_option maxRecDepth 100000
def e1P (i : Nat) : Nat := if i = 0 then 1 else 0
def e2P (i : Nat) : Nat := if i = 0 then 833 else if i = 1 then 832 else 0
section
variable {a : Act} {w : World} {op : Oper}
theorem build_e1 (ho : op.op = .build 25 #[(0, .const (.int .u16 1))]) : (execOp a.eval op).run Tryd.prog w = .ok (.value (.agg (pc e1P).toArray)) w := by
 have h : (execOp a.eval ⟨none, .build 25 #[(0, .const (.int .u16 1))], 0, "", #[], none⟩).run Tryd.prog w = .ok (.value (.agg (pc e1P).toArray)) w := by kernel_rfl
 rw [← h]
 unfold execOp
 simp only [ho]
theorem build_e2 (ho : op.op = .build 25 #[(0, .const (.int .u16 833)), (1, .const (.int .u16 832))]) : (execOp a.eval op).run Tryd.prog w = .ok (.value (.agg (pc e2P).toArray)) w := by
 have h : (execOp a.eval ⟨none, .build 25 #[(0, .const (.int .u16 833)), (1, .const (.int .u16 832))], 0, "", #[], none⟩).run Tryd.prog w = .ok (.value (.agg (pc e2P).toArray)) w := by kernel_rfl
 rw [← h]
 unfold execOp
 simp only [ho]
end
theorem e1_lt (i : Nat) (_ : i < 256) : e1P i < 65536 := by unfold e1P; split <;> decide
theorem e2_lt (i : Nat) (_ : i < 256) : e2P i < 65536 := by unfold e2P; split <;> (try split) <;> decide
theorem e1_ntt : nttN e1P 0 = 1 ∧ nttN e1P 1 = 0 ∧ nttN e1P 2 = 1 ∧ nttN e1P 254 = 1 := by
 have h0 := hz_even e1P 0
 have h1 := hz_odd e1P 0
 have h2 := hz_even e1P 1
 have h3 := hz_even e1P 127
 refine ⟨h0.symm.trans ?_, h1.symm.trans ?_, h2.symm.trans ?_, h3.symm.trans ?_⟩ <;> decide +kernel
theorem e2_cmp : cmpP 1 e2P 0 = 1 ∧ cmpP 1 e2P 1 = 0 := by decide +kernel
theorem e1_dcm : dcmP 1 e1P 0 = 1665 := by decide +kernel
set_option maxHeartbeats 2000000 in
theorem live13 (w : World) : Calls Tryd.prog 6 #[] w (TrueIs w) := by
 unfold TrueIs
 generalize hN : w.heap.size = N at *
 obtain ⟨pa, HA, HAv⟩ : ∃ p : Nat → Nat, Shh (∀ W, Calls Tryd.prog 11 #[.agg (pc e1P).toArray] W (PolyIs W p)) ∧ Shh (p 0 = 1 ∧ p 1 = 0 ∧ p 2 = 1 ∧ p 254 = 1) := ⟨nttN e1P, ⟨fun W => Ntt_any e1P e1_lt W⟩, ⟨e1_ntt⟩⟩
 obtain ⟨pb, HB, HBv⟩ : ∃ p : Nat → Nat, Shh (∀ W, Calls Tryd.prog 12 #[.int .i64 1, .agg (pc e2P).toArray] W (CodeIs W p 0)) ∧ Shh (p 0 = 1 ∧ p 1 = 0) := ⟨cmpP 1 e2P, ⟨fun W => Compress_any 1 ⟨by decide, by decide⟩ e2P e2_lt W⟩, ⟨e2_cmp⟩⟩
 obtain ⟨pd, HD, HDv⟩ : ∃ p : Nat → Nat, Shh (∀ W, Calls Tryd.prog 13 #[.int .i64 1, .agg (pc e1P).toArray] W (CodeIs W p 0)) ∧ Shh (p 0 = 1665) := ⟨dcmP 1 e1P, ⟨fun W => Decompress_any 1 ⟨by decide, by decide⟩ e1P e1_lt W⟩, ⟨e1_dcm⟩⟩
 go_enter Tryd.func6, Tryd.ntmps6
 go_wp2_with (first | refine wl_at 6 rfl (.agg (pc e1P).toArray) rfl (build_e1 rfl) ?_ | (go_at_call 11; refine (HA.out _).mono ?_))
 rintro e w2 ⟨rfl, b2⟩
 rw [hN] at b2
 have HX : Shh (Below N w w2) := ⟨b2⟩
 clear b2
 go_wp2_with (refine wl_newP 1 pa rfl rfl rfl rfl rfl rfl rfl rfl ?_)
 intro G1 w3 hG1 r3 b3
 simp only [Act.put, arr9, hd9, tl9]
 have HI : Shh (Row w3 G1 25 (pc pa) ∧ Below N w w3) := ⟨r3, HX.out.trans (b3.mono (by have := HX.out.size; omega))⟩
 clear r3 b3 HX
 go_wp2_with (first | refine wl_at 9 rfl (.agg (pc e2P).toArray) rfl (build_e2 rfl) ?_ | (go_at_call 12; refine (HB.out _).mono ?_))
 rintro e w4 ⟨rfl, b2⟩
 have HX : Shh (Row w4 G1 25 (pc pa) ∧ Below N w w4) := ⟨HI.out.1.go b2, HI.out.2.trans (b2.mono (by have := HI.out.2.size; omega))⟩
 clear b2 HI
 go_wp2_with (refine wl_newP 2 pb rfl rfl rfl rfl rfl rfl rfl rfl ?_)
 intro G2 w5 hG2 r3 b3
 simp only [Act.put, arr9, hd9, tl9]
 have HI : Shh (Row w5 G1 25 (pc pa) ∧ Row w5 G2 25 (pc pb) ∧ Below N w w5) := ⟨HX.out.1.go b3, r3, HX.out.2.trans (b3.mono (by have := HX.out.2.size; omega))⟩
 clear r3 b3 HX
 go_wp2_with (first | refine wl_at 14 rfl (.agg (pc e1P).toArray) rfl (build_e1 rfl) ?_ | (go_at_call 13; refine (HD.out _).mono ?_))
 rintro e w6 ⟨rfl, b2⟩
 have HX : Shh (Row w6 G1 25 (pc pa) ∧ Row w6 G2 25 (pc pb) ∧ Below N w w6) := ⟨HI.out.1.go b2, HI.out.2.1.go b2, HI.out.2.2.trans (b2.mono (by have := HI.out.2.2.size; omega))⟩
 clear b2 HI
 go_wp2_with (refine wl_newP 4 pd rfl rfl rfl rfl rfl rfl rfl rfl ?_)
 intro G3 w7 hG3 r3 b3
 simp only [Act.put, arr9, hd9, tl9]
 have HI : Shh (Row w7 G1 25 (pc pa) ∧ Row w7 G2 25 (pc pb) ∧ Row w7 G3 25 (pc pd) ∧ Below N w w7) := ⟨HX.out.1.go b3, HX.out.2.1.go b3, r3, HX.out.2.2.trans (b3.mono (by have := HX.out.2.2.size; omega))⟩
 clear r3 b3 HX
 have c0 := HI.out.1.cell 0
 rw [pc_get _ (by decide), HAv.out.1] at c0
 have c1 := HI.out.1.cell 1
 rw [pc_get _ (by decide), HAv.out.2.1] at c1
 have c2 := HI.out.1.cell 2
 rw [pc_get _ (by decide), HAv.out.2.2.1] at c2
 have c3 := HI.out.1.cell 254
 rw [pc_get _ (by decide), HAv.out.2.2.2] at c3
 have c4 := HI.out.2.1.cell 0
 rw [pc_get _ (by decide), HBv.out.1] at c4
 have c5 := HI.out.2.1.cell 1
 rw [pc_get _ (by decide), HBv.out.2] at c5
 have c6 := HI.out.2.2.1.cell 0
 rw [pc_get _ (by decide), HDv.out] at c6
 go_wp2
 go_ret
 exact ⟨rfl, HI.out.2.2.2⟩
end Go.Proofs.YtfcgdjgfdbcddaaDoor

/-
 Compress, Decompress for other numbers of bits: the program's own and the document's.
-/
namespace Go.Proofs.YtfcgdjgfdbcddaaDoor
open Go.RowKit
set_option maxRecDepth 100000
set_option maxHeartbeats 1000000 in
theorem Compress_bad (n : Int) (hn : n < 1 ∨ 11 < n) (p : Nat → Nat) (w : World) : Calls Tryd.prog 12 #[.int .i64 n, polyV p] w (CodeIs w (fun _ => 0) 1) := by
 unfold CodeIs polyV
 generalize hN : w.heap.size = N at *
 have HL1 : Shh (Row ((w.alloc (.cells (pc p).toArray 25)).alloc (.cells (pc fun _ => 0).toArray 25)) (N + 1) 25 (pc fun _ => 0) ∧ Below N w ((w.alloc (.cells (pc p).toArray 25)).alloc (.cells (pc fun _ => 0).toArray 25))) := by
  refine ⟨Row.new_ (by rw [asz, hN]) rfl, ?_⟩
  rw [← hN]
  exact Below.chain (bel1 _ _) (bel1 _ _)
 go_enter Tryd.func12, Tryd.ntmps12
 by_cases h1 : n < 1
 ·clear hn
  go_wp2_with (first | refine wl_allocP rfl rfl ?_ | refine wl_at 14 rfl (.agg (pc fun _ => 0).toArray) rfl (build_poly rfl) ?_ | refine wpList_store_any rfl 25 (.tmp 4) (.tmp 14) rfl (N + 1) rfl (pc fun _ => 0) rfl 25 _ HL1.out.1 (info_poly.trans (size_poly _)) rfl (pc_one _) ?_)
  intro w9 hr9 b9 _
  have hb9 := HL1.out.2.trans (b9.under (by omega) (by omega))
  go_wp2
  exact ret_rs7 Tryd.results12 rfl rfl rfl hr9 Tryd.underlying25 rfl (info_poly.trans (size_poly _)) ⟨rfl, hb9⟩
 ·have h2 : 12 ≤ n := by omega
  clear hn
  go_wp2_with (first | refine wl_allocP rfl rfl ?_ | refine wl_at 14 rfl (.agg (pc fun _ => 0).toArray) rfl (build_poly rfl) ?_ | refine wpList_store_any rfl 25 (.tmp 4) (.tmp 14) rfl (N + 1) rfl (pc fun _ => 0) rfl 25 _ HL1.out.1 (info_poly.trans (size_poly _)) rfl (pc_one _) ?_)
  intro w9 hr9 b9 _
  have hb9 := HL1.out.2.trans (b9.under (by omega) (by omega))
  go_wp2
  exact ret_rs7 Tryd.results12 rfl rfl rfl hr9 Tryd.underlying25 rfl (info_poly.trans (size_poly _)) ⟨rfl, hb9⟩
set_option maxHeartbeats 1000000 in
theorem Decompress_bad (n : Int) (hn : n < 1 ∨ 11 < n) (p : Nat → Nat) (w : World) : Calls Tryd.prog 13 #[.int .i64 n, polyV p] w (CodeIs w (fun _ => 0) 1) := by
 unfold CodeIs polyV
 generalize hN : w.heap.size = N at *
 have HL1 : Shh (Row ((w.alloc (.cells (pc p).toArray 25)).alloc (.cells (pc fun _ => 0).toArray 25)) (N + 1) 25 (pc fun _ => 0) ∧ Below N w ((w.alloc (.cells (pc p).toArray 25)).alloc (.cells (pc fun _ => 0).toArray 25))) := by
  refine ⟨Row.new_ (by rw [asz, hN]) rfl, ?_⟩
  rw [← hN]
  exact Below.chain (bel1 _ _) (bel1 _ _)
 go_enter Tryd.func13, Tryd.ntmps13
 by_cases h1 : n < 1
 ·clear hn
  go_wp2_with (first | refine wl_allocP rfl rfl ?_ | refine wl_at 15 rfl (.agg (pc fun _ => 0).toArray) rfl (build_poly rfl) ?_ | refine wpList_store_any rfl 25 (.tmp 4) (.tmp 15) rfl (N + 1) rfl (pc fun _ => 0) rfl 25 _ HL1.out.1 (info_poly.trans (size_poly _)) rfl (pc_one _) ?_)
  intro w9 hr9 b9 _
  have hb9 := HL1.out.2.trans (b9.under (by omega) (by omega))
  go_wp2
  exact ret_rs7 Tryd.results13 rfl rfl rfl hr9 Tryd.underlying25 rfl (info_poly.trans (size_poly _)) ⟨rfl, hb9⟩
 ·have h2 : 12 ≤ n := by omega
  clear hn
  go_wp2_with (first | refine wl_allocP rfl rfl ?_ | refine wl_at 15 rfl (.agg (pc fun _ => 0).toArray) rfl (build_poly rfl) ?_ | refine wpList_store_any rfl 25 (.tmp 4) (.tmp 15) rfl (N + 1) rfl (pc fun _ => 0) rfl 25 _ HL1.out.1 (info_poly.trans (size_poly _)) rfl (pc_one _) ?_)
  intro w9 hr9 b9 _
  have hb9 := HL1.out.2.trans (b9.under (by omega) (by omega))
  go_wp2
  exact ret_rs7 Tryd.results13 rfl rfl rfl hr9 Tryd.underlying25 rfl (info_poly.trans (size_poly _)) ⟨rfl, hb9⟩
end Go.Proofs.YtfcgdjgfdbcddaaDoor
