/-
  PIECES for hss.allSets: two hashes compared; a slice of sets is made, indexed, filled.
-/
import Derived.Test.YthahnckjmlcehaaHp2
import Derived.Test.YthahnckjmlcehaaHs7
namespace Go.Proofs.Ythahnckjmlcehaa
open Go.RowKit
set_option maxRecDepth 100000
theorem run_neq_agg {P : Program} {w : World} {x y : Operand} {ρ : Operand → Value} {p q : Array Value} {T U ty : TypeId} {d : Option Tmp} {r : Bool} (hg : P.eqGuardType P.depth T = false) (heq : (Op.equalIn 10000 T (.agg p) (.agg q)).run P w = .ok r w) (hx : ρ x = .agg p) (hy : ρ y = .agg q) :
    (execOp ρ ⟨d, .binOp .neq T x y U, ty, "", #[], none⟩).run P w = .ok (.value (.bool (!r))) w := by
  have hbin : (binOp .neq T (.agg p) (.agg q)).run P w = .ok (.bool (!r)) w := by
    have e : binOp .neq T (.agg p) (.agg q) = (do pure (.bool (!(← Op.equal T (.agg p) (.agg q))))) := by rfl
    have e2 : Op.equal T (.agg p) (.agg q) = Op.equalIn 10000 T (.agg p) (.agg q) := by rfl
    rw [e, e2, Sem.run_bind, heq]
    rfl
  have hgd : (eqGuard .neq T x y (.agg p) (.agg q)).run P w = .ok () w := by
    unfold eqGuard
    simp [go_sem, hg]
  unfold execOp
  simp only [hx, hy, Sem.run_bind, hgd, hbin, Result.andThen_ok]
  rfl
theorem held_skip {P : Program} {md : Region.Mode} {ops : Array Oper} {Q : Exit → Act → World → Prop} {S : World → Prop} {fuel : Nat} {listed : Array Bool} {a : Act} {w : World} (i : Nat) (dst : Option Tmp) (hside : mayTake md ops listed i = true)
    (hop : (ops[i]?).map (fun o => o.dst) = some dst) (hw : (ops[i]?).map (fun o => Region.wanted o (yielded ops a.tmps)) = some false)
    (hQ : ∀ c a w, Q (.panic c) (a.put dst undef) w → Q (.panic c) a w) (hSw : S w)
    (h : wpAnyH P md ops Q S fuel (listed.setIfInBounds i true) (a.put dst undef) w) : wpAnyH P md ops Q S (fuel + 1) listed a w := by
  cases ho : ops[i]? with
  | none => rw [ho] at hop; cases hop
  | some op =>
    rw [ho] at hop hw
    simp only [Option.map_some, Option.some.injEq] at hop hw
    simp only [mayTake, Bool.and_eq_true] at hside
    subst hop
    exact wpAnyH_take ho hside.1.1 hside.1.2 hside.2 hQ (.inr ⟨hw, rfl⟩) hSw h
theorem key_hs (xs : Bool) (xn : Int) (hxn : (Lit.int .i64 xn).wf = true) : Try.prog.keyLits 3 63 [.bool xs, .int .i64 xn] = some [.bool xs, .int .i64 xn] := by
  have hz : Try.prog.cellsOf 63 = 2 := by kernel_rfl
  unfold Program.keyLits
  simp only [Try.underlying63, hz]
  simp [cells_bool', cells_int', Program.keyLits, Try.underlying4, Try.underlying3, hxn]
theorem eq_hs (xs : Bool) (xn : Int) (ys : Bool) (yn : Int) (hxn : (Lit.int .i64 xn).wf = true) (hyn : (Lit.int .i64 yn).wf = true) (w : World) :
    (Op.equalIn 10000 63 (.agg #[.bool xs, .int .i64 xn]) (.agg #[.bool ys, .int .i64 yn])).run Try.prog w = .ok (xs == ys && decide (xn = yn)) w := by
  obtain ⟨r, hr, hi⟩ := run_equalIn_deep 9998 2 63 (by kernel_rfl) w 3 3 (.agg #[.bool xs, .int .i64 xn]) (.agg #[.bool ys, .int .i64 yn]) _ _ (by kernel_rfl) (by kernel_rfl) (key_hs xs xn hxn) (key_hs ys yn hyn)
  have hb : r = (xs == ys && decide (xn = yn)) := by
    by_cases h : xs = ys ∧ xn = yn
    · obtain ⟨rfl, rfl⟩ := h
      have : r = true := hi.2 rfl
      rw [this]; simp
    · cases r with
      | true => exact absurd (by have h2 := hi.1 rfl; simpa using h2) h
      | false =>
        by_cases e : xs = ys
        · subst e
          have : ¬ xn = yn := fun e => h ⟨rfl, e⟩
          simp [this]
        · simp [e]
  rw [← hb]
  exact hr
/-- the cells of n sets that are zero -/
def stsZ (n : Nat) : List Value := (List.replicate n stZ).flatten
theorem stsZ_succ (n : Nat) : stsZ (n + 1) = stZ ++ stsZ n := by simp [stsZ, List.replicate_succ]
theorem stsZ_length (n : Nat) : (stsZ n).length = n * 10 := by
  induction n with
  | zero => rfl
  | succ n ih =>
    rw [stsZ_succ, List.length_append, ih]
    show 10 + n * 10 = _
    omega
theorem info_stz : (Try.prog.info? 52).map (fun i => (i.zero, i.size, i.bytes)) = some (some (.agg stZ.toArray), 10, 64) := by kernel_rfl
theorem made_st0 : madeCells stZ.toArray (0 * 10) = (stsZ 0).toArray := by kernel_rfl
theorem made_st1 : madeCells stZ.toArray (1 * 10) = (stsZ 1).toArray := by kernel_rfl
theorem made_st2 : madeCells stZ.toArray (2 * 10) = (stsZ 2).toArray := by kernel_rfl
theorem made_st3 : madeCells stZ.toArray (3 * 10) = (stsZ 3).toArray := by kernel_rfl
theorem made_st4 : madeCells stZ.toArray (4 * 10) = (stsZ 4).toArray := by kernel_rfl
theorem made_st5 : madeCells stZ.toArray (5 * 10) = (stsZ 5).toArray := by kernel_rfl
theorem made_st6 : madeCells stZ.toArray (6 * 10) = (stsZ 6).toArray := by kernel_rfl
theorem made_st7 : madeCells stZ.toArray (7 * 10) = (stsZ 7).toArray := by kernel_rfl
theorem made_st8 : madeCells stZ.toArray (8 * 10) = (stsZ 8).toArray := by kernel_rfl
theorem made_st (n : Nat) (hn : n ≤ 8) : madeCells stZ.toArray (n * 10) = (stsZ n).toArray :=
  match n, hn with
  | 0, _ => made_st0
  | 1, _ => made_st1
  | 2, _ => made_st2
  | 3, _ => made_st3
  | 4, _ => made_st4
  | 5, _ => made_st5
  | 6, _ => made_st6
  | 7, _ => made_st7
  | 8, _ => made_st8
theorem make_st (n : Nat) (hn : n ≤ 8) (u : World) : (Instr.makeSlice 46 (.int .i64 (n : Int)) (.int .i64 (n : Int))).run Try.prog u =
    .ok (.slice (some ⟨u.heap.size, 0, none⟩) n n) (u.alloc (.cells (stsZ n).toArray 52)) := by
  obtain ⟨i0, hi, hz0, hz1, hz2⟩ := info_parts info_stz
  have h := run_make (P := Try.prog) u 46 52 i0 (.agg stZ.toArray) Try.underlying46 hi hz0 .i64 .i64 (n : Int) (n : Int) (by omega) (Int.le_refl _) (by rw [hz2]; omega) (by omega)
  have e : (n : Int).toNat = n := by omega
  rw [e] at h
  rw [← made_st n hn]
  simpa [hz1, Value.cells] using h
/-- block K holds the sets of the levels p, then m that are zero -/
def PAt (w : World) (K : Nat) (p : List (Nat × Nat)) (m : Nat) : Prop := Row w K 52 (stsC p ++ stsZ m)
theorem PAt.go {w w' : World} {K m : Nat} {p : List (Nat × Nat)} (h : PAt w K p m) (b : Below w.heap.size w w') : PAt w' K p m := Row.go h b
theorem PAt.lt {w : World} {K m : Nat} {p : List (Nat × Nat)} (h : PAt w K p m) : K < w.heap.size := Row.lt h
theorem PAt.alloc {w : World} {K m : Nat} {p : List (Nat × Nat)} (h : PAt w K p m) (o : Obj) : PAt (w.alloc o) K p m := Row.alloc h o
theorem PAt.done {w : World} {K : Nat} {p : List (Nat × Nat)} (h : PAt w K p 0) : StAt w K p := by
  have h2 : Row w K 52 (stsC p ++ stsZ 0) := h
  rw [show stsZ 0 = [] from rfl, List.append_nil] at h2
  exact h2
/-- what lies from cell o of block K on -/
structure RAt (w : World) (K o : Nat) (cs : List Value) : Prop where
  lt : K < w.heap.size
  at_ : w.rangeAt K o cs
theorem RAt.go {w w' : World} {K o : Nat} {cs : List Value} (h : RAt w K o cs) (b : Below w.heap.size w w') : RAt w' K o cs := ⟨by have := b.size; have := h.lt; omega, fun j v hv => (b.cell (p := ⟨K, o + j, none⟩) h.lt).trans (h.at_ j v hv)⟩
theorem RAt.drew {w : World} {K o : Nat} {cs : List Value} (h : RAt w K o cs) : RAt w.drew K o cs := ⟨h.lt, h.at_⟩
theorem PAt.mid {w : World} {K m : Nat} {p : List (Nat × Nat)} (h : PAt w K p m) (k : Nat) (hk : k < p.length) : RAt w K (k * 10) (stC p[k].1 p[k].2) := by
  refine ⟨h.lt, ?_⟩
  have h2 := Row.mid (show Row w K 52 (stsC p ++ stsZ m) from h) (k * 10) 10
  have e : ((stsC p ++ stsZ m).drop (k * 10)).take 10 = stC p[k].1 p[k].2 := by
    rw [List.drop_append_of_le_length (by rw [stsC_length]; omega), List.take_append_of_le_length (by rw [List.length_drop, stsC_length]; omega), stsC_mid p k hk]
  rwa [e] at h2
theorem PAt.both {w : World} {K m : Nat} {l : List (Nat × Nat)} {k : Nat} (hk : k < l.length) (h : PAt w K (l.take k ++ [l[k]]) m) : RAt w K (k * 10) (stC l[k].1 l[k].2) ∧ RAt w K 0 (stC (l[0]'(by omega)).1 (l[0]'(by omega)).2) := by
  rw [← take_snoc l k hk] at h
  have hl : (l.take (k + 1)).length = k + 1 := by rw [List.length_take]; omega
  have h1 := h.mid k (by omega)
  have h0 := h.mid 0 (by omega)
  rw [List.getElem_take] at h1 h0
  rw [Nat.zero_mul] at h0
  exact ⟨h1, h0⟩
theorem size_setCellsS (vs : List Value) : ∀ (w : World) (g o : Nat), (w.setCells g o vs).heap.size = w.heap.size := by
  induction vs with
  | nil => intro w g o; rfl
  | cons v r ih =>
    intro w g o
    show ((w.setCell ⟨g, o, none⟩ v).setCells g (o + 1) r).heap.size = _
    rw [ih]
    simp [World.setCell]
/-- the sets of one more level are stored -/
theorem wpList_storeS {rest : List Oper} {ops : Array Oper} {a : Act} {w : World} {Q : Exit → Act → World → Prop} {op : Oper} (hgd : op.guard = none) (x y : Operand) (hop : op.op = .store 52 x y)
    (K k : Nat) (hx : a.eval x = .pointer (some ⟨K, k * 10, none⟩)) (c d : Nat) (hy : a.eval y = stV c d) (p : List (Nat × Nat)) (m : Nat) (hr : PAt w K p (m + 1)) (hk : p.length = k)
    (h : ∀ w2, PAt w2 K (p ++ [(c, d)]) m → But w.heap.size K w w2 → w2.heap.size = w.heap.size → wpList Try.prog ops Q rest (a.put op.dst undef) w2) : wpList Try.prog ops Q (op :: rest) a w := by
  have hr' : Row w K 52 (stsC p ++ stsZ (m + 1)) := hr
  have hlen : k * 10 + (stC c d).length ≤ (stsC p ++ stsZ (m + 1)).length := by
    rw [List.length_append, stsC_length, stsZ_length, stC_length]; omega
  refine wpList_store_mid hgd 52 x y hop K (k * 10) (stC c d).toArray hx hy (by simpa using hr'.there (k * 10) (stC c d).length hlen) (by rw [info_st]; rfl) (all_oneCell_toArray oneCell10) (h _ ?_ (But.setCells _ (k * 10) (But.refl _ _ _)) (size_setCellsS _ _ _ _))
  have h2 := hr'.setCells (stC c d) (k * 10)
  rw [over_eq _ _ _ hlen] at h2
  have e1 : (stsC p).length = k * 10 := by rw [stsC_length, hk]
  have e : (stsC p ++ stsZ (m + 1)).take (k * 10) ++ stC c d ++ (stsC p ++ stsZ (m + 1)).drop (k * 10 + (stC c d).length) = stsC (p ++ [(c, d)]) ++ stsZ m := by
    rw [← e1, List.take_left, ← List.drop_drop, List.drop_left, stsZ_succ, List.drop_left' (by rfl), stsC_append]
    congr 2
  rw [e] at h2
  exact h2
theorem index_st {a : Act} {x y : Operand} {op : Oper} (b k n c : Nat) (hk : k < n) (ho : op.op = .indexAddr 46 x y) (hx : a.eval x = .slice (some ⟨b, 0, none⟩) n c) (hy : a.eval y = .int .i64 (k : Int)) (w : World) :
    (execOp a.eval op).run Try.prog w = .ok (.value (.pointer (some ⟨b, k * 10, none⟩))) w := by
  have h0 : (0 : Int) ≤ (k : Int) := by omega
  have h1 : (k : Int) < (n : Int) := by omega
  unfold execOp
  simp only [ho, hx, hy]
  go_simp
/-- what allSets hands back -/
def AllIs (l : List (Nat × Nat)) (w : World) (e : Ending) (w' : World) : Prop :=
  (mayL l = false ∧ e = .returned (.tuple #[.slice none 0 0, .int .i64 90]) ∧ Below w.heap.size w w') ∨ (mayL l = true ∧ l.length ≤ 8 ∧ ∃ g, e = .returned (.tuple #[.slice (some ⟨g, 0, none⟩) l.length l.length, .int .i64 0]) ∧ StAt w' g l ∧ Below w.heap.size w w')
end Go.Proofs.Ythahnckjmlcehaa
