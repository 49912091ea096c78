/-
  append onto a slice of bytes (or of any values of one cell) that the call itself made: one element; the elements of another slice, nil or not.
-/
import Derived.Test.YtjondbamnbgiaaaDoorRev
import Derived.Laws.AppendOwnNone
namespace Go.Proofs.YtjondbamnbgiaaaDoor
open Go.RowKit
set_option maxRecDepth 100000

section
variable {P : Program} {ops : Array Oper} {rest : List Oper} {o : Oper} {a : Act} {Q : Exit → Act → World → Prop}

/-- one element: the walk has laid it in a new block of one cell -/
theorem wp_append1 (w : World) (t e : TypeId) (i0 : TypeInfo) (z : Value) (ht : P.underlying t = some (.slice e)) (hi : P.info? e = some i0) (hz : i0.zero = some z) (hsz : i0.size = 1) (hby : i0.bytes = 1) (hzc : z.cells.size = 1)
    (hgd : o.guard = none) (s x : Operand) (ho : o.op = .call { callee := .builtin .append, args := #[s, x], argTypes := #[t, t] })
    {base : Nat} {v : Value} {n : Nat} {xs : List Value} {u : Value} (hown : w.ownsRow base e 1 v n xs) (hs : a.eval s = v) (hx : a.eval x = .slice (some ⟨w.heap.size, 0, none⟩) 1 1)
    (hu : u.oneCell' = true) (hlen : n + 1 ≤ 140737488355328) (hbase : base ≤ w.heap.size)
    (h : ∀ v' w', w'.ownsRow base e 1 v' (n + 1) (xs ++ [u]) → (w.alloc (.cells #[u] e)).grownBy w' v.ownBlock → (∀ B, B ≤ base → Below B w w') → wpList P ops Q rest (a.put o.dst v') w') :
    wpList P ops Q (o :: rest) a (w.alloc (.cells #[u] e)) := by
  refine wpList_append_own (w.alloc (.cells #[u] e)) hgd s x t ho base e i0 z 1 1 ht hi hz hsz hby hzc (by decide) v n xs hs (hown.alloc _) ⟨w.heap.size, 0, none⟩ 1 1 [u] hx rfl ?_ (by simpa using hu) (by unfold maxLen; omega) (by omega) (by simp; omega) ?_
  · intro j y hj
    match j, hj with
    | 0, hj =>
      simp at hj; subst hj
      rw [addr_add, cell_of_row _ _ _ _ _ _ (heap_alloc_new w _)]
      rfl
    | (j + 1), hj => simp at hj
  · intro v' w' ho' hg _
    refine h v' w' ho' hg fun B hB => ?_
    exact (((Below.refl B w).alloc (by omega) _).grown hg (by simp; omega) (fun k hk => by have := (hown.lt k hk).1; omega))

/-- several elements in a region that draws its order: the walk has laid them in a new block -/
theorem step_appendN (w : World) {K : Act → World → Prop} {E : Prop} (t e : TypeId) (i0 : TypeInfo) (z : Value) (us : List Value) (ht : P.underlying t = some (.slice e)) (hi : P.info? e = some i0) (hz : i0.zero = some z) (hsz : i0.size = 1) (hby : i0.bytes = 1) (hzc : z.cells.size = 1)
    (hgd : o.guard = none) (s x : Operand) (ho : o.op = .call { callee := .builtin .append, args := #[s, x], argTypes := #[t, t] })
    {base : Nat} {v : Value} {n : Nat} {xs : List Value} (hown : w.ownsRow base e 1 v n xs) (hs : a.eval s = v) (m : Nat) (hx : a.eval x = .slice (some ⟨w.heap.size, 0, none⟩) m m) (hm : us.length = m)
    (hu : ∀ u ∈ us, u.oneCell' = true) (hlen : n + m ≤ 140737488355328) (hbase : base ≤ w.heap.size)
    (h : ∀ v' w', w'.ownsRow base e 1 v' (n + m) (xs ++ us) → (w.alloc (.cells us.toArray e)).grownBy w' v.ownBlock → (∀ B, B ≤ base → Below B w w') → K (a.put o.dst v') w') :
    if Region.wanted o (yielded ops a.tmps) = true then Oper.wp P o a (w.alloc (.cells us.toArray e)) K Q else E := by
  have hw : Region.wanted o (yielded ops a.tmps) = true := by simp [Region.wanted, hgd]
  rw [if_pos hw]
  refine wp_append_own (w.alloc (.cells us.toArray e)) s x t ho base e i0 z 1 1 ht hi hz hsz hby hzc (by decide) v n xs hs (hown.alloc _) ⟨w.heap.size, 0, none⟩ m m us hx (by omega) ?_ hu (by unfold maxLen; omega) (by omega) (by simp; omega) ?_
  · intro j y hj
    rw [addr_add, cell_of_row _ _ _ _ _ _ (heap_alloc_new w _)]
    simpa using hj
  · intro v' w' ho' hg _
    refine h v' w' ho' hg fun B hB => ?_
    exact (((Below.refl B w).alloc (by omega) _).grown hg (by simp; omega) (fun k hk => by have := (hown.lt k hk).1; omega))

/-- the same behind one draw -/
theorem step_appendN_d (w : World) {K : Act → World → Prop} {E : Prop} (t e : TypeId) (i0 : TypeInfo) (z : Value) (us : List Value) (ht : P.underlying t = some (.slice e)) (hi : P.info? e = some i0) (hz : i0.zero = some z) (hsz : i0.size = 1) (hby : i0.bytes = 1) (hzc : z.cells.size = 1)
    (hgd : o.guard = none) (s x : Operand) (ho : o.op = .call { callee := .builtin .append, args := #[s, x], argTypes := #[t, t] })
    {base : Nat} {v : Value} {n : Nat} {xs : List Value} (hown : w.ownsRow base e 1 v n xs) (hs : a.eval s = v) (m : Nat) (hx : a.eval x = .slice (some ⟨w.heap.size, 0, none⟩) m m) (hm : us.length = m)
    (hu : ∀ u ∈ us, u.oneCell' = true) (hlen : n + m ≤ 140737488355328) (hbase : base ≤ w.heap.size)
    (h : ∀ v' w', w'.ownsRow base e 1 v' (n + m) (xs ++ us) → (w.alloc (.cells us.toArray e)).drew.grownBy w' v.ownBlock → (∀ B, B ≤ base → Below B w w') → K (a.put o.dst v') w') :
    if Region.wanted o (yielded ops a.tmps) = true then Oper.wp P o a (w.alloc (.cells us.toArray e)).drew K Q else E :=
  step_appendN w.drew t e i0 z us ht hi hz hsz hby hzc hgd s x ho (World.ownsRow.drew hown) hs m hx hm hu hlen hbase fun v' w' h1 h2 h3 => h v' w' h1 ⟨h2.os, h2.tape, h2.output, h2.size, h2.block⟩ (fun B hB => ((Below.refl B w).drew).trans (h3 B hB))

/-- the bytes of another slice, that reads as a list -/
theorem wp_appendSl (w : World) (t e : TypeId) (i0 : TypeInfo) (ht : P.underlying t = some (.slice e)) (hi : P.info? e = some i0) (hz : i0.zero = some (.int .u8 0)) (hsz : i0.size = 1) (hby : i0.bytes = 1)
    (hgd : o.guard = none) (s x : Operand) (ho : o.op = .call { callee := .builtin .append, args := #[s, x], argTypes := #[t, t] })
    {base B0 : Nat} {v : Value} {bs : List UInt8} {y : Value} {cs : List UInt8} (hown : w.ownsRow base e 1 v bs.length (Lib.byteCells bs)) (hy : Sl w B0 y cs) (hs : a.eval s = v) (hx : a.eval x = y)
    (hlen : bs.length + cs.length ≤ 140737488355328) (hbase : base ≤ w.heap.size)
    (h : ∀ v' w', w'.ownsRow base e 1 v' (bs ++ cs).length (Lib.byteCells (bs ++ cs)) → w.grownBy w' v.ownBlock → (∀ B, B ≤ base → Below B w w') → wpList P ops Q rest (a.put o.dst v') w') :
    wpList P ops Q (o :: rest) a w := by
  have hbel : ∀ w', w.grownBy w' v.ownBlock → ∀ B, B ≤ base → Below B w w' := fun w' hg B hB =>
    (Below.refl B w).grown hg (by omega) (fun k hk => by have := (hown.lt k hk).1; omega)
  obtain ⟨A, c, rfl, hc1, hc2, hc⟩ := hy
  rcases A with _ | ad
  · have h0 : cs.length = 0 := by
      rcases Nat.eq_zero_or_pos cs.length with h0 | h0
      · exact h0
      · obtain ⟨b, off, h, _⟩ := hc h0
        cases h
    obtain rfl : cs = [] := List.eq_nil_of_length_eq_zero h0
    refine wpList_plain hgd fun K hK => ?_
    have hrun : (Builtin.append_ #[t, t] o.type #[v, .slice none 0 c]).run P w = .ok v w := by
      rcases hown.2 with ⟨rfl, hn⟩ | ⟨g, cap, cur, rfl, _, _, hnc, _⟩
      · simp [Builtin.append_, run_underlying ht, sizeOf, typeInfo, hi, Builtin.lenOf, Builtin.firstCells]
      · simp [Builtin.append_, run_underlying ht, sizeOf, typeInfo, hi, Builtin.lenOf, Builtin.firstCells, hnc, storeCells]
    have hx' : a.eval x = .slice none 0 c := hx
    unfold Oper.wp
    simp [execOp, ho, resolve, invoke, builtin, hs, hx', hrun, Result.andThen]
    exact hK _ _ (h v w (by simpa using hown) (World.grownBy.refl w _) (hbel w (World.grownBy.refl w _)))
  · refine wpList_append_own w hgd s x t ho base e i0 (.int .u8 0) 1 1 ht hi hz hsz hby rfl (by decide) v bs.length (Lib.byteCells bs) hs hown ad cs.length c (Lib.byteCells cs) hx (by rw [Lib.byteCells_length, Nat.mul_one]) ?_ (cell_oneCell cs) (by unfold maxLen; omega) (by omega) hbase ?_
    · intro j u hj
      have hjl : j < cs.length := by
        rcases Nat.lt_or_ge j cs.length with h' | h'
        · exact h'
        · rw [List.getElem?_eq_none (by rw [Lib.byteCells_length]; exact h')] at hj; cases hj
      rw [byteCells_get cs j hjl] at hj
      injection hj with hj
      subst hj
      obtain ⟨b, off, hA, _, hr⟩ := hc (by omega)
      injection hA with hA
      subst hA
      rw [addr_add]
      exact hr j hjl
    · intro v' w' ho' hg _
      exact h v' w' (by simpa [Lib.byteCells_append] using ho') hg (hbel w' hg)
end
theorem own_len {w : World} {base size : Nat} {e : TypeId} {v : Value} {n m : Nat} {xs : List Value} (h : w.ownsRow base e size v n xs) (hm : n = m) : w.ownsRow base e size v m xs := hm ▸ h
theorem own_form {w : World} {base : Nat} {e : TypeId} {v : Value} {n : Nat} {xs : List Value} (h : w.ownsRow base e 1 v n xs) : ∃ A c, v = .slice A n c := by
  rcases h.2 with ⟨rfl, rfl⟩ | ⟨g, cap, cur, rfl, _⟩
  · exact ⟨_, _, rfl⟩
  · exact ⟨_, _, rfl⟩
end Go.Proofs.YtjondbamnbgiaaaDoor
