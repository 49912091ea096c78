/-
  LAWS AT OPERATIONS: a slice of bytes cut from a place on, or up to a place; a copy into a row.
-/
import Derived.Test.YtjondbamnbgiaaaDoorRow
import Derived.Laws.CopyOwn
import Derived.Deep.RegionLaw
namespace Go.Proofs.YtjondbamnbgiaaaDoor
open Go.RowKit
set_option maxRecDepth 100000

theorem Sl.cut {w : World} {B : Nat} {A : Option Addr} {len c : Nat} {bs : List UInt8} (h : Sl w B (.slice A len c) bs) (i j : Nat) (hij : i ≤ j) (hj : j ≤ len) (hjm : j ≤ c) :
    Sl w B (sliced A i j c 1) ((bs.take j).drop i) := by
  have hl := h.len
  subst hl
  obtain ⟨A', c', hv, h1, h2, hc⟩ := h
  cases hv
  have hlen : ((bs.take j).drop i).length = j - i := by simp; omega
  unfold sliced
  refine ⟨if c = i then A else A.map (·.add (i * 1)), c - i, by rw [hlen], by omega, by omega, fun hn => ?_⟩
  obtain ⟨b, off, rfl, hb, hr⟩ := hc (by omega)
  rw [if_neg (by omega)]
  refine ⟨b, off + i, by simp [addr_add], hb, fun k hk => ?_⟩
  rw [hlen] at hk
  have := hr (i + k) (by omega)
  rw [show off + (i + k) = off + i + k by omega] at this
  rw [this]
  simp
theorem Off.cut {g : Nat} {A : Option Addr} {len c : Nat} (h : Off g (.slice A len c)) (i j : Nat) (hj : j ≤ len) : Off g (sliced A i j c 1) := by
  intro x l c' hx hl
  have hx1 : (if c = i then A else A.map (·.add (i * 1))) = some x := by
    unfold sliced at hx
    injection hx
  have hx2 : j - i = l := by
    unfold sliced at hx
    injection hx
  by_cases hci : c = i
  · rw [if_pos hci] at hx1
    subst hx1
    exact h x len c rfl (by omega)
  · rw [if_neg hci] at hx1
    cases A with
    | none => cases hx1
    | some y =>
      simp only [Option.map_some, Option.some.injEq] at hx1
      have := h y len c rfl (by omega)
      rw [← hx1]
      unfold Addr.add
      split <;> exact this
theorem slice30 : Tryd.prog.underlying 29 = some (.slice (Tryd.prog.elem 29)) := by kernel_rfl
theorem elem30 : Tryd.prog.elem 29 = 5 := by kernel_rfl
theorem run_sizeOf_u8 (w : World) : (sizeOf 5).run Tryd.prog w = .ok 1 w := by simp [go_sem]
/-- x[i:] of a slice of bytes -/
theorem wpList_slice_from {ops : Array Oper} {rest : List Oper} {o : Oper} {a : Act} {w : World} {Q : Exit → Act → World → Prop} (hgd : o.guard = none) (x lo : Operand) (ho : o.op = .slice 29 x (some lo) none none)
    (B : Nat) (v : Value) (hx : a.eval x = v) (bs : List UInt8) (hs : Sl w B v bs) (i : Nat) (hlo : a.eval lo = .int .i64 (i : Int)) (hi : i ≤ bs.length)
    (h : ∀ v', Sl w B v' (bs.drop i) → (∀ g, Off g v → Off g v') → wpList Tryd.prog ops Q rest (a.put o.dst v') w) : wpList Tryd.prog ops Q (o :: rest) a w := by
  obtain ⟨A, c, rfl, h1, h2⟩ := hs.form
  have hcut := hs.cut i bs.length hi (Nat.le_refl _) h1
  rw [List.take_length] at hcut
  refine wpList_plain hgd fun K hK => ?_
  have hrun : (Instr.sliceAt 29 (.slice A bs.length c) (some (.int .i64 (i : Int))) none none).run Tryd.prog w = .ok (sliced A i bs.length c 1) w := by
    rw [run_sliceAt_slice _ _ _ _ _ _ slice30, run_slice_l w 29 A bs.length c slice30 .i64 (i : Int) (by omega) (by omega), elem30, run_sizeOf_u8, Result.andThen_ok, Int.toNat_natCast]
  unfold Oper.wp execOp
  simp only [ho, hx, hlo, Option.map_some, Option.map_none, Sem.run_bind, hrun, Result.andThen_ok]
  exact hK _ _ (h _ hcut fun g hg => hg.cut i bs.length (Nat.le_refl _))
/-- x[:j] of a slice of bytes, within its length -/
theorem wpList_slice_to {ops : Array Oper} {rest : List Oper} {o : Oper} {a : Act} {w : World} {Q : Exit → Act → World → Prop} (hgd : o.guard = none) (x hi : Operand) (ho : o.op = .slice 29 x none (some hi) none)
    (B : Nat) (v : Value) (hx : a.eval x = v) (bs : List UInt8) (hs : Sl w B v bs) (j : Nat) (hhi : a.eval hi = .int .i64 (j : Int)) (hj : j ≤ bs.length)
    (h : ∀ v', Sl w B v' (bs.take j) → (∀ g, Off g v → Off g v') → wpList Tryd.prog ops Q rest (a.put o.dst v') w) : wpList Tryd.prog ops Q (o :: rest) a w := by
  obtain ⟨A, c, rfl, h1, h2⟩ := hs.form
  have hcut := hs.cut 0 j (Nat.zero_le _) hj (by omega)
  rw [List.drop_zero] at hcut
  refine wpList_plain hgd fun K hK => ?_
  have hrun : (Instr.sliceAt 29 (.slice A bs.length c) none (some (.int .i64 (j : Int))) none).run Tryd.prog w = .ok (sliced A 0 j c 1) w := by
    rw [run_sliceAt_slice _ _ _ _ _ _ slice30, run_slice_h w 29 A bs.length c slice30 .i64 (j : Int) (by omega) (by omega), elem30, run_sizeOf_u8, Result.andThen_ok, Int.toNat_natCast]
  unfold Oper.wp execOp
  simp only [ho, hx, hhi, Option.map_some, Option.map_none, Sem.run_bind, hrun, Result.andThen_ok]
  exact hK _ _ (h _ hcut fun g hg => hg.cut 0 j hj)

theorem wpList_build_eq {P : Program} {ops : Array Oper} {rest : List Oper} {o : Oper} {a : Act} {w : World} {Q : Exit → Act → World → Prop} (hg : o.guard = none) (t : TypeId) (parts : Array (Nat × Operand)) (ho : o.op = .build t parts)
    (cells : Array Value) (hf : P.built t (parts.map fun (i, x) => (i, a.eval x)).toList = some cells)
    (h : wpList P ops Q rest (a.put o.dst (.agg cells)) w) : wpList P ops Q (o :: rest) a w :=
  wpList_build hg t parts ho (by rw [hf]; rfl) (by rw [hf]; exact h)

/-! a region that draws its order, step by step -/
theorem ready_load {P : Program} {md : Region.Mode} {ops : Array Oper} {Q : Exit → Act → World → Prop} {fuel : Nat} {listed : Array Bool} {a : Act} {w : World} {rs : List Nat} (i : Nat) (ty : TypeId) (x : Operand) (dst : Option Tmp)
    (hgd : (ops[i]?).map (·.guard) = some none) (hop : (ops[i]?).map (·.op) = some (.load ty x)) (hdst : (ops[i]?).map (·.dst) = some dst)
    (b o : Nat) (hx : a.eval x = .pointer (some ⟨b, o, none⟩)) (cs : List Value) (d : TypeDesc) (hc : w.rangeAt b o cs)
    (hu : P.underlying ty = some d) (hd : d.isRow = true) (hi : (P.info? ty).map (·.size) = some cs.length)
    (h : wpAny P md ops Q fuel (listed.setIfInBounds i true) (a.put dst (.agg cs.toArray)) w) (hs : AllReady P md ops Q fuel listed a w rs) : AllReady P md ops Q fuel listed a w (i :: rs) := by
  cases ho : ops[i]? with
  | none => rw [ho] at hgd; cases hgd
  | some op =>
    rw [ho] at hgd hop hdst
    simp only [Option.map_some, Option.some.injEq] at hgd hop hdst
    refine AllReady.cons ho (fun K hK => ?_) hs
    have hw : Region.wanted op (yielded ops a.tmps) = true := by simp [Region.wanted, hgd]
    rw [if_pos hw]
    exact wp_load_mid ty x hop b o hx cs d hc hu hd hi (hK _ _ (by rw [hdst]; exact h))
theorem ready_store {P : Program} {md : Region.Mode} {ops : Array Oper} {Q : Exit → Act → World → Prop} {fuel : Nat} {listed : Array Bool} {a : Act} {w : World} {rs : List Nat} (i : Nat) (ty : TypeId) (x y : Operand) (dst : Option Tmp)
    (hgd : (ops[i]?).map (·.guard) = some none) (hop : (ops[i]?).map (·.op) = some (.store ty x y)) (hdst : (ops[i]?).map (·.dst) = some dst)
    (b o : Nat) (hx : a.eval x = .pointer (some ⟨b, o, none⟩)) (cs : List Value) (hy : a.eval y = .agg cs.toArray) (ht : w.there b o cs.length)
    (hi : (P.info? ty).map (·.size) = some cs.length) (h1 : ∀ u ∈ cs, u.oneCell' = true)
    (h : wpAny P md ops Q fuel (listed.setIfInBounds i true) (a.put dst undef) (w.setCells b o cs)) (hs : AllReady P md ops Q fuel listed a w rs) : AllReady P md ops Q fuel listed a w (i :: rs) := by
  cases ho : ops[i]? with
  | none => rw [ho] at hgd; cases hgd
  | some op =>
    rw [ho] at hgd hop hdst
    simp only [Option.map_some, Option.some.injEq] at hgd hop hdst
    refine AllReady.cons ho (fun K hK => ?_) hs
    have hw : Region.wanted op (yielded ops a.tmps) = true := by simp [Region.wanted, hgd]
    rw [if_pos hw]
    exact wp_store_mid ty x y hop b o cs.toArray hx hy (by simpa using ht) (by simpa using hi) (all_oneCell_toArray h1) (hK _ _ (by rw [hdst]; exact h))

/-- a slice over a row -/
theorem Sl.of_row {w : World} {B g off n c : Nat} {T : TypeId} {cs : List Value} {bs : List UInt8} (hr : Row w g T cs) (hB : g < B) (hn : bs.length = n) (hc : n ≤ c) (hm : c ≤ maxLen)
    (hb : ∀ k (h : k < bs.length), cs[off + k]? = some (.int .u8 bs[k].toNat)) : Sl w B (.slice (some ⟨g, off, none⟩) n c) bs := by
  subst hn
  exact ⟨_, c, rfl, hc, hm, fun _ => ⟨g, off, rfl, hB, fun k hk => by rw [hr.cell]; exact hb k hk⟩⟩
theorem Sl.of_bytes {w : World} {B g n : Nat} {T : TypeId} {bs : List UInt8} (hr : Row w g T (Lib.byteCells bs)) (hB : g < B) (hn : bs.length = n) (hm : n ≤ 1000000) : Sl w B (.slice (some ⟨g, 0, none⟩) n n) bs :=
  Sl.of_row hr hB hn (Nat.le_refl _) (by unfold maxLen; omega) fun k hk => by rw [Nat.zero_add]; exact byteCells_get bs k hk

/-- copy into a row, as one step of a region that draws: only that row turns -/
theorem step_copy_but {P : Program} {ops : Array Oper} {o : Oper} {a : Act} {w : World} {K : Act → World → Prop} {Q : Exit → Act → World → Prop} {E : Prop} (hgd : o.guard = none) (d s : Operand) (dT sT : TypeId)
    (ho : o.op = .call { callee := .builtin .copy, args := #[d, s], argTypes := #[dT, sT] }) (elem : TypeId) (hu : P.underlying dT = some (.slice elem)) (hsz : (P.info? elem).map (·.size) = some 1)
    (dLen dCap sLen sCap : Nat) (ad : Addr) (g off : Nat) (hd : a.eval d = .slice (some ⟨g, off, none⟩) dLen dCap) (hs : a.eval s = .slice (some ad) sLen sCap)
    (cur : List Value) (t : TypeId) (hr : Row w g t cur) (cs : List Value) (hn : cs.length = Nat.min sLen dLen)
    (hsrc : ∀ j v, cs[j]? = some v → w.cell? (ad.add j) = some v) (hfit : off + cs.length ≤ cur.length) (h1 : ∀ v ∈ cs, v.oneCell' = true)
    (h : ∀ w', Row w' g t (splice cur off cs) → But w.heap.size g w w' → w'.heap.size = w.heap.size → K (a.put o.dst (goInt cs.length)) w') :
    if Region.wanted o (yielded ops a.tmps) = true then Oper.wp P o a w K Q else E := by
  have hw : Region.wanted o (yielded ops a.tmps) = true := by simp [Region.wanted, hgd]
  rw [if_pos hw]
  have hrun := run_copy_row (P := P) w dT sT o.type elem g off dLen dCap ad sLen sCap cur.toArray t cs hu hsz hr hn hsrc (by simpa using hfit) h1
  unfold Oper.wp
  simp [execOp, ho, resolve, invoke, builtin, hd, hs, hrun, Result.andThen]
  refine h _ (show _ = _ by simpa [splice] using setRow_heap w g _ _ t _ hr) ⟨rfl, rfl, rfl, Nat.le_of_eq (by simp), fun k _ hk => Go.setRow_other w g k _ hk⟩ (by simp)
end Go.Proofs.YtjondbamnbgiaaaDoor
