/-
  FOUNDATIONS, merged: see the heads of the parts.
-/
import Derived.Test.YtanpplniedphkaaDoorMB
import Derived.Laws.CopyOwn
import Derived.Deep.RegionLaw
import Derived.Test.YtanpplniedphkaaDoorMA
import Derived.BigQuiet
import Derived.Deep.QuietTactic
import Derived.DeepKeys
import Derived.Deep.RegionHeld3
import Derived.Lib.SmallJoins
/-
  LAWS AT OPERATIONS: a slice of bytes cut from a place on, or up to a place; a copy into a row.
-/
namespace Go.Proofs.YtanpplniedphkaaDoor
open Go.RowKit
set_option maxRecDepth 100000

theorem Sl.cut {w : World} {B : Nat} {A : Option Addr} {len c : Nat} {bs : List UInt8} (h : Sl w B (.slice A len c) bs) (i j : Nat) (hij : i ≤ j) (hj : j ≤ len) (hjm : j ≤ c) :
    Sl w B (sliced A i j c 1) ((bs.take j).drop i) := by
  have hl := h.len
  subst hl
  obtain ⟨A', c', hv, h1, h2, hc⟩ := h
  cases hv
  have hlen : ((bs.take j).drop i).length = j - i := by simp; omega
  unfold sliced
  refine ⟨if c = i then A else A.map (·.add (i * 1)), c - i, by rw [hlen], by omega, by omega, fun hn => ?_⟩
  obtain ⟨b, off, rfl, hb, hr⟩ := hc (by omega)
  rw [if_neg (by omega)]
  refine ⟨b, off + i, by simp [addr_add], hb, fun k hk => ?_⟩
  rw [hlen] at hk
  have := hr (i + k) (by omega)
  rw [show off + (i + k) = off + i + k by omega] at this
  rw [this]
  simp
theorem Off.cut {g : Nat} {A : Option Addr} {len c : Nat} (h : Off g (.slice A len c)) (i j : Nat) (hj : j ≤ len) : Off g (sliced A i j c 1) := by
  intro x l c' hx hl
  have hx1 : (if c = i then A else A.map (·.add (i * 1))) = some x := by
    unfold sliced at hx
    injection hx
  have hx2 : j - i = l := by
    unfold sliced at hx
    injection hx
  by_cases hci : c = i
  · rw [if_pos hci] at hx1
    subst hx1
    exact h x len c rfl (by omega)
  · rw [if_neg hci] at hx1
    cases A with
    | none => cases hx1
    | some y =>
      simp only [Option.map_some, Option.some.injEq] at hx1
      have := h y len c rfl (by omega)
      rw [← hx1]
      unfold Addr.add
      split <;> exact this
theorem slice30 : Tryd.prog.underlying 22 = some (.slice (Tryd.prog.elem 22)) := by kernel_rfl
theorem elem30 : Tryd.prog.elem 22 = 5 := by kernel_rfl
theorem run_sizeOf_u8 (w : World) : (sizeOf 5).run Tryd.prog w = .ok 1 w := by simp [go_sem]
/-- x[i:] of a slice of bytes -/
theorem wpList_slice_from {ops : Array Oper} {rest : List Oper} {o : Oper} {a : Act} {w : World} {Q : Exit → Act → World → Prop} (hgd : o.guard = none) (x lo : Operand) (ho : o.op = .slice 22 x (some lo) none none)
    (B : Nat) (v : Value) (hx : a.eval x = v) (bs : List UInt8) (hs : Sl w B v bs) (i : Nat) (hlo : a.eval lo = .int .i64 (i : Int)) (hi : i ≤ bs.length)
    (h : ∀ v', Sl w B v' (bs.drop i) → (∀ g, Off g v → Off g v') → wpList Tryd.prog ops Q rest (a.put o.dst v') w) : wpList Tryd.prog ops Q (o :: rest) a w := by
  obtain ⟨A, c, rfl, h1, h2⟩ := hs.form
  have hcut := hs.cut i bs.length hi (Nat.le_refl _) h1
  rw [List.take_length] at hcut
  refine wpList_plain hgd fun K hK => ?_
  have hrun : (Instr.sliceAt 22 (.slice A bs.length c) (some (.int .i64 (i : Int))) none none).run Tryd.prog w = .ok (sliced A i bs.length c 1) w := by
    rw [run_sliceAt_slice _ _ _ _ _ _ slice30, run_slice_l w 22 A bs.length c slice30 .i64 (i : Int) (by omega) (by omega), elem30, run_sizeOf_u8, Result.andThen_ok, Int.toNat_natCast]
  unfold Oper.wp execOp
  simp only [ho, hx, hlo, Option.map_some, Option.map_none, Sem.run_bind, hrun, Result.andThen_ok]
  exact hK _ _ (h _ hcut fun g hg => hg.cut i bs.length (Nat.le_refl _))
/-- x[:j] of a slice of bytes, within its length -/
theorem wpList_slice_to {ops : Array Oper} {rest : List Oper} {o : Oper} {a : Act} {w : World} {Q : Exit → Act → World → Prop} (hgd : o.guard = none) (x hi : Operand) (ho : o.op = .slice 22 x none (some hi) none)
    (B : Nat) (v : Value) (hx : a.eval x = v) (bs : List UInt8) (hs : Sl w B v bs) (j : Nat) (hhi : a.eval hi = .int .i64 (j : Int)) (hj : j ≤ bs.length)
    (h : ∀ v', Sl w B v' (bs.take j) → (∀ g, Off g v → Off g v') → wpList Tryd.prog ops Q rest (a.put o.dst v') w) : wpList Tryd.prog ops Q (o :: rest) a w := by
  obtain ⟨A, c, rfl, h1, h2⟩ := hs.form
  have hcut := hs.cut 0 j (Nat.zero_le _) hj (by omega)
  rw [List.drop_zero] at hcut
  refine wpList_plain hgd fun K hK => ?_
  have hrun : (Instr.sliceAt 22 (.slice A bs.length c) none (some (.int .i64 (j : Int))) none).run Tryd.prog w = .ok (sliced A 0 j c 1) w := by
    rw [run_sliceAt_slice _ _ _ _ _ _ slice30, run_slice_h w 22 A bs.length c slice30 .i64 (j : Int) (by omega) (by omega), elem30, run_sizeOf_u8, Result.andThen_ok, Int.toNat_natCast]
  unfold Oper.wp execOp
  simp only [ho, hx, hhi, Option.map_some, Option.map_none, Sem.run_bind, hrun, Result.andThen_ok]
  exact hK _ _ (h _ hcut fun g hg => hg.cut 0 j hj)

theorem wpList_build_eq {P : Program} {ops : Array Oper} {rest : List Oper} {o : Oper} {a : Act} {w : World} {Q : Exit → Act → World → Prop} (hg : o.guard = none) (t : TypeId) (parts : Array (Nat × Operand)) (ho : o.op = .build t parts)
    (cells : Array Value) (hf : P.built t (parts.map fun (i, x) => (i, a.eval x)).toList = some cells)
    (h : wpList P ops Q rest (a.put o.dst (.agg cells)) w) : wpList P ops Q (o :: rest) a w :=
  wpList_build hg t parts ho (by rw [hf]; rfl) (by rw [hf]; exact h)

/-! a region that draws its order, step by step -/
theorem ready_load {P : Program} {md : Region.Mode} {ops : Array Oper} {Q : Exit → Act → World → Prop} {fuel : Nat} {listed : Array Bool} {a : Act} {w : World} {rs : List Nat} (i : Nat) (ty : TypeId) (x : Operand) (dst : Option Tmp)
    (hgd : (ops[i]?).map (·.guard) = some none) (hop : (ops[i]?).map (·.op) = some (.load ty x)) (hdst : (ops[i]?).map (·.dst) = some dst)
    (b o : Nat) (hx : a.eval x = .pointer (some ⟨b, o, none⟩)) (cs : List Value) (d : TypeDesc) (hc : w.rangeAt b o cs)
    (hu : P.underlying ty = some d) (hd : d.isRow = true) (hi : (P.info? ty).map (·.size) = some cs.length)
    (h : wpAny P md ops Q fuel (listed.setIfInBounds i true) (a.put dst (.agg cs.toArray)) w) (hs : AllReady P md ops Q fuel listed a w rs) : AllReady P md ops Q fuel listed a w (i :: rs) := by
  cases ho : ops[i]? with
  | none => rw [ho] at hgd; cases hgd
  | some op =>
    rw [ho] at hgd hop hdst
    simp only [Option.map_some, Option.some.injEq] at hgd hop hdst
    refine AllReady.cons ho (fun K hK => ?_) hs
    have hw : Region.wanted op (yielded ops a.tmps) = true := by simp [Region.wanted, hgd]
    rw [if_pos hw]
    exact wp_load_mid ty x hop b o hx cs d hc hu hd hi (hK _ _ (by rw [hdst]; exact h))
theorem ready_store {P : Program} {md : Region.Mode} {ops : Array Oper} {Q : Exit → Act → World → Prop} {fuel : Nat} {listed : Array Bool} {a : Act} {w : World} {rs : List Nat} (i : Nat) (ty : TypeId) (x y : Operand) (dst : Option Tmp)
    (hgd : (ops[i]?).map (·.guard) = some none) (hop : (ops[i]?).map (·.op) = some (.store ty x y)) (hdst : (ops[i]?).map (·.dst) = some dst)
    (b o : Nat) (hx : a.eval x = .pointer (some ⟨b, o, none⟩)) (cs : List Value) (hy : a.eval y = .agg cs.toArray) (ht : w.there b o cs.length)
    (hi : (P.info? ty).map (·.size) = some cs.length) (h1 : ∀ u ∈ cs, u.oneCell' = true)
    (h : wpAny P md ops Q fuel (listed.setIfInBounds i true) (a.put dst undef) (w.setCells b o cs)) (hs : AllReady P md ops Q fuel listed a w rs) : AllReady P md ops Q fuel listed a w (i :: rs) := by
  cases ho : ops[i]? with
  | none => rw [ho] at hgd; cases hgd
  | some op =>
    rw [ho] at hgd hop hdst
    simp only [Option.map_some, Option.some.injEq] at hgd hop hdst
    refine AllReady.cons ho (fun K hK => ?_) hs
    have hw : Region.wanted op (yielded ops a.tmps) = true := by simp [Region.wanted, hgd]
    rw [if_pos hw]
    exact wp_store_mid ty x y hop b o cs.toArray hx hy (by simpa using ht) (by simpa using hi) (all_oneCell_toArray h1) (hK _ _ (by rw [hdst]; exact h))

/-- a slice over a row -/
theorem Sl.of_row {w : World} {B g off n c : Nat} {T : TypeId} {cs : List Value} {bs : List UInt8} (hr : Row w g T cs) (hB : g < B) (hn : bs.length = n) (hc : n ≤ c) (hm : c ≤ maxLen)
    (hb : ∀ k (h : k < bs.length), cs[off + k]? = some (.int .u8 bs[k].toNat)) : Sl w B (.slice (some ⟨g, off, none⟩) n c) bs := by
  subst hn
  exact ⟨_, c, rfl, hc, hm, fun _ => ⟨g, off, rfl, hB, fun k hk => by rw [hr.cell]; exact hb k hk⟩⟩
theorem Sl.of_bytes {w : World} {B g n : Nat} {T : TypeId} {bs : List UInt8} (hr : Row w g T (Lib.byteCells bs)) (hB : g < B) (hn : bs.length = n) (hm : n ≤ 1000000) : Sl w B (.slice (some ⟨g, 0, none⟩) n n) bs :=
  Sl.of_row hr hB hn (Nat.le_refl _) (by unfold maxLen; omega) fun k hk => by rw [Nat.zero_add]; exact byteCells_get bs k hk

/-- copy into a row, as one step of a region that draws: only that row turns -/
theorem step_copy_but {P : Program} {ops : Array Oper} {o : Oper} {a : Act} {w : World} {K : Act → World → Prop} {Q : Exit → Act → World → Prop} {E : Prop} (hgd : o.guard = none) (d s : Operand) (dT sT : TypeId)
    (ho : o.op = .call { callee := .builtin .copy, args := #[d, s], argTypes := #[dT, sT] }) (elem : TypeId) (hu : P.underlying dT = some (.slice elem)) (hsz : (P.info? elem).map (·.size) = some 1)
    (dLen dCap sLen sCap : Nat) (ad : Addr) (g off : Nat) (hd : a.eval d = .slice (some ⟨g, off, none⟩) dLen dCap) (hs : a.eval s = .slice (some ad) sLen sCap)
    (cur : List Value) (t : TypeId) (hr : Row w g t cur) (cs : List Value) (hn : cs.length = Nat.min sLen dLen)
    (hsrc : ∀ j v, cs[j]? = some v → w.cell? (ad.add j) = some v) (hfit : off + cs.length ≤ cur.length) (h1 : ∀ v ∈ cs, v.oneCell' = true)
    (h : ∀ w', Row w' g t (splice cur off cs) → But w.heap.size g w w' → w'.heap.size = w.heap.size → K (a.put o.dst (goInt cs.length)) w') :
    if Region.wanted o (yielded ops a.tmps) = true then Oper.wp P o a w K Q else E := by
  have hw : Region.wanted o (yielded ops a.tmps) = true := by simp [Region.wanted, hgd]
  rw [if_pos hw]
  have hrun := run_copy_row (P := P) w dT sT o.type elem g off dLen dCap ad sLen sCap cur.toArray t cs hu hsz hr hn hsrc (by simpa using hfit) h1
  unfold Oper.wp
  simp [execOp, ho, resolve, invoke, builtin, hd, hs, hrun, Result.andThen]
  refine h _ (show _ = _ by simpa [splice] using setRow_heap w g _ _ t _ hr) ⟨rfl, rfl, rfl, Nat.le_of_eq (by simp), fun k _ hk => Go.setRow_other w g k _ hk⟩ (by simp)
end Go.Proofs.YtanpplniedphkaaDoor

/-
  THE HASH IN MEMORY: what a block holds behind New and Write; New, isMade, Len.
-/
namespace Go.Proofs.YtanpplniedphkaaDoor
open Go.RowKit
set_option maxRecDepth 100000

def hashCells (st : St) (blk : List UInt8) (n : Nat) : List Value := .bool true :: (wordCells st.list ++ (Lib.byteCells blk ++ [.int .i64 (n : Int)]))
theorem hashCells_length (st : St) (blk : List UInt8) (n : Nat) (h : blk.length = 64) : (hashCells st blk n).length = 74 := by
  simp [hashCells, wordCells_length, St.list_length, Lib.byteCells_length, h]
theorem hashCells_size (st : St) (blk : List UInt8) (n : Nat) (h : blk.length = 64) : (hashCells st blk n)[73]? = some (.int .i64 (n : Int)) := by
  rw [hashCells, List.getElem?_cons_succ, List.getElem?_append_right (by simp [wordCells_length, St.list_length]), List.getElem?_append_right (by simp [wordCells_length, St.list_length, Lib.byteCells_length, h])]
  simp [wordCells_length, St.list_length, Lib.byteCells_length, h]
theorem hashCells_st (st : St) (blk : List UInt8) (n : Nat) : ((hashCells st blk n).drop 1).take 8 = wordCells st.list := by
  rw [hashCells, List.drop_succ_cons, List.drop_zero, List.take_append_of_le_length (by simp [wordCells_length, St.list_length])]
  exact List.take_of_length_le (by simp [wordCells_length, St.list_length])
theorem hashCells_blk (st : St) (blk : List UInt8) (n : Nat) (h : blk.length = 64) : ((hashCells st blk n).drop 9).take 64 = Lib.byteCells blk := by
  have e : (hashCells st blk n).drop 9 = Lib.byteCells blk ++ [.int .i64 (n : Int)] := by
    rw [hashCells, List.drop_succ_cons, List.drop_append_of_le_length (by simp [wordCells_length, St.list_length]), List.drop_of_length_le (by simp [wordCells_length, St.list_length]), List.nil_append]
  rw [e, List.take_append_of_le_length (by rw [Lib.byteCells_length]; omega)]
  exact List.take_of_length_le (by rw [Lib.byteCells_length]; omega)
theorem hashCells_byte (st : St) (blk : List UInt8) (n k : Nat) (h : k < blk.length) : (hashCells st blk n)[9 + k]? = some (.int .u8 (blk[k].toNat : Int)) := by
  rw [show 9 + k = (8 + k) + 1 by omega, hashCells, List.getElem?_cons_succ, List.getElem?_append_right (by simp [wordCells_length, St.list_length]), List.getElem?_append_left (by simp [wordCells_length, St.list_length, Lib.byteCells_length]; omega)]
  rw [show 8 + k - (wordCells st.list).length = k by simp [wordCells_length, St.list_length]]
  exact byteCells_get blk k h
theorem hashCells_word (st : St) (blk : List UInt8) (n k : Nat) (h : k < 8) : (hashCells st blk n)[1 + k]? = some (.int .u32 ((st.list[k]'h).toNat : Int)) := by
  rw [show 1 + k = k + 1 by omega, hashCells, List.getElem?_cons_succ, List.getElem?_append_left (by simp [wordCells_length, St.list_length]; omega)]
  exact wordCells_get _ _ h
theorem hashCells_one (st : St) (blk : List UInt8) (n : Nat) : ∀ u ∈ hashCells st blk n, u.oneCell' = true := by
  intro u hu
  simp only [hashCells, List.mem_cons, List.mem_append, List.not_mem_nil, or_false] at hu
  rcases hu with rfl | hu | hu | rfl
  · rfl
  · exact cell_oneWord _ u hu
  · exact cell_oneCell _ u hu
  · rfl
/-- the last cell: how many bytes -/
theorem hashCells_setSize (st : St) (blk : List UInt8) (n m : Nat) (h : blk.length = 64) : (hashCells st blk n).set 73 (.int .i64 (m : Int)) = hashCells st blk m := by
  rw [hashCells, List.set_cons_succ, List.set_append_right _ _ (by simp [wordCells_length, St.list_length]), List.set_append_right _ _ (by simp [wordCells_length, St.list_length, Lib.byteCells_length, h])]
  simp [wordCells_length, St.list_length, Lib.byteCells_length, h, hashCells]
theorem hashCells_splice (st : St) (blk cs : List UInt8) (n r : Nat) (h : blk.length = 64) (hr : r + cs.length ≤ 64) : splice (hashCells st blk n) (9 + r) (Lib.byteCells cs) = hashCells st (splice blk r cs) n := by
  have h9 : (Value.bool true :: wordCells st.list).length = 9 := by simp [wordCells_length, St.list_length]
  have e : hashCells st blk n = (Value.bool true :: wordCells st.list) ++ (Lib.byteCells blk ++ [.int .i64 (n : Int)]) := by simp [hashCells]
  have e2 : hashCells st (splice blk r cs) n = (Value.bool true :: wordCells st.list) ++ (Lib.byteCells (splice blk r cs) ++ [.int .i64 (n : Int)]) := by simp [hashCells]
  rw [e2, e]
  generalize (Value.bool true :: wordCells st.list) = hd at h9 ⊢
  unfold splice
  rw [Lib.byteCells_length, List.take_append, h9, List.take_of_length_le (by omega), show 9 + r - 9 = r by omega, List.take_append_of_le_length (by rw [Lib.byteCells_length]; omega),
    show 9 + r + cs.length = 9 + (r + cs.length) by omega, ← List.drop_drop, List.drop_append_of_le_length (l₁ := hd) (by omega), List.drop_of_length_le (l := hd) (by omega), List.nil_append,
    List.drop_append_of_le_length (by rw [Lib.byteCells_length]; omega)]
  simp [Lib.byteCells, List.append_assoc]
theorem hashCells_setSt (st s2 : St) (blk : List UInt8) (n : Nat) : over (hashCells st blk n) 1 (wordCells s2.list) = hashCells s2 blk n := by
  rw [over_eq _ _ _ (by simp [hashCells, wordCells_length, St.list_length])]
  simp [hashCells, wordCells_length, St.list_length]

/-- block g holds a Hash to which the bytes m have been written -/
def HashAt (w : World) (g : Nat) (m : List UInt8) : Prop :=
  1 ≠ g ∧ ∃ blk : List UInt8, Row w g 154 (hashCells (states m (m.length / 64)) blk m.length) ∧ blk.length = 64 ∧ blk.take (m.length % 64) = m.drop (64 * (m.length / 64))
section
variable {w w' : World} {B g j : Nat} {m : List UInt8}
theorem HashAt.lt (h : HashAt w g m) : g < w.heap.size := by
  obtain ⟨_, blk, hr, _⟩ := h
  exact hr.lt
theorem HashAt.below (h : HashAt w g m) (hb : Below B w w') (hg : g < B) : HashAt w' g m := by
  obtain ⟨h0, blk, hr, h1, h2⟩ := h
  exact ⟨h0, blk, hr.below hb hg, h1, h2⟩
theorem HashAt.step (h : HashAt w g m) (hb : Below w.heap.size w w') : HashAt w' g m := h.below hb h.lt
theorem HashAt.but (h : HashAt w g m) (hb : But w.heap.size j w w') (hj : g ≠ j) : HashAt w' g m := by
  have hlt := h.lt
  obtain ⟨h0, blk, hr, h1, h2⟩ := h
  exact ⟨h0, blk, hb.row hr hlt hj, h1, h2⟩
theorem HashAt.drew (h : HashAt w g m) : HashAt w.drew g m := h
end

theorem But.undrew {w w' : World} {B g : Nat} (h : But B g w.drew w') : But B g w w' := ⟨h.os, h.tape, h.output, h.size, h.block⟩
theorem zeros64s : (#[.int .u8 0] : Array Value) = (Lib.byteCells (List.replicate 1 0)).toArray := rfl

/-- a new Hash without bytes -/
def NewIs (w : World) (e : Ending) (w' : World) : Prop := ∃ g, e = .returned (.pointer (some ⟨g, 0, none⟩)) ∧ g = w.heap.size ∧ HashAt w' g [] ∧ Below w.heap.size w w'

theorem new_any (w : World) (hv : Vars w) : Calls Tryd.prog 122 #[] w (NewIs w) := by
  unfold NewIs
  have hpos := hv.pos
  go_enter Tryd.func122, Tryd.ntmps122
  go_wp2_with (refine wpList_build_eq rfl 154 _ rfl (hashCells start (List.replicate 64 0) 0).toArray (by kernel_rfl) ?_)
  go_ret
  refine ⟨w.heap.size, rfl, rfl, ⟨by omega, List.replicate 64 0, ?_, by simp, rfl⟩, (Below.refl _ _).alloc (Nat.le_refl _) _⟩
  exact Row.new_ rfl rfl
theorem isMade_yes (g : Nat) (m : List UInt8) (w : World) (h : HashAt w g m) : Calls Tryd.prog 123 #[.pointer (some ⟨g, 0, none⟩)] w fun e w' => e = .returned (.bool true) ∧ w' = w := by
  obtain ⟨_, blk, hr, hbl, _⟩ := h
  have hc : w.cell? ⟨g, 0, none⟩ = some (.bool true) := by rw [hr.cell]; rfl
  go_enter Tryd.func123, Tryd.ntmps123
  go_wp2
  go_ret
  exact ⟨rfl, rfl⟩
theorem isMade_nil (w : World) : Calls Tryd.prog 123 #[.pointer none] w fun e w' => e = .returned (.bool false) ∧ w' = w := by
  go_enter Tryd.func123, Tryd.ntmps123
  go_wp2
  go_ret
  exact ⟨rfl, rfl⟩
theorem isMade_no (g : Nat) (w : World) (hc : w.cell? ⟨g, 0, none⟩ = some (.bool false)) : Calls Tryd.prog 123 #[.pointer (some ⟨g, 0, none⟩)] w fun e w' => e = .returned (.bool false) ∧ w' = w := by
  go_enter Tryd.func123, Tryd.ntmps123
  go_wp2
  go_ret
  exact ⟨rfl, rfl⟩
end Go.Proofs.YtanpplniedphkaaDoor

/-
  WALK: (*sha2.Hash).add.
-/
namespace Go.Proofs.YtanpplniedphkaaDoor
open Go.RowKit
set_option maxRecDepth 100000

theorem info_u8s : (Tryd.prog.info? 5).map (·.size) = some 1 := by kernel_rfl
/-- bytes have been added to the Hash in block g; nothing else has turned -/
def AddIs (w : World) (g : Nat) (m : List UInt8) (e : Ending) (w' : World) : Prop := e = .returned (.tuple #[]) ∧ HashAt w' g m ∧ But w.heap.size g w w'

def slLen : Value → Nat
  | .slice _ n _ => n
  | _ => 0
theorem splice_take (blk cs : List UInt8) (r : Nat) (h : r + cs.length ≤ blk.length) : (splice blk r cs).take (r + cs.length) = blk.take r ++ cs := by
  unfold splice
  rw [← List.append_assoc, List.take_append_of_le_length (by simp; omega)]
  exact List.take_of_length_le (by simp; omega)
theorem splice_all (blk cs : List UInt8) (r : Nat) (h : r + cs.length = blk.length) : splice blk r cs = blk.take r ++ cs := by
  unfold splice
  rw [h, List.drop_length, List.append_nil]

/-- what one round does to the bytes: n more bytes; they fill the block, or they don't -/
theorem round_part (M cs blk : List UInt8) (r : Nat) (hr : r = M.length % 64) (hb : blk.length = 64) (hblk : blk.take r = M.drop (64 * (M.length / 64))) (hc : r + cs.length < 64) :
    (M ++ cs).length / 64 = M.length / 64 ∧ states (M ++ cs) ((M ++ cs).length / 64) = states M (M.length / 64) ∧ (splice blk r cs).length = 64 ∧ (splice blk r cs).take ((M ++ cs).length % 64) = (M ++ cs).drop (64 * ((M ++ cs).length / 64)) := by
  have hd : (M ++ cs).length / 64 = M.length / 64 := by simp only [List.length_append]; omega
  have hm : (M ++ cs).length % 64 = r + cs.length := by simp only [List.length_append]; omega
  refine ⟨hd, by rw [hd, states_append _ _ _ (by omega)], by rw [length_splice _ _ _ (by omega), hb], ?_⟩
  rw [hd, hm, splice_take _ _ _ (by omega), hblk, List.drop_append_of_le_length (by omega)]
theorem round_full (M cs blk : List UInt8) (r : Nat) (hr : r = M.length % 64) (hb : blk.length = 64) (hblk : blk.take r = M.drop (64 * (M.length / 64))) (hc : r + cs.length = 64) :
    (M ++ cs).length / 64 = M.length / 64 + 1 ∧ (M ++ cs).length % 64 = 0 ∧ states (M ++ cs) ((M ++ cs).length / 64) = comp (states M (M.length / 64)) (splice blk r cs) ∧ (splice blk r cs).length = 64 := by
  have hd : (M ++ cs).length / 64 = M.length / 64 + 1 := by simp only [List.length_append]; omega
  have hm : (M ++ cs).length % 64 = 0 := by simp only [List.length_append]; omega
  refine ⟨hd, hm, ?_, by rw [length_splice _ _ _ (by omega), hb]⟩
  rw [hd, states, states_append _ _ _ (by omega), blockAt, splice_all _ _ _ (by omega), hblk, List.drop_append_of_le_length (by omega), List.take_of_length_le (by simp only [List.length_append, List.length_drop]; omega)]

theorem arr24 : Tryd.prog.underlying 139 = some (.array (Tryd.prog.arrayLen 139) (Tryd.prog.elem 139)) := by kernel_rfl
theorem elem24 : Tryd.prog.elem 139 = 5 := by kernel_rfl
theorem len24 : Tryd.prog.arrayLen 139 = 64 := by kernel_rfl
theorem slice24_from (g o r : Nat) (h : r < 64) (w : World) : (Instr.sliceAt 139 (.pointer (some ⟨g, o, none⟩)) (some (.int .i64 (r : Int))) none none).run Tryd.prog w = .ok (.slice (some ⟨g, o + r, none⟩) (64 - r) (64 - r)) w := by
  rw [run_sliceAt_array_l w 139 ⟨g, o, none⟩ arr24 .i64 (r : Int) (by omega) (by rw [len24]; omega), elem24, run_sizeOf_u8, Result.andThen_ok, Int.toNat_natCast, len24]
  unfold slicedAt
  rw [if_neg (by omega), addr_add, Nat.mul_one]
theorem slice24_to (g o r : Nat) (h : r ≤ 64) (w : World) : (Instr.sliceAt 139 (.pointer (some ⟨g, o, none⟩)) none (some (.int .i64 (r : Int))) none).run Tryd.prog w = .ok (.slice (some ⟨g, o, none⟩) r 64) w := by
  rw [run_sliceAt_array_h w 139 ⟨g, o, none⟩ arr24 .i64 (r : Int) (by omega) (by rw [len24]; omega), elem24, run_sizeOf_u8, Result.andThen_ok, Int.toNat_natCast, len24]
  unfold slicedAt
  rw [if_neg (by omega)]
  rfl

theorem take_more (p cs : List UInt8) (k j : Nat) (hcs : cs = (p.drop k).take j) : p.take (k + cs.length) = p.take k ++ cs := by
  rw [List.take_add]
  congr 1
  subst hcs
  rw [List.length_take, List.take_eq_take_iff]
  simp
theorem add_full {w : World} {g : Nat} {m p M cs blk blk2 : List UInt8} {k r sz N2 j : Nat} {st : St} (hg : 1 ≠ g) (hM : M = m ++ p.take k) (hcs : cs = (p.drop k).take j) (hrr : r = sz % 64) (hst : states M (M.length / 64) = st ∧ M.length = sz) (hb : blk.length = 64)
    (hblk : blk.take r = M.drop (64 * (sz / 64))) (hN : N2 = sz + cs.length ∧ 0 = N2 % 64) (hpos : 0 < cs.length) (hcl : cs.length ≤ 64 - r) (hbl2 : splice blk r cs = blk2)
    (hr : Row w g 154 (hashCells (comp st blk2) blk2 N2)) : HashAt w g (m ++ p.take (k + cs.length)) := by
  obtain ⟨hst, hsz⟩ := hst
  obtain ⟨hN, hz⟩ := hN
  rw [take_more p cs k j hcs, ← List.append_assoc, ← hM]
  subst hsz
  have hl : (M ++ cs).length = N2 := by rw [List.length_append, hN]
  obtain ⟨h1, h2, h3, h4⟩ := round_full M cs blk r hrr hb hblk (by omega)
  refine ⟨hg, blk2, ?_, by rw [← hbl2]; exact h4, ?_⟩
  · rw [h3, hst, hbl2, hl]; exact hr
  · rw [h2, List.take_zero, List.drop_of_length_le (by omega)]
theorem add_part {w : World} {g : Nat} {m p M cs blk blk2 : List UInt8} {k r sz N2 j r2 : Nat} {st : St} (hg : 1 ≠ g) (hM : M = m ++ p.take k) (hcs : cs = (p.drop k).take j) (hrr : r = sz % 64) (hst : states M (M.length / 64) = st ∧ M.length = sz) (hb : blk.length = 64)
    (hblk : blk.take r = M.drop (64 * (sz / 64))) (hN : N2 = sz + cs.length ∧ r2 = N2 % 64) (hz : ¬ r2 = 0) (hcl : cs.length ≤ 64 - r) (hbl2 : splice blk r cs = blk2)
    (hr : Row w g 154 (hashCells st blk2 N2)) : HashAt w g (m ++ p.take (k + cs.length)) := by
  obtain ⟨hst, hsz⟩ := hst
  obtain ⟨hN, hz2⟩ := hN
  rw [take_more p cs k j hcs, ← List.append_assoc, ← hM]
  subst hsz
  have hl : (M ++ cs).length = N2 := by rw [List.length_append, hN]
  obtain ⟨h1, h2, h3, h4⟩ := round_part M cs blk r hrr hb hblk (by omega)
  refine ⟨hg, blk2, ?_, by rw [← hbl2]; exact h3, by rw [← hbl2]; exact h4⟩
  rw [h2, hst, hl]; exact hr

/-! the operations of 'h.state = Compress(h.state, h.block)', written out: the region draws their order -/
def op147_0 : Oper := { dst := some 36, op := Op.move (Operand.tmp 0), type := 141, pos := "sha2.go:147", after := #[], guard := none }
def op147_1 : Oper := { dst := some 37, op := Op.move (Operand.tmp 0), type := 141, pos := "sha2.go:147", after := #[], guard := none }
def op147_2 : Oper := { dst := some 38, op := Op.nilCheck (Operand.tmp 37), type := 0, pos := "sha2.go:147", after := #[{ on := 1, ground := Ground.data }], guard := none }
def op147_3 : Oper := { dst := some 39, op := Op.fieldAddr 154 (Operand.tmp 38) 1, type := 0, pos := "sha2.go:147", after := #[{ on := 2, ground := Ground.data }], guard := none }
def op147_4 : Oper := { dst := some 40, op := Op.load 146 (Operand.tmp 39), type := 146, pos := "sha2.go:147", after := #[{ on := 3, ground := Ground.data }], guard := none }
def op147_5 : Oper := { dst := some 41, op := Op.move (Operand.tmp 0), type := 141, pos := "sha2.go:147", after := #[], guard := none }
def op147_6 : Oper := { dst := some 42, op := Op.nilCheck (Operand.tmp 41), type := 0, pos := "sha2.go:147", after := #[{ on := 5, ground := Ground.data }], guard := none }
def op147_7 : Oper := { dst := some 43, op := Op.fieldAddr 154 (Operand.tmp 42) 2, type := 0, pos := "sha2.go:147", after := #[{ on := 6, ground := Ground.data }], guard := none }
def op147_8 : Oper := { dst := some 44, op := Op.load 139 (Operand.tmp 43), type := 139, pos := "sha2.go:147", after := #[{ on := 7, ground := Ground.data }], guard := none }
def op147_9 : Oper := { dst := some 45, op := Op.call { callee := Callee.value (Operand.func 133), args := #[Operand.tmp 40, Operand.tmp 44], argTypes := #[146, 139] }, type := 146, pos := "sha2.go:147", after := #[{ on := 4, ground := Ground.data }, { on := 8, ground := Ground.data }], guard := none }
def op147_10 : Oper := { dst := some 46, op := Op.nilCheck (Operand.tmp 36), type := 0, pos := "sha2.go:147", after := #[{ on := 0, ground := Ground.data }, { on := 0, ground := Ground.phase }, { on := 1, ground := Ground.phase }, { on := 2, ground := Ground.phase }, { on := 3, ground := Ground.phase }, { on := 4, ground := Ground.phase }, { on := 5, ground := Ground.phase }, { on := 6, ground := Ground.phase }, { on := 7, ground := Ground.phase }, { on := 8, ground := Ground.phase }, { on := 9, ground := Ground.phase }], guard := none }
def op147_11 : Oper := { dst := some 47, op := Op.fieldAddr 154 (Operand.tmp 46) 1, type := 0, pos := "sha2.go:147", after := #[{ on := 10, ground := Ground.data }, { on := 0, ground := Ground.phase }, { on := 1, ground := Ground.phase }, { on := 2, ground := Ground.phase }, { on := 3, ground := Ground.phase }, { on := 4, ground := Ground.phase }, { on := 5, ground := Ground.phase }, { on := 6, ground := Ground.phase }, { on := 7, ground := Ground.phase }, { on := 8, ground := Ground.phase }, { on := 9, ground := Ground.phase }], guard := none }
def op147_12 : Oper := { dst := none, op := Op.store 146 (Operand.tmp 47) (Operand.tmp 45), type := 0, pos := "sha2.go:147", after := #[{ on := 11, ground := Ground.data }, { on := 9, ground := Ground.data }, { on := 9, ground := Ground.chain }, { on := 0, ground := Ground.phase }, { on := 1, ground := Ground.phase }, { on := 2, ground := Ground.phase }, { on := 3, ground := Ground.phase }, { on := 4, ground := Ground.phase }, { on := 5, ground := Ground.phase }, { on := 6, ground := Ground.phase }, { on := 7, ground := Ground.phase }, { on := 8, ground := Ground.phase }, { on := 9, ground := Ground.phase }], guard := none }

set_option maxHeartbeats 400000 in
theorem add_any (g : Nat) (m p : List UInt8) (B : Nat) (v : Value) (w : World) (h : HashAt w g m) (hs : Sl w B v p) (hB : B ≤ w.heap.size) (ho : Off g v) (hv : Vars w) (hl : m.length + p.length ≤ 1099511627776) :
    Calls Tryd.prog 124 #[.pointer (some ⟨g, 0, none⟩), v] w (AddIs w g (m ++ p)) := by
  unfold AddIs
  obtain ⟨A, c, rfl, _, _⟩ := hs.form
  go_enter Tryd.func124, Tryd.ntmps124
  go_wp2
  go_loopw [1] (fun v1 wr => ∃ (k : Nat) (A1 : Option Addr) (c1 : Nat), k ≤ p.length ∧ v1 = .slice A1 (p.length - k) c1 ∧ Hid (Sl wr B v1 (p.drop k)) ∧ Hid (Off g v1) ∧ HashAt wr g (m ++ p.take k) ∧ Vars wr ∧ But w.heap.size g w wr) (fun v1 _ => slLen v1)
  case atStart => exact ⟨0, A, c, Nat.zero_le _, rfl, Lib.hid hs, Lib.hid ho, by simpa using h, hv, But.refl _ _ _⟩
  case round =>
    clear h hs ho hv
    obtain ⟨k, A1, c1, hk, rfl, HS, HO, hh, hv, hbut⟩ := hrel
    by_cases hlt : k < p.length
    · obtain ⟨hg0, blk, hr, hbl, hblk⟩ := hh
      obtain ⟨M, hM⟩ : ∃ M, M = m ++ p.take k := ⟨_, rfl⟩
      rw [← hM] at hr hblk
      obtain ⟨r, hrr⟩ : ∃ r, r = M.length % 64 := ⟨_, rfl⟩
      rw [← hrr] at hblk
      obtain ⟨b, off, rfl, hbB, hcell⟩ := HS.out.at_ (by simp; omega)
      have hMl : M.length = m.length + k := by rw [hM]; simp; omega
      obtain ⟨cs, hcs⟩ : ∃ cs, cs = (p.drop k).take (64 - r) := ⟨_, rfl⟩
      have hcl : cs.length = Nat.min (p.length - k) (64 - r) := by rw [hcs]; simp [Nat.min_comm]
      have hcl1 : cs.length ≤ 64 - r := by rw [hcl]; exact Nat.min_le_right _ _
      have hcl2 : cs.length ≤ p.length - k := by rw [hcl]; exact Nat.min_le_left _ _
      have hrl : r < 64 := by omega
      have hsrc : Hid (∀ j u, (Lib.byteCells cs)[j]? = some u → wr.cell? ((⟨b, off, none⟩ : Addr).add j) = some u) := Lib.hid (fun j u hu => by
        have hj : j < cs.length := by have := (List.getElem?_eq_some_iff.1 hu).1; rwa [Lib.byteCells_length] at this
        rw [addr_add, hcell j (by simp; omega), ← hu, byteCells_get _ _ hj]
        subst hcs
        simp)
      have hc73 := hr.cell 73
      rw [hashCells_size _ _ _ hbl] at hc73
      have HR := Lib.hid hr
      have HB := Lib.hid (And.intro hblk (And.intro hM (And.intro hrr (And.intro hcs (And.intro hbl hcl)))))
      have HMl := Lib.hid hMl
      have q1 : (M.length : Int) % 64 = (r : Int) := by omega
      have q3 : (M.length : Int).tmod 64 = (r : Int) := (show (M.length : Int).tmod 64 = ((M.length % 64 : Nat) : Int) from rfl).trans (by omega)
      have hslc := slice24_from g 9 r hrl
      have q2 : ¬ 64 = r := by omega
      have hcpos : 0 < cs.length := by rw [hcl]; simp only [Nat.min_def]; split <;> omega
      clear hcell hr hblk hM hrr hcs hcl hMl
      obtain ⟨st, hst⟩ : ∃ st, states M (M.length / 64) = st := ⟨_, rfl⟩
      obtain ⟨sz, hsz⟩ : ∃ sz, M.length = sz := ⟨_, rfl⟩
      have HST := Lib.hid (And.intro hst hsz)
      rw [hst, hsz] at HR
      rw [hsz] at hc73 HMl HB q1 q3
      clear hst hsz
      go_wp2
      go_region_law (refine step_copy_but rfl (.tmp 16) (.tmp 17) 22 22 rfl 5 Tryd.underlying22 info_u8s (64 - r) (64 - r) (p.length - k) c1 ⟨b, off, none⟩ g (9 + r) (by simp [Act.eval, Act.put]) (by simp [Act.eval, Act.put]) _ _ HR.out (Lib.byteCells cs) (by rw [Lib.byteCells_length]; exact HB.out.2.2.2.2.2) hsrc.out (by rw [Lib.byteCells_length, hashCells_length _ _ _ HB.out.2.2.2.2.1]; omega) (cell_oneCell _) ?_; intro w4 hr4 hb4 hs4; rw [show goInt (Lib.byteCells cs).length = .int .i64 (cs.length : Int) by rw [Lib.byteCells_length]; rfl])
      rw [hashCells_splice _ _ _ _ _ HB.out.2.2.2.2.1 (by omega)] at hr4
      replace hb4 : But wr.heap.size g wr w4 := But.undrew hb4
      have hsv : Sl w4 B (.slice (some ⟨b, off, none⟩) (p.length - k) c1) (p.drop k) := Sl.but (w := wr) HS.out HO.out (hb4.mono (Nat.le_trans hB hbut.size))
      have hle : cs.length ≤ (p.drop k).length := by simp; omega
      have hv4 : Vars w4 := Vars.but (w := wr) hv hb4 hg0
      have hbut4 : But w.heap.size g w w4 := hbut.chain (w₁ := wr) hb4
      go_wp2_with (refine wpList_slice_from rfl (.tmp 19) (.tmp 20) rfl B _ rfl (p.drop k) hsv cs.length rfl hle ?_)
      intro v2 hs2 ho2
      replace ho2 := ho2 g HO.out
      obtain ⟨N2, hN2⟩ : ∃ N2, N2 = sz + cs.length := ⟨_, rfl⟩
      obtain ⟨r2, hr2⟩ : ∃ r2, r2 = N2 % 64 := ⟨_, rfl⟩
      have q4 : (sz : Int) + (cs.length : Int) = (N2 : Int) := by omega
      have q5 : (N2 : Int).tmod 64 = (r2 : Int) := (show (N2 : Int).tmod 64 = ((N2 % 64 : Nat) : Int) from rfl).trans (by omega)
      have q6 : (N2 : Int) % 64 = (r2 : Int) := by omega
      have hsb : N2 ≤ 1099511627776 := by have := HMl.out; omega
      have d73 := hr4.cell 73
      have hb2l : (splice blk r cs).length = 64 := by rw [length_splice _ _ _ (by have := HB.out.2.2.2.2.1; omega), HB.out.2.2.2.2.1]
      rw [hashCells_size _ _ _ hb2l] at d73
      have f73 := hr4.free 73
      have hr6 := hr4.set_ 73 (.int .i64 (N2 : Int))
      rw [hashCells_setSize _ _ _ _ hb2l] at hr6
      have hb6 := hbut4.setCell 73 (.int .i64 (N2 : Int))
      have hv6 : Vars (w4.setCell ⟨g, 73, none⟩ (.int .i64 (N2 : Int))) := hv4.but (But.setCell (But.refl _ _ _) 73 _) hg0
      have hs6 : Sl (w4.setCell ⟨g, 73, none⟩ (.int .i64 (N2 : Int))) B v2 (p.drop (k + cs.length)) := hs2.but ho2 (But.setCell (But.refl _ _ _) 73 _)
      obtain ⟨w6, hw6⟩ : ∃ w6, w4.setCell ⟨g, 73, none⟩ (.int .i64 (N2 : Int)) = w6 := ⟨_, rfl⟩
      have d6 := hr6.cell 73
      rw [hashCells_size _ _ _ hb2l] at d6
      have hN := Lib.hid (And.intro hN2 hr2)
      rw [hw6] at hr6 hb6 hv6 hs6 d6
      obtain ⟨A2, c2, rfl, _, _⟩ := hs6.form
      rw [List.length_drop] at hs6 ho2
      clear hs2 hr4 hN2 hr2 hc73 hslc q1 q3
      generalize hblk2 : splice blk r cs = blk2 at *
      by_cases hz : r2 = 0
      · subst hz
        have HR6 := Lib.hid hr6
        have hrg24 : w6.drew.rangeAt g 9 (Lib.byteCells blk2) := by
          have := hr6.drew.mid 9 64
          rwa [hashCells_blk _ _ _ hb2l] at this
        have hrg23 : w6.drew.rangeAt g 1 (wordCells st.list) := by
          have := hr6.drew.mid 1 8
          rwa [hashCells_st] at this
        clear hr6
        go_wp2
        refine wp_region_any (by kernel_rfl) ?_
        change wpAny _ _ _ _ _ _ _ (World.drew _)
        (refine wpAny_take (i := 0) (oi := op147_0) (v := ?_) rfl (by kernel_rfl) (by kernel_rfl) (by kernel_rfl) (fun _ _ _ h => h) (Or.inl ⟨by rfl, ?_⟩) ?_; rotate_left; focus (intro w; unfold op147_0; go_simp; try with_reducible rfl))
        simp only [op147_0, Act.put, List.setIfInBounds_toArray, List.set_cons_zero, List.set_cons_succ]
        (refine wpAny_take (i := 1) (oi := op147_1) (v := ?_) rfl (by kernel_rfl) (by kernel_rfl) (by kernel_rfl) (fun _ _ _ h => h) (Or.inl ⟨by rfl, ?_⟩) ?_; rotate_left; focus (intro w; unfold op147_1; go_simp; try with_reducible rfl))
        simp only [op147_1, Act.put, List.setIfInBounds_toArray, List.set_cons_zero, List.set_cons_succ]
        (refine wpAny_take (i := 2) (oi := op147_2) (v := ?_) rfl (by kernel_rfl) (by kernel_rfl) (by kernel_rfl) (fun _ _ _ h => h) (Or.inl ⟨by rfl, ?_⟩) ?_; rotate_left; focus (intro w; unfold op147_2; go_simp; try with_reducible rfl))
        simp only [op147_2, Act.put, List.setIfInBounds_toArray, List.set_cons_zero, List.set_cons_succ]
        (refine wpAny_take (i := 3) (oi := op147_3) (v := ?_) rfl (by kernel_rfl) (by kernel_rfl) (by kernel_rfl) (fun _ _ _ h => h) (Or.inl ⟨by rfl, ?_⟩) ?_; rotate_left; focus (intro w; unfold op147_3; go_simp; try with_reducible rfl))
        simp only [op147_3, Act.put, List.setIfInBounds_toArray, List.set_cons_zero, List.set_cons_succ]
        (refine wpAny_take (i := 5) (oi := op147_5) (v := ?_) rfl (by kernel_rfl) (by kernel_rfl) (by kernel_rfl) (fun _ _ _ h => h) (Or.inl ⟨by rfl, ?_⟩) ?_; rotate_left; focus (intro w; unfold op147_5; go_simp; try with_reducible rfl))
        simp only [op147_5, Act.put, List.setIfInBounds_toArray, List.set_cons_zero, List.set_cons_succ]
        (refine wpAny_take (i := 6) (oi := op147_6) (v := ?_) rfl (by kernel_rfl) (by kernel_rfl) (by kernel_rfl) (fun _ _ _ h => h) (Or.inl ⟨by rfl, ?_⟩) ?_; rotate_left; focus (intro w; unfold op147_6; go_simp; try with_reducible rfl))
        simp only [op147_6, Act.put, List.setIfInBounds_toArray, List.set_cons_zero, List.set_cons_succ]
        (refine wpAny_take (i := 7) (oi := op147_7) (v := ?_) rfl (by kernel_rfl) (by kernel_rfl) (by kernel_rfl) (fun _ _ _ h => h) (Or.inl ⟨by rfl, ?_⟩) ?_; rotate_left; focus (intro w; unfold op147_7; go_simp; try with_reducible rfl))
        simp only [op147_7, Act.put, List.setIfInBounds_toArray, List.set_cons_zero, List.set_cons_succ]
        refine wpAny_ready (rs := [4, 8]) (by kernel_rfl) (by simp) (ready_load 4 146 (.tmp 39) (some 40) (by kernel_rfl) (by kernel_rfl) (by kernel_rfl) g 1 (by rfl) (wordCells st.list) (.array 8 44) hrg23 Tryd.underlying146 rfl (info_w8.trans (size_words _ _ rfl)) ?_ (ready_load 8 139 (.tmp 43) (some 44) (by kernel_rfl) (by kernel_rfl) (by kernel_rfl) g 9 (by rfl) (Lib.byteCells blk2) (.array 64 5) hrg24 Tryd.underlying139 rfl (info_b64.trans (size_bytes _ _ hb2l)) ?_ AllReady.nil))
        · simp only [Act.put, List.setIfInBounds_toArray, List.set_cons_zero, List.set_cons_succ]
          refine wpAny_ready (rs := [8]) (by kernel_rfl) (by simp) (ready_load 8 139 (.tmp 43) (some 44) (by kernel_rfl) (by kernel_rfl) (by kernel_rfl) g 9 (by rfl) (Lib.byteCells blk2) (.array 64 5) hrg24 Tryd.underlying139 rfl (info_b64.trans (size_bytes _ _ hb2l)) ?_ AllReady.nil)
          simp only [Act.put, List.setIfInBounds_toArray, List.set_cons_zero, List.set_cons_succ]
          refine wpAny_ready (rs := [9]) (by kernel_rfl) (by simp) (AllReady.cons (o := op147_9) rfl (fun K hK => ?_) AllReady.nil)
          unfold op147_9
          go_simp
          go_at_call 133
          refine (compress_any st blk2 hb2l _ hv6.drew).mono ?_
          rintro e w7 ⟨rfl, b7d⟩
          have b7 : Below w6.heap.size w6 w7 := ⟨b7d.os, b7d.tape, b7d.output, b7d.size, b7d.block⟩
          clear b7d
          try go_simp
          refine hK _ _ ?_
          clear hK K
          (refine wpAny_take (i := 10) (oi := op147_10) (v := ?_) rfl (by kernel_rfl) (by kernel_rfl) (by kernel_rfl) (fun _ _ _ h => h) (Or.inl ⟨by rfl, ?_⟩) ?_; rotate_left; focus (intro w; unfold op147_10; go_simp; try with_reducible rfl))
          simp only [op147_10, Act.put, List.setIfInBounds_toArray, List.set_cons_zero, List.set_cons_succ]
          (refine wpAny_take (i := 11) (oi := op147_11) (v := ?_) rfl (by kernel_rfl) (by kernel_rfl) (by kernel_rfl) (fun _ _ _ h => h) (Or.inl ⟨by rfl, ?_⟩) ?_; rotate_left; focus (intro w; unfold op147_11; go_simp; try with_reducible rfl))
          simp only [op147_11, Act.put, List.setIfInBounds_toArray, List.set_cons_zero, List.set_cons_succ]
          have hr7 : Row w7 g 154 (hashCells st blk2 N2) := HR6.out.below (B := w6.heap.size) b7 HR6.out.lt
          refine wpAny_ready (rs := [12]) (by kernel_rfl) (by simp) (ready_store 12 146 (.tmp 47) (.tmp 45) none (by kernel_rfl) (by kernel_rfl) (by kernel_rfl) g 1 (by rfl) (wordCells (comp st blk2).list) (by rfl) (hr7.there 1 8 (by rw [hashCells_length _ _ _ hb2l]; decide)) (info_w8.trans (size_words _ _ rfl)) (cell_oneWord _) ?_ AllReady.nil)
          simp only [Act.put]
          refine wpAny_done (by kernel_rfl) ?_ _
          have hr8 := hr7.setCells (wordCells (comp st blk2).list) 1
          rw [hashCells_setSt] at hr8
          have hb8 : But w.heap.size g w (w7.setCells g 1 (wordCells (comp st blk2).list)) := (hb6.chain (But.of b7 g)).trans (But.setCells _ 1 (But.refl _ _ _))
          have hv8 : Vars (w7.setCells g 1 (wordCells (comp st blk2).list)) := (hv6.step b7).but (But.setCells _ 1 (But.refl _ _ _)) hg0
          have hs8 : Sl (w7.setCells g 1 (wordCells (comp st blk2).list)) B (.slice A2 (p.length - (k + cs.length)) c2) (p.drop (k + cs.length)) := (hs6.below (b7.mono (Nat.le_trans hB hb6.size))).but ho2 (But.setCells _ 1 (But.refl _ _ _))
          clear hr7
          generalize w7.setCells g 1 (wordCells (comp st blk2).list) = w8 at *
          go_wp2
          go_roundw
          case rel =>
            obtain ⟨z1, z2, z3, z4, z5, z6⟩ := HB.out
            exact ⟨k + cs.length, A2, c2, by omega, rfl, Lib.hid hs8, Lib.hid ho2, add_full hg0 z2 z4 z3 HST.out z5 z1 hN.out hcpos hcl1 hblk2 hr8, hv8, hb8⟩
          case measure => simp [slLen]; omega
        · simp only [Act.put, List.setIfInBounds_toArray, List.set_cons_zero, List.set_cons_succ]
          refine wpAny_ready (rs := [4]) (by kernel_rfl) (by simp) (ready_load 4 146 (.tmp 39) (some 40) (by kernel_rfl) (by kernel_rfl) (by kernel_rfl) g 1 (by rfl) (wordCells st.list) (.array 8 44) hrg23 Tryd.underlying146 rfl (info_w8.trans (size_words _ _ rfl)) ?_ AllReady.nil)
          simp only [Act.put, List.setIfInBounds_toArray, List.set_cons_zero, List.set_cons_succ]
          refine wpAny_ready (rs := [9]) (by kernel_rfl) (by simp) (AllReady.cons (o := op147_9) rfl (fun K hK => ?_) AllReady.nil)
          unfold op147_9
          go_simp
          go_at_call 133
          refine (compress_any st blk2 hb2l _ hv6.drew).mono ?_
          rintro e w7 ⟨rfl, b7d⟩
          have b7 : Below w6.heap.size w6 w7 := ⟨b7d.os, b7d.tape, b7d.output, b7d.size, b7d.block⟩
          clear b7d
          try go_simp
          refine hK _ _ ?_
          clear hK K
          (refine wpAny_take (i := 10) (oi := op147_10) (v := ?_) rfl (by kernel_rfl) (by kernel_rfl) (by kernel_rfl) (fun _ _ _ h => h) (Or.inl ⟨by rfl, ?_⟩) ?_; rotate_left; focus (intro w; unfold op147_10; go_simp; try with_reducible rfl))
          simp only [op147_10, Act.put, List.setIfInBounds_toArray, List.set_cons_zero, List.set_cons_succ]
          (refine wpAny_take (i := 11) (oi := op147_11) (v := ?_) rfl (by kernel_rfl) (by kernel_rfl) (by kernel_rfl) (fun _ _ _ h => h) (Or.inl ⟨by rfl, ?_⟩) ?_; rotate_left; focus (intro w; unfold op147_11; go_simp; try with_reducible rfl))
          simp only [op147_11, Act.put, List.setIfInBounds_toArray, List.set_cons_zero, List.set_cons_succ]
          have hr7 : Row w7 g 154 (hashCells st blk2 N2) := HR6.out.below (B := w6.heap.size) b7 HR6.out.lt
          refine wpAny_ready (rs := [12]) (by kernel_rfl) (by simp) (ready_store 12 146 (.tmp 47) (.tmp 45) none (by kernel_rfl) (by kernel_rfl) (by kernel_rfl) g 1 (by rfl) (wordCells (comp st blk2).list) (by rfl) (hr7.there 1 8 (by rw [hashCells_length _ _ _ hb2l]; decide)) (info_w8.trans (size_words _ _ rfl)) (cell_oneWord _) ?_ AllReady.nil)
          simp only [Act.put]
          refine wpAny_done (by kernel_rfl) ?_ _
          have hr8 := hr7.setCells (wordCells (comp st blk2).list) 1
          rw [hashCells_setSt] at hr8
          have hb8 : But w.heap.size g w (w7.setCells g 1 (wordCells (comp st blk2).list)) := (hb6.chain (But.of b7 g)).trans (But.setCells _ 1 (But.refl _ _ _))
          have hv8 : Vars (w7.setCells g 1 (wordCells (comp st blk2).list)) := (hv6.step b7).but (But.setCells _ 1 (But.refl _ _ _)) hg0
          have hs8 : Sl (w7.setCells g 1 (wordCells (comp st blk2).list)) B (.slice A2 (p.length - (k + cs.length)) c2) (p.drop (k + cs.length)) := (hs6.below (b7.mono (Nat.le_trans hB hb6.size))).but ho2 (But.setCells _ 1 (But.refl _ _ _))
          clear hr7
          generalize w7.setCells g 1 (wordCells (comp st blk2).list) = w8 at *
          go_wp2
          go_roundw
          case rel =>
            obtain ⟨z1, z2, z3, z4, z5, z6⟩ := HB.out
            exact ⟨k + cs.length, A2, c2, by omega, rfl, Lib.hid hs8, Lib.hid ho2, add_full hg0 z2 z4 z3 HST.out z5 z1 hN.out hcpos hcl1 hblk2 hr8, hv8, hb8⟩
          case measure => simp [slLen]; omega
      · have hz' : ¬ (r2 : Int) = 0 := by omega
        go_wp2
        go_roundw
        case rel =>
          obtain ⟨z1, z2, z3, z4, z5, z6⟩ := HB.out
          exact ⟨k + cs.length, A2, c2, by omega, by simp, Lib.hid (by simpa using hs6), Lib.hid (by simpa using ho2), add_part hg0 z2 z4 z3 HST.out z5 z1 hN.out hz hcl1 hblk2 hr6, hv6, hb6⟩
        case measure => simp [slLen]; omega
    · obtain rfl : k = p.length := by omega
      rw [List.take_length] at hh
      go_wp2
      go_end0
      exact ⟨rfl, hh, hbut⟩
end Go.Proofs.YtanpplniedphkaaDoor

/-
  WALK: (*sha2.Hash).Write; parts of bytes, wherever they lie.
-/
namespace Go.Proofs.YtanpplniedphkaaDoor
open Go.RowKit
set_option maxRecDepth 100000

/-- v is a slice of slices of bytes that read as bss; all that it reads lies below block B, and not in block g -/
def PartsO (w : World) (B g : Nat) (v : Value) (bss : List (List UInt8)) : Prop :=
  ∃ A c, v = .slice A bss.length c ∧ (0 < bss.length → ∃ q off, A = some ⟨q, off, none⟩ ∧ q < B ∧ q ≠ g ∧ ∀ i (h : i < bss.length), ∃ u, w.cell? ⟨q, off + i, none⟩ = some u ∧ Sl w B u bss[i] ∧ Off g u)
section
variable {w w' : World} {B B' g : Nat} {v : Value} {bss : List (List UInt8)}
theorem PartsO.form (h : PartsO w B g v bss) : ∃ A c, v = .slice A bss.length c := by
  obtain ⟨A, c, hv, _⟩ := h
  exact ⟨A, c, hv⟩
theorem PartsO.at_ {A : Option Addr} {n c : Nat} (h : PartsO w B g (.slice A n c) bss) (hn : 0 < bss.length) : ∃ q off, A = some ⟨q, off, none⟩ ∧ q < B ∧ q ≠ g ∧ ∀ i (h : i < bss.length), ∃ u, w.cell? ⟨q, off + i, none⟩ = some u ∧ Sl w B u bss[i] ∧ Off g u := by
  obtain ⟨A', c', hv, hc⟩ := h
  cases hv
  exact hc hn
theorem PartsO.but (h : PartsO w B g v bss) (hb : But B g w w') : PartsO w' B g v bss := by
  obtain ⟨A, c, hv, hc⟩ := h
  refine ⟨A, c, hv, fun hn => ?_⟩
  obtain ⟨q, off, hA, hq, hg, hr⟩ := hc hn
  refine ⟨q, off, hA, hq, hg, fun i hi => ?_⟩
  obtain ⟨u, hu, hs, ho⟩ := hr i hi
  exact ⟨u, (hb.cell (p := ⟨q, off + i, none⟩) hq hg).trans hu, hs.but ho hb, ho⟩
theorem PartsO.below (h : PartsO w B g v bss) (hb : Below B w w') : PartsO w' B g v bss := h.but (But.of hb g)
theorem PartsO.more (h : PartsO w B g v bss) (hB : B ≤ B') : PartsO w B' g v bss := by
  obtain ⟨A, c, hv, hc⟩ := h
  refine ⟨A, c, hv, fun hn => ?_⟩
  obtain ⟨q, off, hA, hq, hg, hr⟩ := hc hn
  refine ⟨q, off, hA, by omega, hg, fun i hi => ?_⟩
  obtain ⟨u, hu, hs, ho⟩ := hr i hi
  exact ⟨u, hu, hs.more hB, ho⟩
/-- what lies below a block does not lie in it -/
theorem PartsO.moved {g' : Nat} (h : PartsO w B g v bss) (hg' : B ≤ g') : PartsO w B g' v bss := by
  obtain ⟨A, c, hv, hc⟩ := h
  refine ⟨A, c, hv, fun hn => ?_⟩
  obtain ⟨q, off, hA, hq, hg, hr⟩ := hc hn
  refine ⟨q, off, hA, hq, by omega, fun i hi => ?_⟩
  obtain ⟨u, hu, hs, ho⟩ := hr i hi
  exact ⟨u, hu, hs, hs.off hg'⟩
/-- one part, in a row of its own -/
theorem PartsO.one {q n : Nat} {T : TypeId} {u : Value} {bs : List UInt8} {w0 : World} (hq : q < B) (hg : q ≠ g) (hr : Row w q T [u]) (hs : Sl w0 B u bs) (ho : Off g u) (hk : Sl w0 B u bs → Sl w B u bs) : PartsO w B g (.slice (some ⟨q, 0, none⟩) 1 n) [bs] :=
  ⟨_, n, rfl, fun _ => ⟨q, 0, rfl, hq, hg, fun i hi => by
    obtain rfl : i = 0 := by simp at hi; omega
    exact ⟨u, hr.cell 0, hk hs, ho⟩⟩⟩
theorem PartsO.two {q n : Nat} {T : TypeId} {u u2 : Value} {bs bs2 : List UInt8} (hq : q < B) (hg : q ≠ g) (hr : Row w q T [u, u2]) (hs : Sl w B u bs) (ho : Off g u) (hs2 : Sl w B u2 bs2) (ho2 : Off g u2) : PartsO w B g (.slice (some ⟨q, 0, none⟩) 2 n) [bs, bs2] :=
  ⟨_, n, rfl, fun _ => ⟨q, 0, rfl, hq, hg, fun i hi => by
    match i, hi with
    | 0, _ => exact ⟨u, hr.cell 0, hs, ho⟩
    | 1, _ => exact ⟨u2, hr.cell 1, hs2, ho2⟩⟩⟩
theorem PartsO.three {q n : Nat} {T : TypeId} {u u2 u3 : Value} {bs bs2 bs3 : List UInt8} (hq : q < B) (hg : q ≠ g) (hr : Row w q T [u, u2, u3]) (hs : Sl w B u bs) (ho : Off g u) (hs2 : Sl w B u2 bs2) (ho2 : Off g u2) (hs3 : Sl w B u3 bs3) (ho3 : Off g u3) : PartsO w B g (.slice (some ⟨q, 0, none⟩) 3 n) [bs, bs2, bs3] :=
  ⟨_, n, rfl, fun _ => ⟨q, 0, rfl, hq, hg, fun i hi => by
    match i, hi with
    | 0, _ => exact ⟨u, hr.cell 0, hs, ho⟩
    | 1, _ => exact ⟨u2, hr.cell 1, hs2, ho2⟩
    | 2, _ => exact ⟨u3, hr.cell 2, hs3, ho3⟩⟩⟩
end
theorem flat_snoc (bss : List (List UInt8)) (k : Nat) (h : k < bss.length) : (bss.take (k + 1)).flatten = (bss.take k).flatten ++ bss[k] := by
  rw [List.take_succ_eq_append_getElem h, List.flatten_append]
  simp only [List.flatten_cons, List.flatten_nil, List.append_nil]
theorem flat_le (bss : List (List UInt8)) (k : Nat) : (bss.take k).flatten.length ≤ bss.flatten.length := by
  conv => rhs; rw [← List.take_append_drop k bss, List.flatten_append, List.length_append]
  omega

/-- the bytes have been written -/
def WriteIs (w : World) (g : Nat) (m : List UInt8) (e : Ending) (w' : World) : Prop := e = .returned (.int .i64 0) ∧ HashAt w' g m ∧ But w.heap.size g w w'

set_option maxHeartbeats 1000000 in
theorem write_any (g : Nat) (m : List UInt8) (bss : List (List UInt8)) (B : Nat) (v : Value) (w : World) (h : HashAt w g m) (hp : PartsO w B g v bss) (hB : B ≤ w.heap.size) (hv : Vars w) (hl : m.length + bss.flatten.length ≤ 1099511627776) (hn : bss.length ≤ 1000) :
    Calls Tryd.prog 115 #[.pointer (some ⟨g, 0, none⟩), v] w (WriteIs w g (m ++ bss.flatten)) := by
  unfold WriteIs
  obtain ⟨A, c, rfl⟩ := hp.form
  have hg0 := h.1
  go_enter Tryd.func115, Tryd.ntmps115
  go_wp2_with (go_at_call 123; refine (isMade_yes g m _ h).mono ?_)
  rintro e wK ⟨rfl, rfl⟩
  go_wp2
  go_loopw [6, 12] (fun _ i wr => ∃ k : Nat, k ≤ bss.length ∧ i = .int .i64 k ∧ HashAt wr g (m ++ (bss.take k).flatten) ∧ Vars wr ∧ But wK.heap.size g wK wr) (fun _ i _ => bss.length - (intOf i).toNat)
  case atStart => exact ⟨0, Nat.zero_le _, rfl, by simpa using h, hv, But.refl _ _ _⟩
  case round =>
    clear h hv
    obtain ⟨k, hk, rfl, hh, hv, hbut⟩ := hrel
    by_cases hlt : k < bss.length
    · have hpr := hp.but (hbut.mono hB)
      obtain ⟨q, off, rfl, hq, hqg, hc⟩ := hpr.at_ (by omega)
      obtain ⟨u, hu, hs, ho⟩ := hc k hlt
      have HF := Lib.hid (flat_snoc bss k hlt)
      have hfl := flat_le bss (k + 1)
      rw [HF.out, List.length_append] at hfl
      clear hpr hc
      generalize bss[k] = bk at *
      generalize hfk : (bss.take k).flatten = fk at *
      go_wp2_with (go_at_call 124; refine (add_any g _ bk B u _ hh hs (Nat.le_trans hB hbut.size) ho hv (by rw [List.length_append]; omega)).mono ?_)
      rintro e w2 ⟨rfl, hh2, hb2⟩
      rw [List.append_assoc, ← HF.out] at hh2
      go_wp2
      go_roundw
      case rel => exact ⟨k + 1, by omega, by go_num, hh2, hv.but hb2 hg0, hbut.chain hb2⟩
      case measure => simp [intOf]; omega
    · obtain rfl : k = bss.length := by omega
      rw [List.take_length] at hh
      go_wp2
      go_ret
      exact ⟨rfl, hh, hbut⟩
end Go.Proofs.YtanpplniedphkaaDoor

/-
  WALK: sha2.finish.
-/
namespace Go.Proofs.YtanpplniedphkaaDoor
open Go.RowKit
set_option maxRecDepth 100000

theorem off_own {w : World} {base e n g : Nat} {v : Value} {xs : List Value} (h : w.ownsRow base e 1 v n xs) (hg : g < base) : Off g v := by
  intro x l c hx hl
  rcases h.2 with ⟨rfl, hn⟩ | ⟨q, cap, cur, rfl, hb, _⟩
  · cases hx
  · cases hx
    show q ≠ g
    omega
theorem Below.chain {a b c : World} (h : Below a.heap.size a b) (k : Below b.heap.size b c) : Below a.heap.size a c := h.trans (k.mono h.size)
theorem gives_sl {w w' : World} {v : Value} {bs : List UInt8} (h : Gives w bs v w') : Sl w' w'.heap.size v bs := Sl.of_own h.1
theorem Sl.step {w w' : World} {v : Value} {bs : List UInt8} {B : Nat} (h : Sl w B v bs) (hB : B ≤ w.heap.size) (hb : Below w.heap.size w w') : Sl w' B v bs := h.below (hb.mono hB)

/-- the cells of a Hash to which m has been written -/
def HashVal (cs : List Value) (m : List UInt8) : Prop := ∃ blk : List UInt8, cs = hashCells (states m (m.length / 64)) blk m.length ∧ blk.length = 64 ∧ blk.take (m.length % 64) = m.drop (64 * (m.length / 64))
theorem HashVal.at_ {cs : List Value} {m : List UInt8} {w : World} {g : Nat} (h : HashVal cs m) (hg : 1 ≠ g) (hr : Row w g 154 cs) : HashAt w g m := by
  obtain ⟨blk, rfl, h1, h2⟩ := h
  exact ⟨hg, blk, hr, h1, h2⟩
theorem HashVal.of {m : List UInt8} {w : World} {g : Nat} (h : HashAt w g m) : ∃ cs, HashVal cs m ∧ Row w g 154 cs ∧ cs.length = 74 ∧ (∀ u ∈ cs, u.oneCell' = true) := by
  obtain ⟨hg, blk, hr, h1, h2⟩ := h
  exact ⟨_, ⟨blk, rfl, h1, h2⟩, hr, hashCells_length _ _ _ h1, hashCells_one _ _ _⟩
theorem HashAt.size {w : World} {g : Nat} {m : List UInt8} (h : HashAt w g m) : w.cell? ⟨g, 73, none⟩ = some (.int .i64 (m.length : Int)) := by
  obtain ⟨_, blk, hr, hbl, _⟩ := h
  rw [hr.cell]
  exact hashCells_size _ _ _ hbl
theorem HashAt.word {w : World} {g : Nat} {m : List UInt8} (h : HashAt w g m) (k : Nat) (hk : k < 8) : w.cell? ⟨g, 1 + k, none⟩ = some (.int .u32 (((states m (m.length / 64)).list[k]'hk).toNat : Int)) := by
  obtain ⟨_, blk, hr, hbl, _⟩ := h
  rw [hr.cell]
  exact hashCells_word _ _ _ _ hk
/-- an array of bytes is handed back -/
def SumIs (w : World) (bs : List UInt8) (e : Ending) (w' : World) : Prop := e = .returned (.agg (Lib.byteCells bs).toArray) ∧ Below w.heap.size w w'

theorem flat4_get (f : UInt32 → List UInt8) (hf : ∀ x, (f x).length = 4) (l : List UInt32) : ∀ i, (l.flatMap f)[i]? = (l[i / 4]?).bind fun x => (f x)[i % 4]? := by
  induction l with
  | nil => intro i; simp
  | cons x r ih =>
    intro i
    rw [List.flatMap_cons]
    by_cases h : i < 4
    · rw [List.getElem?_append_left (by rw [hf]; exact h), show i / 4 = 0 by omega, show i % 4 = i by omega]
      simp
    · rw [List.getElem?_append_right (by rw [hf]; omega), hf, ih (i - 4), show i / 4 = (i - 4) / 4 + 1 by omega, show i % 4 = (i - 4) % 4 by omega]
      simp
theorem outB_get (s : St) (i : Nat) (h : i < 32) : (outB s)[i]'(by rw [outB_length]; exact h) = UInt8.ofNat ((s.list[i / 4]'(by rw [St.list_length]; omega)).toNat / 256 ^ (3 - i % 4) % 256) := by
  have h1 := flat4_get (fun x => bigB x.toNat 4) (fun x => bigB_length _ _) s.list i
  rw [List.getElem?_eq_getElem (show i / 4 < s.list.length by rw [St.list_length]; omega), Option.bind_some] at h1
  have h2 : (outB s)[i]? = some ((outB s)[i]'(by rw [outB_length]; exact h)) := List.getElem?_eq_getElem (by rw [outB_length]; exact h)
  have h3 : (bigB (s.list[i / 4]'(by rw [St.list_length]; omega)).toNat 4)[i % 4]? = some _ := List.getElem?_eq_getElem (by rw [bigB_length]; omega)
  rw [h3] at h1
  have h4 := Option.some.inj (h2.symm.trans h1)
  rw [h4, bigB_getElem _ _ _ (by omega)]
theorem setk (l : List UInt8) (j k : Nat) (hl : l.length = k) (hj : j < k) (x : UInt8) (hx : x = l[j]'(by omega)) :
    (l.take j ++ List.replicate (k - j) 0).set j x = l.take (j + 1) ++ List.replicate (k - (j + 1)) 0 := by
  subst hx
  exact set_step l j k hl hj
theorem pad_split (m : List UInt8) : m ++ (128 :: List.replicate 63 0).take (zerosOf m.length + 1) ++ bigB (8 * m.length) 8 = padB m := by
  have h : (128 :: List.replicate 63 (0 : UInt8)).take (zerosOf m.length + 1) = 128 :: List.replicate (zerosOf m.length) 0 := by
    rw [List.take_succ_cons, List.take_replicate]
    congr 2
    have : zerosOf m.length ≤ 63 := by unfold zerosOf; omega
    omega
  rw [h, padB]

set_option maxHeartbeats 1000000 in
theorem finish_any (cs : List Value) (m : List UInt8) (w : World) (h : HashVal cs m) (hv : Vars w) (hl : m.length ≤ 1000000000) :
    Calls Tryd.prog 125 #[.agg cs.toArray] w (SumIs w (sha m)) := by
  unfold SumIs
  have hpos := hv.pos
  generalize hn0 : w.heap.size = n0 at *
  go_enter Tryd.func125, Tryd.ntmps125
  have hh : ∀ o, HashAt ((w.alloc (.cells cs.toArray 154)).alloc o) n0 m := fun o => h.at_ (by omega) ((Row.new_ hn0.symm rfl).alloc _)
  have h73 := fun o => (hh o).size
  have q8 : IntKind.u64.wrap (m.length : Int) = (m.length : Int) := by rw [IntKind.wrap_u64]; omega
  go_wp2_with (go_at_call 134; refine (u64_any (8 * m.length) _).mono ?_)
  rintro e w1 ⟨vc, rfl, gc⟩
  have hc1 := gives_sl gc
  have oc : Off n0 vc := off_own gc.1 (by rw [asz, asz]; omega)
  have b1 := gc.2
  rw [asz, asz, hn0] at b1
  have hh1 : HashAt w1 n0 m := (hh _).below b1 (by omega)
  have hr2 : Row w1 (n0 + 1) 79 (Lib.byteCells (List.replicate 32 0)) := (Row.new_ (by rw [asz, hn0]) zero32b).below b1 (by omega)
  have hbel1 : Below n0 w w1 := (((Below.refl n0 w).alloc (by omega) _).alloc (by rw [asz]; omega) _).trans (b1.mono (by omega))
  have hv1 : Vars w1 := hv.step (by rw [hn0]; exact hbel1)
  have hs1 : n0 + 2 ≤ w1.heap.size := by have := b1.size; rw [asz, asz] at this; omega
  clear gc b1 hh h73 hv h
  go_wp2_with (first | refine wpList_build_eq rfl 139 _ rfl (Lib.byteCells (128 :: List.replicate 63 0)).toArray (by kernel_rfl) ?_ | refine wpList_store_any rfl 139 (.tmp 4) (.tmp 13) rfl w1.heap.size rfl (Lib.byteCells (128 :: List.replicate 63 0)) rfl 139 (Lib.byteCells (List.replicate 64 0)) (Row.new_ rfl zero64b) (info_b64.trans rfl) (by simp [Lib.byteCells_length]) (cell_oneCell _) ?_)
  intro w2 hr4 bt hs2
  try simp only [asz] at bt hs2
  replace hh1 : HashAt w2 n0 m := HashAt.but (w := w1.alloc _) (hh1.step (Below.alloc (Below.refl _ _) (Nat.le_refl _) _)) (by rw [asz]; exact bt) (by omega)
  replace hr2 := bt.row (hr2.alloc _) (by omega) (by omega)
  have hc2 : Sl w2 w1.heap.size vc (bigB (8 * m.length) 8) := (hc1.below (Below.alloc (Below.refl _ _) (Nat.le_refl _) _)).below (bt.under (Nat.le_succ _) (Nat.le_refl _))
  have hbel2 : Below n0 w w2 := (hbel1.alloc (by omega) _).trans (bt.under (by omega) (by omega))
  have hv2 : Vars w2 := (hv1.step (Below.alloc (Below.refl _ _) (Nat.le_refl _) _)).but (by rw [asz]; exact bt) (by omega)
  generalize hn4 : w1.heap.size = n4 at *
  obtain ⟨T, hT⟩ : ∃ T, T = zerosOf m.length + 1 := ⟨_, rfl⟩
  have hT2 : T = 64 - (m.length + 8) % 64 := by rw [hT, zerosOf]; omega
  obtain ⟨R, hR⟩ : ∃ R, R = (m.length + 8) % 64 := ⟨_, rfl⟩
  have qa : ((m.length : Int) + 8).tmod 64 = (R : Int) := (show (((m.length + 8 : Nat)) : Int).tmod 64 = (((m.length + 8) % 64 : Nat) : Int) from rfl).trans (by omega)
  have qa2 : ((m.length : Int) + 8) % 64 = (R : Int) := by omega
  have qb : (64 : Int) - (R : Int) = (T : Int) := by omega
  have hTle : T ≤ 64 := by omega
  have hslc := slice24_to n4 0 T hTle
  have h73 := hh1.size
  have HT := Lib.hid hT
  have hpl : ((128 :: List.replicate 63 (0 : UInt8)).take T).length = T := by simp; omega
  have hsp : Sl w2 w2.heap.size (.slice (some ⟨n4, 0, none⟩) T 64) ((128 :: List.replicate 63 (0 : UInt8)).take T) := Sl.of_row hr4 (by omega) hpl hTle (by unfold maxLen; omega) (fun k hk => by
    rw [Nat.zero_add, byteCells_get _ k (by rw [hpl] at hk; simp; omega)]; simp)
  have hml := hl
  clear hT hT2 hR hc1 hv1 hbel1
  generalize hpad : (128 :: List.replicate 63 (0 : UInt8)).take T = pd at *
  go_wp2_with (go_at_call 124; refine (add_any n0 m pd w2.heap.size _ w2 hh1 hsp (Nat.le_refl _) (Off.at_ (by omega)) hv2 (by omega)).mono ?_)
  rintro e w3 ⟨rfl, hh3, b3⟩
  have hc3 : Sl w3 n4 vc (bigB (8 * m.length) 8) := hc2.but oc (b3.mono (by omega))
  have hr3 := b3.row hr2 (by omega) (by omega)
  have hv3 := hv2.but b3 (by omega)
  have hbel3 : Below n0 w w3 := hbel2.trans (b3.under (by omega) (Nat.le_refl _))
  have hs3 := b3.size
  go_wp2_with (go_at_call 124; refine (add_any n0 _ (bigB (8 * m.length) 8) n4 _ w3 hh3 hc3 (by omega) oc hv3 (by rw [List.length_append, bigB_length]; omega)).mono ?_)
  rintro e w4 ⟨rfl, hh4, b4⟩
  rw [← hpad, HT.out, pad_split] at hh4
  have hr5 := b4.row hr3 (by omega) (by omega)
  have hbel4 : Below n0 w w4 := hbel3.trans (b4.under (by omega) (Nat.le_refl _))
  have hs4 := b4.size
  have hs5 : n0 + 2 ≤ w4.heap.size := by omega
  clear hc3 hr3 hv3 hbel3 hs3 b4 b3 hh3 hc2 hr2 hv2 hbel2 hh1 hsp hr4 bt hslc h73 hs4 hs2 qa qa2 qb
  go_wp2
  have hword := fun k hk => hh4.word k hk
  have hw5 : ∀ k (hk : k < 8), (w4.alloc (.cells (Lib.byteCells (List.replicate 32 0)).toArray 79)).cell? ⟨n0, 1 + k, none⟩ = some (.int .u32 (((states (padB m) ((padB m).length / 64)).list[k]'hk).toNat : Int)) := fun k hk => (hh4.step (Below.alloc (Below.refl _ _) (Nat.le_refl _) _)).word k hk
  have HS : Hid (outB (states (padB m) ((padB m).length / 64)) = sha m) := Lib.hid rfl
  generalize states (padB m) ((padB m).length / 64) = st at *
  have hbel5 : Below n0 w (w4.alloc (.cells (Lib.byteCells (List.replicate 32 0)).toArray 79)) := hbel4.alloc (by omega) _
  have hr6 : Row (w4.alloc (.cells (Lib.byteCells (List.replicate 32 0)).toArray 79)) w4.heap.size 79 (Lib.byteCells (List.replicate 32 0)) := Row.new_ rfl rfl
  have hr7 : Row (w4.alloc (.cells (Lib.byteCells (List.replicate 32 0)).toArray 79)) (n0 + 1) 79 (Lib.byteCells (List.replicate 32 0)) := hr5.alloc _
  generalize hn6 : w4.heap.size = n6 at *
  clear hh4 hword hr5 hbel4
  go_loopw [24] (fun i wr => ∃ k : Nat, k ≤ 32 ∧ i = .int .i64 k ∧ Row wr n6 79 (Lib.byteCells ((outB st).take k ++ List.replicate (32 - k) 0)) ∧ Row wr (n0 + 1) 79 (Lib.byteCells (List.replicate 32 0)) ∧ Hid (∀ k (hk : k < 8), wr.cell? ⟨n0, 1 + k, none⟩ = some (.int .u32 ((st.list[k]'hk).toNat : Int))) ∧ Below n0 w wr) (fun i _ => 32 - (intOf i).toNat)
  case atStart => exact ⟨0, Nat.zero_le _, rfl, hr6, hr7, Lib.hid hw5, hbel5⟩
  case round =>
    clear hw5 hbel5 hr6 hr7
    obtain ⟨k, hk, rfl, hr6, hr7, HW, hbel⟩ := hrel
    by_cases hlt : k < 32
    · have hlt0 := hlt
      have hcx := hr6.cell k
      rw [byteCells_get _ _ (by simp [outB_length]; omega)] at hcx
      have hf := hr6.free k
      have hset := hr6.set_ k (.int .u8 (((outB st)[k]'(by rw [outB_length]; exact hlt)).toNat : Int))
      have hbs : (Lib.byteCells ((outB st).take k ++ List.replicate (32 - k) 0)).set k (.int .u8 (((outB st)[k]'(by rw [outB_length]; exact hlt)).toNat : Int)) = Lib.byteCells ((outB st).take (k + 1) ++ List.replicate (32 - (k + 1)) 0) := by
        rw [← setk (outB st) k 32 (outB_length st) hlt _ rfl]
        simp [Lib.byteCells, List.map_set]
      rw [hbs] at hset
      obtain ⟨j, hj⟩ : ∃ j, j = k / 4 := ⟨_, rfl⟩
      obtain ⟨r, hr⟩ : ∃ r, r = k % 4 := ⟨_, rfl⟩
      obtain ⟨s8, hs8⟩ : ∃ s8, s8 = 24 - 8 * r := ⟨_, rfl⟩
      have e1 : (k : Int).tdiv 4 = (j : Int) := (show (k : Int).tdiv 4 = ((k / 4 : Nat) : Int) from rfl).trans (by omega)
      have e2 : (k : Int) / 4 = (j : Int) := by omega
      have e3 : (k : Int).tmod 4 = (r : Int) := (show (k : Int).tmod 4 = ((k % 4 : Nat) : Int) from rfl).trans (by omega)
      have e4 : (k : Int) % 4 = (r : Int) := by omega
      have e5 : (24 : Int) - 8 * (r : Int) = (s8 : Int) := by omega
      have hj8 : j < 8 := by omega
      have hr4 : r < 4 := by omega
      have hc := HW.out j hj8
      obtain ⟨x, hx⟩ : ∃ x, x = st.list[j]'hj8 := ⟨_, rfl⟩
      rw [← hx] at hc
      have hout := outB_get st k hlt
      have HX : Hid (((x.toNat : Int) / 2 ^ s8) % 256 = (((outB st)[k]'(by rw [outB_length]; exact hlt)).toNat : Int)) := Lib.hid (by
        have e6 : s8 = 8 * (3 - k % 4) := by omega
        rw [hout, e6, byte_shr]
        subst hj
        rw [hx]
        rfl)
      have HSET := Lib.hid hset
      clear hout hset hbs hx hj hr hs8
      generalize ((outB st)[k]'(by rw [outB_length]; exact hlt)) = y at *
      go_wp2
      go_roundw
      case rel =>
        refine ⟨k + 1, by omega, by go_num, ?_, hr7.other ⟨n6, k, none⟩ _ (by show n0 + 1 ≠ n6; omega), Lib.hid (fun i hi => (World.cell?_setCell_other _ _ _ _ (by intro e; cases e; omega)).trans (HW.out i hi)), hbel.setCell (p := ⟨n6, k, none⟩) (by show n0 ≤ n6; omega) _⟩
        have := HSET.out
        rw [← HX.out] at this
        exact this
      case measure => simp [intOf]; omega
    · obtain rfl : k = 32 := by omega
      rw [List.take_of_length_le (by rw [outB_length]; omega), Nat.sub_self, List.replicate_zero, List.append_nil, HS.out] at hr6
      go_wp2_with (first | refine wpList_load_any rfl 79 (.tmp 6) rfl n6 rfl 79 (Lib.byteCells (sha m)) (.array 32 5) hr6 Tryd.underlying79 rfl (info_b32.trans (size_bytes _ _ (sha_length m))) ?_ | refine wpList_store_any rfl 79 (.tmp 2) (.tmp 41) rfl (n0 + 1) rfl (Lib.byteCells (sha m)) rfl 79 _ hr7 (info_b32.trans (size_bytes _ _ (sha_length m))) (by simp [Lib.byteCells_length, sha_length]) (cell_oneCell _) ?_)
      intro w9 hr9 b9 _
      have hb9 : Below n0 w w9 := hbel.trans (b9.under (Nat.le_trans (Nat.le_add_right n0 1) (Nat.le_of_lt hr7.lt)) (by omega))
      go_wp2
      exact ret_row Tryd.results125 rfl rfl hr9 Tryd.underlying79 rfl (info_b32.trans (size_bytes _ _ (sha_length m))) ⟨rfl, hb9⟩
end Go.Proofs.YtanpplniedphkaaDoor

/-
  WALKS: (*sha2.Hash).Sum, Clone; sha2.Sum256, Sum192.
-/
namespace Go.Proofs.YtanpplniedphkaaDoor
open Go.RowKit
set_option maxRecDepth 100000

theorem info_hash : (Tryd.prog.info? 154).map (·.size) = some 74 := by kernel_rfl
theorem isRow_hash (d : TypeDesc) (h : Tryd.prog.underlying 154 = some d) : (match d with | .struct _ | .array _ _ => true | _ => false) = true := by
  rw [Tryd.underlying154] at h
  cases h
  rfl

/-- the zero Hash -/
def hashZero : List Value := .bool false :: (wordCells (List.replicate 8 0) ++ (Lib.byteCells (List.replicate 64 0) ++ [.int .i64 0]))
theorem zero59 (w : World) : (zeroValue 154).run Tryd.prog w = .ok (.agg hashZero.toArray) w :=
  (zero_of_info (t := 154) (v := .agg hashZero.toArray) (n := 74) (by kernel_rfl)).1 w
theorem hashZero_length : hashZero.length = 74 := by decide

set_option maxHeartbeats 400000 in
theorem sum_any (g : Nat) (m : List UInt8) (w : World) (h : HashAt w g m) (hv : Vars w) (hl : m.length ≤ 1000000000) :
    Calls Tryd.prog 116 #[.pointer (some ⟨g, 0, none⟩)] w (SumIs w (sha m)) := by
  unfold SumIs
  have hg := h.lt
  go_enter Tryd.func116, Tryd.ntmps116
  go_wp2_with (go_at_call 123; refine (isMade_yes g m _ (h.step (Below.alloc (Below.refl _ _) (Nat.le_refl _) _))).mono ?_)
  rintro e w1 ⟨rfl, hw1⟩
  have hh1 : HashAt w1 g m := by rw [hw1]; exact h.step (Below.alloc (Below.refl _ _) (Nat.le_refl _) _)
  have hr1 : Row w1 w.heap.size 79 (Lib.byteCells (List.replicate 32 0)) := by rw [hw1]; exact Row.new_ rfl zero32b
  have hb1 : Below w.heap.size w w1 := by rw [hw1]; exact Below.alloc (Below.refl _ _) (Nat.le_refl _) _
  have hv1 := hv.step hb1
  clear hw1 h hv
  obtain ⟨cs, hcv, hrow, hcl, hco⟩ := HashVal.of hh1
  go_wp2_with (first | refine wpList_load_any rfl 154 (.tmp 8) rfl g rfl 154 cs _ hrow Tryd.underlying154 rfl (info_hash.trans (by rw [hcl])) ?_ | (go_at_call 125; refine (finish_any cs m _ hcv hv1 hl).mono ?_))
  rintro e w2 ⟨rfl, b2⟩
  have hr2 := hr1.below b2 hr1.lt
  have hb2 := Below.chain hb1 b2
  go_wp2_with (refine wpList_store_any rfl 79 (.tmp 2) (.tmp 10) rfl w.heap.size rfl (Lib.byteCells (sha m)) rfl 79 _ hr2 (info_b32.trans (size_bytes _ _ (sha_length m))) (by simp [Lib.byteCells_length, sha_length]) (cell_oneCell _) ?_)
  intro w3 hr3 b3 _
  have hb3 : Below w.heap.size w w3 := hb2.trans (b3.under (Nat.le_of_lt hr2.lt) (Nat.le_refl _))
  go_wp2
  exact ret_row Tryd.results116 rfl rfl hr3 Tryd.underlying79 rfl (info_b32.trans (size_bytes _ _ (sha_length m))) ⟨rfl, hb3⟩

theorem wpList_alloc_any {P : Program} {ops : Array Oper} {rest : List Oper} {o : Oper} {a : Act} {w : World} {Q : Exit → Act → World → Prop} (hgd : o.guard = none) (t : TypeId) (ho : o.op = .alloc t) (cs : Array Value)
    (hz : ∀ w, (zeroValue t).run P w = .ok (.agg cs) w)
    (h : wpList P ops Q rest (a.put o.dst (.pointer (some ⟨w.heap.size, 0, none⟩))) (w.alloc (.cells cs t))) : wpList P ops Q (o :: rest) a w :=
  wpList_plain hgd fun K hK => by
    have hk := hK _ _ h
    unfold Oper.wp execOp
    simp only [ho]
    simp [go_sem, hz, Result.andThen]
    exact hk

/-- a second Hash to which m has been written -/
def CloneIs (w : World) (m : List UInt8) (e : Ending) (w' : World) : Prop := ∃ g, e = .returned (.pointer (some ⟨g, 0, none⟩)) ∧ g = w.heap.size ∧ HashAt w' g m ∧ Below w.heap.size w w'
end Go.Proofs.YtanpplniedphkaaDoor

/-
  WALKS: sha2.Sum256, Sum192.
-/
namespace Go.Proofs.YtanpplniedphkaaDoor
open Go.RowKit
set_option maxRecDepth 100000

set_option maxHeartbeats 1000000 in
theorem sum256_any (bss : List (List UInt8)) (B : Nat) (v : Value) (w : World) (hp : PartsO w B w.heap.size v bss) (hB : B ≤ w.heap.size) (hv : Vars w) (hl : bss.flatten.length ≤ 1000000000) (hn : bss.length ≤ 1000) :
    Calls Tryd.prog 121 #[v] w (SumIs w (sha bss.flatten)) := by
  unfold SumIs
  go_enter Tryd.func121, Tryd.ntmps121
  go_wp2_with (go_at_call 122; refine (new_any _ (hv.step (Below.alloc (Below.refl _ _) (Nat.le_refl _) _))).mono ?_)
  rintro e w1 ⟨g, rfl, hg, hh, b1⟩
  have hr1 : Row w1 w.heap.size 79 (Lib.byteCells (List.replicate 32 0)) := Row.below (Row.new_ (by rfl) zero32b) b1 (by rw [asz]; omega)
  have hb1 : Below w.heap.size w w1 := by
    refine Below.chain ?_ b1
    exact Below.alloc (Below.refl _ _) (Nat.le_refl _) _
  rw [asz] at hg
  have hv1 := hv.step hb1
  have hp1 : PartsO w1 B g v bss := (hp.moved (by omega)).below (hb1.mono hB)
  have hsz := hb1.size
  have hgw : w.heap.size < g := by omega
  clear b1 hv hp hg
  go_wp2_with (go_at_call 115; refine (write_any g [] bss B v w1 hh hp1 (by omega) hv1 (by rw [List.length_nil, Nat.zero_add]; exact Nat.le_trans hl (by decide)) hn).mono ?_)
  rintro e w2 ⟨rfl, hh2, b2⟩
  rw [List.nil_append] at hh2
  have hr2 := b2.row hr1 hr1.lt (by omega)
  have hb2 : Below w.heap.size w w2 := hb1.trans (b2.under hsz (by omega))
  have hv2 := hv1.but b2 hh.1
  go_wp2_with (go_at_call 116; refine (sum_any g _ w2 hh2 hv2 hl).mono ?_)
  rintro e w3 ⟨rfl, b3⟩
  have hr3 := hr2.below b3 hr2.lt
  have hb3 := Below.chain hb2 b3
  go_wp2_with (refine wpList_store_any rfl 79 (.tmp 2) (.tmp 9) rfl w.heap.size rfl (Lib.byteCells (sha bss.flatten)) rfl 79 _ hr3 (info_b32.trans (size_bytes _ _ (sha_length bss.flatten))) (by rw [Lib.byteCells_length, Lib.byteCells_length, sha_length bss.flatten, List.length_replicate]) (cell_oneCell _) ?_)
  intro w4 hr4 b4 _
  have hb4 : Below w.heap.size w w4 := hb3.trans (b4.under (Nat.le_of_lt hr3.lt) (Nat.le_refl _))
  go_wp2
  exact ret_row Tryd.results121 rfl rfl hr4 Tryd.underlying79 rfl (info_b32.trans (size_bytes _ _ (sha_length bss.flatten))) ⟨rfl, hb4⟩
end Go.Proofs.YtanpplniedphkaaDoor

/-
  WALKS: hexadecimal digits: the document's own Hex.
-/
namespace Go.Proofs.YtanpplniedphkaaDoor
open Go.RowKit
set_option maxRecDepth 100000

def hexD (n : Nat) : UInt8 := if n < 10 then UInt8.ofNat (48 + n) else UInt8.ofNat (87 + n)
def hexL (bs : List UInt8) : List UInt8 := bs.flatMap fun b => [hexD (b.toNat / 16), hexD (b.toNat % 16)]
theorem hexL_snoc (bs : List UInt8) (b : UInt8) : hexL (bs ++ [b]) = hexL bs ++ [hexD (b.toNat / 16), hexD (b.toNat % 16)] := by simp [hexL]
theorem hexL_length (bs : List UInt8) : (hexL bs).length = 2 * bs.length := by
  induction bs with
  | nil => rfl
  | cons b r ih => simp only [hexL, List.flatMap_cons, List.length_append, List.length_cons, List.length_nil] at ih ⊢; omega

/-- make([]byte, 0, n), n a variable -/
theorem make0_run (n : Nat) (hn : n ≤ 281474976710656) (u : World) : (Instr.makeSlice 22 (.int .i64 0) (.int .i64 (n : Int))).run Tryd.prog u =
    .ok (.slice (some ⟨u.heap.size, 0, none⟩) 0 n) (u.alloc (.cells (Lib.byteCells (List.replicate n 0)).toArray 5)) := by
  obtain ⟨i0, hi, hz0, hz1, hz2⟩ := info_parts info_u8
  have h := run_make (P := Tryd.prog) u 22 5 i0 (.int .u8 0) Tryd.underlying22 hi hz0 .i64 .i64 (0 : Int) (n : Int) (by omega) (by omega) (by rw [hz2]; omega) (by omega)
  have e : (n : Int).toNat = n := by omega
  rw [e] at h
  rw [← made_zero]
  simpa [hz1, Value.cells] using h

theorem hexdig_get (i : Nat) (h : i < (⟨#[48, 49, 50, 51, 52, 53, 54, 55, 56, 57, 97, 98, 99, 100, 101, 102]⟩ : ByteArray).size) : (⟨#[48, 49, 50, 51, 52, 53, 54, 55, 56, 57, 97, 98, 99, 100, 101, 102]⟩ : ByteArray)[i]'h = hexD i := by
  have h16 : i < 16 := h
  have key : ∀ j : Fin 16, (⟨#[48, 49, 50, 51, 52, 53, 54, 55, 56, 57, 97, 98, 99, 100, 101, 102]⟩ : ByteArray)[j.val]'(j.isLt) = hexD j.val := by decide
  exact key ⟨i, h16⟩
theorem nat_div16 (n : Nat) : ((n : Int) / 16).toNat = n / 16 := by omega
theorem nat_mod16 (n : Nat) : ((n : Int) % 16).toNat = n % 16 := by omega

/-- A string is handed back; what was there before the call is as it was. -/
def StrIs (w : World) (l : List UInt8) (e : Ending) (w' : World) : Prop := e = .returned (.string ⟨l.toArray⟩) ∧ Below w.heap.size w w'

theorem dig_extract (i : Nat) (h : i < 16) : (⟨#[48, 49, 50, 51, 52, 53, 54, 55, 56, 57, 97, 98, 99, 100, 101, 102]⟩ : ByteArray).extract i (i + 1) = ⟨#[hexD i]⟩ := by
  have key : ∀ j : Fin 16, (⟨#[48, 49, 50, 51, 52, 53, 54, 55, 56, 57, 97, 98, 99, 100, 101, 102]⟩ : ByteArray).extract j.val (j.val + 1) = ⟨#[hexD j.val]⟩ := by decide
  exact key ⟨i, h⟩
theorem hex_grow (l : List UInt8) (x : UInt8) : ((⟨l.toArray⟩ : ByteArray) ++ ((⟨#[48, 49, 50, 51, 52, 53, 54, 55, 56, 57, 97, 98, 99, 100, 101, 102]⟩ : ByteArray).extract (x.toNat / 16) (x.toNat / 16 + 1) ++ (⟨#[48, 49, 50, 51, 52, 53, 54, 55, 56, 57, 97, 98, 99, 100, 101, 102]⟩ : ByteArray).extract (x.toNat % 16) (x.toNat % 16 + 1)))
    = ⟨(l ++ [hexD (x.toNat / 16), hexD (x.toNat % 16)]).toArray⟩ := by
  have := x.toNat_lt
  rw [dig_extract _ (by omega), dig_extract _ (by omega)]
  apply ByteArray.ext
  simp

end Go.Proofs.YtanpplniedphkaaDoor

/-
  EQUALITY OF ARRAYS of bytes and of words.
-/
namespace Go.Proofs.YtanpplniedphkaaDoor
open Go.RowKit
set_option maxRecDepth 100000

theorem mapM_all {α β : Type} (f : α → Option β) (g : α → β) (l : List α) (h : ∀ i ∈ l, f i = some (g i)) : l.mapM f = some (l.map g) := by
  induction l with
  | nil => rfl
  | cons x r ih =>
    rw [List.mapM_cons, h x (List.mem_cons_self ..), ih (fun i hi => h i (List.mem_cons_of_mem _ hi))]
    rfl
theorem flat_single {α β : Type} (g : α → β) (l : List α) : (l.map fun i => [g i]).flatten = l.map g := by
  induction l with
  | nil => rfl
  | cons x r ih =>
    rw [List.map_cons, List.flatten_cons, ih]
    rfl
theorem keyLits_arr {P : Program} {k : IntKind} {T e : TypeId} {n d : Nat} (hT : P.underlying T = some (.array n e)) (he : P.underlying e = some (.int k)) (hce : P.cellsOf e = 1) (hcT : P.cellsOf T = n)
    (xs : List Int) (hx : xs.length = n) (hw : ∀ x ∈ xs, (Lit.int k x).wf = true) : P.keyLits (d + 2) T (xs.map (Value.int k)) = some ((List.range n).map fun i => Lit.int k (xs.getD i 0)) := by
  have hl : (xs.map (Value.int k)).length = n := by simp [hx]
  unfold Program.keyLits
  simp only [hT, hl, hcT, if_true, hce, Nat.mul_one]
  rw [mapM_all _ (fun i => [Lit.int k (xs.getD i 0)])]
  · rw [Option.map_some, flat_single]
  · intro i hi
    have hi' : i < xs.length := by rw [hx]; exact List.mem_range.1 hi
    have e1 : ((xs.map (Value.int k)).drop i).take 1 = [Value.int k xs[i]] := by
      rw [List.drop_eq_getElem_cons (by simpa using hi')]
      simp
    rw [e1, getD_get xs i 0 hi']
    unfold Program.keyLits
    simp [he, hw xs[i] (List.getElem_mem hi')]
theorem eq_arr {P : Program} {k : IntKind} {T e : TypeId} {n : Nat} (hk : P.keyTypeAt 2 T = true) (hT : P.underlying T = some (.array n e)) (he : P.underlying e = some (.int k)) (hce : P.cellsOf e = 1) (hcT : P.cellsOf T = n)
    (xs ys : List Int) (hx : xs.length = n) (hy : ys.length = n) (hwx : ∀ x ∈ xs, (Lit.int k x).wf = true) (hwy : ∀ x ∈ ys, (Lit.int k x).wf = true) (w : World) :
    (Op.equalIn 10000 T (.agg (xs.map (Value.int k)).toArray) (.agg (ys.map (Value.int k)).toArray)).run P w = .ok (xs == ys) w := by
  have hf : ∀ l : List Int, l.length = n → (Value.agg (l.map (Value.int k)).toArray).formed P T = true := by
    intro l hl
    simp [Value.formed, hT, hcT, hl]
  obtain ⟨r, hr, hri⟩ := run_equalIn_deep 9998 2 T hk w (0 + 2) (0 + 2) _ _ _ _ (hf xs hx) (hf ys hy) (by simpa [Value.cells] using keyLits_arr (d := 0) hT he hce hcT xs hx hwx) (by simpa [Value.cells] using keyLits_arr (d := 0) hT he hce hcT ys hy hwy)
  have hb : r = (xs == ys) := by
    have hiff : r = true ↔ xs = ys := by
      rw [hri]
      constructor
      · intro h
        apply List.ext_getElem (by rw [hx, hy])
        intro i h1 h2
        have h3 := congrArg (fun l : List Lit => l[i]?) h
        simp only [List.getElem?_map] at h3
        rw [List.getElem?_range (by omega)] at h3
        simp only [Option.map_some, Option.some.injEq, Lit.int.injEq] at h3
        have h4 : xs[i]?.getD 0 = ys[i]?.getD 0 := h3.2
        rw [List.getElem?_eq_getElem h1, List.getElem?_eq_getElem h2] at h4
        exact h4
      · intro h
        rw [h]
    by_cases h : xs = ys
    · rw [hiff.2 h, h]; simp
    · have : r = false := by
        cases r with
        | false => rfl
        | true => exact absurd (hiff.1 rfl) h
      rw [this]
      exact (beq_eq_false_iff_ne.2 h).symm
  rw [← hb]
  exact hr
theorem bytes_ints (bs : List UInt8) : Lib.byteCells bs = (bs.map fun b => (b.toNat : Int)).map (Value.int .u8) := by simp [Lib.byteCells]
theorem words_ints (l : List UInt32) : wordCells l = (l.map fun b => (b.toNat : Int)).map (Value.int .u32) := by simp [wordCells]
theorem bytes_beq (xs ys : List UInt8) : ((xs.map fun b => (b.toNat : Int)) == (ys.map fun b => (b.toNat : Int))) = (xs == ys) := by
  have hinj : (xs.map fun b => (b.toNat : Int)) = (ys.map fun b => (b.toNat : Int)) ↔ xs = ys :=
    ⟨fun h => List.map_inj_right (fun a b e => UInt8.toNat_inj.1 (by exact_mod_cast e)) |>.1 h, fun h => by rw [h]⟩
  by_cases h : xs = ys
  · rw [h]; simp
  · rw [beq_eq_false_iff_ne.2 h, beq_eq_false_iff_ne]
    exact fun e => h (hinj.1 e)
theorem words_beq (xs ys : List UInt32) : ((xs.map fun b => (b.toNat : Int)) == (ys.map fun b => (b.toNat : Int))) = (xs == ys) := by
  have hinj : (xs.map fun b => (b.toNat : Int)) = (ys.map fun b => (b.toNat : Int)) ↔ xs = ys :=
    ⟨fun h => List.map_inj_right (fun a b e => UInt32.toNat_inj.1 (by exact_mod_cast e)) |>.1 h, fun h => by rw [h]⟩
  by_cases h : xs = ys
  · rw [h]; simp
  · rw [beq_eq_false_iff_ne.2 h, beq_eq_false_iff_ne]
    exact fun e => h (hinj.1 e)
theorem eq32 (xs ys : List UInt8) (hx : xs.length = 32) (hy : ys.length = 32) (w : World) :
    (Op.equalIn 10000 79 (.agg (Lib.byteCells xs).toArray) (.agg (Lib.byteCells ys).toArray)).run Tryd.prog w = .ok (xs == ys) w := by
  have hwf : ∀ l : List UInt8, ∀ x ∈ (l.map fun b => (b.toNat : Int)), (Lit.int .u8 x).wf = true := by
    intro l x hx
    simp only [List.mem_map] at hx
    obtain ⟨b, _, rfl⟩ := hx
    have := b.toNat_lt
    simp [Lit.wf, IntKind.min, IntKind.max, IntKind.signed, IntKind.bits]
    omega
  rw [bytes_ints, bytes_ints, eq_arr (k := .u8) (n := 32) (e := 5) (by kernel_rfl) Tryd.underlying79 Tryd.underlying5 (by kernel_rfl) (by kernel_rfl) _ _ (by simpa using hx) (by simpa using hy) (hwf xs) (hwf ys), bytes_beq]
theorem eq8 (xs ys : List UInt32) (hx : xs.length = 8) (hy : ys.length = 8) (w : World) :
    (Op.equalIn 10000 146 (.agg (wordCells xs).toArray) (.agg (wordCells ys).toArray)).run Tryd.prog w = .ok (xs == ys) w := by
  have hwf : ∀ l : List UInt32, ∀ x ∈ (l.map fun b => (b.toNat : Int)), (Lit.int .u32 x).wf = true := by
    intro l x hx
    simp only [List.mem_map] at hx
    obtain ⟨b, _, rfl⟩ := hx
    have := b.toNat_lt
    simp [Lit.wf, IntKind.min, IntKind.max, IntKind.signed, IntKind.bits]
    omega
  rw [words_ints, words_ints, eq_arr (k := .u32) (n := 8) (e := 44) (by kernel_rfl) Tryd.underlying146 Tryd.underlying44 (by kernel_rfl) (by kernel_rfl) _ _ (by simpa using hx) (by simpa using hy) (hwf xs) (hwf ys), words_beq]
end Go.Proofs.YtanpplniedphkaaDoor

/-
  WALK: the law's own check 'live': the chapter's example.
-/
namespace Go.Proofs.YtanpplniedphkaaDoor
open Go.RowKit
set_option maxRecDepth 100000

theorem PartsO.solo {w : World} {B g q n : Nat} {T : TypeId} {u : Value} {bs : List UInt8} (hr : Row w q T [u]) (hq : q < B) (hg : q ≠ g) (hs : Sl w B u bs) (ho : Off g u) : PartsO w B g (.slice (some ⟨q, 0, none⟩) 1 n) [bs] :=
  ⟨_, n, rfl, fun _ => ⟨q, 0, rfl, hq, hg, fun i hi => by
    obtain rfl : i = 0 := by simp at hi; omega
    exact ⟨u, hr.cell 0, hs, ho⟩⟩⟩
/-- true is handed back; nothing that was there has turned -/
def TrueIs (w : World) (e : Ending) (w' : World) : Prop := e = .returned (.bool true) ∧ Below w.heap.size w w'

/-- a slice over a block whose cells are known, marked or not -/
theorem Sl.of_block {w : World} {B g n : Nat} {T : TypeId} {fr : Nat × Nat} {C : Array Value} {bs : List UInt8} (h : w.heap[g]? = some (.cells C T fr)) (hC : C = (Lib.byteCells bs).toArray) (hB : g < B) (hn : bs.length = n) (hm : n ≤ 1000000) : Sl w B (.slice (some ⟨g, 0, none⟩) n n) bs := by
  subst hn
  refine ⟨_, bs.length, rfl, Nat.le_refl _, by unfold maxLen; omega, fun _ => ⟨g, 0, rfl, hB, fun k hk => ?_⟩⟩
  rw [Go.Joins.cell_of_block h, Nat.zero_add, hC, List.getElem?_toArray]
  exact byteCells_get bs k hk
theorem heap_under {w : World} {g : Nat} {o o2 : Obj} (h : w.heap[g]? = some o) : (w.alloc o2).heap[g]? = some o := (Below.heap_alloc w o2 g (Array.getElem?_eq_some_iff.1 h).1).trans h
theorem heap_new {w : World} {g : Nat} {o : Obj} (h : g = w.heap.size) : (w.alloc o).heap[g]? = some o := by subst h; exact heap_alloc_last w o
theorem below3 (w : World) (a b c : Obj) : Below w.heap.size w (((w.alloc a).alloc b).alloc c) := (((Below.refl _ _).alloc (Nat.le_refl _) _).alloc (by rw [asz]; omega) _).alloc (by rw [asz, asz]; omega) _
theorem range_below {w w' : World} {B b o : Nat} {cs : List Value} (h : w.rangeAt b o cs) (hb : Below B w w') (hlt : b < B) : w'.rangeAt b o cs := fun j v hv => (hb.cell (p := ⟨b, o + j, none⟩) hlt).trans (h j v hv)
theorem abc_two : ([] : List UInt8) ++ [[(97 : UInt8)], [98, 99]].flatten = [97, 98, 99] := rfl
theorem abc_parts : [[(97 : UInt8), 98, 99]].flatten = [97, 98, 99] := rfl

end Go.Proofs.YtanpplniedphkaaDoor
