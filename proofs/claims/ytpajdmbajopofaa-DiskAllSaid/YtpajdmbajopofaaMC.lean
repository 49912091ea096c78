/-
 FOUNDATIONS, merged: see the heads of the parts.
-/
import Derived.Test.YtpajdmbajopofaaMB
import Derived.Test.YtpajdmbajopofaaHand
import Derived.Laws.CopyOwn
import Derived.Deep.RegionLaw
import Derived.Test.YtpajdmbajopofaaMA
import Derived.BigQuiet
import Derived.Deep.QuietTactic
import Derived.DeepKeys
import Derived.Deep.RegionHeld3
import Derived.Lib.SmallJoins
/-
 LAWS AT OPERATIONS: a slice of bytes cut from a place on, or up to a place; a copy into a row.
-/
namespace Go.Proofs.Ytpajdmbajopofaa
open Go.RowKit
set_option maxRecDepth 100000

theorem Sl.cut {w : World} {B : Nat} {A : Option Addr} {len c : Nat} {bs : List UInt8} (h : Sl w B (.slice A len c) bs) (i j : Nat) (hij : i ≤ j) (hj : j ≤ len) (hjm : j ≤ c) :
  Sl w B (sliced A i j c 1) ((bs.take j).drop i) := by
 have hl := h.len
 subst hl
 obtain ⟨A', c', hv, h1, h2, hc⟩ := h
 cases hv
 have hlen : ((bs.take j).drop i).length = j - i := by simp; omega
 unfold sliced
 refine ⟨if c = i then A else A.map (·.add (i * 1)), c - i, by rw [hlen], by omega, by omega, fun hn => ?_⟩
 obtain ⟨b, off, rfl, hb, hr⟩ := hc (by omega)
 rw [if_neg (by omega)]
 refine ⟨b, off + i, by simp [addr_add], hb, fun k hk => ?_⟩
 rw [hlen] at hk
 have := hr (i + k) (by omega)
 rw [show off + (i + k) = off + i + k by omega] at this
 rw [this]
 simp
theorem Off.cut {g : Nat} {A : Option Addr} {len c : Nat} (h : Off g (.slice A len c)) (i j : Nat) (hj : j ≤ len) : Off g (sliced A i j c 1) := by
 intro x l c' hx hl
 have hx1 : (if c = i then A else A.map (·.add (i * 1))) = some x := by
  unfold sliced at hx
  injection hx
 have hx2 : j - i = l := by
  unfold sliced at hx
  injection hx
 by_cases hci : c = i
 ·rw [if_pos hci] at hx1
  subst hx1
  exact h x len c rfl (by omega)
 ·rw [if_neg hci] at hx1
  cases A with
  | none => cases hx1
  | some y =>
   simp only [Option.map_some, Option.some.injEq] at hx1
   have := h y len c rfl (by omega)
   rw [← hx1]
   unfold Addr.add
   split <;> exact this
theorem slice30 : Try.prog.underlying 33 = some (.slice (Try.prog.elem 33)) := by kernel_rfl
theorem elem30 : Try.prog.elem 33 = 5 := by kernel_rfl
theorem run_sizeOf_u8 (w : World) : (sizeOf 5).run Try.prog w = .ok 1 w := by simp [go_sem]
/-- x[i:] of a slice of bytes -/
theorem wpList_slice_from {ops : Array Oper} {rest : List Oper} {o : Oper} {a : Act} {w : World} {Q : Exit → Act → World → Prop} (hgd : o.guard = none) (x lo : Operand) (ho : o.op = .slice 33 x (some lo) none none)
  (B : Nat) (v : Value) (hx : a.eval x = v) (bs : List UInt8) (hs : Sl w B v bs) (i : Nat) (hlo : a.eval lo = .int .i64 (i : Int)) (hi : i ≤ bs.length)
  (h : ∀ v', Sl w B v' (bs.drop i) → (∀ g, Off g v → Off g v') → wpList Try.prog ops Q rest (a.put o.dst v') w) : wpList Try.prog ops Q (o :: rest) a w := by
 obtain ⟨A, c, rfl, h1, h2⟩ := hs.form
 have hcut := hs.cut i bs.length hi (Nat.le_refl _) h1
 rw [List.take_length] at hcut
 refine wpList_plain hgd fun K hK => ?_
 have hrun : (Instr.sliceAt 33 (.slice A bs.length c) (some (.int .i64 (i : Int))) none none).run Try.prog w = .ok (sliced A i bs.length c 1) w := by
  rw [run_sliceAt_slice _ _ _ _ _ _ slice30, run_slice_l w 33 A bs.length c slice30 .i64 (i : Int) (by omega) (by omega), elem30, run_sizeOf_u8, Result.andThen_ok, Int.toNat_natCast]
 unfold Oper.wp execOp
 simp only [ho, hx, hlo, Option.map_some, Option.map_none, Sem.run_bind, hrun, Result.andThen_ok]
 exact hK _ _ (h _ hcut fun g hg => hg.cut i bs.length (Nat.le_refl _))
/-- x[:j] of a slice of bytes, within its length -/
theorem wpList_slice_to {ops : Array Oper} {rest : List Oper} {o : Oper} {a : Act} {w : World} {Q : Exit → Act → World → Prop} (hgd : o.guard = none) (x hi : Operand) (ho : o.op = .slice 33 x none (some hi) none)
  (B : Nat) (v : Value) (hx : a.eval x = v) (bs : List UInt8) (hs : Sl w B v bs) (j : Nat) (hhi : a.eval hi = .int .i64 (j : Int)) (hj : j ≤ bs.length)
  (h : ∀ v', Sl w B v' (bs.take j) → (∀ g, Off g v → Off g v') → wpList Try.prog ops Q rest (a.put o.dst v') w) : wpList Try.prog ops Q (o :: rest) a w := by
 obtain ⟨A, c, rfl, h1, h2⟩ := hs.form
 have hcut := hs.cut 0 j (Nat.zero_le _) hj (by omega)
 rw [List.drop_zero] at hcut
 refine wpList_plain hgd fun K hK => ?_
 have hrun : (Instr.sliceAt 33 (.slice A bs.length c) none (some (.int .i64 (j : Int))) none).run Try.prog w = .ok (sliced A 0 j c 1) w := by
  rw [run_sliceAt_slice _ _ _ _ _ _ slice30, run_slice_h w 33 A bs.length c slice30 .i64 (j : Int) (by omega) (by omega), elem30, run_sizeOf_u8, Result.andThen_ok, Int.toNat_natCast]
 unfold Oper.wp execOp
 simp only [ho, hx, hhi, Option.map_some, Option.map_none, Sem.run_bind, hrun, Result.andThen_ok]
 exact hK _ _ (h _ hcut fun g hg => hg.cut 0 j hj)

theorem wpList_build_eq {P : Program} {ops : Array Oper} {rest : List Oper} {o : Oper} {a : Act} {w : World} {Q : Exit → Act → World → Prop} (hg : o.guard = none) (t : TypeId) (parts : Array (Nat × Operand)) (ho : o.op = .build t parts)
  (cells : Array Value) (hf : P.built t (parts.map fun (i, x) => (i, a.eval x)).toList = some cells)
  (h : wpList P ops Q rest (a.put o.dst (.agg cells)) w) : wpList P ops Q (o :: rest) a w :=
 wpList_build hg t parts ho (by rw [hf]; rfl) (by rw [hf]; exact h)

/-! a region that draws its order, step by step -/
theorem ready_load {P : Program} {md : Region.Mode} {ops : Array Oper} {Q : Exit → Act → World → Prop} {fuel : Nat} {listed : Array Bool} {a : Act} {w : World} {rs : List Nat} (i : Nat) (ty : TypeId) (x : Operand) (dst : Option Tmp)
  (hgd : (ops[i]?).map (·.guard) = some none) (hop : (ops[i]?).map (·.op) = some (.load ty x)) (hdst : (ops[i]?).map (·.dst) = some dst)
  (b o : Nat) (hx : a.eval x = .pointer (some ⟨b, o, none⟩)) (cs : List Value) (d : TypeDesc) (hc : w.rangeAt b o cs)
  (hu : P.underlying ty = some d) (hd : d.isRow = true) (hi : (P.info? ty).map (·.size) = some cs.length)
  (h : wpAny P md ops Q fuel (listed.setIfInBounds i true) (a.put dst (.agg cs.toArray)) w) (hs : AllReady P md ops Q fuel listed a w rs) : AllReady P md ops Q fuel listed a w (i :: rs) := by
 cases ho : ops[i]? with
 | none => rw [ho] at hgd; cases hgd
 | some op =>
  rw [ho] at hgd hop hdst
  simp only [Option.map_some, Option.some.injEq] at hgd hop hdst
  refine AllReady.cons ho (fun K hK => ?_) hs
  have hw : Region.wanted op (yielded ops a.tmps) = true := by simp [Region.wanted, hgd]
  rw [if_pos hw]
  exact wp_load_mid ty x hop b o hx cs d hc hu hd hi (hK _ _ (by rw [hdst]; exact h))
theorem ready_store {P : Program} {md : Region.Mode} {ops : Array Oper} {Q : Exit → Act → World → Prop} {fuel : Nat} {listed : Array Bool} {a : Act} {w : World} {rs : List Nat} (i : Nat) (ty : TypeId) (x y : Operand) (dst : Option Tmp)
  (hgd : (ops[i]?).map (·.guard) = some none) (hop : (ops[i]?).map (·.op) = some (.store ty x y)) (hdst : (ops[i]?).map (·.dst) = some dst)
  (b o : Nat) (hx : a.eval x = .pointer (some ⟨b, o, none⟩)) (cs : List Value) (hy : a.eval y = .agg cs.toArray) (ht : w.there b o cs.length)
  (hi : (P.info? ty).map (·.size) = some cs.length) (h1 : ∀ u ∈ cs, u.oneCell' = true)
  (h : wpAny P md ops Q fuel (listed.setIfInBounds i true) (a.put dst undef) (w.setCells b o cs)) (hs : AllReady P md ops Q fuel listed a w rs) : AllReady P md ops Q fuel listed a w (i :: rs) := by
 cases ho : ops[i]? with
 | none => rw [ho] at hgd; cases hgd
 | some op =>
  rw [ho] at hgd hop hdst
  simp only [Option.map_some, Option.some.injEq] at hgd hop hdst
  refine AllReady.cons ho (fun K hK => ?_) hs
  have hw : Region.wanted op (yielded ops a.tmps) = true := by simp [Region.wanted, hgd]
  rw [if_pos hw]
  exact wp_store_mid ty x y hop b o cs.toArray hx hy (by simpa using ht) (by simpa using hi) (all_oneCell_toArray h1) (hK _ _ (by rw [hdst]; exact h))

/-- a slice over a row -/
theorem Sl.of_row {w : World} {B g off n c : Nat} {T : TypeId} {cs : List Value} {bs : List UInt8} (hr : Row w g T cs) (hB : g < B) (hn : bs.length = n) (hc : n ≤ c) (hm : c ≤ maxLen)
  (hb : ∀ k (h : k < bs.length), cs[off + k]? = some (.int .u8 bs[k].toNat)) : Sl w B (.slice (some ⟨g, off, none⟩) n c) bs := by
 subst hn
 exact ⟨_, c, rfl, hc, hm, fun _ => ⟨g, off, rfl, hB, fun k hk => by rw [hr.cell]; exact hb k hk⟩⟩
theorem Sl.of_bytes {w : World} {B g n : Nat} {T : TypeId} {bs : List UInt8} (hr : Row w g T (Lib.byteCells bs)) (hB : g < B) (hn : bs.length = n) (hm : n ≤ 1000000) : Sl w B (.slice (some ⟨g, 0, none⟩) n n) bs :=
 Sl.of_row hr hB hn (Nat.le_refl _) (by unfold maxLen; omega) fun k hk => by rw [Nat.zero_add]; exact byteCells_get bs k hk

/-- copy into a row, as one step of a region that draws: only that row turns -/
theorem step_copy_but {P : Program} {ops : Array Oper} {o : Oper} {a : Act} {w : World} {K : Act → World → Prop} {Q : Exit → Act → World → Prop} {E : Prop} (hgd : o.guard = none) (d s : Operand) (dT sT : TypeId)
  (ho : o.op = .call { callee := .builtin .copy, args := #[d, s], argTypes := #[dT, sT] }) (elem : TypeId) (hu : P.underlying dT = some (.slice elem)) (hsz : (P.info? elem).map (·.size) = some 1)
  (dLen dCap sLen sCap : Nat) (ad : Addr) (g off : Nat) (hd : a.eval d = .slice (some ⟨g, off, none⟩) dLen dCap) (hs : a.eval s = .slice (some ad) sLen sCap)
  (cur : List Value) (t : TypeId) (hr : Row w g t cur) (cs : List Value) (hn : cs.length = Nat.min sLen dLen)
  (hsrc : ∀ j v, cs[j]? = some v → w.cell? (ad.add j) = some v) (hfit : off + cs.length ≤ cur.length) (h1 : ∀ v ∈ cs, v.oneCell' = true)
  (h : ∀ w', Row w' g t (splice cur off cs) → But w.heap.size g w w' → w'.heap.size = w.heap.size → K (a.put o.dst (goInt cs.length)) w') :
  if Region.wanted o (yielded ops a.tmps) = true then Oper.wp P o a w K Q else E := by
 have hw : Region.wanted o (yielded ops a.tmps) = true := by simp [Region.wanted, hgd]
 rw [if_pos hw]
 have hrun := run_copy_row (P := P) w dT sT o.type elem g off dLen dCap ad sLen sCap cur.toArray t cs hu hsz hr hn hsrc (by simpa using hfit) h1
 unfold Oper.wp
 simp [execOp, ho, resolve, invoke, builtin, hd, hs, hrun, Result.andThen]
 refine h _ (show _ = _ by simpa [splice] using setRow_heap w g _ _ t _ hr) ⟨rfl, rfl, rfl, Nat.le_of_eq (by simp), fun k _ hk => Go.setRow_other w g k _ hk⟩ (by simp)
end Go.Proofs.Ytpajdmbajopofaa

/-
 THE HASH IN MEMORY: what a block holds behind New and Write; New, isMade, Len.
-/
namespace Go.Proofs.Ytpajdmbajopofaa
open Go.RowKit
set_option maxRecDepth 100000

def hashCells (st : St) (blk : List UInt8) (n : Nat) : List Value := .bool true :: (wordCells st.list ++ (Lib.byteCells blk ++ [.int .i64 (n : Int)]))
theorem hashCells_length (st : St) (blk : List UInt8) (n : Nat) (h : blk.length = 64) : (hashCells st blk n).length = 74 := by
 simp [hashCells, wordCells_length, St.list_length, Lib.byteCells_length, h]
theorem hashCells_size (st : St) (blk : List UInt8) (n : Nat) (h : blk.length = 64) : (hashCells st blk n)[73]? = some (.int .i64 (n : Int)) := by
 rw [hashCells, List.getElem?_cons_succ, List.getElem?_append_right (by simp [wordCells_length, St.list_length]), List.getElem?_append_right (by simp [wordCells_length, St.list_length, Lib.byteCells_length, h])]
 simp [wordCells_length, St.list_length, Lib.byteCells_length, h]
theorem hashCells_st (st : St) (blk : List UInt8) (n : Nat) : ((hashCells st blk n).drop 1).take 8 = wordCells st.list := by
 rw [hashCells, List.drop_succ_cons, List.drop_zero, List.take_append_of_le_length (by simp [wordCells_length, St.list_length])]
 exact List.take_of_length_le (by simp [wordCells_length, St.list_length])
theorem hashCells_blk (st : St) (blk : List UInt8) (n : Nat) (h : blk.length = 64) : ((hashCells st blk n).drop 9).take 64 = Lib.byteCells blk := by
 have e : (hashCells st blk n).drop 9 = Lib.byteCells blk ++ [.int .i64 (n : Int)] := by
  rw [hashCells, List.drop_succ_cons, List.drop_append_of_le_length (by simp [wordCells_length, St.list_length]), List.drop_of_length_le (by simp [wordCells_length, St.list_length]), List.nil_append]
 rw [e, List.take_append_of_le_length (by rw [Lib.byteCells_length]; omega)]
 exact List.take_of_length_le (by rw [Lib.byteCells_length]; omega)
theorem hashCells_byte (st : St) (blk : List UInt8) (n k : Nat) (h : k < blk.length) : (hashCells st blk n)[9 + k]? = some (.int .u8 (blk[k].toNat : Int)) := by
 rw [show 9 + k = (8 + k) + 1 by omega, hashCells, List.getElem?_cons_succ, List.getElem?_append_right (by simp [wordCells_length, St.list_length]), List.getElem?_append_left (by simp [wordCells_length, St.list_length, Lib.byteCells_length]; omega)]
 rw [show 8 + k - (wordCells st.list).length = k by simp [wordCells_length, St.list_length]]
 exact byteCells_get blk k h
theorem hashCells_word (st : St) (blk : List UInt8) (n k : Nat) (h : k < 8) : (hashCells st blk n)[1 + k]? = some (.int .u32 ((st.list[k]'h).toNat : Int)) := by
 rw [show 1 + k = k + 1 by omega, hashCells, List.getElem?_cons_succ, List.getElem?_append_left (by simp [wordCells_length, St.list_length]; omega)]
 exact wordCells_get _ _ h
theorem hashCells_one (st : St) (blk : List UInt8) (n : Nat) : ∀ u ∈ hashCells st blk n, u.oneCell' = true := by
 intro u hu
 simp only [hashCells, List.mem_cons, List.mem_append, List.not_mem_nil, or_false] at hu
 rcases hu with rfl | hu | hu | rfl
 ·rfl
 ·exact cell_oneWord _ u hu
 ·exact cell_oneCell _ u hu
 ·rfl
/-- the last cell: how many bytes -/
theorem hashCells_setSize (st : St) (blk : List UInt8) (n m : Nat) (h : blk.length = 64) : (hashCells st blk n).set 73 (.int .i64 (m : Int)) = hashCells st blk m := by
 rw [hashCells, List.set_cons_succ, List.set_append_right _ _ (by simp [wordCells_length, St.list_length]), List.set_append_right _ _ (by simp [wordCells_length, St.list_length, Lib.byteCells_length, h])]
 simp [wordCells_length, St.list_length, Lib.byteCells_length, h, hashCells]
theorem hashCells_splice (st : St) (blk cs : List UInt8) (n r : Nat) (h : blk.length = 64) (hr : r + cs.length ≤ 64) : splice (hashCells st blk n) (9 + r) (Lib.byteCells cs) = hashCells st (splice blk r cs) n := by
 have h9 : (Value.bool true :: wordCells st.list).length = 9 := by simp [wordCells_length, St.list_length]
 have e : hashCells st blk n = (Value.bool true :: wordCells st.list) ++ (Lib.byteCells blk ++ [.int .i64 (n : Int)]) := by simp [hashCells]
 have e2 : hashCells st (splice blk r cs) n = (Value.bool true :: wordCells st.list) ++ (Lib.byteCells (splice blk r cs) ++ [.int .i64 (n : Int)]) := by simp [hashCells]
 rw [e2, e]
 generalize (Value.bool true :: wordCells st.list) = hd at h9 ⊢
 unfold splice
 rw [Lib.byteCells_length, List.take_append, h9, List.take_of_length_le (by omega), show 9 + r - 9 = r by omega, List.take_append_of_le_length (by rw [Lib.byteCells_length]; omega),
  show 9 + r + cs.length = 9 + (r + cs.length) by omega, ← List.drop_drop, List.drop_append_of_le_length (l₁ := hd) (by omega), List.drop_of_length_le (l := hd) (by omega), List.nil_append,
  List.drop_append_of_le_length (by rw [Lib.byteCells_length]; omega)]
 simp [Lib.byteCells, List.append_assoc]
theorem hashCells_setSt (st s2 : St) (blk : List UInt8) (n : Nat) : over (hashCells st blk n) 1 (wordCells s2.list) = hashCells s2 blk n := by
 rw [over_eq _ _ _ (by simp [hashCells, wordCells_length, St.list_length])]
 simp [hashCells, wordCells_length, St.list_length]

section
variable {w w' : World} {B g j : Nat} {m : List UInt8}
end

theorem But.undrew {w w' : World} {B g : Nat} (h : But B g w.drew w') : But B g w w' := ⟨h.os, h.tape, h.output, h.size, h.block⟩
theorem zeros64s : (#[.int .u8 0] : Array Value) = (Lib.byteCells (List.replicate 1 0)).toArray := rfl

end Go.Proofs.Ytpajdmbajopofaa

/-
 WALK: (*sha2.Hash).add.
-/
namespace Go.Proofs.Ytpajdmbajopofaa
open Go.RowKit
set_option maxRecDepth 100000

theorem info_u8s : (Try.prog.info? 5).map (·.size) = some 1 := by kernel_rfl
def slLen : Value → Nat
 | .slice _ n _ => n
 | _ => 0
theorem splice_take (blk cs : List UInt8) (r : Nat) (h : r + cs.length ≤ blk.length) : (splice blk r cs).take (r + cs.length) = blk.take r ++ cs := by
 unfold splice
 rw [← List.append_assoc, List.take_append_of_le_length (by simp; omega)]
 exact List.take_of_length_le (by simp; omega)
theorem splice_all (blk cs : List UInt8) (r : Nat) (h : r + cs.length = blk.length) : splice blk r cs = blk.take r ++ cs := by
 unfold splice
 rw [h, List.drop_length, List.append_nil]

/-- what one round does to the bytes: n more bytes; they fill the block, or they don't -/
theorem round_part (M cs blk : List UInt8) (r : Nat) (hr : r = M.length % 64) (hb : blk.length = 64) (hblk : blk.take r = M.drop (64 * (M.length / 64))) (hc : r + cs.length < 64) :
  (M ++ cs).length / 64 = M.length / 64 ∧ states (M ++ cs) ((M ++ cs).length / 64) = states M (M.length / 64) ∧ (splice blk r cs).length = 64 ∧ (splice blk r cs).take ((M ++ cs).length % 64) = (M ++ cs).drop (64 * ((M ++ cs).length / 64)) := by
 have hd : (M ++ cs).length / 64 = M.length / 64 := by simp only [List.length_append]; omega
 have hm : (M ++ cs).length % 64 = r + cs.length := by simp only [List.length_append]; omega
 refine ⟨hd, by rw [hd, states_append _ _ _ (by omega)], by rw [length_splice _ _ _ (by omega), hb], ?_⟩
 rw [hd, hm, splice_take _ _ _ (by omega), hblk, List.drop_append_of_le_length (by omega)]
theorem round_full (M cs blk : List UInt8) (r : Nat) (hr : r = M.length % 64) (hb : blk.length = 64) (hblk : blk.take r = M.drop (64 * (M.length / 64))) (hc : r + cs.length = 64) :
  (M ++ cs).length / 64 = M.length / 64 + 1 ∧ (M ++ cs).length % 64 = 0 ∧ states (M ++ cs) ((M ++ cs).length / 64) = comp (states M (M.length / 64)) (splice blk r cs) ∧ (splice blk r cs).length = 64 := by
 have hd : (M ++ cs).length / 64 = M.length / 64 + 1 := by simp only [List.length_append]; omega
 have hm : (M ++ cs).length % 64 = 0 := by simp only [List.length_append]; omega
 refine ⟨hd, hm, ?_, by rw [length_splice _ _ _ (by omega), hb]⟩
 rw [hd, states, states_append _ _ _ (by omega), blockAt, splice_all _ _ _ (by omega), hblk, List.drop_append_of_le_length (by omega), List.take_of_length_le (by simp only [List.length_append, List.length_drop]; omega)]

theorem take_more (p cs : List UInt8) (k j : Nat) (hcs : cs = (p.drop k).take j) : p.take (k + cs.length) = p.take k ++ cs := by
 rw [List.take_add]
 congr 1
 subst hcs
 rw [List.length_take, List.take_eq_take_iff]
 simp
/-! the operations of 'h.state = Compress(h.state, h.block)', written out: the region draws their order -/
def op147_2 : Oper := { dst := some 38, op := Op.nilCheck (Operand.tmp 37), type := 0, pos := "sha2.go:147", after := #[{ on := 1, ground := Ground.data }], guard := none }
def op147_6 : Oper := { dst := some 42, op := Op.nilCheck (Operand.tmp 41), type := 0, pos := "sha2.go:147", after := #[{ on := 5, ground := Ground.data }], guard := none }
def op147_10 : Oper := { dst := some 46, op := Op.nilCheck (Operand.tmp 36), type := 0, pos := "sha2.go:147", after := #[{ on := 0, ground := Ground.data }, { on := 0, ground := Ground.phase }, { on := 1, ground := Ground.phase }, { on := 2, ground := Ground.phase }, { on := 3, ground := Ground.phase }, { on := 4, ground := Ground.phase }, { on := 5, ground := Ground.phase }, { on := 6, ground := Ground.phase }, { on := 7, ground := Ground.phase }, { on := 8, ground := Ground.phase }, { on := 9, ground := Ground.phase }], guard := none }
end Go.Proofs.Ytpajdmbajopofaa

/-
 WALK: (*sha2.Hash).Write; parts of bytes, wherever they lie.
-/
namespace Go.Proofs.Ytpajdmbajopofaa
open Go.RowKit
set_option maxRecDepth 100000

/-- v is a slice of slices of bytes that read as bss; all that it reads lies below block B, and not in block g -/
def PartsO (w : World) (B g : Nat) (v : Value) (bss : List (List UInt8)) : Prop :=
 ∃ A c, v = .slice A bss.length c ∧ (0 < bss.length → ∃ q off, A = some ⟨q, off, none⟩ ∧ q < B ∧ q ≠ g ∧ ∀ i (h : i < bss.length), ∃ u, w.cell? ⟨q, off + i, none⟩ = some u ∧ Sl w B u bss[i] ∧ Off g u)
section
variable {w w' : World} {B B' g : Nat} {v : Value} {bss : List (List UInt8)}
theorem PartsO.form (h : PartsO w B g v bss) : ∃ A c, v = .slice A bss.length c := by
 obtain ⟨A, c, hv, _⟩ := h
 exact ⟨A, c, hv⟩
theorem PartsO.at_ {A : Option Addr} {n c : Nat} (h : PartsO w B g (.slice A n c) bss) (hn : 0 < bss.length) : ∃ q off, A = some ⟨q, off, none⟩ ∧ q < B ∧ q ≠ g ∧ ∀ i (h : i < bss.length), ∃ u, w.cell? ⟨q, off + i, none⟩ = some u ∧ Sl w B u bss[i] ∧ Off g u := by
 obtain ⟨A', c', hv, hc⟩ := h
 cases hv
 exact hc hn
theorem PartsO.but (h : PartsO w B g v bss) (hb : But B g w w') : PartsO w' B g v bss := by
 obtain ⟨A, c, hv, hc⟩ := h
 refine ⟨A, c, hv, fun hn => ?_⟩
 obtain ⟨q, off, hA, hq, hg, hr⟩ := hc hn
 refine ⟨q, off, hA, hq, hg, fun i hi => ?_⟩
 obtain ⟨u, hu, hs, ho⟩ := hr i hi
 exact ⟨u, (hb.cell (p := ⟨q, off + i, none⟩) hq hg).trans hu, hs.but ho hb, ho⟩
theorem PartsO.below (h : PartsO w B g v bss) (hb : Below B w w') : PartsO w' B g v bss := h.but (But.of hb g)
theorem PartsO.more (h : PartsO w B g v bss) (hB : B ≤ B') : PartsO w B' g v bss := by
 obtain ⟨A, c, hv, hc⟩ := h
 refine ⟨A, c, hv, fun hn => ?_⟩
 obtain ⟨q, off, hA, hq, hg, hr⟩ := hc hn
 refine ⟨q, off, hA, by omega, hg, fun i hi => ?_⟩
 obtain ⟨u, hu, hs, ho⟩ := hr i hi
 exact ⟨u, hu, hs.more hB, ho⟩
/-- what lies below a block does not lie in it -/
theorem PartsO.moved {g' : Nat} (h : PartsO w B g v bss) (hg' : B ≤ g') : PartsO w B g' v bss := by
 obtain ⟨A, c, hv, hc⟩ := h
 refine ⟨A, c, hv, fun hn => ?_⟩
 obtain ⟨q, off, hA, hq, hg, hr⟩ := hc hn
 refine ⟨q, off, hA, hq, by omega, fun i hi => ?_⟩
 obtain ⟨u, hu, hs, ho⟩ := hr i hi
 exact ⟨u, hu, hs, hs.off hg'⟩
/-- one part, in a row of its own -/
theorem PartsO.one {q n : Nat} {T : TypeId} {u : Value} {bs : List UInt8} {w0 : World} (hq : q < B) (hg : q ≠ g) (hr : Row w q T [u]) (hs : Sl w0 B u bs) (ho : Off g u) (hk : Sl w0 B u bs → Sl w B u bs) : PartsO w B g (.slice (some ⟨q, 0, none⟩) 1 n) [bs] :=
 ⟨_, n, rfl, fun _ => ⟨q, 0, rfl, hq, hg, fun i hi => by
  obtain rfl : i = 0 := by simp at hi; omega
  exact ⟨u, hr.cell 0, hk hs, ho⟩⟩⟩
theorem PartsO.two {q n : Nat} {T : TypeId} {u u2 : Value} {bs bs2 : List UInt8} (hq : q < B) (hg : q ≠ g) (hr : Row w q T [u, u2]) (hs : Sl w B u bs) (ho : Off g u) (hs2 : Sl w B u2 bs2) (ho2 : Off g u2) : PartsO w B g (.slice (some ⟨q, 0, none⟩) 2 n) [bs, bs2] :=
 ⟨_, n, rfl, fun _ => ⟨q, 0, rfl, hq, hg, fun i hi => by
  match i, hi with
  | 0, _ => exact ⟨u, hr.cell 0, hs, ho⟩
  | 1, _ => exact ⟨u2, hr.cell 1, hs2, ho2⟩⟩⟩
theorem PartsO.three {q n : Nat} {T : TypeId} {u u2 u3 : Value} {bs bs2 bs3 : List UInt8} (hq : q < B) (hg : q ≠ g) (hr : Row w q T [u, u2, u3]) (hs : Sl w B u bs) (ho : Off g u) (hs2 : Sl w B u2 bs2) (ho2 : Off g u2) (hs3 : Sl w B u3 bs3) (ho3 : Off g u3) : PartsO w B g (.slice (some ⟨q, 0, none⟩) 3 n) [bs, bs2, bs3] :=
 ⟨_, n, rfl, fun _ => ⟨q, 0, rfl, hq, hg, fun i hi => by
  match i, hi with
  | 0, _ => exact ⟨u, hr.cell 0, hs, ho⟩
  | 1, _ => exact ⟨u2, hr.cell 1, hs2, ho2⟩
  | 2, _ => exact ⟨u3, hr.cell 2, hs3, ho3⟩⟩⟩
end
theorem flat_snoc (bss : List (List UInt8)) (k : Nat) (h : k < bss.length) : (bss.take (k + 1)).flatten = (bss.take k).flatten ++ bss[k] := by
 rw [List.take_succ_eq_append_getElem h, List.flatten_append]
 simp only [List.flatten_cons, List.flatten_nil, List.append_nil]
theorem flat_le (bss : List (List UInt8)) (k : Nat) : (bss.take k).flatten.length ≤ bss.flatten.length := by
 conv => rhs; rw [← List.take_append_drop k bss, List.flatten_append, List.length_append]
 omega

end Go.Proofs.Ytpajdmbajopofaa

/-
 WALK: sha2.finish.
-/
namespace Go.Proofs.Ytpajdmbajopofaa
open Go.RowKit
set_option maxRecDepth 100000

theorem off_own {w : World} {base e n g : Nat} {v : Value} {xs : List Value} (h : w.ownsRow base e 1 v n xs) (hg : g < base) : Off g v := by
 intro x l c hx hl
 rcases h.2 with ⟨rfl, hn⟩ | ⟨q, cap, cur, rfl, hb, _⟩
 ·cases hx
 ·cases hx
  show q ≠ g
  omega
theorem Below.chain {a b c : World} (h : Below a.heap.size a b) (k : Below b.heap.size b c) : Below a.heap.size a c := h.trans (k.mono h.size)
theorem gives_sl {w w' : World} {v : Value} {bs : List UInt8} (h : Gives w bs v w') : Sl w' w'.heap.size v bs := Sl.of_own h.1
theorem Sl.step {w w' : World} {v : Value} {bs : List UInt8} {B : Nat} (h : Sl w B v bs) (hB : B ≤ w.heap.size) (hb : Below w.heap.size w w') : Sl w' B v bs := h.below (hb.mono hB)

/-- the cells of a Hash to which m has been written -/
def HashVal (cs : List Value) (m : List UInt8) : Prop := ∃ blk : List UInt8, cs = hashCells (states m (m.length / 64)) blk m.length ∧ blk.length = 64 ∧ blk.take (m.length % 64) = m.drop (64 * (m.length / 64))
/-- an array of bytes is handed back -/
def SumIs (w : World) (bs : List UInt8) (e : Ending) (w' : World) : Prop := e = .returned (.agg (Lib.byteCells bs).toArray) ∧ Below w.heap.size w w'

theorem flat4_get (f : UInt32 → List UInt8) (hf : ∀ x, (f x).length = 4) (l : List UInt32) : ∀ i, (l.flatMap f)[i]? = (l[i / 4]?).bind fun x => (f x)[i % 4]? := by
 induction l with
 | nil => intro i; simp
 | cons x r ih =>
  intro i
  rw [List.flatMap_cons]
  by_cases h : i < 4
  ·rw [List.getElem?_append_left (by rw [hf]; exact h), show i / 4 = 0 by omega, show i % 4 = i by omega]
   simp
  ·rw [List.getElem?_append_right (by rw [hf]; omega), hf, ih (i - 4), show i / 4 = (i - 4) / 4 + 1 by omega, show i % 4 = (i - 4) % 4 by omega]
   simp
theorem outB_get (s : St) (i : Nat) (h : i < 32) : (outB s)[i]'(by rw [outB_length]; exact h) = UInt8.ofNat ((s.list[i / 4]'(by rw [St.list_length]; omega)).toNat / 256 ^ (3 - i % 4) % 256) := by
 have h1 := flat4_get (fun x => bigB x.toNat 4) (fun x => bigB_length _ _) s.list i
 rw [List.getElem?_eq_getElem (show i / 4 < s.list.length by rw [St.list_length]; omega), Option.bind_some] at h1
 have h2 : (outB s)[i]? = some ((outB s)[i]'(by rw [outB_length]; exact h)) := List.getElem?_eq_getElem (by rw [outB_length]; exact h)
 have h3 : (bigB (s.list[i / 4]'(by rw [St.list_length]; omega)).toNat 4)[i % 4]? = some _ := List.getElem?_eq_getElem (by rw [bigB_length]; omega)
 rw [h3] at h1
 have h4 := Option.some.inj (h2.symm.trans h1)
 rw [h4, bigB_getElem _ _ _ (by omega)]
theorem setk (l : List UInt8) (j k : Nat) (hl : l.length = k) (hj : j < k) (x : UInt8) (hx : x = l[j]'(by omega)) :
  (l.take j ++ List.replicate (k - j) 0).set j x = l.take (j + 1) ++ List.replicate (k - (j + 1)) 0 := by
 subst hx
 exact set_step l j k hl hj
theorem pad_split (m : List UInt8) : m ++ (128 :: List.replicate 63 0).take (zerosOf m.length + 1) ++ bigB (8 * m.length) 8 = padB m := by
 have h : (128 :: List.replicate 63 (0 : UInt8)).take (zerosOf m.length + 1) = 128 :: List.replicate (zerosOf m.length) 0 := by
  rw [List.take_succ_cons, List.take_replicate]
  congr 2
  have : zerosOf m.length ≤ 63 := by unfold zerosOf; omega
  omega
 rw [h, padB]

end Go.Proofs.Ytpajdmbajopofaa

/-
 WALKS: (*sha2.Hash).Sum, Clone; sha2.Sum256, Sum192.
-/
namespace Go.Proofs.Ytpajdmbajopofaa
open Go.RowKit
set_option maxRecDepth 100000

/-- the zero Hash -/
def hashZero : List Value := .bool false :: (wordCells (List.replicate 8 0) ++ (Lib.byteCells (List.replicate 64 0) ++ [.int .i64 0]))
theorem hashZero_length : hashZero.length = 74 := by decide

theorem wpList_alloc_any {P : Program} {ops : Array Oper} {rest : List Oper} {o : Oper} {a : Act} {w : World} {Q : Exit → Act → World → Prop} (hgd : o.guard = none) (t : TypeId) (ho : o.op = .alloc t) (cs : Array Value)
  (hz : ∀ w, (zeroValue t).run P w = .ok (.agg cs) w)
  (h : wpList P ops Q rest (a.put o.dst (.pointer (some ⟨w.heap.size, 0, none⟩))) (w.alloc (.cells cs t))) : wpList P ops Q (o :: rest) a w :=
 wpList_plain hgd fun K hK => by
  have hk := hK _ _ h
  unfold Oper.wp execOp
  simp only [ho]
  simp [go_sem, hz, Result.andThen]
  exact hk

end Go.Proofs.Ytpajdmbajopofaa

/-
 WALKS: sha2.Sum256, Sum192.
-/
namespace Go.Proofs.Ytpajdmbajopofaa
open Go.RowKit
set_option maxRecDepth 100000

end Go.Proofs.Ytpajdmbajopofaa

/-
 WALKS: hexadecimal digits: the document's own Hex.
-/
namespace Go.Proofs.Ytpajdmbajopofaa
open Go.RowKit
set_option maxRecDepth 100000

def hexD (n : Nat) : UInt8 := if n < 10 then UInt8.ofNat (48 + n) else UInt8.ofNat (87 + n)
def hexL (bs : List UInt8) : List UInt8 := bs.flatMap fun b => [hexD (b.toNat / 16), hexD (b.toNat % 16)]
theorem hexL_snoc (bs : List UInt8) (b : UInt8) : hexL (bs ++ [b]) = hexL bs ++ [hexD (b.toNat / 16), hexD (b.toNat % 16)] := by simp [hexL]
theorem hexL_length (bs : List UInt8) : (hexL bs).length = 2 * bs.length := by
 induction bs with
 | nil => rfl
 | cons b r ih => simp only [hexL, List.flatMap_cons, List.length_append, List.length_cons, List.length_nil] at ih ⊢; omega

/-- make([]byte, 0, n), n a variable -/
theorem make0_run (n : Nat) (hn : n ≤ 281474976710656) (u : World) : (Instr.makeSlice 33 (.int .i64 0) (.int .i64 (n : Int))).run Try.prog u =
  .ok (.slice (some ⟨u.heap.size, 0, none⟩) 0 n) (u.alloc (.cells (Lib.byteCells (List.replicate n 0)).toArray 5)) := by
 obtain ⟨i0, hi, hz0, hz1, hz2⟩ := info_parts info_u8
 have h := run_make (P := Try.prog) u 33 5 i0 (.int .u8 0) Try.underlying33 hi hz0 .i64 .i64 (0 : Int) (n : Int) (by omega) (by omega) (by rw [hz2]; omega) (by omega)
 have e : (n : Int).toNat = n := by omega
 rw [e] at h
 rw [← made_zero]
 simpa [hz1, Value.cells] using h

theorem hexdig_get (i : Nat) (h : i < (⟨#[48, 49, 50, 51, 52, 53, 54, 55, 56, 57, 97, 98, 99, 100, 101, 102]⟩ : ByteArray).size) : (⟨#[48, 49, 50, 51, 52, 53, 54, 55, 56, 57, 97, 98, 99, 100, 101, 102]⟩ : ByteArray)[i]'h = hexD i := by
 have h16 : i < 16 := h
 have key : ∀ j : Fin 16, (⟨#[48, 49, 50, 51, 52, 53, 54, 55, 56, 57, 97, 98, 99, 100, 101, 102]⟩ : ByteArray)[j.val]'(j.isLt) = hexD j.val := by decide
 exact key ⟨i, h16⟩
theorem nat_div16 (n : Nat) : ((n : Int) / 16).toNat = n / 16 := by omega
theorem nat_mod16 (n : Nat) : ((n : Int) % 16).toNat = n % 16 := by omega

/-- A string is handed back; what was there before the call is as it was. -/
def StrIs (w : World) (l : List UInt8) (e : Ending) (w' : World) : Prop := e = .returned (.string ⟨l.toArray⟩) ∧ Below w.heap.size w w'

theorem dig_extract (i : Nat) (h : i < 16) : (⟨#[48, 49, 50, 51, 52, 53, 54, 55, 56, 57, 97, 98, 99, 100, 101, 102]⟩ : ByteArray).extract i (i + 1) = ⟨#[hexD i]⟩ := by
 have key : ∀ j : Fin 16, (⟨#[48, 49, 50, 51, 52, 53, 54, 55, 56, 57, 97, 98, 99, 100, 101, 102]⟩ : ByteArray).extract j.val (j.val + 1) = ⟨#[hexD j.val]⟩ := by decide
 exact key ⟨i, h⟩
theorem hex_grow (l : List UInt8) (x : UInt8) : ((⟨l.toArray⟩ : ByteArray) ++ ((⟨#[48, 49, 50, 51, 52, 53, 54, 55, 56, 57, 97, 98, 99, 100, 101, 102]⟩ : ByteArray).extract (x.toNat / 16) (x.toNat / 16 + 1) ++ (⟨#[48, 49, 50, 51, 52, 53, 54, 55, 56, 57, 97, 98, 99, 100, 101, 102]⟩ : ByteArray).extract (x.toNat % 16) (x.toNat % 16 + 1)))
  = ⟨(l ++ [hexD (x.toNat / 16), hexD (x.toNat % 16)]).toArray⟩ := by
 have := x.toNat_lt
 rw [dig_extract _ (by omega), dig_extract _ (by omega)]
 apply ByteArray.ext
 simp

end Go.Proofs.Ytpajdmbajopofaa

/-
 EQUALITY OF ARRAYS of bytes and of words.
-/
namespace Go.Proofs.Ytpajdmbajopofaa
open Go.RowKit
set_option maxRecDepth 100000

theorem mapM_all {α β : Type} (f : α → Option β) (g : α → β) (l : List α) (h : ∀ i ∈ l, f i = some (g i)) : l.mapM f = some (l.map g) := by
 induction l with
 | nil => rfl
 | cons x r ih =>
  rw [List.mapM_cons, h x (List.mem_cons_self ..), ih (fun i hi => h i (List.mem_cons_of_mem _ hi))]
  rfl
theorem flat_single {α β : Type} (g : α → β) (l : List α) : (l.map fun i => [g i]).flatten = l.map g := by
 induction l with
 | nil => rfl
 | cons x r ih =>
  rw [List.map_cons, List.flatten_cons, ih]
  rfl
theorem keyLits_arr {P : Program} {k : IntKind} {T e : TypeId} {n d : Nat} (hT : P.underlying T = some (.array n e)) (he : P.underlying e = some (.int k)) (hce : P.cellsOf e = 1) (hcT : P.cellsOf T = n)
  (xs : List Int) (hx : xs.length = n) (hw : ∀ x ∈ xs, (Lit.int k x).wf = true) : P.keyLits (d + 2) T (xs.map (Value.int k)) = some ((List.range n).map fun i => Lit.int k (xs.getD i 0)) := by
 have hl : (xs.map (Value.int k)).length = n := by simp [hx]
 unfold Program.keyLits
 simp only [hT, hl, hcT, if_true, hce, Nat.mul_one]
 rw [mapM_all _ (fun i => [Lit.int k (xs.getD i 0)])]
 ·rw [Option.map_some, flat_single]
 ·intro i hi
  have hi' : i < xs.length := by rw [hx]; exact List.mem_range.1 hi
  have e1 : ((xs.map (Value.int k)).drop i).take 1 = [Value.int k xs[i]] := by
   rw [List.drop_eq_getElem_cons (by simpa using hi')]
   simp
  rw [e1, getD_get xs i 0 hi']
  unfold Program.keyLits
  simp [he, hw xs[i] (List.getElem_mem hi')]
theorem eq_arr {P : Program} {k : IntKind} {T e : TypeId} {n : Nat} (hk : P.keyTypeAt 2 T = true) (hT : P.underlying T = some (.array n e)) (he : P.underlying e = some (.int k)) (hce : P.cellsOf e = 1) (hcT : P.cellsOf T = n)
  (xs ys : List Int) (hx : xs.length = n) (hy : ys.length = n) (hwx : ∀ x ∈ xs, (Lit.int k x).wf = true) (hwy : ∀ x ∈ ys, (Lit.int k x).wf = true) (w : World) :
  (Op.equalIn 10000 T (.agg (xs.map (Value.int k)).toArray) (.agg (ys.map (Value.int k)).toArray)).run P w = .ok (xs == ys) w := by
 have hf : ∀ l : List Int, l.length = n → (Value.agg (l.map (Value.int k)).toArray).formed P T = true := by
  intro l hl
  simp [Value.formed, hT, hcT, hl]
 obtain ⟨r, hr, hri⟩ := run_equalIn_deep 9998 2 T hk w (0 + 2) (0 + 2) _ _ _ _ (hf xs hx) (hf ys hy) (by simpa [Value.cells] using keyLits_arr (d := 0) hT he hce hcT xs hx hwx) (by simpa [Value.cells] using keyLits_arr (d := 0) hT he hce hcT ys hy hwy)
 have hb : r = (xs == ys) := by
  have hiff : r = true ↔ xs = ys := by
   rw [hri]
   constructor
   ·intro h
    apply List.ext_getElem (by rw [hx, hy])
    intro i h1 h2
    have h3 := congrArg (fun l : List Lit => l[i]?) h
    simp only [List.getElem?_map] at h3
    rw [List.getElem?_range (by omega)] at h3
    simp only [Option.map_some, Option.some.injEq, Lit.int.injEq] at h3
    have h4 : xs[i]?.getD 0 = ys[i]?.getD 0 := h3.2
    rw [List.getElem?_eq_getElem h1, List.getElem?_eq_getElem h2] at h4
    exact h4
   ·intro h
    rw [h]
  by_cases h : xs = ys
  ·rw [hiff.2 h, h]; simp
  ·have : r = false := by
    cases r with
    | false => rfl
    | true => exact absurd (hiff.1 rfl) h
   rw [this]
   exact (beq_eq_false_iff_ne.2 h).symm
 rw [← hb]
 exact hr
theorem bytes_ints (bs : List UInt8) : Lib.byteCells bs = (bs.map fun b => (b.toNat : Int)).map (Value.int .u8) := by simp [Lib.byteCells]
theorem words_ints (l : List UInt32) : wordCells l = (l.map fun b => (b.toNat : Int)).map (Value.int .u32) := by simp [wordCells]
theorem bytes_beq (xs ys : List UInt8) : ((xs.map fun b => (b.toNat : Int)) == (ys.map fun b => (b.toNat : Int))) = (xs == ys) := by
 have hinj : (xs.map fun b => (b.toNat : Int)) = (ys.map fun b => (b.toNat : Int)) ↔ xs = ys :=
  ⟨fun h => List.map_inj_right (fun a b e => UInt8.toNat_inj.1 (by exact_mod_cast e)) |>.1 h, fun h => by rw [h]⟩
 by_cases h : xs = ys
 ·rw [h]; simp
 ·rw [beq_eq_false_iff_ne.2 h, beq_eq_false_iff_ne]
  exact fun e => h (hinj.1 e)
theorem words_beq (xs ys : List UInt32) : ((xs.map fun b => (b.toNat : Int)) == (ys.map fun b => (b.toNat : Int))) = (xs == ys) := by
 have hinj : (xs.map fun b => (b.toNat : Int)) = (ys.map fun b => (b.toNat : Int)) ↔ xs = ys :=
  ⟨fun h => List.map_inj_right (fun a b e => UInt32.toNat_inj.1 (by exact_mod_cast e)) |>.1 h, fun h => by rw [h]⟩
 by_cases h : xs = ys
 ·rw [h]; simp
 ·rw [beq_eq_false_iff_ne.2 h, beq_eq_false_iff_ne]
  exact fun e => h (hinj.1 e)
end Go.Proofs.Ytpajdmbajopofaa

/-
 WALK: the law's own check 'live': the chapter's example.
-/
namespace Go.Proofs.Ytpajdmbajopofaa
open Go.RowKit
set_option maxRecDepth 100000

theorem PartsO.solo {w : World} {B g q n : Nat} {T : TypeId} {u : Value} {bs : List UInt8} (hr : Row w q T [u]) (hq : q < B) (hg : q ≠ g) (hs : Sl w B u bs) (ho : Off g u) : PartsO w B g (.slice (some ⟨q, 0, none⟩) 1 n) [bs] :=
 ⟨_, n, rfl, fun _ => ⟨q, 0, rfl, hq, hg, fun i hi => by
  obtain rfl : i = 0 := by simp at hi; omega
  exact ⟨u, hr.cell 0, hs, ho⟩⟩⟩
/-- true is handed back; nothing that was there has turned -/
def TrueIs (w : World) (e : Ending) (w' : World) : Prop := e = .returned (.bool true) ∧ Below w.heap.size w w'

/-- a slice over a block whose cells are known, marked or not -/
theorem Sl.of_block {w : World} {B g n : Nat} {T : TypeId} {fr : Nat × Nat} {C : Array Value} {bs : List UInt8} (h : w.heap[g]? = some (.cells C T fr)) (hC : C = (Lib.byteCells bs).toArray) (hB : g < B) (hn : bs.length = n) (hm : n ≤ 1000000) : Sl w B (.slice (some ⟨g, 0, none⟩) n n) bs := by
 subst hn
 refine ⟨_, bs.length, rfl, Nat.le_refl _, by unfold maxLen; omega, fun _ => ⟨g, 0, rfl, hB, fun k hk => ?_⟩⟩
 rw [Go.Joins.cell_of_block h, Nat.zero_add, hC, List.getElem?_toArray]
 exact byteCells_get bs k hk
theorem heap_under {w : World} {g : Nat} {o o2 : Obj} (h : w.heap[g]? = some o) : (w.alloc o2).heap[g]? = some o := (Below.heap_alloc w o2 g (Array.getElem?_eq_some_iff.1 h).1).trans h
theorem heap_new {w : World} {g : Nat} {o : Obj} (h : g = w.heap.size) : (w.alloc o).heap[g]? = some o := by subst h; exact heap_alloc_last w o
theorem below3 (w : World) (a b c : Obj) : Below w.heap.size w (((w.alloc a).alloc b).alloc c) := (((Below.refl _ _).alloc (Nat.le_refl _) _).alloc (by rw [asz]; omega) _).alloc (by rw [asz, asz]; omega) _
theorem range_below {w w' : World} {B b o : Nat} {cs : List Value} (h : w.rangeAt b o cs) (hb : Below B w w') (hlt : b < B) : w'.rangeAt b o cs := fun j v hv => (hb.cell (p := ⟨b, o + j, none⟩) hlt).trans (h j v hv)
theorem abc_two : ([] : List UInt8) ++ [[(97 : UInt8)], [98, 99]].flatten = [97, 98, 99] := rfl
theorem abc_parts : [[(97 : UInt8), 98, 99]].flatten = [97, 98, 99] := rfl

end Go.Proofs.Ytpajdmbajopofaa
