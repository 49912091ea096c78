import Derived.Test.YtfcgdjgfdbcddaaZA
import Derived.StillTailTactics
import Derived.RegionTactic
import Derived.Deep.RegionLaw
import Derived.Lib.ConvBytes
import Derived.Lib.AtoiErrMem
import Derived.Laws.AppendOwn
import Derived.BigQuiet
import Derived.Deep.QuietTactic
/-
 STEPS BY HAND, stores: a whole row; one cell.
-/
namespace Go.Proofs.Ytfcgdjgfdbcddaa
open Go.RowKit
set_option maxRecDepth 100000
section
variable {P : Program} {md : Region.Mode} {ops : Array Oper} {Q : Exit → Act → World → Prop} {S : World → Prop} {fuel : Nat} {listed : Array Bool} {a : Act} {w : World}
theorem step_storeRow (i : Nat) (ty : TypeId) (x y : Operand) (hop : (ops[i]?).map (fun o => (o.op, o.dst)) = some (.store ty x y, none)) (hw : (ops[i]?).map (fun o => Region.wanted o (yielded ops a.tmps)) = some true)
  (g : Nat) (hx : a.eval x = .pointer (some ⟨g, 0, none⟩)) (ds : List Value) (hy : a.eval y = .agg ds.toArray) (t : TypeId) (cs : List Value) (hr : Row w g t cs) (hi : (P.info? ty).map (·.size) = some ds.length)
  (hold : cs.length = ds.length) (h1 : ∀ u ∈ ds, u.oneCell' = true)
  (h : ∀ w2, Row w2 g t ds → But w.heap.size g w w2 → w2.heap.size = w.heap.size → S w2 ∧ wpAnyH P md ops Q S fuel (listed.setIfInBounds i true) a w2) : HStep P md ops Q S fuel listed a w i := by
 unfold HStep
 cases ho : ops[i]? with
 | none => rw [ho] at hop; cases hop
 | some op =>
  rw [ho] at hop hw
  simp only [Option.map_some, Option.some.injEq, Prod.mk.injEq] at hop hw
  refine wpOp_step ho fun K' hK => ?_
  rw [if_pos hw]
  refine wp_store_row ty x y hop.1 g ds.toArray hx hy t cs.toArray hr (by simpa using hi) (by simpa using hold) (all_oneCell_toArray h1) (hK _ _ ?_)
  rw [hop.2]
  exact h _ (hr.setRow ds) ⟨rfl, rfl, rfl, Nat.le_of_eq (by simp), fun k _ hk => Go.setRow_other w g k _ hk⟩ (by simp)
theorem step_store1 (i : Nat) (opv : Op) (hop : (ops[i]?).map (fun o => (o.op, o.type, o.dst)) = some (opv, 0, none)) (hw : (ops[i]?).map (fun o => Region.wanted o (yielded ops a.tmps)) = some true)
  (w' : World) (hrun : (execOp a.eval ⟨none, opv, 0, "", #[], none⟩).run P w = .ok .skip w') (h : S w' ∧ wpAnyH P md ops Q S fuel (listed.setIfInBounds i true) a w') : HStep P md ops Q S fuel listed a w i := by
 unfold HStep
 cases ho : ops[i]? with
 | none => rw [ho] at hop; cases hop
 | some op =>
  rw [ho] at hop hw
  simp only [Option.map_some, Option.some.injEq, Prod.mk.injEq] at hop hw
  obtain ⟨dst', op', ty', pos', after', guard'⟩ := op
  obtain ⟨rfl, rfl, rfl⟩ := hop
  have hrun' : (execOp a.eval ⟨none, op', 0, pos', after', guard'⟩).run P w = .ok .skip w' := by
   rw [← hrun]
   unfold execOp
   rfl
  refine wpOp_step ho fun K' hK => ?_
  rw [if_pos hw]
  unfold Oper.wp
  rw [hrun']
  exact hK _ _ h
end
end Go.Proofs.Ytfcgdjgfdbcddaa

/-
 FOUNDATIONS, merged: see the heads of the parts.
-/
/-
 WALKS: sha2.keyBlock, masked, Mac, Extract.
-/
namespace Go.Proofs.Ytfcgdjgfdbcddaa
open Go.RowKit
set_option maxRecDepth 100000

/-- copy into a block of 64 zeros -/
theorem wpList_copy_key {ops : Array Oper} {rest : List Oper} {o : Oper} {a : Act} {w : World} {Q : Exit → Act → World → Prop} (hgd : o.guard = none) (d s : Operand)
  (ho : o.op = .call { callee := .builtin .copy, args := #[d, s], argTypes := #[34, 34] })
  (g : Nat) (hd : a.eval d = .slice (some ⟨g, 0, none⟩) 64 64) (t : TypeId) (hr : Row w g t (Lib.byteCells (List.replicate 64 0))) (B : Nat) (v : Value) (hs : a.eval s = v) (l : List UInt8) (hsl : Sl w B v l) (hl : l.length ≤ 64)
  (h : ∀ w', Row w' g t (Lib.byteCells (l ++ List.replicate (64 - l.length) 0)) → Below g w w' → wpList Try.prog ops Q rest (a.put o.dst (goInt l.length)) w') : wpList Try.prog ops Q (o :: rest) a w := by
 obtain ⟨A, c, rfl, h1, h2⟩ := hsl.form
 have hcl : (Lib.byteCells l).length = l.length := Lib.byteCells_length l
 refine wpList_copy_splice hgd d s 34 34 ho 5 Try.underlying34 info_u8s (some ⟨g, 0, none⟩) A 64 64 l.length c hd hs g 0 (Lib.byteCells (List.replicate 64 0)) t hr (Lib.byteCells l) (by rw [hcl]; exact (Nat.min_eq_left hl).symm) (fun hp => ?_) (by rw [hcl, Lib.byteCells_length]; simp; omega) (cell_oneCell _) g w (Below.refl _ _) (Nat.le_refl _) (fun w' hw' hb => ?_)
 ·rw [hcl] at hp
  obtain ⟨b, off, rfl, _, hc⟩ := hsl.at_ hp
  refine ⟨rfl, _, rfl, fun j u hu => ?_⟩
  have hj : j < l.length := by have := (List.getElem?_eq_some_iff.1 hu).1; rwa [hcl] at this
  rw [addr_add, hc j hj, ← hu, byteCells_get _ _ hj]
 ·rw [hcl]
  refine h w' ?_ hb
  have e : splice (Lib.byteCells (List.replicate 64 0)) 0 (Lib.byteCells l) = Lib.byteCells (l ++ List.replicate (64 - l.length) 0) := by
   unfold splice
   rw [hcl, List.take_zero, List.nil_append, Nat.zero_add]
   simp only [Lib.byteCells, List.map_append, ← List.map_drop, List.drop_replicate]
  have := hw'.out
  rw [e] at this
  exact this
theorem keyB_long (k : List UInt8) (h : 64 < k.length) : keyB k = sha k ++ List.replicate (64 - (sha k).length) 0 := by unfold keyB; simp [h]
theorem keyB_short (k : List UInt8) (h : ¬ 64 < k.length) : keyB k = k ++ List.replicate (64 - k.length) 0 := by unfold keyB; simp [h]
theorem flat_one (k : List UInt8) : [k].flatten = k := by simp

end Go.Proofs.Ytfcgdjgfdbcddaa

/-
 WALK: sha2.masked.
-/
namespace Go.Proofs.Ytfcgdjgfdbcddaa
open Go.RowKit
set_option maxRecDepth 100000

theorem xorB_length (k : List UInt8) (c : UInt8) : (xorB k c).length = k.length := by simp [xorB]
end Go.Proofs.Ytfcgdjgfdbcddaa

/-
 WALKS: sha2.Mac, Extract.
-/
namespace Go.Proofs.Ytfcgdjgfdbcddaa
open Go.RowKit
set_option maxRecDepth 100000

end Go.Proofs.Ytfcgdjgfdbcddaa

/-
 WALKS: sha2.Expand; the law's 'few'.
-/
namespace Go.Proofs.Ytfcgdjgfdbcddaa
open Go.RowKit
set_option maxRecDepth 100000

theorem own_step {w w' : World} {base : Nat} {e : TypeId} {v : Value} {n : Nat} {xs : List Value} (h : w.ownsRow base e 1 v n xs) (hb : Below w.heap.size w w') : w'.ownsRow base e 1 v n xs := by
 refine ⟨h.1, ?_⟩
 rcases h.2 with h0 | ⟨g, cap, cur, hv, hg, hr, hrest⟩
 ·exact .inl h0
 ·exact .inr ⟨g, cap, cur, hv, hg, (hb.block g (Array.getElem?_eq_some_iff.1 hr).1).trans hr, hrest⟩
/-- at most 40 texts of at most 3000 bytes each -/
def fewB (bss : List (List UInt8)) : Bool := bss.all (fun b => decide (b.length ≤ 3000)) && decide (bss.length ≤ 40)
theorem few_no (bss : List (List UInt8)) (k : Nat) (h : k < bss.length) (hb : 3000 < bss[k].length) : fewB bss = false := by
 unfold fewB
 have : bss.all (fun b => decide (b.length ≤ 3000)) = false := by
  rw [List.all_eq_false]
  exact ⟨bss[k], List.getElem_mem h, by simp; omega⟩
 rw [this]; rfl
theorem few_yes {bss : List (List UInt8)} (h : fewB bss = true) : (∀ b ∈ bss, b.length ≤ 3000) ∧ bss.length ≤ 40 := by
 unfold fewB at h
 simp only [Bool.and_eq_true, List.all_eq_true, decide_eq_true_eq] at h
 exact h
end Go.Proofs.Ytfcgdjgfdbcddaa

/-
 FOUNDATIONS, merged: see the heads of the parts.
-/
/-
 WALKS: the document's own word, constants.
-/
namespace Go.Proofs.Ytfcgdjgfdbcddaa
open Go.RowKit
set_option maxRecDepth 100000

def WordOk (w : World) (x : UInt32) (e : Ending) (w' : World) : Prop := e = .returned (.int .u32 (x.toNat : Int)) ∧ Below w.heap.size w w'
theorem cell_alloc_keep {w : World} {b o : Nat} {v : Value} {ob : Obj} (h : w.cell? ⟨b, o, none⟩ = some v) (hb : b < w.heap.size) : (w.alloc ob).cell? ⟨b, o, none⟩ = some v :=
 ((Below.alloc (Below.refl _ _) (Nat.le_refl _) ob).cell (p := ⟨b, o, none⟩) hb).trans h

end Go.Proofs.Ytfcgdjgfdbcddaa

/-
 WALK: the document's own Compress, its first half: the schedule.
-/
namespace Go.Proofs.Ytfcgdjgfdbcddaa
open Go.RowKit
set_option maxRecDepth 100000

theorem sm1_bits (y : UInt32) : bits .xor .u32 (bits .xor .u32 ((rotr y 17).toNat : Int) ((rotr y 19).toNat : Int)) ((y.toNat : Int) / 1024) = ((sm1 y).toNat : Int) := by
 have h := u32_shr y 10
 simp only [Int.reducePow] at h
 rw [h, u32_xor, u32_xor]
 rfl
theorem sm0_bits (y : UInt32) : bits .xor .u32 (bits .xor .u32 ((rotr y 7).toNat : Int) ((rotr y 18).toNat : Int)) ((y.toNat : Int) / 8) = ((sm0 y).toNat : Int) := by
 have h := u32_shr y 3
 simp only [Int.reducePow] at h
 rw [h, u32_xor, u32_xor]
 rfl

theorem addSt_comm (s v : St) : addSt s v = addSt v s := by simp [addSt, UInt32.add_comm]
end Go.Proofs.Ytfcgdjgfdbcddaa

/-
 WALK: the document's own Join, parts wherever they lie.
-/
namespace Go.Proofs.Ytfcgdjgfdbcddaa
open Go.RowKit
set_option maxRecDepth 100000

/-- bytes of its own are handed back -/
def OwnIs (w : World) (bs : List UInt8) (e : Ending) (w' : World) : Prop := ∃ v, e = .returned v ∧ Gives w bs v w'

end Go.Proofs.Ytfcgdjgfdbcddaa

/-
 WALK: the document's own Sum256.
-/
namespace Go.Proofs.Ytfcgdjgfdbcddaa
open Go.RowKit
set_option maxRecDepth 100000

theorem two_flat (a b : List UInt8) : [a, b].flatten = a ++ b := by simp
theorem zeros_lt (n k : Nat) (h : k < zerosOf n) : ¬ (n + 1 + k) % 64 = 56 := by unfold zerosOf at h; omega
theorem zeros_eq (n : Nat) : (n + 1 + zerosOf n) % 64 = 56 := by unfold zerosOf; omega
theorem zeros_le (n : Nat) : zerosOf n ≤ 63 := by unfold zerosOf; omega
theorem padB_eq (m : List UInt8) : m ++ [128] ++ List.replicate (zerosOf m.length) 0 ++ bigB (8 * m.length) 8 = padB m := by simp [padB]
theorem padB_len (m : List UInt8) : (padB m).length ≤ m.length + 72 := by
 have := zeros_le m.length
 simp only [padB, List.length_append, List.length_cons, List.length_replicate, bigB_length]
 omega
theorem outB_snoc (s : St) (k : Nat) (h : k < s.list.length) : (outB s).take (4 * (k + 1)) = (outB s).take (4 * k) ++ bigB ((s.list[k]'h).toNat) 4 := by
 have e : ∀ (l : List UInt32) k (h : k < l.length), (l.flatMap fun x => bigB x.toNat 4).take (4 * (k + 1)) = (l.flatMap fun x => bigB x.toNat 4).take (4 * k) ++ bigB (l[k]'h).toNat 4 := by
  intro l
  induction l with
  | nil => intro k h; simp at h
  | cons x r ih =>
   intro k h
   rw [List.flatMap_cons]
   cases k with
   | zero =>
    rw [Nat.mul_zero, List.take_zero, List.nil_append, List.take_append_of_le_length (by rw [bigB_length]; omega), List.take_of_length_le (by rw [bigB_length]; omega)]
    rfl
   | succ k =>
    rw [List.take_append, List.take_append, bigB_length, List.take_of_length_le (l := bigB x.toNat 4) (by rw [bigB_length]; omega), List.take_of_length_le (l := bigB x.toNat 4) (by rw [bigB_length]; omega), show 4 * (k + 1 + 1) - 4 = 4 * (k + 1) by omega, show 4 * (k + 1) - 4 = 4 * k by omega, ih k (by simpa using h), List.append_assoc]
    rfl
 exact e s.list k h

theorem own_mono {w : World} {base base' e n : Nat} {v : Value} {xs : List Value} (h : w.ownsRow base' e 1 v n xs) (hb : base ≤ base') : w.ownsRow base e 1 v n xs := by
 refine ⟨h.1, ?_⟩
 rcases h.2 with h0 | ⟨g, cap, cur, h1, h2, h3⟩
 ·exact .inl h0
 ·exact .inr ⟨g, cap, cur, h1, Nat.le_trans hb h2, h3⟩
theorem blockAt_length (m : List UInt8) (n : Nat) (h : 64 * n + 64 ≤ m.length) : (blockAt m n).length = 64 := by
 simp [blockAt]; omega
theorem blockAt_get (m : List UInt8) (n k : Nat) (h : 64 * n + 64 ≤ m.length) (hk : k < 64) : (blockAt m n)[k]'(by rw [blockAt_length m n h]; exact hk) = m[64 * n + k]'(by omega) := by
 simp [blockAt]

end Go.Proofs.Ytfcgdjgfdbcddaa

/-
 WALKS: the document's own turned, Mac.
-/
namespace Go.Proofs.Ytfcgdjgfdbcddaa
open Go.RowKit
set_option maxRecDepth 100000

end Go.Proofs.Ytfcgdjgfdbcddaa

/-
 WALKS: the document's own Expand, Ask; sha2.Extract; sha2.Expand's errors.
-/
namespace Go.Proofs.Ytfcgdjgfdbcddaa
open Go.RowKit
set_option maxRecDepth 100000

/-- bytes are handed back, wherever they lie -/
def BytesIs (w : World) (bs : List UInt8) (e : Ending) (w' : World) : Prop := ∃ v, e = .returned v ∧ Sl w' w'.heap.size v bs ∧ Below w.heap.size w w'
theorem three_flat (a b c : List UInt8) : [a, b, c].flatten = a ++ b ++ c := by simp
theorem run_cutE (A : Option Addr) (n c j : Nat) (hj : j ≤ c) (w : World) : (Instr.sliceAt 34 (.slice A n c) none (some (.int .i64 (j : Int))) none).run Try.prog w = .ok (sliced A 0 j c 1) w := by
 rw [run_sliceAt_slice _ _ _ _ _ _ slice30, run_slice_h w 34 A n c slice30 .i64 (j : Int) (by omega) (by omega), elem30, run_sizeOf_u8, Result.andThen_ok, Int.toNat_natCast]
theorem tB_le (prk info : List UInt8) (j : Nat) : (tB prk info j).length ≤ 32 := by
 cases j with
 | zero => simp [tB]
 | succ j => rw [tB_length]; omega

end Go.Proofs.Ytfcgdjgfdbcddaa

/-
 FOUNDATIONS, merged: see the heads of the parts.
-/
/-
 WALKS: octet.Same, octet.Choose, octet.Xor.
-/
namespace Go.Proofs.Ytfcgdjgfdbcddaa
open Go.RowKit
set_option maxRecDepth 100000

theorem or_xor_zero (d a b : UInt8) : d ||| (a ^^^ b) = 0 ↔ d = 0 ∧ a = b := by
 rw [UInt8.or_eq_zero_iff, UInt8.xor_eq_zero_iff]
theorem and255 (a : UInt8) : bits .and .u8 (a.toNat : Int) 255 = a.toNat := by
 have h := u8_and a 255
 have e : a &&& 255 = a := by
  apply UInt8.toNat_inj.1
  rw [UInt8.toNat_and]
  show a.toNat &&& (2 ^ 8 - 1) = a.toNat
  rw [Nat.and_two_pow_sub_one_eq_mod]
  exact Nat.mod_eq_of_lt a.toNat_lt
 rw [e] at h
 exact h
theorem and0 (a : UInt8) : bits .and .u8 (a.toNat : Int) 0 = 0 := by
 have := u8_and a 0
 simpa using this
theorem andNot255 (a : UInt8) : bits .andNot .u8 (a.toNat : Int) 255 = 0 := by
 have h := u8_andNot a 255
 have e : a &&& ~~~255 = 0 := by
  have e2 : (~~~255 : UInt8) = 0 := by decide
  rw [e2]; simp
 rw [e] at h
 exact h
theorem andNot0 (a : UInt8) : bits .andNot .u8 (a.toNat : Int) 0 = a.toNat := by
 have h := u8_andNot a 0
 have e : a &&& ~~~0 = a := by
  have e2 : (~~~0 : UInt8) = 255 := by decide
  rw [e2]
  apply UInt8.toNat_inj.1
  rw [UInt8.toNat_and]
  show a.toNat &&& (2 ^ 8 - 1) = a.toNat
  rw [Nat.and_two_pow_sub_one_eq_mod]
  exact Nat.mod_eq_of_lt a.toNat_lt
 rw [e] at h
 exact h
theorem or0 (a : UInt8) : bits .or .u8 (a.toNat : Int) 0 = a.toNat := by
 have := u8_or a 0
 simpa using this
theorem zor (a : UInt8) : bits .or .u8 0 (a.toNat : Int) = a.toNat := by
 have := u8_or 0 a
 simpa using this

/-! Choose and Xor: the error, or the bytes -/
def PutIs (w : World) (er : Int) (bs : List UInt8) (e : Ending) (w' : World) : Prop := ∃ v, e = .returned (.tuple #[v, .int .i64 er]) ∧ Gives w bs v w'
def pairE (us bs : List UInt8) : Int := if us.length = bs.length then 0 else 1
def chosen (first : Bool) (us bs : List UInt8) : List UInt8 := if us.length = bs.length then (if first then us else bs) else []
def xored (us bs : List UInt8) : List UInt8 := if us.length = bs.length then List.zipWith (· ^^^ ·) us bs else []

theorem gives_blk {w w' : World} {bs : List UInt8} {k : Nat} (hk : bs.length = k) (hm : k ≤ 1099511627776) (h : Blk w' w.heap.size bs) (hb : Below w.heap.size w w') : Gives w bs (.slice (some ⟨w.heap.size, 0, none⟩) k k) w' := by
 subst hk
 exact ⟨h.own (Nat.le_refl _) (by unfold maxLen; omega), hb⟩

end Go.Proofs.Ytfcgdjgfdbcddaa

/-
 WALKS: octet.Bits and the document's own Bits: the bits of each byte, the lowest first.
-/
namespace Go.Proofs.Ytfcgdjgfdbcddaa
open Go.RowKit
set_option maxRecDepth 100000

theorem info_bool : (Try.prog.info? 4).map (fun i => (i.zero, i.size, i.bytes)) = some (some (.bool false), 1, 1) := by kernel_rfl
def boolCells (l : List Bool) : List Value := l.map Value.bool
theorem boolCells_append (a b : List Bool) : boolCells (a ++ b) = boolCells a ++ boolCells b := by simp [boolCells]
theorem boolCells_length (a : List Bool) : (boolCells a).length = a.length := by simp [boolCells]

/-- bit i of a byte -/
def bitAt (b : UInt8) (i : Nat) : Bool := decide (b.toNat / 2 ^ i % 2 = 1)
def bits8 (b : UInt8) : List Bool := (List.range 8).map (bitAt b)
def bitsL (bs : List UInt8) : List Bool := bs.flatMap bits8
theorem bits8_length (b : UInt8) : (bits8 b).length = 8 := by simp [bits8]
theorem bitsL_snoc (bs : List UInt8) (b : UInt8) : bitsL (bs ++ [b]) = bitsL bs ++ bits8 b := by simp [bitsL]
theorem bitsL_length (bs : List UInt8) : (bitsL bs).length = 8 * bs.length := by
 induction bs with
 | nil => rfl
 | cons b r ih =>
  simp only [bitsL, List.flatMap_cons, List.length_append, List.length_cons] at ih ⊢
  rw [bits8_length, ih]; omega
theorem bits8_take (b : UInt8) (i : Nat) (h : i < 8) : (bits8 b).take (i + 1) = (bits8 b).take i ++ [bitAt b i] := by
 rw [take_snoc _ _ (by rw [bits8_length]; exact h)]
 simp [bits8]

theorem shr_bit (b : UInt8) (i : Nat) : (bits .and .u8 ((b.toNat : Int) / 2 ^ i) 1 == 1) = bitAt b i := by
 have hb := b.toNat_lt
 have e : ((b.toNat : Int) / 2 ^ i) = ((b.toNat / 2 ^ i : Nat) : Int) := by simp
 have hq : b.toNat / 2 ^ i ≤ b.toNat := Nat.div_le_self _ _
 rw [e]
 unfold bitAt
 generalize b.toNat / 2 ^ i = q at hq ⊢
 have h1 : bits .and .u8 (q : Int) 1 = (q : Int) % 2 := bits_mask .u8 8 (by decide) wraps_u8 1 (by decide) _ (by omega) (by omega)
 rw [h1]
 by_cases h : q % 2 = 1
 ·rw [decide_eq_true h, beq_iff_eq]; omega
 ·rw [decide_eq_false h, beq_eq_false_iff_ne]; omega
theorem rem_bit (b : UInt8) (i : Nat) : (((b.toNat / 2 ^ i : Nat) : Int) % 2 == 1) = bitAt b i := by
 unfold bitAt
 by_cases h : b.toNat / 2 ^ i % 2 = 1
 ·rw [decide_eq_true h, beq_iff_eq]; omega
 ·rw [decide_eq_false h, beq_eq_false_iff_ne]; omega
theorem half_step (n i : Nat) : (((n / 2 ^ i : Nat) : Int) / 2) = ((n / 2 ^ (i + 1) : Nat) : Int) := by
 rw [Nat.pow_succ, ← Nat.div_div_eq_div_mul]; omega

theorem made_false (n : Nat) : madeCells #[.bool false] n = (boolCells (List.replicate n false)).toArray := by
 apply Array.ext
 ·simp [madeCells, boolCells]
 ·intro i h1 h2
  simp [madeCells, boolCells, Nat.mod_one]
theorem make0b_run (n : Nat) (hn : n ≤ 281474976710656) (u : World) : (Instr.makeSlice 56 (.int .i64 0) (.int .i64 (n : Int))).run Try.prog u =
  .ok (.slice (some ⟨u.heap.size, 0, none⟩) 0 n) (u.alloc (.cells (boolCells (List.replicate n false)).toArray 4)) := by
 obtain ⟨i0, hi, hz0, hz1, hz2⟩ := info_parts info_bool
 have h := run_make (P := Try.prog) u 56 4 i0 (.bool false) Try.underlying56 hi hz0 .i64 .i64 (0 : Int) (n : Int) (by omega) (by omega) (by rw [hz2]; omega) (by omega)
 have e : (n : Int).toNat = n := by omega
 rw [e] at h
 rw [← made_false]
 simpa [hz1, Value.cells] using h

/-- A slice of bools is handed back, in memory of its own. -/
def OwnB (w : World) (l : List Bool) (e : Ending) (w' : World) : Prop := ∃ v, e = .returned v ∧ w'.ownsRow w.heap.size 4 1 v l.length (boolCells l) ∧ Below w.heap.size w w'

set_option maxHeartbeats 2000000 in
theorem refBits_any (B : Nat) (v : Value) (bs : List UInt8) (w : World) (hs : Sl w B v bs) (hB : B ≤ w.heap.size) (hl : bs.length ≤ 1099511627776) :
  Calls Try.prog 56 #[v] w (OwnB w (bitsL bs)) := by
 obtain ⟨i0, hi, hz0, hz1, hz2⟩ := info_parts info_bool
 obtain ⟨A, c, rfl, _, _⟩ := hs.form
 go_enter Try.func56, Try.ntmps56
 go_wp2
 go_loopw [3, 6, 10] (fun o _ i wr => ∃ k : Nat, k ≤ bs.length ∧ i = .int .i64 k ∧ wr.ownsRow w.heap.size 4 1 o (8 * k) (boolCells (bitsL (bs.take k))) ∧ Below w.heap.size w wr) (fun _ _ i _ => bs.length - (intOf i).toNat)
 case atStart =>
  exact ⟨0, Nat.zero_le _, rfl, World.ownsRow_made w #[] 0 (Nat.le_refl _) (Nat.zero_le _) rfl, (Below.refl _ _).alloc (Nat.le_refl _) _⟩
 case round =>
  obtain ⟨k, hk, rfl, hown, hbel⟩ := hrel
  have hsr := hs.below (hbel.mono hB)
  by_cases hlt : k < bs.length
  ·obtain ⟨b, off, rfl, hb, hc⟩ := hsr.at_ (by omega)
   have hc1 := hc k hlt
   have hb8 := bs[k].toNat_lt
   obtain ⟨x, hx⟩ : ∃ x, x = bs[k] := ⟨_, rfl⟩
   rw [← hx] at hc1 hb8
   have HX := Lib.hid hx
   obtain ⟨wo, hwo⟩ : ∃ wo : World, wo = wr := ⟨_, rfl⟩
   subst hwo
   clear hc hx hsr
   go_wp2
   go_loopw [3, 6, 16] (fun o n i wr => ∃ j : Nat, j ≤ 8 ∧ i = .int .i64 j ∧ n = .int .i64 ((x.toNat / 2 ^ j : Nat) : Int) ∧ wr.ownsRow w.heap.size 4 1 o (8 * k + j) (boolCells (bitsL (bs.take k) ++ (bits8 x).take j)) ∧ Below w.heap.size w wr) (fun _ _ i _ => 8 - (intOf i).toNat)
   case atStart =>
    exact ⟨0, Nat.zero_le _, rfl, by simp, by simpa using hown, hbel⟩
   case round =>
    obtain ⟨j, hj, rfl, rfl, hown1, hbel1⟩ := hrel
    have hsz1 := hbel1.size
    by_cases hjl : j < 8
    ·have HS := Lib.hid (rem_bit x j)
     have HH := Lib.hid (half_step x.toNat j)
     have hq : x.toNat / 2 ^ j ≤ x.toNat := Nat.div_le_self _ _
     have HB : Hid (boolCells (bitsL (bs.take k) ++ (bits8 x).take (j + 1)) = boolCells (bitsL (bs.take k) ++ (bits8 x).take j) ++ [.bool (bitAt x j)]) := by
      apply Lib.hid
      rw [bits8_take x j hjl, ← List.append_assoc, boolCells_append _ [bitAt x j]]
      rfl
     generalize boolCells (bitsL (bs.take k) ++ (bits8 x).take j) = xs at hown1 HB
     obtain ⟨q, hqq⟩ : ∃ q, q = x.toNat / 2 ^ j := ⟨_, rfl⟩
     rw [← hqq] at HS HH hq ⊢
     clear hqq
     go_wp2_with (at_builtin; refine wp_append1 _ 56 4 i0 (.bool false) Try.underlying56 hi hz0 hz1 hz2 rfl rfl _ _ rfl hown1 rfl rfl rfl (by omega) hsz1 ?_)
     intro v' w1 hown2 _ hb1
     rw [HS.out, ← HB.out] at hown2
     have HO := Lib.hid hown2
     clear hown2
     go_wp2
     go_roundw
     case rel => exact ⟨j + 1, by omega, by go_num, by rw [← HH.out], HO.out, hbel1.trans (hb1 _ (Nat.le_refl _))⟩
     case measure => simp [intOf]; omega
    ·obtain rfl : j = 8 := by omega
     have HO : ∀ v, wr.ownsRow w.heap.size 4 1 v (8 * k + 8) (boolCells (bitsL (bs.take k) ++ (bits8 x).take 8)) → Hid (wr.ownsRow w.heap.size 4 1 v (8 * (k + 1)) (boolCells (bitsL (bs.take (k + 1))))) := by
      intro v hv
      rw [List.take_of_length_le (show (bits8 x).length ≤ 8 by rw [bits8_length]; omega)] at hv
      rw [take_snoc bs k hlt, bitsL_snoc, ← HX.out]
      exact Lib.hid (own_len hv (by omega))
     have HO2 := HO _ hown1
     clear HO hown1
     go_wp2
     go_roundw
     case rel => exact ⟨k + 1, by omega, by go_num, HO2.out, hbel1⟩
     case measure => simp [intOf]; omega
  ·obtain rfl : k = bs.length := by omega
   rw [List.take_of_length_le (Nat.le_refl _)] at hown
   have HO := Lib.hid (own_len hown (bitsL_length bs).symm)
   clear hown hsr hs
   go_wp2
   go_ret
   exact ⟨_, rfl, HO.out, hbel⟩
end Go.Proofs.Ytfcgdjgfdbcddaa

/-
 WALKS: octet.FromBits and the document's own FromBits.
-/
namespace Go.Proofs.Ytfcgdjgfdbcddaa
open Go.RowKit
set_option maxRecDepth 100000

/-- The slice value v reads as the bools l; what it reads lies below block B. -/
def Slb (w : World) (B : Nat) (v : Value) (l : List Bool) : Prop :=
 ∃ A c, v = .slice A l.length c ∧ l.length ≤ c ∧ c ≤ maxLen ∧ (0 < l.length → ∃ b off, A = some ⟨b, off, none⟩ ∧ b < B ∧ ∀ k (h : k < l.length), w.cell? ⟨b, off + k, none⟩ = some (.bool l[k]))
section
variable {w w' : World} {B B' : Nat} {v : Value} {A : Option Addr} {n c : Nat} {l : List Bool}
theorem Slb.form (h : Slb w B v l) : ∃ A c, v = .slice A l.length c ∧ l.length ≤ c ∧ c ≤ maxLen := by
 obtain ⟨A, c, h1, h2, h3, _⟩ := h
 exact ⟨A, c, h1, h2, h3⟩
theorem Slb.at_ (h : Slb w B (.slice A n c) l) (hn : 0 < l.length) : ∃ b off, A = some ⟨b, off, none⟩ ∧ b < B ∧ ∀ k (h : k < l.length), w.cell? ⟨b, off + k, none⟩ = some (.bool l[k]) := by
 obtain ⟨A', c', hv, _, _, hc⟩ := h
 cases hv
 exact hc hn
theorem Slb.keep (h : Slb w B v l) (hk : ∀ p : Addr, p.block < B → w'.cell? p = w.cell? p) : Slb w' B v l := by
 obtain ⟨A', c', hv, h1, h2, hc⟩ := h
 refine ⟨A', c', hv, h1, h2, fun hn => ?_⟩
 obtain ⟨b, off, hA, hb, hr⟩ := hc hn
 exact ⟨b, off, hA, hb, fun k hk' => (hk _ hb).trans (hr k hk')⟩
theorem Slb.more (h : Slb w B v l) (hB : B ≤ B') : Slb w B' v l := by
 obtain ⟨A', c', hv, h1, h2, hc⟩ := h
 refine ⟨A', c', hv, h1, h2, fun hn => ?_⟩
 obtain ⟨b, off, hA, hb, hr⟩ := hc hn
 exact ⟨b, off, hA, by omega, hr⟩
theorem Slb.below (h : Slb w B v l) (hb : Below B w w') : Slb w' B v l := h.keep fun _ hp => hb.cell hp
theorem Slb.step (h : Slb w w.heap.size v l) (hb : Below w.heap.size w w') : Slb w' w'.heap.size v l := (h.below hb).more hb.size
theorem Slb.of_own {base e : Nat} (h : w.ownsRow base e 1 v l.length (boolCells l)) : Slb w w.heap.size v l := by
 rcases h.2 with ⟨rfl, hn⟩ | ⟨g, cap, cur, rfl, hb, hg, hnc, hcm, hsz, hcur⟩
 ·exact ⟨none, 0, by rw [hn], by omega, by unfold maxLen; omega, fun h => absurd h (by omega)⟩
 ·refine ⟨some ⟨g, 0, none⟩, cap, rfl, hnc, hcm, fun hn => ⟨g, 0, rfl, (Array.getElem?_eq_some_iff.1 hg).1, fun k hk => ?_⟩⟩
  have := h.cellAt k (by omega)
  rw [Nat.zero_add, this]
  simp [boolCells, List.getElem?_eq_getElem hk]
end

/-! ### the value of bits -/
def valB : List Bool → Nat
 | [] => 0
 | b :: r => b.toNat + 2 * valB r
theorem valB_snoc (l : List Bool) (b : Bool) : valB (l ++ [b]) = valB l + 2 ^ l.length * b.toNat := by
 induction l with
 | nil => simp [valB]
 | cons x r ih =>
  simp only [List.cons_append, valB, ih, List.length_cons, Nat.pow_succ]
  rw [Nat.mul_add, ← Nat.mul_assoc, Nat.mul_comm 2 (2 ^ r.length)]
  omega
theorem valB_lt (l : List Bool) : valB l < 2 ^ l.length := by
 induction l with
 | nil => simp [valB]
 | cons x r ih =>
  have : x.toNat ≤ 1 := by cases x <;> simp
  simp only [valB, List.length_cons, Nat.pow_succ]
  omega
theorem pow2_le8 {k : Nat} (h : k ≤ 8) : 2 ^ k ≤ 256 := by
 calc 2 ^ k ≤ 2 ^ 8 := Nat.pow_le_pow_right (by decide) h
  _ = 256 := by decide
def chunk (l : List Bool) (j : Nat) : List Bool := (l.drop (8 * j)).take 8
def fromN (l : List Bool) (n : Nat) : List UInt8 := (List.range n).map fun j => UInt8.ofNat (valB (chunk l j))
def fromBits (l : List Bool) : List UInt8 := fromN l ((l.length + 7) / 8)
theorem fromN_length (l : List Bool) (n : Nat) : (fromN l n).length = n := by simp [fromN]
theorem fromN_get (l : List Bool) (n j : Nat) (h : j < (fromN l n).length) : (fromN l n)[j] = UInt8.ofNat (valB (chunk l j)) := by simp [fromN]
theorem fromBits_length (l : List Bool) : (fromBits l).length = (l.length + 7) / 8 := fromN_length _ _

theorem chunk_below (l : List Bool) (k j : Nat) (hk : k < l.length) (hj : j ≠ k / 8) : chunk (l.take (k + 1)) j = chunk (l.take k) j := by
 unfold chunk
 rw [take_snoc l k hk]
 by_cases h : 8 * j + 8 ≤ k
 ·rw [List.drop_append_of_le_length (by rw [List.length_take]; omega), List.take_append_of_le_length (by rw [List.length_drop, List.length_take]; omega)]
 ·rw [List.drop_eq_nil_of_le (by simp; omega), List.drop_eq_nil_of_le (by simp; omega)]
theorem chunk_at (l : List Bool) (k : Nat) (hk : k < l.length) : chunk (l.take (k + 1)) (k / 8) = chunk (l.take k) (k / 8) ++ [l[k]] ∧ (chunk (l.take k) (k / 8)).length = k % 8 := by
 unfold chunk
 have h1 : (List.drop (8 * (k / 8)) (l.take k)).length = k % 8 := by rw [List.length_drop, List.length_take]; omega
 rw [take_snoc l k hk, List.drop_append_of_le_length (by rw [List.length_take]; omega)]
 have h2 : List.take 8 (List.drop (8 * (k / 8)) (l.take k)) = List.drop (8 * (k / 8)) (l.take k) := List.take_of_length_le (by omega)
 rw [h2]
 refine ⟨List.take_of_length_le (by rw [List.length_append, h1]; simp; omega), h1⟩
theorem fromN_false (l : List Bool) (n k : Nat) (hk : k < l.length) (hb : l[k] = false) : fromN (l.take (k + 1)) n = fromN (l.take k) n := by
 unfold fromN
 apply List.map_congr_left
 intro j _
 by_cases hj : j = k / 8
 ·subst hj
  rw [(chunk_at l k hk).1, valB_snoc, hb]
  simp
 ·rw [chunk_below l k j hk hj]
theorem fromN_true (l : List Bool) (n k : Nat) (hk : k < l.length) (hb : l[k] = true) :
  (fromN (l.take k) n).set (k / 8) (UInt8.ofNat (valB (chunk (l.take k) (k / 8)) + 2 ^ (k % 8))) = fromN (l.take (k + 1)) n := by
 apply List.ext_getElem (by simp [fromN])
 intro j h1 h2
 rw [fromN_get]
 by_cases hj : k / 8 = j
 ·subst hj
  rw [List.getElem_set_self, (chunk_at l k hk).1, valB_snoc, hb, (chunk_at l k hk).2]
  simp
 ·rw [List.getElem_set_ne hj, fromN_get, chunk_below l k j hk (Ne.symm hj)]
theorem fromN_nil (n : Nat) : fromN [] n = List.replicate n 0 := by
 apply List.ext_getElem (by simp [fromN])
 intro j h1 h2
 rw [fromN_get]
 simp [chunk, valB]
theorem fromBits_snoc (l : List Bool) (j : Nat) (h : j < (l.length + 7) / 8) : (fromBits l).take (j + 1) = (fromBits l).take j ++ [UInt8.ofNat (valB (chunk l j))] := by
 rw [take_snoc _ _ (by rw [fromBits_length]; exact h)]
 congr 2
 exact fromN_get _ _ _ _
theorem or_bit (a m : Nat) (hm : m < 8) (ha : a < 2 ^ m) : bits .or .u8 (((UInt8.ofNat a).toNat : Nat) : Int) (2 ^ m % 256) = (((UInt8.ofNat (a + 2 ^ m)).toNat : Nat) : Int) := by
 have hp := pow2_le8 (show m + 1 ≤ 8 by omega)
 rw [Nat.pow_succ] at hp
 have h1 : (UInt8.ofNat a).toNat = a := by simp; omega
 have h2 : (UInt8.ofNat (a + 2 ^ m)).toNat = a + 2 ^ m := by simp; omega
 have e : ((2 : Int) ^ m) % 256 = ((2 ^ m : Nat) : Int) := by
  have e1 : ((2 : Int) ^ m) = ((2 ^ m : Nat) : Int) := by simp
  rw [e1]
  generalize 2 ^ m = t at *
  omega
 rw [h1, h2, e, (bits_nat .u8 8 (by decide) wraps_u8 _ _ (by omega) (by omega)).2, Nat.or_comm]
 have := Nat.two_pow_add_eq_or_of_lt ha 1
 rw [Nat.mul_one] at this
 rw [← this]
 congr 1
 omega

def pw (k : Nat) : Nat := 2 ^ k
theorem drop_take (l : List Bool) (i k : Nat) (h : i ≤ k) (hk : k < l.length) : (l.drop i).take (k + 1 - i) = (l.drop i).take (k - i) ++ [l[k]] := by
 have e : k + 1 - i = (k - i) + 1 := by omega
 rw [e, take_snoc _ _ (by rw [List.length_drop]; omega)]
 congr 2
 rw [List.getElem_drop]
 congr 1
 omega

set_option maxHeartbeats 4000000 in
theorem refFromBits_any (B : Nat) (v : Value) (l : List Bool) (w : World) (hs : Slb w B v l) (hB : B ≤ w.heap.size) (hl : l.length ≤ 1099511627776) :
  Calls Try.prog 52 #[v] w (OwnIs w (fromBits l)) := by
 obtain ⟨i0, hi, hz0, hz1, hz2⟩ := info_parts info_u8
 obtain ⟨A, c, rfl, _, _⟩ := hs.form
 obtain ⟨n, hn⟩ : ∃ n, n = (l.length + 7) / 8 := ⟨_, rfl⟩
 have HN := Lib.hid hn
 have hn1 : l.length ≤ 8 * n := by omega
 have hn2 : n ≤ 137438953473 := by omega
 have hn3 : 8 * n ≤ l.length + 7 := by omega
 clear hn
 go_enter Try.func52, Try.ntmps52
 go_wp2
 go_loopw [3, 4, 5, 6, 7] (fun o i _ _ _ wr => ∃ j : Nat, j ≤ n ∧ i = .int .i64 (8 * (j : Int)) ∧ wr.ownsRow w.heap.size 5 1 o j (Lib.byteCells ((fromBits l).take j)) ∧ Below w.heap.size w wr) (fun _ i _ _ _ _ => 8 * n + 8 - (intOf i).toNat)
 case atStart =>
  exact ⟨0, Nat.zero_le _, rfl, World.ownsRow_made w #[] 0 (Nat.le_refl _) (Nat.zero_le _) rfl, (Below.refl _ _).alloc (Nat.le_refl _) _⟩
 case round =>
  obtain ⟨j, hj, rfl, hown, hbel⟩ := hrel
  have hsz := hbel.size
  by_cases hlt : 8 * j < l.length
  ·have hsr := hs.below (hbel.mono hB)
   obtain ⟨b, off, rfl, hbb, hc⟩ := hsr.at_ (by omega)
   have HC := Lib.hid hc
   obtain ⟨wo, hwo⟩ : ∃ wo : World, wo = wr := ⟨_, rfl⟩
   subst hwo
   clear hc hsr
   have HX : Hid (Lib.byteCells ((fromBits l).take (j + 1)) = Lib.byteCells ((fromBits l).take j) ++ [.int .u8 ((UInt8.ofNat (valB (chunk l j))).toNat : Int)]) := by
    apply Lib.hid
    rw [fromBits_snoc l j (by omega), Lib.byteCells_append]
    rfl
   generalize Lib.byteCells ((fromBits l).take j) = xs at hown HX
   go_wp2
   go_loop [5, 6, 7] (fun nn ww kk => ∃ k : Nat, 8 * j ≤ k ∧ k ≤ 8 * j + 8 ∧ k ≤ l.length ∧ kk = .int .i64 k ∧ nn = .int .i64 ((valB ((l.drop (8 * j)).take (k - 8 * j)) : Nat) : Int) ∧ ww = .int .i64 ((pw (k - 8 * j) : Nat) : Int)) (fun _ _ kk => l.length - (intOf kk).toNat)
   case atStart => exact ⟨8 * j, by omega, by omega, by omega, by simp, by simp [valB], by simp [pw]⟩
   case round =>
    obtain ⟨k, hk1, hk2, hk3, rfl, rfl, rfl⟩ := hrel
    have hvl := valB_lt ((l.drop (8 * j)).take (k - 8 * j))
    have hvll : ((l.drop (8 * j)).take (k - 8 * j)).length = k - 8 * j := by rw [List.length_take, List.length_drop]; omega
    rw [hvll] at hvl
    have hp8 : pw (k - 8 * j) ≤ 256 := pow2_le8 (show k - 8 * j ≤ 8 by omega)
    have hvl : valB ((l.drop (8 * j)).take (k - 8 * j)) < pw (k - 8 * j) := hvl
    by_cases hin : k < 8 * j + 8 ∧ k < l.length
    ·obtain ⟨hin1, hin2⟩ := hin
     have hck := HC.out k hin2
     have hdt := drop_take l (8 * j) k hk1 hin2
     have HV : Hid (valB ((l.drop (8 * j)).take (k + 1 - 8 * j)) = valB ((l.drop (8 * j)).take (k - 8 * j)) + pw (k - 8 * j) * l[k].toNat) := by
      rw [hdt, valB_snoc, hvll]
      exact Lib.hid rfl
     have HP : Hid (pw (k + 1 - 8 * j) = pw (k - 8 * j) * 2) := by
      rw [show k + 1 - 8 * j = (k - 8 * j) + 1 by omega]
      exact Lib.hid (Nat.pow_succ ..)
     clear hdt hvll
     generalize valB ((l.drop (8 * j)).take (k - 8 * j)) = a at *
     generalize pw (k - 8 * j) = p at *
     cases hbit : l[k]
     ·rw [hbit] at hck HV
      clear hbit
      go_wp2
      exact ⟨⟨_, _, _, ⟨k + 1, by omega, by omega, by omega, rfl, rfl, rfl⟩, by rw [HV.out]; simp, by rw [HP.out]; go_num, by go_num⟩, by simp [intOf]; omega⟩
     ·rw [hbit] at hck HV
      clear hbit
      go_wp2
      exact ⟨⟨_, _, _, ⟨k + 1, by omega, by omega, by omega, rfl, rfl, rfl⟩, by rw [HV.out]; simp, by rw [HP.out]; go_num, by go_num⟩, by simp [intOf]; omega⟩
    ·have hv8 : valB ((l.drop (8 * j)).take (k - 8 * j)) = valB (chunk l j) := by
      unfold chunk
      by_cases h8 : k = 8 * j + 8
      ·rw [show k - 8 * j = 8 by omega]
      ·rw [List.take_of_length_le (by rw [List.length_drop]; omega), List.take_of_length_le (by rw [List.length_drop]; omega)]
     rw [hv8] at hvl
     rw [hv8]
     have HCV : Hid ((valB (chunk l j) : Int) = ((UInt8.ofNat (valB (chunk l j))).toNat : Int)) := by
      apply Lib.hid
      have : (UInt8.ofNat (valB (chunk l j))).toNat = valB (chunk l j) := by simp; omega
      rw [this]
     clear hv8 hvll
     generalize valB (chunk l j) = q at *
     have hq256 : q < 256 := by omega
     by_cases hc1 : k < 8 * j + 8
     ·have hc2 : l.length ≤ k := by omega
      clear hin
      go_wp2_with (at_builtin; refine wp_append1 _ 34 5 i0 (.int .u8 0) Try.underlying34 hi hz0 hz1 hz2 rfl rfl _ _ rfl hown rfl rfl rfl (by omega) hsz ?_)
      intro v' w1 hown1 _ hb1
      rw [HCV.out, ← HX.out] at hown1
      have HO := Lib.hid hown1
      clear hown1
      go_wp2
      go_roundw
      case rel => exact ⟨j + 1, by omega, by go_num, HO.out, hbel.trans (hb1 _ (Nat.le_refl _))⟩
      case measure => simp [intOf]; omega
     ·have hc3 : 8 * j + 8 ≤ k := by omega
      clear hin hc1
      go_wp2_with (at_builtin; refine wp_append1 _ 34 5 i0 (.int .u8 0) Try.underlying34 hi hz0 hz1 hz2 rfl rfl _ _ rfl hown rfl rfl rfl (by omega) hsz ?_)
      intro v' w1 hown1 _ hb1
      rw [HCV.out, ← HX.out] at hown1
      have HO := Lib.hid hown1
      clear hown1
      go_wp2
      go_roundw
      case rel => exact ⟨j + 1, by omega, by go_num, HO.out, hbel.trans (hb1 _ (Nat.le_refl _))⟩
      case measure => simp [intOf]; omega
  ·obtain rfl : j = n := by omega
   rw [List.take_of_length_le (show (fromBits l).length ≤ j by rw [fromBits_length, ← HN.out]; exact Nat.le_refl _)] at hown
   have HO := Lib.hid (own_len hown (show j = (fromBits l).length by rw [fromBits_length, ← HN.out]))
   clear hown
   go_wp2
   go_ret
   exact ⟨_, rfl, HO.out, hbel⟩
end Go.Proofs.Ytfcgdjgfdbcddaa

/-
 THE WALK of the document's own Xor; the bytes of the bits of bytes.
-/
namespace Go.Proofs.Ytfcgdjgfdbcddaa
open Go.RowKit
set_option maxRecDepth 100000

theorem bitAt_test (b : UInt8) (i : Nat) : bitAt b i = b.toNat.testBit i := by
 unfold bitAt
 rw [Nat.testBit_eq_decide_div_mod_eq]
theorem bits8_xor (a b : UInt8) : List.zipWith (fun p q => p != q) (bits8 a) (bits8 b) = bits8 (a ^^^ b) := by
 unfold bits8
 apply List.ext_getElem (by simp)
 intro i h1 h2
 simp only [List.getElem_zipWith, List.getElem_map, List.getElem_range, bitAt_test, UInt8.toNat_xor, Nat.testBit_xor]
theorem bitsL_xor (us bs : List UInt8) (h : us.length = bs.length) : List.zipWith (fun p q => p != q) (bitsL us) (bitsL bs) = bitsL (List.zipWith (· ^^^ ·) us bs) := by
 induction us generalizing bs with
 | nil => simp [bitsL]
 | cons a r ih =>
  cases bs with
  | nil => simp at h
  | cons b s =>
   have e1 : bitsL (a :: r) = bits8 a ++ bitsL r := by simp [bitsL]
   have e2 : bitsL (b :: s) = bits8 b ++ bitsL s := by simp [bitsL]
   have e3 : bitsL ((a ^^^ b) :: List.zipWith (· ^^^ ·) r s) = bits8 (a ^^^ b) ++ bitsL (List.zipWith (· ^^^ ·) r s) := by simp [bitsL]
   rw [e1, e2, List.zipWith_cons_cons, e3, List.zipWith_append (by rw [bits8_length, bits8_length]), bits8_xor, ih s (by simpa using h)]
theorem valB_bits8 (b : UInt8) : UInt8.ofNat (valB (bits8 b)) = b := by
 have key : ∀ n : Fin 256, UInt8.ofNat (valB (bits8 (UInt8.ofNat n.val))) = UInt8.ofNat n.val := by decide +kernel
 have e : UInt8.ofNat b.toNat = b := by simp
 have := key ⟨b.toNat, b.toNat_lt⟩
 simp only [e] at this
 exact this
theorem chunk_bitsL (bs : List UInt8) (j : Nat) (h : j < bs.length) : chunk (bitsL bs) j = bits8 bs[j] := by
 induction bs generalizing j with
 | nil => simp at h
 | cons b r ih =>
  have e1 : bitsL (b :: r) = bits8 b ++ bitsL r := by simp [bitsL]
  rw [e1]
  cases j with
  | zero =>
   unfold chunk
   rw [Nat.mul_zero, List.drop_zero, List.take_append_of_le_length (by rw [bits8_length]; omega), List.take_of_length_le (by rw [bits8_length]; omega)]
   rfl
  | succ j =>
   have := ih j (by simpa using h)
   unfold chunk at this ⊢
   rw [show 8 * (j + 1) = (bits8 b).length + 8 * j by rw [bits8_length]; omega, ← List.drop_drop, List.drop_left, this]
   rfl
theorem fromBits_bitsL (bs : List UInt8) : fromBits (bitsL bs) = bs := by
 apply List.ext_getElem (by rw [fromBits_length, bitsL_length]; omega)
 intro j h1 h2
 have h := fromN_get (bitsL bs) (((bitsL bs).length + 7) / 8) j h1
 rw [chunk_bitsL bs j h2, valB_bits8] at h
 exact h

theorem own_base {w : World} {base base' : Nat} {e : TypeId} {v : Value} {n : Nat} {xs : List Value} (h : w.ownsRow base e 1 v n xs) (hb : base' ≤ base) : w.ownsRow base' e 1 v n xs := by
 refine ⟨h.1, ?_⟩
 rcases h.2 with hn | ⟨g, cap, cur, hv, hg, rest⟩
 ·exact .inl hn
 ·exact .inr ⟨g, cap, cur, hv, by omega, rest⟩

end Go.Proofs.Ytfcgdjgfdbcddaa

/-
 THE WALK of the laws' few; five parts in a row.
-/
namespace Go.Proofs.Ytfcgdjgfdbcddaa
open Go.RowKit
set_option maxRecDepth 100000

/-- texts of at most 2000 bytes each -/
def few4B (bss : List (List UInt8)) : Bool := bss.all (fun b => decide (b.length ≤ 2000))
theorem few4_no (bss : List (List UInt8)) (k : Nat) (h : k < bss.length) (hb : 2000 < bss[k].length) : few4B bss = false := by
 unfold few4B
 rw [List.all_eq_false]
 exact ⟨bss[k], List.getElem_mem h, by simp; omega⟩
theorem few4_yes {bss : List (List UInt8)} (h : few4B bss = true) : ∀ b ∈ bss, b.length ≤ 2000 := by
 unfold few4B at h
 simp only [List.all_eq_true, decide_eq_true_eq] at h
 exact h
theorem PartsO.five {w : World} {B g q n : Nat} {T : TypeId} {u1 u2 u3 u4 u5 : Value} {b1 b2 b3 b4 b5 : List UInt8} (hq : q < B) (hg : q ≠ g) (hr : Row w q T [u1, u2, u3, u4, u5]) (h1 : Sl w B u1 b1) (o1 : Off g u1) (h2 : Sl w B u2 b2) (o2 : Off g u2) (h3 : Sl w B u3 b3) (o3 : Off g u3) (h4 : Sl w B u4 b4) (o4 : Off g u4) (h5 : Sl w B u5 b5) (o5 : Off g u5) :
  PartsO w B g (.slice (some ⟨q, 0, none⟩) 5 n) [b1, b2, b3, b4, b5] :=
 ⟨_, n, rfl, fun _ => ⟨q, 0, rfl, hq, hg, fun i hi => by
  match i, hi with
  | 0, _ => exact ⟨u1, hr.cell 0, h1, o1⟩
  | 1, _ => exact ⟨u2, hr.cell 1, h2, o2⟩
  | 2, _ => exact ⟨u3, hr.cell 2, h3, o3⟩
  | 3, _ => exact ⟨u4, hr.cell 3, h4, o4⟩
  | 4, _ => exact ⟨u5, hr.cell 4, h5, o5⟩⟩⟩
end Go.Proofs.Ytfcgdjgfdbcddaa

/-
 WALKS: seal.derived, seal.Keys.
-/
namespace Go.Proofs.Ytfcgdjgfdbcddaa
open Go.RowKit
set_option maxRecDepth 100000

/-- a hypothesis that nothing looks into till it is opened -/
structure Shh (p : Prop) : Prop where
 out : p
def encI : List UInt8 := [108, 105, 118, 101, 114, 121, 32, 101, 110, 99]
def macI : List UInt8 := [108, 105, 118, 101, 114, 121, 32, 109, 97, 99]
theorem expB_length (prk info : List UInt8) (n : Nat) : (expB prk info n).length = n := by
 unfold expB
 rw [List.length_take, okmB_length]
 omega
/-- bytes that lie in memory are handed back; nothing that was there has turned -/
def SlIs (w : World) (bs : List UInt8) (e : Ending) (w' : World) : Prop := ∃ v, e = .returned v ∧ Sl w' w'.heap.size v bs ∧ Below w.heap.size w w'

/-- a text made to bytes: the slice, the world, and that the slice reads as the text -/
theorem conv_text (s : List UInt8) (hl : s.length ≤ 1000) (w : World) : ∃ v W, (convert 9 34 (.string ⟨s.toArray⟩)).run Try.prog w = .ok v W ∧ Shh (Sl W W.heap.size v s ∧ Below w.heap.size w W) := by
 have h := Lib.run_convert_string_bytes (P := Try.prog) w 9 34 5 ⟨s.toArray⟩ Try.underlying9 Try.underlying34 Try.underlying5
 refine ⟨_, _, h, ⟨⟨_, _, rfl, grownCap_ge _ _ _ _, grownCap_le_maxLen _ _ _ _ (show s.length ≤ maxLen by unfold maxLen; omega), fun _ => ⟨_, 0, rfl, by rw [Lib.bytesWorld_size]; omega, fun k hk => ?_⟩⟩, Lib.bytesWorld_below _ _ _⟩⟩
 have hc := Lib.bytesWorld_cell w 5 ⟨s.toArray⟩ k (by simpa [ByteArray.size] using hk)
 rw [Nat.zero_add, hc]
 simp [List.getD, hk]

end Go.Proofs.Ytfcgdjgfdbcddaa

/-
 THE WALK of octet.Join: parts wherever they lie.
-/
namespace Go.Proofs.Ytfcgdjgfdbcddaa
open Go.RowKit
set_option maxRecDepth 100000

end Go.Proofs.Ytfcgdjgfdbcddaa


/-
  PLAIN MATHEMATICS: words of 64 bits; one permutation Keccak-f[1600] on a list of 25 lanes; the sponge on bytes. Nothing of the program is named here.
-/
namespace Go.Proofs.Ytfcgdjgfdbcddaa
open Go.RowKit
set_option maxRecDepth 100000

def rotl (x : UInt64) (n : Nat) : UInt64 := UInt64.ofNat ((x.toNat * 2 ^ n % 18446744073709551616) ||| (x.toNat / 2 ^ (64 - n)))
theorem wraps_u64 (m : Int) (h0 : 0 ≤ m) (h1 : m < 18446744073709551616) : IntKind.u64.wrap m = m := by rw [IntKind.wrap_u64]; omega
theorem u64_or (a b : UInt64) : bits .or .u64 a.toNat b.toNat = ((a ||| b).toNat : Int) := by
  rw [(bits_nat .u64 64 (by decide) wraps_u64 _ _ a.toNat_lt b.toNat_lt).2]; simp
theorem u64_and (a b : UInt64) : bits .and .u64 a.toNat b.toNat = ((a &&& b).toNat : Int) := by
  rw [(bits_nat .u64 64 (by decide) wraps_u64 _ _ a.toNat_lt b.toNat_lt).1]; simp
theorem bv_lane (a : UInt64) : BitVec.ofInt 64 (a.toNat : Int) = a.toBitVec := by
  apply BitVec.eq_of_toNat_eq
  have := a.toNat_lt
  simp
theorem u64_xor (a b : UInt64) : bits .xor .u64 (a.toNat : Int) (b.toNat : Int) = ((a ^^^ b).toNat : Int) := by
  have hx := (a ^^^ b).toNat_lt
  show IntKind.u64.wrap (((BitVec.ofInt 64 (a.toNat : Int) ^^^ BitVec.ofInt 64 (b.toNat : Int)).toNat : Nat) : Int) = _
  rw [bv_lane, bv_lane, show (a.toBitVec ^^^ b.toBitVec).toNat = (a ^^^ b).toNat from rfl, wraps_u64 _ (by omega) (by omega)]
theorem or_lt64 {a b : Nat} (ha : a < 18446744073709551616) (hb : b < 18446744073709551616) : a ||| b < 18446744073709551616 := Nat.or_lt_two_pow (n := 64) ha hb
theorem div_lt64 (x : UInt64) (n : Nat) : x.toNat / 2 ^ n < 18446744073709551616 := Nat.lt_of_le_of_lt (Nat.div_le_self _ _) x.toNat_lt
theorem ofNat64 {n : Nat} (h : n < 18446744073709551616) : (UInt64.ofNat n).toNat = n := by simp; omega
/-- x<<n | x>>(64-n) -/
theorem u64_rotl (x : UInt64) (n : Nat) : bits .or .u64 (((x.toNat : Int) * 2 ^ n) % 18446744073709551616) ((x.toNat : Int) / 2 ^ (64 - n)) = ((rotl x n).toNat : Int) := by
  have h1 := div_lt64 x (64 - n)
  have h2 : x.toNat * 2 ^ n % 18446744073709551616 < 18446744073709551616 := Nat.mod_lt _ (by decide)
  have e1 : (x.toNat : Int) / 2 ^ (64 - n) = ((x.toNat / 2 ^ (64 - n) : Nat) : Int) := by simp
  have e2 : ((x.toNat : Int) * 2 ^ n) % 18446744073709551616 = ((x.toNat * 2 ^ n % 18446744073709551616 : Nat) : Int) := by simp
  rw [e1, e2, (bits_nat .u64 64 (by decide) wraps_u64 _ _ h2 h1).2, rotl, ofNat64 (or_lt64 h2 h1)]

def laneCells (l : List UInt64) : List Value := l.map fun x => .int .u64 (x.toNat : Int)
/-! ### the permutation -/
theorem kgetD_get {α : Type} (l : List α) (i : Nat) (d : α) (h : i < l.length) : l.getD i d = l[i] := by simp [List.getD, List.getElem?_eq_getElem h]
def kC : List UInt64 := [
  0x0000000000000001, 0x0000000000008082, 0x800000000000808a, 0x8000000080008000,
  0x000000000000808b, 0x0000000080000001, 0x8000000080008081, 0x8000000000008009,
  0x000000000000008a, 0x0000000000000088, 0x0000000080008009, 0x000000008000000a,
  0x000000008000808b, 0x800000000000008b, 0x8000000000008089, 0x8000000000008003,
  0x8000000000008002, 0x8000000000000080, 0x000000000000800a, 0x800000008000000a,
  0x8000000080008081, 0x8000000000008080, 0x0000000080000001, 0x8000000080008008]
def lane (l : List UInt64) (i : Nat) : UInt64 := l.getD i 0
def colX (l : List UInt64) (x : Nat) : UInt64 := lane l x ^^^ lane l (x + 5) ^^^ lane l (x + 10) ^^^ lane l (x + 15) ^^^ lane l (x + 20)
def mixOf (l : List UInt64) (d0 d1 d2 d3 d4 : UInt64) : List UInt64 := [
  lane l 0 ^^^ d0, rotl (lane l 6 ^^^ d1) 44, rotl (lane l 12 ^^^ d2) 43, rotl (lane l 18 ^^^ d3) 21, rotl (lane l 24 ^^^ d4) 14,
  rotl (lane l 3 ^^^ d3) 28, rotl (lane l 9 ^^^ d4) 20, rotl (lane l 10 ^^^ d0) 3, rotl (lane l 16 ^^^ d1) 45, rotl (lane l 22 ^^^ d2) 61,
  rotl (lane l 1 ^^^ d1) 1, rotl (lane l 7 ^^^ d2) 6, rotl (lane l 13 ^^^ d3) 25, rotl (lane l 19 ^^^ d4) 8, rotl (lane l 20 ^^^ d0) 18,
  rotl (lane l 4 ^^^ d4) 27, rotl (lane l 5 ^^^ d0) 36, rotl (lane l 11 ^^^ d1) 10, rotl (lane l 17 ^^^ d2) 15, rotl (lane l 23 ^^^ d3) 56,
  rotl (lane l 2 ^^^ d2) 62, rotl (lane l 8 ^^^ d3) 55, rotl (lane l 14 ^^^ d4) 39, rotl (lane l 15 ^^^ d0) 41, rotl (lane l 21 ^^^ d1) 2]
def mixL (l : List UInt64) : List UInt64 :=
  mixOf l (colX l 4 ^^^ rotl (colX l 1) 1) (colX l 0 ^^^ rotl (colX l 2) 1) (colX l 1 ^^^ rotl (colX l 3) 1) (colX l 2 ^^^ rotl (colX l 4) 1) (colX l 3 ^^^ rotl (colX l 0) 1)
theorem mixL_length (l : List UInt64) : (mixL l).length = 25 := rfl
/-- what chi makes of five lanes -/
def andn (a b : UInt64) : UInt64 := a &&& ~~~b
theorem u64_andn (a b : UInt64) : bits .andNot .u64 (a.toNat : Int) (b.toNat : Int) = ((andn a b).toNat : Int) := by
  have hx := (andn a b).toNat_lt
  show IntKind.u64.wrap (((BitVec.ofInt 64 (a.toNat : Int) &&& ~~~BitVec.ofInt 64 (b.toNat : Int)).toNat : Nat) : Int) = _
  rw [bv_lane, bv_lane, show (a.toBitVec &&& ~~~b.toBitVec).toNat = (andn a b).toNat from rfl, wraps_u64 _ (by omega) (by omega)]
def chi5 (b0 b1 b2 b3 b4 : UInt64) : List UInt64 := [b0 ^^^ andn b2 b1, b1 ^^^ andn b3 b2, b2 ^^^ andn b4 b3, b3 ^^^ andn b0 b4, b4 ^^^ andn b1 b0]
def rowX (b : List UInt64) (y : Nat) : List UInt64 := chi5 (lane b y) (lane b (y + 1)) (lane b (y + 2)) (lane b (y + 3)) (lane b (y + 4))
def chiL (b : List UInt64) : List UInt64 := rowX b 0 ++ rowX b 5 ++ rowX b 10 ++ rowX b 15 ++ rowX b 20
theorem rowX_length (b : List UInt64) (y : Nat) : (rowX b y).length = 5 := rfl
theorem chiL_length (b : List UInt64) : (chiL b).length = 25 := rfl
def iotaL (l : List UInt64) (c : UInt64) : List UInt64 := l.set 0 (lane l 0 ^^^ c)
def permK (s : List UInt64) : Nat → List UInt64
  | 0 => s
  | n + 1 => iotaL (chiL (mixL (permK s n))) (lane kC n)
def permL (s : List UInt64) : List UInt64 := permK s 24
theorem permK_length (s : List UInt64) (h : s.length = 25) (n : Nat) : (permK s n).length = 25 := by
  cases n with
  | zero => exact h
  | succ n => simp [permK, iotaL, chiL_length]
theorem permL_length (s : List UInt64) (h : s.length = 25) : (permL s).length = 25 := permK_length s h 24

/-! ### the sponge -/
/-- the lanes and the place of the next byte -/
structure Sp where
  l : List UInt64
  at_ : Nat
def Sp.next (s : Sp) (rate : Nat) : Sp := if s.at_ = rate then ⟨permL s.l, 1⟩ else ⟨s.l, s.at_ + 1⟩
/-- the byte at place p of the block is combined with b -/
def maskL (l : List UInt64) (p : Nat) (b : UInt8) : List UInt64 := l.set (p / 8) (lane l (p / 8) ^^^ UInt64.ofNat (b.toNat * 2 ^ (8 * (p % 8))))
def byteL (l : List UInt64) (p : Nat) : UInt8 := UInt8.ofNat ((lane l (p / 8)).toNat / 2 ^ (8 * (p % 8)))
def Sp.put (s : Sp) (rate : Nat) (b : UInt8) : Sp := ⟨maskL (s.next rate).l ((s.next rate).at_ - 1) b, (s.next rate).at_⟩
def Sp.puts (s : Sp) (rate : Nat) : List UInt8 → Sp
  | [] => s
  | b :: r => (s.put rate b).puts rate r
/-- n bytes more of the output, and the sponge behind them -/
def Sp.outs (s : Sp) (rate : Nat) : Nat → List UInt8
  | 0 => []
  | n + 1 => byteL (s.next rate).l ((s.next rate).at_ - 1) :: (s.next rate).outs rate n
def Sp.behind (s : Sp) (rate : Nat) : Nat → Sp
  | 0 => s
  | n + 1 => (s.next rate).behind rate n
def zeroL : List UInt64 := List.replicate 25 0
def absorbL (rate : Nat) (suffix : UInt8) (m : List UInt8) : Sp := ⟨maskL ((Sp.mk zeroL 0).puts rate (m ++ [suffix])).l (rate - 1) 128, rate⟩
/-- n bytes of the output of m -/
def spongeL (rate : Nat) (suffix : UInt8) (m : List UInt8) (n : Nat) : List UInt8 := (absorbL rate suffix m).outs rate n

theorem sha3_empty : (spongeL 136 6 [] 32).take 4 = [0xa7, 0xff, 0xc6, 0xf8] := by decide +kernel
theorem shake_empty : spongeL 168 31 [] 4 = [0x7f, 0x9c, 0x2b, 0xa4] := by decide +kernel
end Go.Proofs.Ytfcgdjgfdbcddaa

/-
  PLAIN MATHEMATICS: bytes laid into lanes; the sponge block by block; the document's round. Nothing of the program is named here.
-/
namespace Go.Proofs.Ytfcgdjgfdbcddaa
open Go.RowKit
set_option maxRecDepth 100000

theorem lane_set_eq (l : List UInt64) (k : Nat) (x : UInt64) (h : k < l.length) : lane (l.set k x) k = x := by
  simp [lane, List.getD, h]
theorem lane_set_ne (l : List UInt64) (k j : Nat) (x : UInt64) (h : j ≠ k) : lane (l.set k x) j = lane l j := by
  simp [lane, List.getD, List.getElem?_set_ne (Ne.symm h)]
theorem set_lane (l : List UInt64) (k : Nat) : l.set k (lane l k) = l := by
  apply List.ext_getElem?
  intro i
  by_cases h : k = i
  · subst h
    by_cases hk : k < l.length
    · rw [List.getElem?_set_self hk, lane, kgetD_get l k 0 hk, List.getElem?_eq_getElem hk]
    · rw [List.getElem?_eq_none (by simpa using hk), List.getElem?_eq_none (by simpa using hk)]
  · rw [List.getElem?_set_ne h]
theorem byte_pow (b : UInt8) (n : Nat) (h : n ≤ 56) : b.toNat * 2 ^ n < 18446744073709551616 := by
  have hb : b.toNat < 256 := b.toNat_lt
  have h1 : 2 ^ n ≤ 2 ^ 56 := Nat.pow_le_pow_right (by decide) h
  calc b.toNat * 2 ^ n ≤ 255 * 2 ^ 56 := Nat.mul_le_mul (by omega) h1
    _ < 18446744073709551616 := by decide
theorem byte_toNat (b : UInt8) (n : Nat) (h : n ≤ 56) : (UInt64.ofNat (b.toNat * 2 ^ n)).toNat = b.toNat * 2 ^ n := ofNat64 (byte_pow b n h)
theorem xor_is_or (x : UInt64) (b : UInt8) (n : Nat) (h : n ≤ 56) (hx : x.toNat < 2 ^ n) : x ^^^ UInt64.ofNat (b.toNat * 2 ^ n) = x ||| UInt64.ofNat (b.toNat * 2 ^ n) := by
  apply UInt64.toNat_inj.1
  rw [UInt64.toNat_xor, UInt64.toNat_or, byte_toNat b n h]
  apply Nat.eq_of_testBit_eq
  intro i
  rw [Nat.testBit_xor, Nat.testBit_or, Nat.testBit_mul_two_pow]
  by_cases hi : n ≤ i
  · have : x.toNat.testBit i = false := Nat.testBit_lt_two_pow (Nat.lt_of_lt_of_le hx (Nat.pow_le_pow_right (by decide) hi))
    simp [this]
  · simp [hi]
theorem xor_low (x : UInt64) (b : UInt8) (n : Nat) (h : n ≤ 56) (hx : x.toNat < 2 ^ n) : (x ||| UInt64.ofNat (b.toNat * 2 ^ n)).toNat < 2 ^ (n + 8) := by
  rw [UInt64.toNat_or, byte_toNat b n h]
  refine Nat.or_lt_two_pow (Nat.lt_of_lt_of_le hx (Nat.pow_le_pow_right (by decide) (by omega))) ?_
  rw [Nat.pow_add, Nat.mul_comm]
  exact Nat.mul_lt_mul_of_pos_left b.toNat_lt (Nat.two_pow_pos n)
theorem xor_bytes (a b : UInt8) (n : Nat) (h : n ≤ 56) : UInt64.ofNat (a.toNat * 2 ^ n) ^^^ UInt64.ofNat (b.toNat * 2 ^ n) = UInt64.ofNat ((a ^^^ b).toNat * 2 ^ n) := by
  apply UInt64.toNat_inj.1
  rw [UInt64.toNat_xor, byte_toNat a n h, byte_toNat b n h, byte_toNat (a ^^^ b) n h, UInt8.toNat_xor]
  apply Nat.eq_of_testBit_eq
  intro i
  rw [Nat.testBit_xor, Nat.testBit_mul_two_pow, Nat.testBit_mul_two_pow, Nat.testBit_mul_two_pow, Nat.testBit_xor]
  by_cases hi : n ≤ i
  · simp [hi]
  · simp [hi]

/-! ### bytes laid into lanes -/
/-- bytes combined with the lanes from place p on -/
def layX (l : List UInt64) (p : Nat) : List UInt8 → List UInt64
  | [] => l
  | b :: r => layX (maskL l p b) (p + 1) r
def orL (l : List UInt64) (p : Nat) (b : UInt8) : List UInt64 := l.set (p / 8) (lane l (p / 8) ||| UInt64.ofNat (b.toNat * 2 ^ (8 * (p % 8))))
def layO (l : List UInt64) (p : Nat) : List UInt8 → List UInt64
  | [] => l
  | b :: r => layO (orL l p b) (p + 1) r
theorem maskL_length (l : List UInt64) (p : Nat) (b : UInt8) : (maskL l p b).length = l.length := List.length_set
theorem orL_length (l : List UInt64) (p : Nat) (b : UInt8) : (orL l p b).length = l.length := List.length_set
theorem layX_length (r : List UInt8) : ∀ (l : List UInt64) (p : Nat), (layX l p r).length = l.length := by
  induction r with
  | nil => intro l p; rfl
  | cons b r ih => intro l p; rw [layX, ih, maskL_length]
theorem layO_length (r : List UInt8) : ∀ (l : List UInt64) (p : Nat), (layO l p r).length = l.length := by
  induction r with
  | nil => intro l p; rfl
  | cons b r ih => intro l p; rw [layO, ih, orL_length]
theorem layX_append (r s : List UInt8) : ∀ (l : List UInt64) (p : Nat), layX l p (r ++ s) = layX (layX l p r) (p + r.length) s := by
  induction r with
  | nil => intro l p; rfl
  | cons b r ih => intro l p; rw [List.cons_append, layX, layX, ih, List.length_cons, Nat.add_assoc, Nat.add_comm 1]
theorem layO_append (r s : List UInt8) : ∀ (l : List UInt64) (p : Nat), layO l p (r ++ s) = layO (layO l p r) (p + r.length) s := by
  induction r with
  | nil => intro l p; rfl
  | cons b r ih => intro l p; rw [List.cons_append, layO, layO, ih, List.length_cons, Nat.add_assoc, Nat.add_comm 1]
theorem layX_take (r : List UInt8) (l : List UInt64) (p k : Nat) (h : k < r.length) : layX l p (r.take (k + 1)) = maskL (layX l p (r.take k)) (p + k) r[k] := by
  rw [List.take_succ_eq_append_getElem h, layX_append, List.length_take, Nat.min_eq_left (Nat.le_of_lt h)]
  rfl
theorem layO_take (r : List UInt8) (l : List UInt64) (p k : Nat) (h : k < r.length) : layO l p (r.take (k + 1)) = orL (layO l p (r.take k)) (p + k) r[k] := by
  rw [List.take_succ_eq_append_getElem h, layO_append, List.length_take, Nat.min_eq_left (Nat.le_of_lt h)]
  rfl
theorem maskL_zero (l : List UInt64) (p : Nat) : maskL l p 0 = l := by
  have h0 : UInt64.ofNat ((0 : UInt8).toNat * 2 ^ (8 * (p % 8))) = 0 := by
    rw [show (0 : UInt8).toNat = 0 from rfl, Nat.zero_mul]; rfl
  rw [maskL, h0, UInt64.xor_zero, set_lane]
theorem layX_zeros (n : Nat) : ∀ (l : List UInt64) (p : Nat), layX l p (List.replicate n 0) = l := by
  induction n with
  | zero => intro l p; rfl
  | succ n ih => intro l p; rw [List.replicate_succ, layX, maskL_zero, ih]
theorem maskL_maskL (l : List UInt64) (p : Nat) (h : p / 8 < l.length) (a b : UInt8) : maskL (maskL l p a) p b = maskL l p (a ^^^ b) := by
  unfold maskL
  rw [lane_set_eq _ _ _ h, List.set_set, UInt64.xor_assoc, xor_bytes a b _ (by omega)]
/-- the lanes have no bits from place p on -/
def Low (l : List UInt64) (p : Nat) : Prop := ∀ j, (lane l j).toNat < 2 ^ (8 * min 8 (p - 8 * j))
theorem low_zero : Low zeroL 0 := by
  intro j
  have : lane zeroL j = 0 := by
    unfold lane zeroL List.getD
    rw [List.getElem?_replicate]
    split <;> rfl
  rw [this]
  exact Nat.two_pow_pos _
theorem low_step (l : List UInt64) (p : Nat) (b : UInt8) (hl : l.length = 25) (hp : p < 200) (h : Low l p) : Low (orL l p b) (p + 1) ∧ maskL l p b = orL l p b := by
  have hx := h (p / 8)
  have e : min 8 (p - 8 * (p / 8)) = p % 8 := by omega
  rw [e] at hx
  constructor
  · intro j
    by_cases hj : j = p / 8
    · subst hj
      unfold orL
      rw [lane_set_eq _ _ _ (by omega), show 8 * min 8 (p + 1 - 8 * (p / 8)) = 8 * (p % 8) + 8 by omega]
      exact xor_low _ b _ (by omega) hx
    · unfold orL
      rw [lane_set_ne _ _ _ _ hj]
      exact Nat.lt_of_lt_of_le (h j) (Nat.pow_le_pow_right (by decide) (by omega))
  · unfold maskL orL
    rw [xor_is_or _ b _ (by omega) hx]
theorem layX_layO (r : List UInt8) : ∀ (l : List UInt64) (p : Nat), l.length = 25 → p + r.length ≤ 200 → Low l p → layX l p r = layO l p r := by
  induction r with
  | nil => intro l p _ _ _; rfl
  | cons b r ih =>
    intro l p hl hp h
    rw [List.length_cons] at hp
    have hs := low_step l p b hl (by omega) h
    rw [layX, layO, hs.2]
    exact ih _ _ (by rw [orL_length, hl]) (by omega) hs.1

/-! ### the sponge, block by block -/
theorem puts_lay (rate : Nat) (r : List UInt8) : ∀ (l : List UInt64) (a : Nat), a + r.length ≤ rate → (Sp.mk l a).puts rate r = ⟨layX l a r, a + r.length⟩ := by
  induction r with
  | nil => intro l a _; rfl
  | cons b r ih =>
    intro l a h
    rw [List.length_cons] at h
    have hn : (Sp.mk l a).next rate = ⟨l, a + 1⟩ := if_neg (by show ¬ a = rate; omega)
    rw [Sp.puts, Sp.put, hn]
    show Sp.puts ⟨maskL l (a + 1 - 1) b, a + 1⟩ rate r = _
    rw [Nat.add_sub_cancel, ih _ _ (by omega), layX, List.length_cons, Nat.add_assoc, Nat.add_comm 1]
theorem puts_full (rate : Nat) (hr : 0 < rate) (l : List UInt64) (r : List UInt8) (h : r ≠ []) : (Sp.mk l rate).puts rate r = (Sp.mk (permL l) 0).puts rate r := by
  cases r with
  | nil => exact absurd rfl h
  | cons b r =>
    have h1 : (Sp.mk l rate).next rate = ⟨permL l, 1⟩ := if_pos rfl
    have h2 : (Sp.mk (permL l) 0).next rate = ⟨permL l, 1⟩ := if_neg (by show ¬ 0 = rate; omega)
    rw [Sp.puts, Sp.puts, Sp.put, Sp.put, h1, h2]
theorem puts_app (rate : Nat) (l m : List UInt8) : ∀ s : Sp, s.puts rate (l ++ m) = (s.puts rate l).puts rate m := by
  induction l with
  | nil => intro s; rfl
  | cons b r ih => intro s; exact ih _
/-- the state behind j blocks, permuted -/
def absJ (rate : Nat) (x : List UInt8) : Nat → List UInt64
  | 0 => zeroL
  | j + 1 => permL (layX (absJ rate x j) 0 ((x.drop (j * rate)).take rate))
theorem absJ_length (rate : Nat) (x : List UInt8) (j : Nat) : (absJ rate x j).length = 25 := by
  induction j with
  | zero => rfl
  | succ j ih => exact permL_length _ (by rw [layX_length, ih])
theorem puts_block (rate : Nat) (hr : 0 < rate) (x : List UInt8) : ∀ (j : Nat) (t : List UInt8), j * rate ≤ x.length → t ≠ [] → t.length ≤ rate →
    ((Sp.mk zeroL 0).puts rate (x.take (j * rate))).puts rate t = ⟨layX (absJ rate x j) 0 t, t.length⟩ := by
  intro j
  induction j with
  | zero => intro t _ _ h; rw [Nat.zero_mul, List.take_zero]; exact (puts_lay rate t zeroL 0 (by omega)).trans (by rw [Nat.zero_add]; rfl)
  | succ j ih =>
    intro t hj hne ht
    have hjr : (j + 1) * rate = j * rate + rate := Nat.succ_mul j rate
    rw [hjr] at hj ⊢
    have hbl : ((x.drop (j * rate)).take rate).length = rate := by simp; omega
    rw [List.take_add, puts_app, ih ((x.drop (j * rate)).take rate) (by omega) (by intro e; rw [e] at hbl; simp at hbl; omega) (by omega), hbl, puts_full rate hr _ t hne]
    exact (puts_lay rate t _ 0 (by omega)).trans (by rw [Nat.zero_add]; rfl)
/-- t with zeros behind it up to a block, the last byte turned -/
def kpadB (rate : Nat) (t : List UInt8) : List UInt8 := (t ++ List.replicate (rate - t.length) 0).set (rate - 1) ((t ++ List.replicate (rate - t.length) 0).getD (rate - 1) 0 ^^^ 128)
theorem set_last (z : List UInt8) (n : Nat) (h : z.length = n + 1) (x : UInt8) : z.set n x = z.take n ++ [x] ∧ z = z.take n ++ [z.getD n 0] := by
  have hz : z = z.take n ++ [z.getD n 0] := by
    have := List.take_succ_eq_append_getElem (l := z) (i := n) (by omega)
    rw [List.take_of_length_le (by omega)] at this
    rw [kgetD_get z n 0 (by omega)]
    exact this
  refine ⟨?_, hz⟩
  conv => lhs; rw [hz]
  rw [List.set_append_right _ _ (by simp; omega), show n - (z.take n).length = 0 by simp; omega]
  rfl
theorem layX_padB (rate : Nat) (hr : 0 < rate) (hr2 : rate ≤ 200) (t : List UInt8) (ht : t.length ≤ rate) (l : List UInt64) (hl : l.length = 25) : layX l 0 (kpadB rate t) = maskL (layX l 0 t) (rate - 1) 128 := by
  unfold kpadB
  obtain ⟨z, hz⟩ : ∃ z, z = t ++ List.replicate (rate - t.length) (0 : UInt8) := ⟨_, rfl⟩
  have hzl : z.length = (rate - 1) + 1 := by rw [hz]; simp; omega
  have hlz : layX l 0 z = layX l 0 t := by rw [hz, layX_append, layX_zeros]
  rw [← hz]
  obtain ⟨h1, h2⟩ := set_last z (rate - 1) hzl (z.getD (rate - 1) 0 ^^^ 128)
  rw [h1, layX_append, ← hlz]
  conv => rhs; rw [h2, layX_append]
  have hn : 0 + (z.take (rate - 1)).length = rate - 1 := by simp; omega
  rw [hn]
  show maskL _ _ _ = maskL (maskL _ _ _) _ _
  rw [maskL_maskL _ _ (by rw [layX_length, hl]; omega)]
theorem kpadB_length (rate : Nat) (t : List UInt8) (ht : t.length ≤ rate) : (kpadB rate t).length = rate := by simp [kpadB]; omega
/-- what is absorbed is the blocks, the last one padded -/
theorem absorbL_block (rate : Nat) (hr : 0 < rate) (hr2 : rate ≤ 200) (suf : UInt8) (m : List UInt8) (q : Nat) (hq : q * rate ≤ m.length) (hq2 : m.length < (q + 1) * rate) :
    absorbL rate suf m = ⟨layX (absJ rate (m ++ [suf]) q) 0 (kpadB rate ((m ++ [suf]).drop (q * rate))), rate⟩ := by
  have hqr : (q + 1) * rate = q * rate + rate := Nat.succ_mul q rate
  have hxl : (m ++ [suf]).length = m.length + 1 := by simp
  have htl : ((m ++ [suf]).drop (q * rate)).length = m.length + 1 - q * rate := by rw [List.length_drop, hxl]
  unfold absorbL
  conv => lhs; rw [← List.take_append_drop (q * rate) (m ++ [suf])]
  rw [puts_app, puts_block rate hr (m ++ [suf]) q _ (by omega) (by intro e; rw [e] at htl; simp at htl; omega) (by omega), layX_padB rate hr hr2 _ (by omega) _ (absJ_length _ _ _)]
theorem absJ_prefix (rate : Nat) (x y : List UInt8) (n : Nat) : ∀ j, x.take n = y.take n → j * rate ≤ n → absJ rate x j = absJ rate y j := by
  intro j
  induction j with
  | zero => intro _ _; rfl
  | succ j ih =>
    intro h hn
    have hjr : (j + 1) * rate = j * rate + rate := Nat.succ_mul j rate
    have e : (x.drop (j * rate)).take rate = (y.drop (j * rate)).take rate := by
      have h2 := congrArg (fun z => (z.drop (j * rate)).take rate) h
      simp only [List.drop_take, List.take_take] at h2
      rwa [show min rate (n - j * rate) = rate by omega] at h2
    rw [absJ, absJ, ih h (by omega), e]
theorem outs_block (rate : Nat) (l : List UInt64) : ∀ (n a : Nat), a + n ≤ rate → (Sp.mk l a).outs rate n = (List.range' a n).map (byteL l) ∧ (Sp.mk l a).behind rate n = ⟨l, a + n⟩
  | 0, _, _ => ⟨rfl, rfl⟩
  | n + 1, a, h => by
    have hn : (Sp.mk l a).next rate = ⟨l, a + 1⟩ := if_neg (by show ¬ a = rate; omega)
    have ih := outs_block rate l n (a + 1) (by omega)
    rw [Sp.outs, Sp.behind, hn, ih.1, ih.2]
    refine ⟨?_, by rw [Nat.add_assoc, Nat.add_comm 1]⟩
    rw [List.range'_succ, List.map_cons]
    rfl
theorem outs_full (rate : Nat) (l : List UInt64) (n : Nat) (h0 : 0 < n) (h : n ≤ rate) : (Sp.mk l rate).outs rate n = (List.range n).map (byteL (permL l)) ∧ (Sp.mk l rate).behind rate n = ⟨permL l, n⟩ := by
  obtain ⟨k, rfl⟩ : ∃ k, n = k + 1 := ⟨n - 1, by omega⟩
  have hn : (Sp.mk l rate).next rate = ⟨permL l, 1⟩ := if_pos rfl
  have ih := outs_block rate (permL l) k 1 (by omega)
  rw [Sp.outs, Sp.behind, hn, ih.1, ih.2]
  refine ⟨?_, by rw [Nat.add_comm 1]⟩
  rw [List.range_eq_range', List.range'_succ, List.map_cons]
  rfl
theorem outs_app (rate : Nat) (m : Nat) : ∀ (n : Nat) (s : Sp), s.outs rate (n + m) = s.outs rate n ++ (s.behind rate n).outs rate m
  | 0, s => by rw [Nat.zero_add]; rfl
  | n + 1, s => by
    rw [show n + 1 + m = (n + m) + 1 by omega, Sp.outs, Sp.outs, Sp.behind, outs_app rate m n (s.next rate)]
    rfl
theorem behind_app (rate : Nat) (m : Nat) : ∀ (n : Nat) (s : Sp), s.behind rate (n + m) = (s.behind rate n).behind rate m
  | 0, s => by rw [Nat.zero_add]; rfl
  | n + 1, s => by
    rw [show n + 1 + m = (n + m) + 1 by omega, Sp.behind, Sp.behind, behind_app rate m n (s.next rate)]
end Go.Proofs.Ytfcgdjgfdbcddaa

/-
  PLAIN MATHEMATICS: the document's round on a list of lanes. Nothing of the program is named here.
-/
namespace Go.Proofs.Ytfcgdjgfdbcddaa
open Go.RowKit
set_option maxRecDepth 100000

/-- a lane turned left -/
def trn (x : UInt64) (n : Nat) : UInt64 := if n = 0 then x else rotl x n
/-- the sums of the columns, i lanes in -/
def sumL (a : List UInt64) : Nat → List UInt64
  | 0 => List.replicate 5 0
  | i + 1 => (sumL a i).set (i % 5) (lane (sumL a i) (i % 5) ^^^ lane a i)
/-- lanes with the sums of the columns beside them, i lanes in -/
def thetaL (a s : List UInt64) : Nat → List UInt64
  | 0 => a
  | i + 1 => (thetaL a s i).set i (lane (thetaL a s i) i ^^^ (lane s ((i + 4) % 5) ^^^ trn (lane s ((i + 1) % 5)) 1))
/-- the walk over the lanes -/
def xyN : Nat → Nat × Nat
  | 0 => (1, 0)
  | t + 1 => ((xyN t).2, (2 * (xyN t).1 + 3 * (xyN t).2) % 5)
def rhoL (a : List UInt64) : Nat → List UInt64
  | 0 => (List.replicate 25 0).set 0 (lane a 0)
  | t + 1 => (rhoL a t).set (5 * (xyN (t + 1)).2 + (xyN (t + 1)).1) (trn (lane a (5 * (xyN t).2 + (xyN t).1)) ((t + 1) * (t + 2) / 2 % 64))
def chiR (a b : List UInt64) : Nat → List UInt64
  | 0 => a
  | i + 1 => (chiR a b i).set i (lane b i ^^^ andn (lane b (i / 5 * 5 + (i + 2) % 5)) (lane b (i / 5 * 5 + (i + 1) % 5)))
def roundL (a : List UInt64) (c : UInt64) : List UInt64 := iotaL (chiR (thetaL a (sumL a 25) 25) (rhoL (thetaL a (sumL a 25) 25) 24) 25) c
theorem sumL_length (a : List UInt64) (i : Nat) : (sumL a i).length = 5 := by
  induction i with
  | zero => rfl
  | succ i ih => rw [sumL, List.length_set, ih]
theorem thetaL_length (a s : List UInt64) (i : Nat) : (thetaL a s i).length = a.length := by
  induction i with
  | zero => rfl
  | succ i ih => rw [thetaL, List.length_set, ih]
theorem rhoL_length (a : List UInt64) (i : Nat) : (rhoL a i).length = 25 := by
  induction i with
  | zero => rfl
  | succ i ih => rw [rhoL, List.length_set, ih]
theorem chiR_length (a b : List UInt64) (i : Nat) : (chiR a b i).length = a.length := by
  induction i with
  | zero => rfl
  | succ i ih => rw [chiR, List.length_set, ih]
theorem xyN_lt (t : Nat) : (xyN t).1 < 5 ∧ (xyN t).2 < 5 := by
  induction t with
  | zero => exact ⟨by decide, by decide⟩
  | succ t ih => exact ⟨ih.2, Nat.mod_lt _ (by decide)⟩
theorem thetaL_ahead (a s : List UInt64) (i j : Nat) (h : i ≤ j) : lane (thetaL a s i) j = lane a j := by
  induction i with
  | zero => rfl
  | succ i ih => rw [thetaL, lane_set_ne _ _ _ _ (by omega), ih (by omega)]

section
variable (a0 a1 a2 a3 a4 a5 a6 a7 a8 a9 a10 a11 a12 a13 a14 a15 a16 a17 a18 a19 a20 a21 a22 a23 a24 c : UInt64)
theorem sumL_all : sumL [a0, a1, a2, a3, a4, a5, a6, a7, a8, a9, a10, a11, a12, a13, a14, a15, a16, a17, a18, a19, a20, a21, a22, a23, a24] 25 =
    [a0 ^^^ a5 ^^^ a10 ^^^ a15 ^^^ a20, a1 ^^^ a6 ^^^ a11 ^^^ a16 ^^^ a21, a2 ^^^ a7 ^^^ a12 ^^^ a17 ^^^ a22, a3 ^^^ a8 ^^^ a13 ^^^ a18 ^^^ a23, a4 ^^^ a9 ^^^ a14 ^^^ a19 ^^^ a24] := by
  have h : sumL [a0, a1, a2, a3, a4, a5, a6, a7, a8, a9, a10, a11, a12, a13, a14, a15, a16, a17, a18, a19, a20, a21, a22, a23, a24] 25 =
    [0 ^^^ a0 ^^^ a5 ^^^ a10 ^^^ a15 ^^^ a20, 0 ^^^ a1 ^^^ a6 ^^^ a11 ^^^ a16 ^^^ a21, 0 ^^^ a2 ^^^ a7 ^^^ a12 ^^^ a17 ^^^ a22, 0 ^^^ a3 ^^^ a8 ^^^ a13 ^^^ a18 ^^^ a23, 0 ^^^ a4 ^^^ a9 ^^^ a14 ^^^ a19 ^^^ a24] := by kernel_rfl
  rw [h]
  simp only [UInt64.zero_xor]
variable (c0 c1 c2 c3 c4 : UInt64)
theorem thetaL_all : thetaL [a0, a1, a2, a3, a4, a5, a6, a7, a8, a9, a10, a11, a12, a13, a14, a15, a16, a17, a18, a19, a20, a21, a22, a23, a24] [c0, c1, c2, c3, c4] 25 =
    [a0 ^^^ (c4 ^^^ rotl c1 1), a1 ^^^ (c0 ^^^ rotl c2 1), a2 ^^^ (c1 ^^^ rotl c3 1), a3 ^^^ (c2 ^^^ rotl c4 1), a4 ^^^ (c3 ^^^ rotl c0 1),
     a5 ^^^ (c4 ^^^ rotl c1 1), a6 ^^^ (c0 ^^^ rotl c2 1), a7 ^^^ (c1 ^^^ rotl c3 1), a8 ^^^ (c2 ^^^ rotl c4 1), a9 ^^^ (c3 ^^^ rotl c0 1),
     a10 ^^^ (c4 ^^^ rotl c1 1), a11 ^^^ (c0 ^^^ rotl c2 1), a12 ^^^ (c1 ^^^ rotl c3 1), a13 ^^^ (c2 ^^^ rotl c4 1), a14 ^^^ (c3 ^^^ rotl c0 1),
     a15 ^^^ (c4 ^^^ rotl c1 1), a16 ^^^ (c0 ^^^ rotl c2 1), a17 ^^^ (c1 ^^^ rotl c3 1), a18 ^^^ (c2 ^^^ rotl c4 1), a19 ^^^ (c3 ^^^ rotl c0 1),
     a20 ^^^ (c4 ^^^ rotl c1 1), a21 ^^^ (c0 ^^^ rotl c2 1), a22 ^^^ (c1 ^^^ rotl c3 1), a23 ^^^ (c2 ^^^ rotl c4 1), a24 ^^^ (c3 ^^^ rotl c0 1)] := by kernel_rfl
theorem rhoL_all : rhoL [a0, a1, a2, a3, a4, a5, a6, a7, a8, a9, a10, a11, a12, a13, a14, a15, a16, a17, a18, a19, a20, a21, a22, a23, a24] 24 =
    [a0, rotl a6 44, rotl a12 43, rotl a18 21, rotl a24 14, rotl a3 28, rotl a9 20, rotl a10 3, rotl a16 45, rotl a22 61, rotl a1 1, rotl a7 6, rotl a13 25, rotl a19 8, rotl a20 18,
     rotl a4 27, rotl a5 36, rotl a11 10, rotl a17 15, rotl a23 56, rotl a2 62, rotl a8 55, rotl a14 39, rotl a15 41, rotl a21 2] := by kernel_rfl
theorem chiR_all (b : List UInt64) : chiR [a0, a1, a2, a3, a4, a5, a6, a7, a8, a9, a10, a11, a12, a13, a14, a15, a16, a17, a18, a19, a20, a21, a22, a23, a24] b 25 = chiL b := by kernel_rfl
end
theorem len25 (l : List UInt64) (h : l.length = 25) : ∃ a0 a1 a2 a3 a4 a5 a6 a7 a8 a9 a10 a11 a12 a13 a14 a15 a16 a17 a18 a19 a20 a21 a22 a23 a24 : UInt64, l = [a0, a1, a2, a3, a4, a5, a6, a7, a8, a9, a10, a11, a12, a13, a14, a15, a16, a17, a18, a19, a20, a21, a22, a23, a24] := by
  match l, h with
  | [a0, a1, a2, a3, a4, a5, a6, a7, a8, a9, a10, a11, a12, a13, a14, a15, a16, a17, a18, a19, a20, a21, a22, a23, a24], _ => exact ⟨a0, a1, a2, a3, a4, a5, a6, a7, a8, a9, a10, a11, a12, a13, a14, a15, a16, a17, a18, a19, a20, a21, a22, a23, a24, rfl⟩
theorem chiR_any (a b : List UInt64) (h : a.length = 25) : chiR a b 25 = chiL b := by
  obtain ⟨a0, a1, a2, a3, a4, a5, a6, a7, a8, a9, a10, a11, a12, a13, a14, a15, a16, a17, a18, a19, a20, a21, a22, a23, a24, rfl⟩ := len25 a h
  exact chiR_all a0 a1 a2 a3 a4 a5 a6 a7 a8 a9 a10 a11 a12 a13 a14 a15 a16 a17 a18 a19 a20 a21 a22 a23 a24 b
/-- the document's round is one of the permutation -/
theorem roundL_eq (a : List UInt64) (h : a.length = 25) (c : UInt64) : roundL a c = iotaL (chiL (mixL a)) c := by
  have hb : rhoL (thetaL a (sumL a 25) 25) 24 = mixL a := by
    obtain ⟨a0, a1, a2, a3, a4, a5, a6, a7, a8, a9, a10, a11, a12, a13, a14, a15, a16, a17, a18, a19, a20, a21, a22, a23, a24, rfl⟩ := len25 a h
    exact (congrArg (fun z => rhoL z 24) ((congrArg (fun z => thetaL [a0, a1, a2, a3, a4, a5, a6, a7, a8, a9, a10, a11, a12, a13, a14, a15, a16, a17, a18, a19, a20, a21, a22, a23, a24] z 25) (sumL_all a0 a1 a2 a3 a4 a5 a6 a7 a8 a9 a10 a11 a12 a13 a14 a15 a16 a17 a18 a19 a20 a21 a22 a23 a24)).trans (thetaL_all a0 a1 a2 a3 a4 a5 a6 a7 a8 a9 a10 a11 a12 a13 a14 a15 a16 a17 a18 a19 a20 a21 a22 a23 a24 _ _ _ _ _))).trans ((rhoL_all _ _ _ _ _ _ _ _ _ _ _ _ _ _ _ _ _ _ _ _ _ _ _ _ _).trans (by kernel_rfl))
  exact congrArg (fun z => iotaL z c) ((chiR_any _ _ ((thetaL_length _ _ _).trans h)).trans (congrArg chiL hb))
/-- so many rounds of the document -/
def refPerm (s : List UInt64) : Nat → List UInt64
  | 0 => s
  | n + 1 => roundL (refPerm s n) (lane kC n)
theorem refPerm_eq (s : List UInt64) (h : s.length = 25) (n : Nat) : refPerm s n = permK s n := by
  induction n with
  | zero => rfl
  | succ n ih => rw [refPerm, ih, roundL_eq _ (permK_length s h n), permK]
end Go.Proofs.Ytfcgdjgfdbcddaa


/-
 WALKS: bits.RotateLeft64, keccak.left, keccak.shift, keccak.chi.
-/
namespace Go.Proofs.Ytfcgdjgfdbcddaa
open Go.RowKit
set_option maxRecDepth 100000

/-- a word is handed back, nothing else has turned -/
def LaneIs (w : World) (x : UInt64) (e : Ending) (w' : World) : Prop := e = .returned ((.int .u64 (x.toNat : Int))) ∧ w' = w

theorem and63 : ∀ n : Fin 64, bits .and .u64 (IntKind.u64.wrap (n.val : Int)) 63 = (n.val : Int) := by decide +kernel
theorem low63 (n : Nat) (h2 : n ≤ 63) : bits .and .u64 (n : Int) 63 = (n : Int) := by
 have := and63 ⟨n, by omega⟩
 simp only at this
 rwa [wraps_u64 _ (by omega) (by omega)] at this
/-- five words are handed back, nothing else has turned -/
def FiveIs (w : World) (b0 b1 b2 b3 b4 : UInt64) (e : Ending) (w' : World) : Prop := e = .returned (.tuple #[.int .u64 (b0.toNat : Int), .int .u64 (b1.toNat : Int), .int .u64 (b2.toNat : Int), .int .u64 (b3.toNat : Int), .int .u64 (b4.toNat : Int)]) ∧ w' = w
end Go.Proofs.Ytfcgdjgfdbcddaa

/-
 STEPS BY HAND in a region that only reads and makes quiet calls, up to a forced tail.
-/
namespace Go.Proofs.Ytfcgdjgfdbcddaa
open Go.RowKit
set_option maxRecDepth 100000
section
variable {P : Program} {ops : Array Oper} {w : World} {Q : Act → Prop} {a : Act} {o : Oper} {rest : List Oper}

theorem still_value (v : Value) (hgd : o.guard = none) (hrun : (execOp a.eval o).run P w = .ok (.value v) w) (h : wpStill P ops w Q rest (a.put o.dst v)) : wpStill P ops w Q (o :: rest) a := by
 refine wpStill_step fun K hK => ?_
 rw [if_pos (by simp [Region.wanted, hgd])]
 unfold Oper.still
 rw [hrun, Oper.stillUpon_value]
 exact hK _ h
theorem still_call (f : FuncId) (args : Array Value) (v : Value) (hgd : o.guard = none) (hrun : (execOp a.eval o).run P w = .ok (.enter f args) w) (hc : Calls P f args w fun e w' => e = .returned v ∧ w' = w) (h : wpStill P ops w Q rest (a.put o.dst v)) : wpStill P ops w Q (o :: rest) a := by
 refine wpStill_step fun K hK => ?_
 rw [if_pos (by simp [Region.wanted, hgd])]
 unfold Oper.still
 rw [hrun]
 exact ⟨rfl, v, hc, hK _ h⟩
theorem run_load1 {ty : TypeId} {k : IntKind} {x : Operand} {v : Value} {b p : Nat} (ho : o.op = .load ty x) (hu : P.underlying ty = some (.int k)) (hx : a.eval x = .pointer (some ⟨b, p, none⟩)) (hc : w.cell? ⟨b, p, none⟩ = some v) : (execOp a.eval o).run P w = .ok (.value v) w := by
 unfold execOp
 simp only [ho, hx]
 have h1 : (isAgg ty).run P w = .ok false w := by
  unfold isAgg
  rw [Sem.run_bind, run_underlying hu w]
  rfl
 simp [Instr.loadAt, Instr.sureAddr, loadVar, h1, go_sem, hc]
theorem run_xorL {x y : Operand} {t u : TypeId} {p q : UInt64} (ho : o.op = .binOp .xor t x y u) (hx : a.eval x = .int .u64 (p.toNat : Int)) (hy : a.eval y = .int .u64 (q.toNat : Int)) : (execOp a.eval o).run P w = .ok (.value (.int .u64 ((p ^^^ q).toNat : Int))) w := by
 have h := u64_xor p q
 unfold execOp
 simp only [ho, hx, hy]
 simp [go_sem, h]
end
end Go.Proofs.Ytfcgdjgfdbcddaa

/-
 LANES: cells of lanes; steps by hand in a plain region.
-/
namespace Go.Proofs.Ytfcgdjgfdbcddaa
open Go.RowKit
set_option maxRecDepth 100000

theorem laneCells_length (l : List UInt64) : (laneCells l).length = l.length := by simp [laneCells]
theorem laneCells_get (l : List UInt64) (k : Nat) (h : k < l.length) : (laneCells l)[k]? = some (.int .u64 (l[k].toNat : Int)) := by
 simp [laneCells, List.getElem?_eq_getElem h]
theorem laneCells_lane (l : List UInt64) (k : Nat) (h : k < l.length) : (laneCells l)[k]? = some (.int .u64 ((lane l k).toNat : Int)) := by
 rw [laneCells_get l k h, lane, kgetD_get l k 0 h]
theorem laneCells_set (l : List UInt64) (k : Nat) (x : UInt64) : (laneCells l).set k (.int .u64 (x.toNat : Int)) = laneCells (l.set k x) := by
 simp [laneCells, List.map_set]
theorem cell_oneLane (l : List UInt64) : ∀ u ∈ laneCells l, u.oneCell' = true := by
 intro u hu
 simp only [laneCells, List.mem_map] at hu
 obtain ⟨b, _, rfl⟩ := hu
 rfl
theorem zero25 : (#[.int .u64 0, .int .u64 0, .int .u64 0, .int .u64 0, .int .u64 0, .int .u64 0, .int .u64 0, .int .u64 0, .int .u64 0, .int .u64 0, .int .u64 0, .int .u64 0, .int .u64 0, .int .u64 0, .int .u64 0, .int .u64 0, .int .u64 0, .int .u64 0, .int .u64 0, .int .u64 0, .int .u64 0, .int .u64 0, .int .u64 0, .int .u64 0, .int .u64 0] : Array Value) = (laneCells (List.replicate 25 0)).toArray := by rfl
theorem size_lanes (n : Nat) (l : List UInt64) (h : l.length = n) : some n = some (laneCells l).length := by rw [laneCells_length, h]
/-- an array of lanes is handed back; nothing that was there has turned -/
def LanesIs (w : World) (l : List UInt64) (e : Ending) (w' : World) : Prop := e = .returned (.agg (laneCells l).toArray) ∧ Below w.heap.size w w'


section
variable {P : Program} {ops : Array Oper} {w : World} {Q : Exit → Act → World → Prop} {a : Act} {o : Oper} {rest : List Oper}
theorem wl_value (v : Value) (hgd : o.guard = none) (hrun : (execOp a.eval o).run P w = .ok (.value v) w) (h : wpList P ops Q rest (a.put o.dst v) w) : wpList P ops Q (o :: rest) a w := by
 refine wpList_plain hgd fun K hK => ?_
 unfold Oper.wp
 rw [hrun]
 exact hK _ _ h
theorem wl_valueW (v : Value) (w' : World) (hgd : o.guard = none) (hrun : (execOp a.eval o).run P w = .ok (.value v) w') (h : wpList P ops Q rest (a.put o.dst v) w') : wpList P ops Q (o :: rest) a w := by
 refine wpList_plain hgd fun K hK => ?_
 unfold Oper.wp
 rw [hrun]
 exact hK _ _ h
theorem wl_call (f : FuncId) (args : Array Value) (v : Value) (hgd : o.guard = none) (hrun : (execOp a.eval o).run P w = .ok (.enter f args) w) (hc : Calls P f args w fun e w' => e = .returned v ∧ w' = w) (h : wpList P ops Q rest (a.put o.dst v) w) : wpList P ops Q (o :: rest) a w := by
 refine wpList_plain hgd fun K hK => ?_
 unfold Oper.wp
 rw [hrun, Oper.upon_enter]
 refine hc.mono fun e w' he => ?_
 obtain ⟨rfl, rfl⟩ := he
 exact hK _ _ h
end
end Go.Proofs.Ytfcgdjgfdbcddaa

/-
 MATHEMATICS of seal's stream; facts that go from one world to a later one.
-/
namespace Go.Proofs.Ytfcgdjgfdbcddaa
open Go.RowKit
set_option maxRecDepth 100000

theorem share {T G : Prop} (h1 : Shh T → G) (h2 : T) : G := h1 ⟨h2⟩
/-! facts that go on -/
section
variable {w w' : World} {g : Nat} {T : TypeId} {cs : List Value} {v : Value} {bs : List UInt8}
theorem Sl.go (h : Sl w w.heap.size v bs) (b : Below w.heap.size w w') : Sl w' w'.heap.size v bs := (h.below b).more b.size
theorem Row.go (h : Row w g T cs) (b : Below w.heap.size w w') : Row w' g T cs := h.below b h.lt
/-- a slice of bytes that lies in a block of its own, from base on -/
def Own (w : World) (base : Nat) (v : Value) (bs : List UInt8) : Prop := w.ownsRow base 5 1 v bs.length (Lib.byteCells bs)
theorem Own.go {base : Nat} (h : Own w base v bs) (b : Below w.heap.size w w') : Own w' base v bs := own_step h b
theorem Own.lt {base : Nat} (h : Own w base v bs) (k : Nat) (hk : v.ownBlock = some k) : base ≤ k ∧ k < w.heap.size := World.ownsRow.lt h k hk
theorem Row.sl {n : Nat} (hr : Row w g T (Lib.byteCells bs)) (hn : bs.length = n) (hm : n ≤ 1000000) : Sl w w.heap.size (.slice (some ⟨g, 0, none⟩) n n) bs := Sl.of_bytes hr hr.lt hn hm
end

/-! the stream -/
def blkB (enc nonce : List UInt8) (i : Nat) : List UInt8 := macB enc (nonce ++ bigB i 4)
def strN (enc nonce : List UInt8) : Nat → List UInt8
 | 0 => []
 | j + 1 => strN enc nonce j ++ blkB enc nonce j
theorem blkB_length (enc nonce : List UInt8) (i : Nat) : (blkB enc nonce i).length = 32 := macB_length _ _
theorem strN_length (enc nonce : List UInt8) (j : Nat) : (strN enc nonce j).length = 32 * j := by
 induction j with
 | zero => rfl
 | succ j ih => rw [strN, List.length_append, ih, blkB_length]; omega
theorem strN_take (enc nonce : List UInt8) (j k : Nat) (h : j ≤ k) : (strN enc nonce k).take (32 * j) = strN enc nonce j := by
 induction k with
 | zero =>
  obtain rfl : j = 0 := by omega
  rfl
 | succ k ih =>
  by_cases e : j = k + 1
  ·subst e
   rw [List.take_of_length_le (by rw [strN_length]; omega)]
  ·rw [strN, List.take_append_of_le_length (by rw [strN_length]; omega), ih (by omega)]
def blocksN (n : Nat) : Nat := (n + 31) / 32
/-- the first n bytes of the stream -/
def strB (enc nonce : List UInt8) (n : Nat) : List UInt8 := (strN enc nonce (blocksN n)).take n
theorem strB_length (enc nonce : List UInt8) (n : Nat) : (strB enc nonce n).length = n := by
 unfold strB blocksN
 rw [List.length_take, strN_length]
 omega
/-- a text covered by the stream -/
def covB (enc nonce text : List UInt8) : List UInt8 := List.zipWith (· ^^^ ·) text (strB enc nonce text.length)
theorem covB_length (enc nonce text : List UInt8) : (covB enc nonce text).length = text.length := by
 unfold covB
 rw [List.length_zipWith, strB_length, Nat.min_self]
def covN (enc nonce text : List UInt8) (k : Nat) : List UInt8 := List.zipWith (· ^^^ ·) (text.take (32 * k)) (strN enc nonce k)
theorem covN_length (enc nonce text : List UInt8) (k : Nat) : (covN enc nonce text k).length = min (32 * k) text.length := by
 unfold covN
 rw [List.length_zipWith, List.length_take, strN_length]
 omega
theorem zipWith_take_right (us bs : List UInt8) : List.zipWith (· ^^^ ·) us (bs.take us.length) = List.zipWith (· ^^^ ·) us bs := by
 induction us generalizing bs with
 | nil => simp
 | cons a r ih =>
  cases bs with
  | nil => simp
  | cons b s => simp [ih]
theorem covN_all (enc nonce text : List UInt8) (k : Nat) (h : text.length ≤ 32 * k) (hk : k = blocksN text.length) : covN enc nonce text k = covB enc nonce text := by
 unfold covN covB strB
 rw [List.take_of_length_le h, ← hk, zipWith_take_right]
theorem covN_succ (enc nonce text : List UInt8) (k : Nat) (h : 32 * k ≤ text.length) :
  covN enc nonce text (k + 1) = covN enc nonce text k ++ List.zipWith (· ^^^ ·) ((text.drop (32 * k)).take 32) (blkB enc nonce k) := by
 unfold covN
 rw [strN, show 32 * (k + 1) = 32 * k + 32 by omega, List.take_add, List.zipWith_append]
 rw [List.length_take, strN_length]
 omega
theorem xor_zeros (n : Nat) (bs : List UInt8) (h : bs.length = n) : List.zipWith (· ^^^ ·) (List.replicate n (0 : UInt8)) bs = bs := by
 induction bs generalizing n with
 | nil => subst h; rfl
 | cons b s ih =>
  subst h
  rw [List.length_cons, List.replicate_succ, List.zipWith_cons_cons, ih _ rfl]
  simp
theorem covB_zeros (enc nonce : List UInt8) (n : Nat) : covB enc nonce (List.replicate n 0) = strB enc nonce n := by
 unfold covB
 rw [List.length_replicate, xor_zeros _ _ (strB_length _ _ _)]
theorem covB_back (enc nonce text : List UInt8) : covB enc nonce (covB enc nonce text) = text := by
 have key : ∀ us bs : List UInt8, us.length = bs.length → List.zipWith (· ^^^ ·) (List.zipWith (· ^^^ ·) us bs) bs = us := by
  intro us
  induction us with
  | nil => simp
  | cons a r ih =>
   intro bs h
   cases bs with
   | nil => simp at h
   | cons b s =>
    rw [List.zipWith_cons_cons, List.zipWith_cons_cons, ih s (by simpa using h)]
    congr 1
    rw [UInt8.xor_assoc, UInt8.xor_self, UInt8.xor_zero]
 have e : covB enc nonce (covB enc nonce text) = List.zipWith (· ^^^ ·) (covB enc nonce text) (strB enc nonce text.length) := by
  show List.zipWith (· ^^^ ·) (covB enc nonce text) (strB enc nonce (covB enc nonce text).length) = _
  rw [covB_length]
 rw [e]
 unfold covB
 exact key _ _ (strB_length _ _ _).symm
/-! what is sealed -/
def encK (key : List UInt8) : List UInt8 := expB key encI 32
def macK (key : List UInt8) : List UInt8 := expB key macI 32
end Go.Proofs.Ytfcgdjgfdbcddaa
