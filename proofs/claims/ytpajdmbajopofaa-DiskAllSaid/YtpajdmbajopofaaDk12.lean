/-
 WALK: settle.
-/
import Derived.Test.YtpajdmbajopofaaDk11
namespace Go.Proofs.Ytpajdmbajopofaa
open Go.RowKit
set_option maxRecDepth 100000
attribute [local go_sem] Oper.semAt_some
section
variable {a : Act} {x y : Operand} {op : Oper} {w : World}
theorem load_dp {p : Addr} {g : Nat} (ho : op.op = .load 23 x) (hc : w.cell? p = some (.pointer (some ⟨g, 0, none⟩))) (hx : a.eval x = .pointer (some p)) : (execOp a.eval op).run Try.prog w = .ok (.value (.pointer (some ⟨g, 0, none⟩))) w := by
 unfold execOp
 simp only [ho, hx]
 go_simp
theorem load_in {p : Addr} {i : Int} (ho : op.op = .load 3 x) (hc : w.cell? p = some (.int .i64 i)) (hx : a.eval x = .pointer (some p)) : (execOp a.eval op).run Try.prog w = .ok (.value (.int .i64 i)) w := by
 unfold execOp
 simp only [ho, hx]
 go_simp
theorem load_by {p : Addr} {A : Option Addr} {n c : Nat} (ho : op.op = .load 33 x) (hc : w.cell? p = some (.slice A n c)) (hx : a.eval x = .pointer (some p)) : (execOp a.eval op).run Try.prog w = .ok (.value (.slice A n c)) w := by
 unfold execOp
 simp only [ho, hx]
 go_simp
theorem fa_0 {M : Nat} (ho : op.op = .fieldAddr 71 x 0) (hx : a.eval x = .pointer (some ⟨M, 0, none⟩)) : (execOp a.eval op).run Try.prog w = .ok (.value (.pointer (some ⟨M, 0, none⟩))) w := by
 unfold execOp
 simp only [ho, hx]
 go_simp
theorem fa_1 {M : Nat} (ho : op.op = .fieldAddr 71 x 1) (hx : a.eval x = .pointer (some ⟨M, 0, none⟩)) : (execOp a.eval op).run Try.prog w = .ok (.value (.pointer (some ⟨M, 1, none⟩))) w := by
 unfold execOp
 simp only [ho, hx]
 go_simp
theorem op_copy {P : Program} {d s : Operand} {dT sT : TypeId} (ho : op.op = .call { callee := .builtin .copy, args := #[d, s], argTypes := #[dT, sT] }) (elem : TypeId) (hu : P.underlying dT = some (.slice elem)) (hsz : (P.info? elem).map (·.size) = some 1)
  (dLen dCap sLen sCap : Nat) (ad : Addr) (g off : Nat) (hd : a.eval d = .slice (some ⟨g, off, none⟩) dLen dCap) (hs : a.eval s = .slice (some ad) sLen sCap)
  (cur : List Value) (t : TypeId) (hr : Row w g t cur) (cs : List Value) (hn : cs.length = Nat.min sLen dLen)
  (hsrc : ∀ j v, cs[j]? = some v → w.cell? (ad.add j) = some v) (hfit : off + cs.length ≤ cur.length) (h1 : ∀ v ∈ cs, v.oneCell' = true) :
  (execOp a.eval op).run P w = .ok (.value (goInt cs.length)) (w.setRow g (cur.take off ++ cs ++ cur.drop (off + cs.length)).toArray) := by
 have hrun := run_copy_row (P := P) w dT sT op.type elem g off dLen dCap ad sLen sCap cur.toArray t cs hu hsz hr hn hsrc (by simpa using hfit) h1
 simp [execOp, ho, resolve, invoke, builtin, hd, hs, hrun, Result.andThen]
theorem op_copy2 {P : Program} {d s : Operand} {dT sT : TypeId} (ho : op.op = .call { callee := .builtin .copy, args := #[d, s], argTypes := #[dT, sT] }) (elem : TypeId) (hu : P.underlying dT = some (.slice elem)) (hsz : (P.info? elem).map (·.size) = some 1)
  (dLen dCap sLen sCap : Nat) (ad : Addr) (g off : Nat) (hd : a.eval d = .slice (some ⟨g, off, none⟩) dLen dCap) (hs : a.eval s = .slice (some ad) sLen sCap)
  (cur : List Value) (t : TypeId) (hr : Row w g t cur) (cs : List Value) (hn : cs.length = Nat.min sLen dLen)
  (hsrc : ∀ j v, cs[j]? = some v → w.cell? (ad.add j) = some v) (hfit : off + cs.length ≤ cur.length) (h1 : ∀ v ∈ cs, v.oneCell' = true) (ds : List Value) (hds : cur.take off ++ cs ++ cur.drop (off + cs.length) = ds) :
  (execOp a.eval op).run P w = .ok (.value (goInt cs.length)) (w.setRow g ds.toArray) := by
 subst hds
 have hrun := run_copy_row (P := P) w dT sT op.type elem g off dLen dCap ad sLen sCap cur.toArray t cs hu hsz hr hn hsrc (by simpa using hfit) h1
 simp [execOp, ho, resolve, invoke, builtin, hd, hs, hrun, Result.andThen]
end
section
variable {P : Program} {ops : Array Oper} {Q : Exit → Act → World → Prop} {n : Nat}
theorem oper_wide {o : Oper} {a : Act} {w : World} {K : Act → World → Prop} (h : o.wp P a w K Q) : o.wpIn Fence.wide n P a w K Q := by
 refine ⟨fun f _ => trivial, ?_⟩
 have hs : o.semAt Fence.wide.round a.eval = execOp a.eval o := by
  show o.semAt none a.eval = _
  simp [Oper.semAt]
 rw [hs]
 unfold Oper.wp at h
 generalize (execOp a.eval o).run P w = r at h
 cases r with
 | ok nx w' =>
  cases nx with
  | value v => exact h
  | skip => exact h
  | defer d => exact h
  | enter f args => exact ⟨fun hd => (by simp [Fence.wide] at hd), callsIn_wide.2 h⟩
  | row row args =>
   refine ⟨fun hd => (by simp [Fence.wide] at hd), fun c cs _ => ?_⟩
   obtain ⟨v, w2, r, s⟩ := h c cs
   exact ⟨v, w2, r, stepsIn_wide.2 s⟩
  | _ => exact h.elim
 | halt c w' =>
  cases c with
  | panic v => exact h
  | _ => exact h.elim
theorem wpOp_wide (hno : ¬ LetsOut Q) {i : Nat} {a : Act} {w : World} {K : Act → World → Prop} (h : wpOp P ops Q i K a w) : wpOpIn Fence.wide n P ops Q i K a w := by
 unfold wpOp at h
 unfold wpOpIn
 cases ho : ops[i]? with
 | none => rw [ho] at h; exact h
 | some o =>
  rw [ho] at h
  simp only at h ⊢
  split
  ·rename_i hw
   rw [if_pos hw] at h
   exact oper_wide (h.resolve_right fun h2 => hno h2.2)
  ·rename_i hw
   rw [if_neg hw] at h
   exact ⟨fun f _ => trivial, h⟩
theorem wpAny_wide (hno : ¬ LetsOut Q) {md : Region.Mode} : ∀ (fuel : Nat) (listed : Array Bool) (a : Act) (w : World), wpAny P md ops Q fuel listed a w → wpAnyIn Fence.wide n P md ops Q fuel listed a w
 | 0, _, _, _, h => h
 | fuel + 1, _, _, _, h => ⟨h.1, fun i hi => wpOpIn_mono (fun a' w' h' => wpAny_wide hno fuel _ a' w' h') (wpOp_wide hno (h.2 i hi))⟩
/-- a region that draws its order, inside a fence but in no round: by the laws outside -/
theorem region_wide {S : World → Prop} {id : Nat} {a : Act} {w : World} (hm : P.follows .mixedOrders = true) (hno : ¬ LetsOut Q) (hS : S w.drew)
  (h : S w.drew → wpAnyH P .any ops Q S ops.size (Array.replicate ops.size false) a w.drew) : (Code.region id ops true).wpIn Fence.wide n P Q a w :=
 wpIn_region_any hm (wpAny_wide hno _ _ _ _ (wpAny_of_held _ _ _ _ (h hS)))
end
theorem leavesM_tmps {F : Fence} {n : Nat} {P : Program} {fn : Func} {t t' : Array Value} {R : Ending → World → Prop} (h : results fn t = results fn t') : ∀ ds : List Deferred, LeavesInM F n P fn t R ds = LeavesInM F n P fn t' R ds
 | [] => by
  funext u w
  unfold LeavesInM LeavesIn
  cases u <;> simp [h]
 | d :: ds => by
  funext u w
  unfold LeavesInM
  rw [leavesM_tmps h ds]
theorem panic_putM {F : Fence} {n : Nat} {P : Program} {fn : Func} {R : Ending → World → Prop} {d : Nat} {c : List PanicEntry} {a : Act} {v : Value} {w : World} (hr : ∀ t t', results fn t = results fn t') (h : bodyPostM F n P fn R (.panic c) (a.put (some d) v) w) : bodyPostM F n P fn R (.panic c) a w := by
 have h2 : LeavesInM F n P fn (a.put (some d) v).tmps R a.defers (.panicking c) w := h
 rw [leavesM_tmps (hr _ a.tmps)] at h2
 exact h2
/-- 'clear' of a slice of n elements at the beginning of a row -/
theorem run_clear_row {P : Program} (w : World) (t e ty : TypeId) (z : Value) (ht : P.underlying t = some (.slice e)) (hv : ∀ w, (zeroValue e).run P w = .ok z w) (p n c : Nat) (cur : List Value) (hn : 0 < n) (hr : Row w p e cur) (hfit : (Builtin.zeroCells z.cells n).toList.length ≤ cur.length) (h1 : ∀ v ∈ (Builtin.zeroCells z.cells n).toList, v.oneCell' = true) :
 (Builtin.clear_ #[t] ty #[.slice (some ⟨p, 0, none⟩) n c]).run P w = .ok (.tuple #[]) (w.setRow p ((Builtin.zeroCells z.cells n).toList ++ cur.drop (Builtin.zeroCells z.cells n).toList.length).toArray) := by
 have hst := run_storeCells_at P p 0 e (Builtin.zeroCells z.cells n).toList 0 cur.toArray w hr (by simpa using hfit) h1
 simp only [Nat.add_zero, Nat.zero_add, List.take_zero, List.nil_append] at hst
 obtain ⟨m, rfl⟩ : ∃ m, n = m + 1 := ⟨n - 1, by omega⟩
 simp [Builtin.clear_, run_underlying ht, hv, hst]
theorem run_clear_zero {P : Program} (w : World) (t e ty : TypeId) (ht : P.underlying t = some (.slice e)) (A : Option Addr) (c : Nat) : (Builtin.clear_ #[t] ty #[.slice A 0 c]).run P w = .ok (.tuple #[]) w := by
 cases A <;> simp [Builtin.clear_, run_underlying ht]
theorem zero_wr (W : World) : (zeroValue 71).run Try.prog W = .ok (.agg #[.int .i64 0, .slice none 0 0]) W := by kernel_rfl
theorem zeros_one (n : Nat) : ∀ v ∈ (Builtin.zeroCells (Value.agg #[.int .i64 0, .slice none 0 0]).cells n).toList, v.oneCell' = true := by
 intro v hv
 simp only [Builtin.zeroCells, Value.cells] at hv
 simp at hv
 obtain ⟨i, hi, rfl⟩ := hv
 have h2 : i % 2 = 0 ∨ i % 2 = 1 := by omega
 rcases h2 with h | h <;> simp [h, Value.oneCell']
/-- pending writes, cleared and cut to none -/
theorem clear_own {w : World} {A : Option Addr} {n cap : Nat} {xs : List Value} (h : w.ownsRow 0 71 2 (.slice A n cap) n xs) : ∃ W2, (∀ ty, (Builtin.clear_ #[65] ty #[.slice A n cap]).run Try.prog w = .ok (.tuple #[]) W2) ∧ W2.ownsRow 0 71 2 (.slice A 0 cap) 0 [] ∧ w.heap.size = W2.heap.size ∧ w.grownBy W2 (Value.slice A n cap).ownBlock := by
 rcases h.2 with ⟨e, e2⟩ | ⟨p, cap', cur, e, _, hp, hn, hm, hs, ht⟩
 ·injection e with e1 e3 e4
  subst e1 e3 e4
  exact ⟨w, fun ty => run_clear_zero w _ _ ty Try.underlying65 none 0, World.ownsRow_nil _ _ _ _, rfl, ⟨rfl, rfl, rfl, Nat.le_refl _, fun _ _ _ => rfl⟩⟩
 ·injection e with e1 e3 e4
  subst e1 e4
  by_cases h0 : n = 0
  ·subst h0
   exact ⟨w, fun ty => run_clear_zero w _ _ ty Try.underlying65 _ cap, ⟨rfl, .inr ⟨p, cap, cur, rfl, Nat.zero_le _, hp, Nat.zero_le _, hm, hs, by simp⟩⟩, rfl, ⟨rfl, rfl, rfl, Nat.le_refl _, fun _ _ _ => rfl⟩⟩
  ·have hzl : (Builtin.zeroCells (Value.agg #[.int .i64 0, .slice none 0 0]).cells n).toList.length = n * 2 := by
    rw [Array.length_toList, size_zeroCells]
    rfl
   have hr : Row w p 71 cur.toList := hp
   have hfit : n * 2 ≤ cur.toList.length := by rw [Array.length_toList, hs]; exact Nat.mul_le_mul_right _ hn
   refine ⟨_, fun ty => run_clear_row w _ _ ty _ Try.underlying65 zero_wr p n cap cur.toList (by omega) hr (by rw [hzl]; exact hfit) (zeros_one n), ⟨rfl, .inr ⟨p, cap, _, rfl, Nat.zero_le _, hr.setRow _, Nat.zero_le _, hm, ?_, by simp⟩⟩, by simp, ⟨rfl, rfl, rfl, Nat.le_of_eq (by simp), fun k _ hk => Go.setRow_other w p k _ (fun e => hk (by rw [e]; rfl))⟩⟩
   rw [List.size_toArray, List.length_append, List.length_drop, hzl]
   rw [Array.length_toList] at hfit ⊢
   omega
def PkIs (w : World) (g : Nat) (fv : Value) (e : Ending) (w' : World) : Prop := e = .returned (.func (.func 55) #[] #[.pointer (some ⟨w.heap.size, 0, none⟩), .pointer (some ⟨w.heap.size + 1, 0, none⟩)]) ∧ (w.alloc (.cells #[.pointer (some ⟨g, 0, none⟩)] 23)).alloc (.cells #[fv] 60) = w'
theorem picked_any (g f : Nat) (lb : Array Value) (w : World) : Calls Try.prog 52 #[.pointer (some ⟨g, 0, none⟩), .func (.func f) #[] lb] w (PkIs w g (.func (.func f) #[] lb)) := by
 unfold PkIs
 go_enter Try.func52, Try.ntmps52
 go_wp2
 go_ret
 exact ⟨rfl, rfl⟩
/-- a turn of what is no cells, beyond B -/
theorem But.grown {B q : Nat} {a b c : World} {row : Option Nat} (h : But B q a b) (hg : b.grownBy c row) (hB : B ≤ b.heap.size) (hr : ∀ r, row = some r → B ≤ r) : But B q a c :=
 ⟨hg.os.trans h.os, hg.tape.trans h.tape, hg.output.trans h.output, Nat.le_trans h.size hg.size, fun k hk hq => (hg.block k (by omega) (fun e => by have := hr k e.symm; omega)).trans (h.block k hk hq)⟩
theorem bc_splice {g : List (List UInt8)} (h : ∀ b ∈ g, b.length = 256) {i : Nat} (hi : i < g.length) {b : List UInt8} (hb : b.length = 256) (sp : List Value) : (Lib.byteCells g.flatten ++ sp).take (256 * i) ++ Lib.byteCells b ++ (Lib.byteCells g.flatten ++ sp).drop (256 * i + (Lib.byteCells b).length) = Lib.byteCells (g.set i b).flatten ++ sp := by
 have hl := flat_length h
 rw [← flat_set h hi hb, bc_len, hb]
 rw [List.take_append_of_le_length (by rw [bc_len]; omega), List.drop_append_of_le_length (by rw [bc_len]; omega)]
 simp [Lib.byteCells]
/-- where settle stands -/
def SeI (W0 : World) (q : Nat) (good : List (List UInt8)) (wait : List (Nat × List UInt8)) (sp : List Value) (n : Nat) (pre : List (Fin n)) (W : World) : Prop :=
 Row W q 5 (Lib.byteCells (applyL good (pre.map fun k => wait.getD k.val (0, []))).flatten ++ sp) ∧ But W0.heap.size q W0 W
theorem SeI.own (W0 : World) (q : Nat) (good : List (List UInt8)) (wait : List (Nat × List UInt8)) (sp : List Value) (n : Nat) : OwnFrom W0.heap.size (SeI W0 q good wait sp n) := by
 intro pre A C row hs hg hr
 exact ⟨(hg.block _ hs.1.lt (notcells_ne hs.1 hr)).trans hs.1, hs.2.grown hg hs.2.size (fun r e => (hr r e).1)⟩
theorem SeI.go {W0 W Z : World} {q : Nat} {good : List (List UInt8)} {wait : List (Nat × List UInt8)} {sp : List Value} {n : Nat} {pre : List (Fin n)} (h : SeI W0 q good wait sp n pre W) (b : Below W.heap.size W Z) : SeI W0 q good wait sp n pre Z :=
 ⟨h.1.go b, h.2.trans (But.of (b.mono h.2.size) q)⟩
end Go.Proofs.Ytpajdmbajopofaa
