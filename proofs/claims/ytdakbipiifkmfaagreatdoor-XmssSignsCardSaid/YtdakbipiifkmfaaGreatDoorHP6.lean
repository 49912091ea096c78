import Derived.BigRegion
import Derived.Deep.RegionWith
import Derived.Deep.RegionHeld
import Derived.BigQuiet
import Derived.Deep.QuietTactic
import Derived.StillTailTactics
import Derived.WalkKit
import Derived.Test.YtdakbipiifkmfaaGreatDoorProg
import Derived.WalkSpells
import Derived.WalkLawsBesides
import Derived.Lib.UnsafeStr
import Derived.Lib.Hide
import Derived.Laws.BytesArg
import Derived.Deep.Draws
import Derived.RegionTactic
import Derived.ChangeAlike
import Derived.Laws.AppendOwnNone
import Derived.Laws.Cover3
import Derived.RangeFuncNested
import Derived.RangeFuncBound
import Derived.RangeFuncCalls
import Derived.RangeFuncLeaves
import Derived.OwnWalkIn
import Derived.TacticsInMore
import Derived.LoopNIn
import Derived.LoopIn
import Derived.RangeFuncBox
import Derived.RangeFuncWrites
import Derived.Maps.AppendAt
import Derived.Deep.MidRow
import Derived.Deep.WholeRow
import Derived.Deep.RegionHeld3
import Derived.Test.YtdakbipiifkmfaaGreatDoorRows
import Derived.ProofKit
import Derived.OpenShut
import Derived.JoinedCond
import Derived.SizedLaws
import Derived.Carry
import Derived.Deep.Grids
import Derived.Lib.ConvBytes
import Derived.Lib.AtoiErrMem
import Derived.Laws.AppendOwn
import Derived.Deep.RegionLaw
import Derived.Laws.CopyOwn
import Derived.DeepKeys
import Derived.Lib.SmallJoins
import Derived.Laws.EntriesVeiled
import Derived.Test.YtdakbipiifkmfaaGreatDoorHK
import Derived.Test.YtdakbipiifkmfaaGreatDoorHX
namespace Go.Proofs.YtdakbipiifkmfaaGreatDoor
open Go.RowKit
set_option maxRecDepth 100000
attribute [local go_sem] Oper.semAt_some
section
variable {P : Program} {ops : Array Oper} {Q : Exit -> Act -> World -> Prop} {n : Nat}
theorem oper_wide {o : Oper} {a : Act} {w : World} {K : Act -> World -> Prop} (h : o.wp P a w K Q) : o.wpIn Fence.wide n P a w K Q := by
 refine ⟨fun f _ => trivial, ?_⟩;have hs : o.semAt Fence.wide.round a.eval = execOp a.eval o := by
  show o.semAt none a.eval = _;simp [Oper.semAt]
 rw [hs];unfold Oper.wp at h;generalize (execOp a.eval o).run P w = r at h;cases r with
 | ok nx w' =>
  cases nx with
  | value v => exact h
  | skip => exact h
  | defer d => exact h
  | enter f args => exact ⟨fun hd => (by simp [Fence.wide] at hd), callsIn_wide.2 h⟩
  | row row args =>
   refine ⟨fun hd => (by simp [Fence.wide] at hd), fun c cs _ => ?_⟩;obtain ⟨v, w2, r, s⟩ := h c cs;exact ⟨v, w2, r, stepsIn_wide.2 s⟩
  | _ => exact h.elim
 | halt c w' =>
  cases c with
  | panic v => exact h
  | _ => exact h.elim
theorem wpOp_wide (hno : ¬ LetsOut Q) {i : Nat} {a : Act} {w : World} {K : Act -> World -> Prop} (h : wpOp P ops Q i K a w) : wpOpIn Fence.wide n P ops Q i K a w := by
 unfold wpOp at h;unfold wpOpIn;cases ho : ops[i]? with
 | none => rw [ho] at h; exact h
 | some o =>
  rw [ho] at h;simp only at h ⊢
  split
  ·rename_i hw
   rw [if_pos hw] at h;exact oper_wide (h.resolve_right fun h2 => hno h2.2)
  ·rename_i hw
   rw [if_neg hw] at h;exact ⟨fun f _ => trivial, h⟩
theorem wpAny_wide (hno : ¬ LetsOut Q) {md : Region.Mode} : ∀ (fuel : Nat) (listed : Array Bool) (a : Act) (w : World), wpAny P md ops Q fuel listed a w -> wpAnyIn Fence.wide n P md ops Q fuel listed a w
 | 0, _, _, _, h => h
 | fuel + 1, _, _, _, h => ⟨h.1, fun i hi => wpOpIn_mono (fun a' w' h' => wpAny_wide hno fuel _ a' w' h') (wpOp_wide hno (h.2 i hi))⟩
theorem region_wide {S : World -> Prop} {id : Nat} {a : Act} {w : World} (hm : P.follows .mixedOrders = true) (hno : ¬ LetsOut Q) (hS : S w.drew)
  (h : S w.drew -> wpAnyH P .any ops Q S ops.size (Array.replicate ops.size false) a w.drew) : (Code.region id ops true).wpIn Fence.wide n P Q a w :=
 wpIn_region_any hm (wpAny_wide hno _ _ _ _ (wpAny_of_held _ _ _ _ (h hS)))
end
section
variable {a : Act} {x y : Operand} {op : Oper} {w : World}
theorem load_i6 {p : Addr} {i : Int} (ho : op.op = .load 3 x) (hc : w.cell? p = some (.int .i64 i)) (hx : a.eval x = .pointer (some p)) : (execOp a.eval op).run Tryz.prog w = .ok (.value (.int .i64 i)) w := by
 unfold execOp;simp only [ho, hx]
 go_simp
theorem load_s6 {p : Addr} {A : Option Addr} {n c : Nat} (ho : op.op = .load 23 x) (hc : w.cell? p = some (.slice A n c)) (hx : a.eval x = .pointer (some p)) : (execOp a.eval op).run Tryz.prog w = .ok (.value (.slice A n c)) w := by
 unfold execOp;simp only [ho, hx]
 go_simp
theorem min_6 {n m : Nat} (h : n <= m) (ho : op.op = .call { callee := .builtin .min, args := #[x, y], argTypes := #[3, 3] }) (hx : a.eval x = .int .i64 (n : Int)) (hy : a.eval y = .int .i64 (m : Int)) : (execOp a.eval op).run Tryz.prog w = .ok (.value (.int .i64 (n : Int))) w := by
 have hc : ¬ (m : Int) < (n : Int) := by omega
 have hmin : min (n : Int) (m : Int) = (n : Int) := Int.min_eq_left (by omega);unfold execOp;simp only [ho, resolve, invoke, builtin, Sem.run_bind, Sem.run_pure, Result.andThen_ok, List.map_toArray, List.map_cons, List.map_nil, hx, hy]
 go_simp
theorem from_6 {b off n c p : Nat} (hp : p < n) (hn : n <= c) (w : World) : (Instr.sliceAt 23 (.slice (some ⟨b, off, none⟩) n c) (some (.int .i64 (p : Int))) none none).run Tryz.prog w = .ok (.slice (some ⟨b, off + p, none⟩) (n - p) (c - p)) w := by
 have e2 : ¬ c = p := by omega
 rw [run_sliceAt_slice _ _ _ _ _ _ slice30, run_slice_l w 23 (some ⟨b, off, none⟩) n c slice30 .i64 (p : Int) (by omega) (by omega), elem30, run_sizeOf_u8, Result.andThen_ok, Int.toNat_natCast]
 by_cases h0 : p = 0
 ·subst h0;simp [sliced, Addr.add, e2]
 ·simp [sliced, Addr.add, e2, h0]
theorem shr_32 {i h q : Nat} (hq : q = i / 2 ^ h) (hh : h <= 32) (ho : op.op = .binOp .shr 22 x y 3) (hx : a.eval x = .int .u32 (i : Int)) (hy : a.eval y = .int .i64 (h : Int)) : (execOp a.eval op).run Tryz.prog w = .ok (.value (.int .u32 (q : Int))) w := by
 have hmin : min h 32 = h := Nat.min_eq_left hh;subst hq;unfold execOp;simp only [ho, hx, hy]
 go_simp
theorem shl_32 {i h q : Nat} (hq : q = i * 2 ^ h) (hh : h <= 32) (hi : q < 4294967296) (ho : op.op = .binOp .shl 22 x y 3) (hx : a.eval x = .int .u32 (i : Int)) (hy : a.eval y = .int .i64 (h : Int)) : (execOp a.eval op).run Tryz.prog w = .ok (.value (.int .u32 (q : Int))) w := by
 have hmin : min h 32 = h := Nat.min_eq_left hh;have hw : IntKind.u32.wrap ((i : Int) * 2 ^ h) = (q : Int) := by
  have e : (i : Int) * 2 ^ h = ((i * 2 ^ h : Nat) : Int) := by push_cast; rfl
  rw [e, <- hq, IntKind.wrap_u32];omega
 unfold execOp;simp only [ho, hx, hy]
 go_simp
end
def ckE (b off N L : Nat) (k : Fin L) : Array Value := #[.slice (some ⟨b, off + k.val * N, none⟩) N N]
def upF (n t : Nat) : List (Fin n) := (List.range t).filterMap fun i => if h : i < n then some ⟨i, h⟩ else none
theorem upF_succ {n t : Nat} (h : t < n) : upF n (t + 1) = upF n t ++ [⟨t, h⟩] := by
 unfold upF;rw [List.range_succ, List.filterMap_append];simp only [List.filterMap_cons, List.filterMap_nil];rw [dif_pos h]
theorem upF_length {n t : Nat} (h : t <= n) : (upF n t).length = t := by
 induction t with
 | zero => rfl
 | succ t ih => rw [upF_succ (by omega), List.length_append, ih (by omega)]; rfl
theorem upF_map {n : Nat} (f : Nat -> Value) (t : Nat) (h : t <= n) : (upF n t).map (fun k => f k.val) = (List.range t).map f := by
 induction t with
 | zero => rfl
 | succ t ih => rw [upF_succ (by omega), List.map_append, ih (by omega), List.range_succ, List.map_append]; rfl
set_option maxHeartbeats 4000000 in
theorem chunk_in (l bS bN n₀ b off N L c : Nat) (hN : 0 < N) (hL : L <= 100) (hb : N <= 100) (hc : L * N <= c) (hS1 : bS < n₀) (hN1 : bN < n₀) (J Jx : List (Fin L) -> World -> Prop) (W : World) (hJ : AbidesFrom W.heap.size J)
  (hY : ∀ pre x W1, J pre W1 -> pre.length < 101 -> YieldAt Fence.wide 2 Tryz.prog l (ckE b off N L x) W1 fun e W' =>
   (e = .returned (.bool true) /\ J (pre ++ [x]) W' /\ Below n₀ W1 W') ∨ (e = .returned (.bool false) /\ Jx (pre ++ [x]) W'))
  (hB : Row W bS 23 [.slice (some ⟨b, off, none⟩) (L * N) c]) (hg : Row W bN 3 [.int .i64 (N : Int)]) (h0 : J [] W) :
  CallsIn Fence.wide 3 Tryz.prog 132 (#[.func (.yield l) #[] #[]] ++ #[.pointer (some ⟨bS, 0, none⟩), .pointer (some ⟨bN, 0, none⟩)]) W fun e W' => (∃ v, e = .returned v) /\ ((∃ xs, xs = upF L L /\ J xs W') ∨ (∃ pre : List (Fin L), True /\ Jx pre W')) := by
 have H0 : Shh (J (upF L 0) W /\ Below n₀ W W) := ⟨h0, Below.refl _ _⟩;have HB : Shh (∀ Z, Below n₀ W Z -> Z.cell? ⟨bS, 0, none⟩ = some (.slice (some ⟨b, off, none⟩) (L * N) c) /\ Z.cell? ⟨bN, 0, none⟩ = some (.int .i64 (N : Int))) := ⟨fun Z hZ => ⟨(hZ.cell (p := ⟨bS, 0, none⟩) hS1).trans (hB.cell 0), (hZ.cell (p := ⟨bN, 0, none⟩) hN1).trans (hg.cell 0)⟩⟩;have HY := Shh.mk hY;have HJ := Shh.mk hJ;obtain ⟨T, hT⟩ : ∃ T, T = L * N := ⟨_, rfl⟩
 have HA : Shh ((∀ k, k < L -> k * N + N <= T) /\ L * N = T /\ T <= 10000 /\ T <= c) := ⟨fun k hk => by
  rw [hT, <- Nat.succ_mul]
  exact Nat.mul_le_mul_right N hk, hT.symm, by rw [hT]; exact Nat.mul_le_mul hL hb, by rw [hT]; exact hc⟩
 rw [<- hT] at HB;clear hY h0 hB hg hT hc hJ;refine callsIn_of_wp Tryz.func132 rfl trivial ?_ rfl;simp only [Tryz.ntmps132, List.size_toArray, List.length_cons, List.length_nil, Nat.reduceAdd, Nat.reduceSub, Array.replicate_succ, Array.replicate_zero, List.push_toArray, List.append_toArray, List.nil_append, List.cons_append]
 gi_wp2
 gi_loopw [4] (fun i wr => ∃ k p : Nat, k <= L /\ Shh (p = k * N) /\ i = .int .i64 (p : Int) /\ p <= T /\ Shh (J (upF L k) wr /\ Below n₀ W wr)) (fun i _ => T - (intOf i).toNat)
 case atStart => exact ⟨0, 0, Nat.zero_le _, ⟨by simp⟩, rfl, Nat.zero_le _, H0⟩
 case round =>
  clear H0;obtain ⟨k, p, hk, hp, rfl, hpT, H⟩ := hrel;have hc1 := (HB.out wr H.out.2).1;have hc2 := (HB.out wr H.out.2).2
  by_cases hlt : k < L
  ·have hq := HA.out.1 k hlt;rw [<- hp.out] at hq;have hlt' : (p : Int) < (T : Int) := by omega
   have HX : Shh (p < T /\ T <= c /\ N <= T - p /\ p + N <= T /\ T <= 10000) := ⟨by omega, HA.out.2.2.2, by omega, hq, HA.out.2.2.1⟩
   gi_wp2_with fail
   refine region_wide (S := fun w' => w'.cell? ⟨bS, 0, none⟩ = some (.slice (some ⟨b, off, none⟩) T c) /\ w'.cell? ⟨bN, 0, none⟩ = some (.int .i64 (N : Int))) (by kernel_rfl) (by rintro ⟨a, w, ⟨v, hv⟩, _⟩; cases hv) ⟨hc1, hc2⟩ (fun hS => ?_);obtain ⟨V, hV⟩ : ∃ V, V = World.drew wr := ⟨_, rfl⟩;rw [<- hV] at hS ⊢;have HV : Shh (J (upF L k) V /\ Below n₀ W V) := ⟨by rw [hV]; exact HJ.out _ _ _ none H.out.1 ⟨rfl, rfl, rfl, Nat.le_refl _, fun _ _ _ => rfl⟩ (fun r e => by cases e), by rw [hV]; exact H.out.2.drew⟩;clear hV H hc1 hc2 hlt' hq;refine hdv 0 13 (.int .i64 (N : Int)) (by rfl) (fun w hS => load_i6 rfl hS.2 (by kernel_rfl)) (hS) ?_;refine hdv 1 14 (.slice (some ⟨b, off, none⟩) T c) (by rfl) (fun w hS => load_s6 rfl hS.1 (by kernel_rfl)) (hS) ?_;refine hdv0 2 15 (.int .i64 (p : Int)) (by rfl) (hS) ?_;refine hdv 3 16 (.slice (some ⟨b, off + p, none⟩) (T - p) (c - p)) (by rfl) (fun w hS => run_slice_op_lo ⟨rfl, rfl⟩ (from_6 HX.out.1 HX.out.2.1 w)) (hS) ?_;refine hdv0 4 17 (.int .i64 ((T - p : Nat) : Int)) (by rfl) (hS) ?_;refine hdv 5 18 (.int .i64 (N : Int)) (by rfl) (fun w hS => min_6 HX.out.2.2.1 rfl (by kernel_rfl) (by kernel_rfl)) (hS) ?_;refine hdv0 6 5 (.int .i64 (N : Int)) (by rfl) (hS) ?_;refine wpAnyH_done (by kernel_rfl) ?_ _;have hd1 := hS.1;have hd2 := hS.2;clear hS;obtain ⟨fn, tmps, assign, body, hy, hR⟩ := HY.out _ ⟨k, hlt⟩ V HV.out.1 (by rw [upF_length hk]; omega);have hy2 : (Instr.yield l #[.slice (some ⟨b, off + p, none⟩) N N]).run Tryz.prog V = .ok (.round l fn tmps assign body) V := by have h := hy; unfold ckE at h; rw [<- hp.out] at h; exact h
   have HR := Shh.mk hR;clear hy hR;have hs1 : IntKind.i64.wrap ((p : Int) + (N : Int)) = (p : Int) + (N : Int) := by have := HX.out; rw [IntKind.wrap_i64]; omega
   have hs2 : 0 <= (p : Int) + (N : Int) /\ (p : Int) + (N : Int) <= (c : Int) := by have := HX.out; omega
   have hs3 : 0 <= (p : Int) /\ (p : Int) <= (p : Int) + (N : Int) := by omega
   gi_wp2_with (refine HR.out.mono ?_)
   rintro e W3 (⟨rfl, hJ3, hk3⟩ | ⟨rfl, hJx3⟩)
   ·have F3 : Shh (J (upF L (k + 1)) W3 /\ Below n₀ W W3) := ⟨by rw [upF_succ hlt]; exact hJ3, HV.out.2.trans hk3⟩;have hd3 := (HB.out W3 F3.out.2).2;have hs1 : IntKind.i64.wrap ((p : Int) + (N : Int)) = (p : Int) + (N : Int) := by have := HX.out; rw [IntKind.wrap_i64]; omega
    clear HV hJ3 hk3 hy2 hd1 hd2 HR
    gi_wp2
    go_roundw
    case rel => exact ⟨k + 1, p + N, hlt, ⟨by rw [hp.out, Nat.succ_mul]⟩, by go_num, HX.out.2.2.2.1, F3⟩
    case measure => have := HX.out; simp [intOf]; omega
   ·have F3 := Shh.mk hJx3;clear HV hJx3 hy2 hd1 hd2 HR
    gi_wp2
    refine bodyPost_ret (results_none rfl _ _ _) rfl ?_;exact ⟨⟨_, rfl⟩, .inr ⟨_, trivial, F3.out⟩⟩
  ·obtain rfl : k = L := by omega
   have hpe : p = T := by rw [hp.out]; exact HA.out.2.1
   have hlt' : ¬ (p : Int) < (T : Int) := by omega
   have HE : Shh (J (upF k k) wr) := ⟨H.out.1⟩;clear H
   gi_wp2
   go_end0
   exact ⟨⟨_, rfl⟩, .inl HE.out⟩
def ckV (b off N k : Nat) : Value := .slice (some ⟨b, off + k * N, none⟩) N N
def CkIs (w : World) (b off N L : Nat) (e : Ending) (w' : World) : Prop := ∃ v, e = .returned v /\ w'.ownsRow w.heap.size 23 1 v L ((List.range L).map (ckV b off N)) /\ Below w.heap.size w w'
theorem info_parts6 : (Tryz.prog.info? 23).map (fun i => (i.zero, i.size, i.bytes)) = some (some (.slice none 0 0), 1, 24) := by kernel_rfl
set_option maxHeartbeats 4000000 in
theorem appendSeq_any (bS bN b off N L c : Nat) (hN : 0 < N) (hL : L <= 100) (hb : N <= 100) (hc : L * N <= c) (w : World) (hB : Row w bS 23 [.slice (some ⟨b, off, none⟩) (L * N) c]) (hg : Row w bN 3 [.int .i64 (N : Int)]) :
  Calls Tryz.prog 131 #[.slice none 0 0, .func (.func 132) #[] #[.pointer (some ⟨bS, 0, none⟩), .pointer (some ⟨bN, 0, none⟩)]] w (CkIs w b off N L) := by
 unfold CkIs;obtain ⟨i0, hi, hz0, hz1, hz2⟩ := info_parts info_parts6;have HSQ : Shh (∀ W, Below w.heap.size w W -> Row W bS 23 [.slice (some ⟨b, off, none⟩) (L * N) c] /\ Row W bN 3 [.int .i64 (N : Int)]) := ⟨fun W h => ⟨hB.go h, hg.go h⟩⟩;have hS1 := hB.lt;have hN1 := hg.lt;clear hB hg;refine (callsIn_wide (n := 4)).1 ?_;refine callsIn_of_wp_marks Tryz.func131 rfl trivial ?_ rfl;simp only [Tryz.ntmps131, List.size_toArray, List.length_cons, List.length_nil, Nat.reduceAdd, Nat.reduceSub, Array.replicate_succ, Array.replicate_zero, List.push_toArray, List.append_toArray, List.nil_append, List.cons_append]
 gi_wp2
 have bO := Boxed.new w 82 (.slice none 0 0);have hB0 : Below w.heap.size w (w.alloc (.cells #[.slice none 0 0] 82)) := (Below.refl _ w).alloc (Nat.le_refl _) _;refine wpIn_rangeFunc_ownG (F := Fence.wide) rfl (by omega) (gf := 132) (lb := #[.pointer (some ⟨bS, 0, none⟩), .pointer (some ⟨bN, 0, none⟩)]) rfl trivial (fun _ _ => rfl)
  (encs := ckE b off N L) (Kp := Below w.heap.size) (S := fun ys => ys = upF L L) (Sp := fun _ => True) (N := 101) (w0 := w)
  (fun l J Jx W hW hJ _ hY h0 => chunk_in l bS bN w.heap.size b off N L c hN hL hb hc hS1 hN1 J Jx W hJ hY (HSQ.out W hW).1 (HSQ.out W hW).2 h0)
  belowK_t (belowK_b (by simp)) hB0 (fun _ => rfl)
  (fun (pre : List (Fin L)) W => (∃ v, Boxed W w.heap.size 82 v /\ W.ownsRow w.heap.size 23 1 v pre.length (pre.map fun k => ckV b off N k.val) /\ True) /\ Below w.heap.size w W)
  (fun _ _ _ => False)
  (OwnFrom.and (Own.from (holdsRow_own w.heap.size w.heap.size 82 23 1 (fun pre : List (Fin L) => pre.length) (fun pre : List (Fin L) => pre.map fun k : Fin L => ckV b off N k.val) (fun _ _ => True)) _) (ownFrom_below (Nat.le_refl _) (by simp)))
  (fun _ _ _ _ _ hs _ _ => hs)
  ⟨⟨_, bO, World.ownsRow_nil _ _ _ _, trivial⟩, hB0⟩
  (fun x => { tmps := #[.slice none 0 0, .func (.func 132) #[] #[.pointer (some ⟨bS, 0, none⟩), .pointer (some ⟨bN, 0, none⟩)], .pointer (some ⟨w.heap.size, 0, none⟩), undef, .slice none 0 0, ckV b off N x.val, .func (.func 132) #[] #[.pointer (some ⟨bS, 0, none⟩), .pointer (some ⟨bN, 0, none⟩)], ckV b off N x.val, undef, undef, undef, undef, undef], defers := [] }) ?assign ?body ?done ?stop
 case assign =>
  intro l x W K hK;unfold ckE;unfold ckV at hK
  gi_wp2
  exact hK
 case body =>
  rintro l pre x W ⟨⟨v, hv, hrow, _⟩, hBW⟩ hlt;have hcl := hv.cell;unfold ckV
  gi_wp2_with (gi_at_builtin; refine wpListIn_append_own _ rfl _ _ 82 rfl w.heap.size 23 i0 (.slice none 0 0) 1 24 Tryz.underlying82 hi hz0 hz1 hz2 rfl (by decide) _ _ _ rfl (hrow.alloc _) ⟨W.heap.size, 0, none⟩ 1 1 [.slice (some ⟨b, off + x.val * N, none⟩) N N] rfl rfl (cell_one_new _ _ _) (by simp [Value.oneCell']) (by unfold maxLen; omega) (by omega) (by have := hBW.size; simp; omega) ?_; intro v' w1 hown' hgrow _; obtain ⟨g', cap', rfl⟩ := ownsRow_succ hown'; obtain ⟨hv1, hv2, hr2, hk2, hb2⟩ := hv.appended (by decide) hrow hBW.size (Nat.le_refl _) hown' hgrow; have hc1 := hv1.cell; have hf1 := hv1.frozen)
  exact ⟨hk2.from _, hb2, ⟨_, hv2, by rw [List.length_append, List.map_append]; exact hr2, trivial⟩, hBW.trans hb2⟩
 case done =>
  rintro D ys W hD rfl ⟨⟨v, hv, hrow, _⟩, hBW⟩ hK;have hcl := hv.cell
  gi_wp2
  refine ⟨by simp, .inl ⟨_, _, rfl, run_takeDeferred hK, ?_⟩⟩;have hrow2 : W.ownsRow w.heap.size 23 1 v L ((List.range L).map (ckV b off N)) := by
   have h := hrow;rw [upF_length (Nat.le_refl _), upF_map (ckV b off N) L (Nat.le_refl _)] at h;exact h
  exact ⟨_, results_tmp rfl _ _ _, v, rfl, ownsRow_putObj hrow2 _ hK rfl, hBW.trans (belowK_b (w := w) (Nat.le_refl _) W D _ _ (by simp at hD; omega) hK rfl rfl)⟩
 case stop =>
  rintro D c pre W _ _ h _;exact h.elim
theorem collect_any (bS bN b off N L c : Nat) (hN : 0 < N) (hL : L <= 100) (hb : N <= 100) (hc : L * N <= c) (w : World) (hB : Row w bS 23 [.slice (some ⟨b, off, none⟩) (L * N) c]) (hg : Row w bN 3 [.int .i64 (N : Int)]) :
  Calls Tryz.prog 106 #[.func (.func 132) #[] #[.pointer (some ⟨bS, 0, none⟩), .pointer (some ⟨bN, 0, none⟩)]] w (CkIs w b off N L) := by
 have HA := Shh.mk (appendSeq_any bS bN b off N L c hN hL hb hc w hB hg);clear hB hg;unfold CkIs at HA ⊢;go_enter Tryz.func106, Tryz.ntmps106
 go_wp2_with (go_at_call 131; refine HA.out.mono ?_)
 rintro e w2 ⟨v, rfl, ho, bw⟩;have HR := Shh.mk (And.intro ho bw);clear ho bw HA;go_wp2;go_ret;exact ⟨_, rfl, HR.out⟩
def ChunkIs (A : Option Addr) (n c N : Nat) (w : World) (e : Ending) (w' : World) : Prop := e = .returned (.func (.func 132) #[] #[.pointer (some ⟨w.heap.size, 0, none⟩), .pointer (some ⟨w.heap.size + 1, 0, none⟩)]) /\ Row w' w.heap.size 23 [.slice A n c] /\ Row w' (w.heap.size + 1) 3 [.int .i64 (N : Int)] /\ Below w.heap.size w w'
theorem chunk_any (A : Option Addr) (n c N : Nat) (hN : 0 < N) (w : World) : Calls Tryz.prog 107 #[.slice A n c, .int .i64 (N : Int)] w (ChunkIs A n c N w) := by
 unfold ChunkIs;have hn : ¬ (N : Int) < 1 := by omega
 have HW : Shh (Row ((w.alloc (.cells #[.slice A n c] 23)).alloc (.cells #[.int .i64 (N : Int)] 3)) w.heap.size 23 [.slice A n c] /\ Row ((w.alloc (.cells #[.slice A n c] 23)).alloc (.cells #[.int .i64 (N : Int)] 3)) (w.heap.size + 1) 3 [.int .i64 (N : Int)] /\ Below w.heap.size w ((w.alloc (.cells #[.slice A n c] 23)).alloc (.cells #[.int .i64 (N : Int)] 3))) := ⟨(Row.new_ rfl rfl).alloc _, Row.new_ (by rw [asz]) rfl, Below.chain (below1 _ _) (below1 _ _)⟩;go_enter Tryz.func107, Tryz.ntmps107;go_wp2;go_ret;exact ⟨rfl, HW.out⟩
end Go.Proofs.YtdakbipiifkmfaaGreatDoor
