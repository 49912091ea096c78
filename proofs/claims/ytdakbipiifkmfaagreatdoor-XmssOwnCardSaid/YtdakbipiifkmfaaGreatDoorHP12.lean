import Derived.BigQuiet
import Derived.Deep.QuietTactic
import Derived.StillTailTactics
import Derived.WalkKit
import Derived.Test.YtdakbipiifkmfaaGreatDoorProg
import Derived.WalkSpells
import Derived.WalkLawsBesides
import Derived.Lib.UnsafeStr
import Derived.Lib.Hide
import Derived.Laws.BytesArg
import Derived.Deep.Draws
import Derived.RegionTactic
import Derived.ChangeAlike
import Derived.Laws.AppendOwnNone
import Derived.Deep.MidRow
import Derived.Deep.WholeRow
import Derived.BigRegion
import Derived.Deep.RegionHeld3
import Derived.Lib.SliceRun
import Derived.Lib.ConvBytes
import Derived.Lib.AtoiErrMem
import Derived.Laws.AppendOwn
import Derived.Deep.RegionLaw
import Derived.Laws.EntriesVeiled
import Derived.Deep.RegionWith
import Derived.Deep.RegionHeld
import Derived.Maps.AppendAt
import Derived.Laws.Cover3
import Derived.RangeFuncNested
import Derived.RangeFuncBound
import Derived.RangeFuncCalls
import Derived.RangeFuncLeaves
import Derived.OwnWalkIn
import Derived.TacticsInMore
import Derived.LoopNIn
import Derived.LoopIn
import Derived.RangeFuncBox
import Derived.RangeFuncWrites
import Derived.Test.YtdakbipiifkmfaaGreatDoorRows
import Derived.ProofKit
import Derived.OpenShut
import Derived.JoinedCond
import Derived.SizedLaws
import Derived.Carry
import Derived.Deep.Grids
import Derived.Laws.CopyOwn
import Derived.DeepKeys
import Derived.Lib.SmallJoins
import Derived.Test.YtdakbipiifkmfaaGreatDoorHP10
namespace Go.Proofs.YtdakbipiifkmfaaGreatDoor
open Go.RowKit
set_option maxRecDepth 100000
theorem info_node : (Tryz.prog.info? 108).map (·.size) = some 2 := by kernel_rfl
theorem info_node3 : (Tryz.prog.info? 108).map (fun i => (i.zero, i.size, i.bytes)) = some (some (.agg #[.int .i64 0, .slice none 0 0]), 2, 32) := by kernel_rfl
theorem oneNode {h : Int} {A : Option Addr} {n c : Nat} : ∀ u ∈ [Value.int .i64 h, .slice A n c], u.oneCell' = true := by
 intro u hu;simp only [List.mem_cons, List.not_mem_nil, or_false] at hu
 rcases hu with rfl | rfl <;> rfl
theorem sliceN : Tryz.prog.underlying 102 = some (.slice (Tryz.prog.elem 102)) := by kernel_rfl
theorem elemN : Tryz.prog.elem 102 = 108 := by kernel_rfl
theorem run_sizeN (w : World) : (sizeOf 108).run Tryz.prog w = .ok 2 w := by kernel_rfl
theorem zero_node (w : World) : (zeroValue 108).run Tryz.prog w = .ok (.agg #[.int .i64 0, .slice none 0 0]) w := by kernel_rfl
theorem headN (g n c j : Nat) (hj : j <= c) (w : World) : (Instr.sliceAt 102 (.slice (some ⟨g, 0, none⟩) n c) none (some (.int .i64 (j : Int))) none).run Tryz.prog w = .ok (.slice (some ⟨g, 0, none⟩) j c) w := by
 have h : (Instr.sliceAt 102 (.slice (some ⟨g, 0, none⟩) n c) none (some (.int .i64 (j : Int))) none).run Tryz.prog w = .ok (sliced (some ⟨g, 0, none⟩) 0 j c 2) w := by
  rw [run_sliceAt_slice _ _ _ _ _ _ sliceN, run_slice_h w 102 (some ⟨g, 0, none⟩) n c sliceN .i64 (j : Int) (by omega) (by omega), elemN, run_sizeN, Result.andThen_ok, Int.toNat_natCast]
 rw [h];unfold sliced;simp [Addr.add]
theorem tailN (g n c : Nat) (hc : n + 1 <= c) (w : World) : (Instr.sliceAt 102 (.slice (some ⟨g, 0, none⟩) (n + 1) c) (some (.int .i64 (n : Int))) none none).run Tryz.prog w = .ok (.slice (some ⟨g, n * 2, none⟩) 1 (c - n)) w := by
 have h : (Instr.sliceAt 102 (.slice (some ⟨g, 0, none⟩) (n + 1) c) (some (.int .i64 (n : Int))) none none).run Tryz.prog w = .ok (sliced (some ⟨g, 0, none⟩) n (n + 1) c 2) w := by
  rw [run_sliceAt_slice _ _ _ _ _ _ sliceN, run_slice_l w 102 (some ⟨g, 0, none⟩) (n + 1) c sliceN .i64 (n : Int) (by omega) (by omega), elemN, run_sizeN, Result.andThen_ok, Int.toNat_natCast]
 rw [h];unfold sliced;rw [if_neg (by omega), Nat.add_sub_cancel_left];show Result.ok (Value.slice (some (Addr.add ⟨g, 0, none⟩ (n * 2))) 1 (c - n)) w = _;rw [addr_add, Nat.zero_add]
section
variable {a : Act} {x y : Operand} {op : Oper} {w : World}
theorem load_n {p : Addr} {A : Option Addr} {n c : Nat} (ho : op.op = .load 102 x) (hc : w.cell? p = some (.slice A n c)) (hx : a.eval x = .pointer (some p)) : (execOp a.eval op).run Tryz.prog w = .ok (.value (.slice A n c)) w := by
 unfold execOp;simp only [ho, hx]
 go_simp
theorem sub_oneN {n : Nat} (h : n <= 1000000) (ho : op.op = .binOp .sub 3 x (.const (.int .i64 1)) 3) (hx : a.eval x = .int .i64 ((n + 1 : Nat) : Int)) : (execOp a.eval op).run Tryz.prog w = .ok (.value (.int .i64 (n : Int))) w := by
 have hc : a.eval (.const (.int .i64 1)) = .int .i64 1 := rfl;have hw : IntKind.i64.wrap (((n + 1 : Nat) : Int) - 1) = (n : Int) := by rw [IntKind.wrap_i64]; omega
 obtain ⟨m, hm⟩ : ∃ m : Int, m = ((n + 1 : Nat) : Int) := ⟨_, rfl⟩;have hw2 : IntKind.i64.wrap (n : Int) = (n : Int) := by rw [IntKind.wrap_i64]; omega
 have hm1 : m - 1 = (n : Int) := by omega
 rw [<- hm] at hx hw;clear hm;unfold execOp;simp only [ho, hx, hc]
 go_simp
theorem index_n (b k n c : Nat) (hk : k < n) (ho : op.op = .indexAddr 102 x y) (hx : a.eval x = .slice (some ⟨b, 0, none⟩) n c) (hy : a.eval y = .int .i64 (k : Int)) (w : World) : (execOp a.eval op).run Tryz.prog w = .ok (.value (.pointer (some ⟨b, k * 2, none⟩))) w := by
 have h0 : (0 : Int) <= (k : Int) := by omega
 have h1 : (k : Int) < (n : Int) := by omega
 unfold execOp;simp only [ho, hx, hy]
 go_simp
theorem store_n {p : Addr} {v : Value} {A : Option Addr} {n c : Nat} (ho : op.op = .store 102 x y) (hx : a.eval x = .pointer (some p)) (hy : a.eval y = .slice A n c) (hc : w.cell? p = some v) (hf : w.frozen? p = false) : (execOp a.eval op).run Tryz.prog w = .ok .skip (w.setCell p (.slice A n c)) := by
 unfold execOp;simp only [ho, hx, hy]
 go_simp
theorem clear_n {b o c : Nat} (ho : op.op = .call { callee := .builtin .clear, args := #[x], argTypes := #[102] }) (hx : a.eval x = .slice (some ⟨b, o, none⟩) 1 c) (hc : ∀ j, j < 2 -> (w.cell? ⟨b, o + j, none⟩).isSome = true) (hf : ∀ j, j < 2 -> w.frozen? ⟨b, o + j, none⟩ = false) :
  (execOp a.eval op).run Tryz.prog w = .ok (.value (.tuple #[])) (w.setCells b o [.int .i64 0, .slice none 0 0]) := by
 have h := run_clear_node (P := Tryz.prog) w 102 108 op.type (.int .i64 0) (.slice none 0 0) Tryz.underlying102 zero_node rfl rfl rfl b o c hc hf;unfold execOp;simp only [ho, resolve, invoke, builtin, Sem.run_bind, Sem.run_pure, Result.andThen_ok, List.map_toArray, List.map_cons, List.map_nil, hx, h]
end
theorem step_appendO {P : Program} {md : Region.Mode} {ops : Array Oper} {Q : Exit -> Act -> World -> Prop} {S : World -> Prop} {fuel : Nat} {listed : Array Bool} {a : Act} (w : World) (i : Nat) (ty : TypeId) (dst : Option Tmp) (t : TypeId) (e : TypeId) (i0 : TypeInfo) (z : Value) (size bytes : Nat) (ht : P.underlying t = some (.slice e)) (hi : P.info? e = some i0) (hz : i0.zero = some z) (hsz : i0.size = size) (hby : i0.bytes = bytes) (hzc : z.cells.size = size) (hs0 : 0 < size)
 (s x : Operand) (hop : (ops[i]?).map (fun o => (o.op, o.type, o.dst)) = some (.call { callee := .builtin .append, args := #[s, x], argTypes := #[t, t] }, ty, dst)) (hw : (ops[i]?).map (fun o => Region.wanted o (yielded ops a.tmps)) = some true)
 {base n m c : Nat} {v : Value} {xs news : List Value} {ad : Addr} (hown : w.ownsRow base e size v n xs) (hs : a.eval s = v) (hx : a.eval x = .slice (some ad) m c) (hl : news.length = m * size) (hnews : ∀ j u, news[j]? = some u -> w.cell? (ad.add j) = some u) (h1 : ∀ u ∈ news, u.oneCell' = true)
 (h63 : n + m <= maxLen) (hbytes : (n + m) * bytes <= 140737488355328) (hbase : base <= w.heap.size)
 (h : ∀ v' w', w'.ownsRow base e size v' (n + m) (xs ++ news) -> w.grownBy w' v.ownBlock -> (v'.ownBlock = v.ownBlock ∨ v'.ownBlock = some w.heap.size) -> S w' /\ wpAnyH P md ops Q S fuel (listed.setIfInBounds i true) (a.put dst v') w') : HStep P md ops Q S fuel listed a w i := by
 unfold HStep;cases hoo : ops[i]? with
 | none => rw [hoo] at hop; cases hop
 | some op =>
  rw [hoo] at hop hw;simp only [Option.map_some, Option.some.injEq, Prod.mk.injEq] at hop hw;obtain ⟨hop1, _, hop3⟩ := hop;refine wpOp_step hoo fun K' hK => ?_
  rw [if_pos hw];obtain ⟨v', w', hr, ho', hg, _, hat⟩ := run_append_own_at (P := P) w base t op.type e i0 z size bytes ht hi hz hsz hby hzc hs0 v n xs hown ad m c news hl hnews h1 h63 hbytes hbase;unfold Oper.wp execOp;simp only [hop1, resolve, invoke, builtin, Sem.run_bind, Sem.run_pure, Result.andThen_ok, List.map_toArray, List.map_cons, List.map_nil, hs, hx, hr];rw [<- hop3] at h;exact hK _ _ (h v' w' ho' hg hat)
def LastIs (w : World) (g : Nat) (r : Option Nat) (hh : Nat) (b : List UInt8) (e : Ending) (w' : World) : Prop := ∃ u, e = .returned (.tuple #[.agg #[.int .i64 (hh : Int), u], .bool true]) /\ Sl w' w'.heap.size u b /\ Off g u /\ (∀ k, r = some k -> Off k u) /\ Below w.heap.size w w'
theorem last_nil {P : Value -> Prop} (w : World) (base g : Nat) (T : TypeId) (pre : List Value) (r : Option Nat) (h : StkP P w base g T pre r []) : Calls Tryz.prog 80 #[.pointer (some ⟨g, pre.length, none⟩)] w (OldIs (.tuple #[.agg #[.int .i64 0, .slice none 0 0], .bool false]) w) := by
 unfold OldIs;obtain ⟨_, A, c, hr⟩ | ⟨_, _, _, h0, _⟩ := h.form
 ·have hc := (hr.alloc (.cells #[.int .i64 0, .slice none 0 0] 108)).cell pre.length;rw [List.getElem?_append_right (Nat.le_refl _), Nat.sub_self] at hc;simp only [List.getElem?_cons_zero] at hc;generalize pre.length = o at hc ⊢;clear hr h;have HB : Shh (Below w.heap.size w (w.alloc (.cells #[.int .i64 0, .slice none 0 0] 108)) /\ Row (w.alloc (.cells #[.int .i64 0, .slice none 0 0] 108)) w.heap.size 108 [.int .i64 0, .slice none 0 0]) := ⟨below1 _ _, Row.new_ rfl rfl⟩;go_enter Tryz.func80, Tryz.ntmps80;go_wp2;exact ret_rs Tryz.results80 rfl rfl rfl HB.out.2 Tryz.underlying108 rfl info_node ⟨rfl, HB.out.1⟩
 ·cases h0
set_option maxHeartbeats 2000000 in
theorem last_any {P : Value -> Prop} (w : World) (base g : Nat) (T : TypeId) (pre : List Value) (r : Option Nat) (l : List (Nat × List UInt8)) (hh : Nat) (b : List UInt8) (hl : l.length <= 1000) (h : StkP P w base g T pre r (l ++ [(hh, b)])) : Calls Tryz.prog 80 #[.pointer (some ⟨g, pre.length, none⟩)] w (LastIs w g r hh b) := by
 unfold LastIs;obtain ⟨rb, cap, u, hrb, hbb, hlt, hr, hc1, hc2, hrg, _, _, hs, hog, hor⟩ := h.last;obtain ⟨Au, cu, rfl, _, _⟩ := hs.form;obtain ⟨n, hn⟩ : ∃ n, n = l.length := ⟨_, rfl⟩;rw [<- hn] at hr hrg hl hc1;have hg1 := hr.lt;have hc := hr.cell pre.length;rw [List.getElem?_append_right (Nat.le_refl _), Nat.sub_self] at hc;simp only [List.getElem?_cons_zero] at hc;generalize pre.length = o at hc ⊢;have HS : Shh (Sl w w.heap.size (.slice Au b.length cu) b /\ Off g (.slice Au b.length cu) /\ (∀ k, r = some k -> Off k (.slice Au b.length cu)) /\ n <= 1000) := ⟨hs, hog, fun k hk => by rw [hrb] at hk; injection hk with hk; rw [<- hk]; exact hor, hl⟩;obtain ⟨W, hW⟩ : ∃ W, W = w.alloc (.cells #[.int .i64 0, .slice none 0 0] 108) := ⟨_, rfl⟩;have bW : Below w.heap.size w W := by rw [hW]; exact below1 _ _
 have HW : Shh (Row W w.heap.size 108 [.int .i64 0, .slice none 0 0] /\ W.cell? ⟨g, o, none⟩ = some (.slice (some ⟨rb, 0, none⟩) (n + 1) cap) /\ W.rangeAt rb (n * 2) [.int .i64 (hh : Int), .slice Au b.length cu] /\ Below w.heap.size w W) := ⟨by rw [hW]; exact Row.new_ rfl rfl, (bW.cell (p := ⟨g, o, none⟩) hg1).trans hc, fun j v hj => (bW.cell (p := ⟨rb, n * 2 + j, none⟩) hlt).trans (hrg j v hj), bW⟩;have HLT : Shh (g < w.heap.size /\ rb < w.heap.size) := ⟨hg1, hlt⟩;have hcW : W.cell? ⟨g, o, none⟩ = some (.slice (some ⟨rb, 0, none⟩) (n + 1) cap) := HW.out.2.1;rw [hW] at hcW;have hz : ¬ (n : Int) + 1 = 0 := by omega
 clear hr hrg hs hog hor hrb hbb hlt hg1 hc hl h hn bW;go_enter Tryz.func80, Tryz.ntmps80
 go_wp2_with fail
 rw [<- hW];clear hW hcW hz;refine wp_region_held_drew (S := fun w' => w'.cell? ⟨g, o, none⟩ = some (.slice (some ⟨rb, 0, none⟩) (n + 1) cap) /\ w'.rangeAt rb (n * 2) [.int .i64 (hh : Int), .slice Au b.length cu]) (by kernel_rfl) ⟨HW.out.2.1, HW.out.2.2.1⟩ (fun hS => ?_);obtain ⟨V, hV⟩ : ∃ V, V = World.drew W := ⟨_, rfl⟩;rw [<- hV] at hS ⊢;have rN : Row V w.heap.size 108 [.int .i64 0, .slice none 0 0] := by rw [hV]; exact HW.out.1.drew
 have HBV : Below w.heap.size w V := by rw [hV]; exact HW.out.2.2.2.drew
 clear hV HW;refine hdv0 0 11 (.pointer (some ⟨g, o, none⟩)) (by rfl) (hS) ?_;refine hdv0 1 12 (.pointer (some ⟨g, o, none⟩)) (by rfl) (hS) ?_;refine hdv0 2 13 (.pointer (some ⟨g, o, none⟩)) (by rfl) (hS) ?_;refine hdv 3 14 (.slice (some ⟨rb, 0, none⟩) (n + 1) cap) (by rfl) (fun w hS => load_n rfl hS.1 (by kernel_rfl)) (hS) ?_;refine hdv0 4 15 (.pointer (some ⟨g, o, none⟩)) (by rfl) (hS) ?_;refine hdv0 5 16 (.pointer (some ⟨g, o, none⟩)) (by rfl) (hS) ?_;refine hdv0 6 17 (.pointer (some ⟨g, o, none⟩)) (by rfl) (hS) ?_;refine hdv 7 18 (.slice (some ⟨rb, 0, none⟩) (n + 1) cap) (by rfl) (fun w hS => load_n rfl hS.1 (by kernel_rfl)) (hS) ?_;refine hdv0 8 19 (.int .i64 ((n + 1 : Nat) : Int)) (by rfl) (hS) ?_;refine hdv 9 20 (.int .i64 (n : Int)) (by rfl) (fun w hS => sub_oneN (by have := HS.out.2.2.2; omega) rfl (by kernel_rfl)) (hS) ?_;refine hdv 10 21 (.pointer (some ⟨rb, n * 2, none⟩)) (by rfl) (fun w hS => index_n rb n (n + 1) cap (Nat.lt_succ_self n) rfl (by kernel_rfl) (by kernel_rfl) _) (hS) ?_;refine held_load 11 108 (.tmp 21) (some 22) (by kernel_rfl) (by rfl) (by kernel_rfl) rb (n * 2) (by kernel_rfl) ([.int .i64 (hh : Int), .slice Au b.length cu]) _ (fun w h => h.2) Tryz.underlying108 rfl (info_node) (fun _ _ _ _ h => h) (hS) ?_;simp only [Act.put, arr9, hd9, tl9];refine held_one 12 (by kernel_rfl) ?_;refine step_storeRow 12 108 (.tmp 2) (.tmp 22) (by rfl) (by kernel_rfl) (w.heap.size) rfl ([.int .i64 (hh : Int), .slice Au b.length cu]) rfl 108 ([.int .i64 0, .slice none 0 0]) rN (info_node) (rfl) oneNode ?_;intro Y1 rN2 bt zt;replace hS : Y1.cell? ⟨g, o, none⟩ = some (.slice (some ⟨rb, 0, none⟩) (n + 1) cap) /\ Y1.rangeAt rb (n * 2) [.int .i64 (hh : Int), .slice Au b.length cu] := ⟨(bt.cell (p := ⟨g, o, none⟩) (Nat.lt_of_lt_of_le HLT.out.1 HBV.size) (Nat.ne_of_lt HLT.out.1)).trans hS.1, fun j v hj => (bt.cell (p := ⟨rb, n * 2 + j, none⟩) (Nat.lt_of_lt_of_le HLT.out.2 HBV.size) (Nat.ne_of_lt HLT.out.2)).trans (hS.2 j v hj)⟩;have nB : Below w.heap.size w Y1 := HBV.trans (bt.under HBV.size (Nat.le_refl _));refine ⟨hS, ?_⟩;refine hdv0 13 3 (.bool true) (by rfl) (hS) ?_;refine wpAnyH_done (by kernel_rfl) ?_ _;have HR : Shh (Row Y1 w.heap.size 108 [.int .i64 (hh : Int), .slice Au b.length cu] /\ Below w.heap.size w Y1) := ⟨rN2, nB⟩;clear hS nB HBV bt zt rN rN2 HLT;go_wp2;exact ret_rs Tryz.results80 rfl rfl rfl HR.out.1 Tryz.underlying108 rfl info_node ⟨_, rfl, HS.out.1.go HR.out.2, HS.out.2.1, HS.out.2.2.1, HR.out.2⟩
def StkIs (P : Value -> Prop) (w : World) (base g : Nat) (T : TypeId) (pre : List Value) (r : Option Nat) (l : List (Nat × List UInt8)) (e : Ending) (w' : World) : Prop := (∃ v, e = .returned v) /\ StkP P w' base g T pre r l /\ Stir g r w w'
set_option maxHeartbeats 2000000 in
theorem take_any {P : Value -> Prop} (w : World) (base g : Nat) (T : TypeId) (pre : List Value) (r : Option Nat) (l : List (Nat × List UInt8)) (hh : Nat) (b : List UInt8) (hl : l.length <= 1000) (h : StkP P w base g T pre r (l ++ [(hh, b)])) : Calls Tryz.prog 109 #[.pointer (some ⟨g, pre.length, none⟩)] w (StkIs P w base g T pre r l) := by
 unfold StkIs;obtain ⟨rb, cap, u, hrb, hbb, hlt, hr, hc1, hc2, hrg, hf0, hf1, _, _, _⟩ := h.last;have hpop := h.pop (z0 := .int .i64 0) (z1 := .slice none 0 0) hrb hr;have hgb := h.base_le;obtain ⟨n, hn⟩ : ∃ n, n = l.length := ⟨_, rfl⟩;rw [<- hn] at hr hrg hl hc1 hpop hf0 hf1;have hc := hr.cell pre.length;rw [List.getElem?_append_right (Nat.le_refl _), Nat.sub_self] at hc;simp only [List.getElem?_cons_zero] at hc;have hfr := hr.free pre.length;have hne : rb ≠ g := by omega
 obtain ⟨Z, hZ⟩ : ∃ Z, Z = w.setCells rb (n * 2) [.int .i64 0, .slice none 0 0] := ⟨_, rfl⟩;have hbz : But w.heap.size rb w Z := by rw [hZ]; exact But.setCells [.int .i64 0, .slice none 0 0] (n * 2) (But.refl _ _ _)
 have hrZ : Row Z g T (pre ++ [.slice (some ⟨rb, 0, none⟩) (n + 1) cap]) := (hbz.block g hr.lt (Ne.symm hne)).trans hr;have hcZ := hrZ.cell pre.length;rw [List.getElem?_append_right (Nat.le_refl _), Nat.sub_self] at hcZ;simp only [List.getElem?_cons_zero] at hcZ;have hfZ := hrZ.free pre.length;rw [<- hZ] at hpop;generalize pre.length = o at hc hfr hcZ hfZ hpop ⊢;have HP := Shh.mk hpop
 have HC : Shh ((∀ j, j < 2 -> (w.cell? ⟨rb, n * 2 + j, none⟩).isSome = true) /\ ∀ j, j < 2 -> w.frozen? ⟨rb, n * 2 + j, none⟩ = false) := ⟨fun j hj => by
  match j, hj with
  | 0, _ => rw [hrg 0 _ rfl]; rfl
  | 1, _ => rw [hrg 1 _ rfl]; rfl, fun j hj => by
  match j, hj with
  | 0, _ => exact hf0
  | 1, _ => exact hf1⟩
 have runC : ∀ u : World, (Instr.sliceAt 102 (.slice (some ⟨rb, 0, none⟩) (n + 1) cap) (some (.int .i64 (n : Int))) none none).run Tryz.prog u = .ok (.slice (some ⟨rb, n * 2, none⟩) 1 (cap - n)) u := fun u => tailN rb n cap hc1 u
 have runT : ∀ u : World, (Instr.sliceAt 102 (.slice (some ⟨rb, 0, none⟩) (n + 1) cap) none (some (.int .i64 (n : Int))) none).run Tryz.prog u = .ok (.slice (some ⟨rb, 0, none⟩) n cap) u := fun u => headN rb (n + 1) cap n (by omega) u
 have HN : Shh (n <= 1000) := ⟨hl⟩;have HZ := Shh.mk hZ;clear hZ hr hrg hf0 hf1 hc1 hc2 hgb hrb hbb hlt hl hn hbz hrZ hpop hne h;go_enter Tryz.func109, Tryz.ntmps109
 go_wp2_with (first | refine wl_value (.int .i64 (n : Int)) rfl (sub_oneN (by have := HN.out; omega) rfl rfl) ?_ | (refine wl_valueW (.tuple #[]) Z rfl (by rw [HZ.out]; exact clear_n rfl rfl HC.out.1 HC.out.2) ?_))
 clear HC HZ
 go_end0
 exact ⟨⟨_, rfl⟩, HP.out⟩
theorem own_form2 {w : World} {base : Nat} {e s : Nat} {v : Value} {n : Nat} {xs : List Value} (h : w.ownsRow base e s v n xs) : ∃ A c, v = .slice A n c := by
 rcases h.2 with ⟨rfl, rfl⟩ | ⟨g, cap, cur, rfl, _⟩
 ·exact ⟨_, _, rfl⟩
 ·exact ⟨_, _, rfl⟩
def PutS (w : World) (base g : Nat) (T : TypeId) (pre : List Value) (l : List (Nat × List UInt8)) (e : Ending) (w' : World) : Prop := (∃ v, e = .returned v) /\ (∃ r, StkAt w' base g T pre r l) /\ But base g w w'
theorem cell_last {w : World} {g : Nat} {T : TypeId} {pre : List Value} {v : Value} (h : Row w g T (pre ++ [v])) : w.cell? ⟨g, pre.length, none⟩ = some v := by
 rw [h.cell, List.getElem?_append_right (Nat.le_refl _), Nat.sub_self];rfl
set_option maxHeartbeats 2000000 in
theorem put_any (w : World) (base g : Nat) (T : TypeId) (pre : List Value) (r : Option Nat) (l : List (Nat × List UInt8)) (hh : Nat) (vu : Value) (b : List UInt8) (hl : l.length <= 1000) (h : StkAt w base g T pre r l) (hu : Sl w w.heap.size vu b) (hug : Off g vu) (hur : ∀ k, r = some k -> Off k vu) : Calls Tryz.prog 110 #[.pointer (some ⟨g, pre.length, none⟩), .agg #[.int .i64 (hh : Int), vu]] w (PutS w base g T pre (l ++ [(hh, b)])) := by
 unfold PutS;obtain ⟨Au, cu, rfl, _, _⟩ := hu.form;obtain ⟨v, ns, hr, ho, hl', hg, hb, hw, hs⟩ := h;replace hs : ∀ e ∈ ns, Sl w w.heap.size e.2.2 e.2.1 /\ Off g e.2.2 /\ ∀ b, r = some b -> Off b e.2.2 := fun e he => ⟨(hs e he).1, (hs e he).2.1, (hs e he).2.2.1⟩
 obtain ⟨Av, cv, rfl⟩ := own_form2 hw;have hn : ns.length <= 1000 := by rw [<- hl'] at hl; simpa [ndL] using hl
 obtain ⟨i0, hi0, hz0, hsz0, hby0⟩ := info_parts info_node3;obtain ⟨W, hW⟩ : ∃ W, W = w.alloc (.cells #[.int .i64 (hh : Int), .slice Au b.length cu] 108) := ⟨_, rfl⟩;have bW : Below w.heap.size w W := by rw [hW]; exact below1 _ _
 have HW : Shh (Row W w.heap.size 108 [.int .i64 (hh : Int), .slice Au b.length cu] /\ Row W g T (pre ++ [.slice Av ns.length cv]) /\ W.ownsRow base 108 2 (.slice Av ns.length cv) ns.length (ndC ns) /\ (∀ e ∈ ns, Sl W W.heap.size e.2.2 e.2.1 /\ Off g e.2.2 /\ ∀ k, (Value.slice Av ns.length cv).ownBlock = some k -> Off k e.2.2) /\ Sl W W.heap.size (.slice Au b.length cu) b /\ Below w.heap.size w W) := ⟨by rw [hW]; exact Row.new_ rfl rfl, hr.go bW, own_step2 hw bW, fun e he => ⟨(hs e he).1.go bW, (hs e he).2.1, fun k hk => (hs e he).2.2 k (by rw [<- ho]; exact hk)⟩, hu.go bW, bW⟩;have HX : Shh (ndL ns = l /\ g < base /\ base <= w.heap.size /\ Off g (.slice Au b.length cu) /\ (∀ k, (Value.slice Av ns.length cv).ownBlock = some k -> Off k (.slice Au b.length cu)) /\ ns.length <= 1000 /\ (∀ k, (.slice Av ns.length cv : Value).ownBlock = some k -> k < w.heap.size)) := ⟨hl', hg, hb, hug, fun k hk => hur k (by rw [<- ho]; exact hk), hn, fun k hk => (hw.lt k hk).2⟩;clear hr ho hl' hg hb hw hs hu hug hur hn bW hl;go_enter Tryz.func110, Tryz.ntmps110
 go_wp2_with fail
 rw [<- hW];clear hW;refine wp_region_held_drew (S := fun w' => Row w' w.heap.size 108 [.int .i64 (hh : Int), .slice Au b.length cu]) (by kernel_rfl) HW.out.1.drew (fun hS => ?_);clear hS;obtain ⟨V, hV⟩ : ∃ V, V = World.drew W := ⟨_, rfl⟩;rw [<- hV];have bV : Below W.heap.size W V := by rw [hV]; exact (Below.refl _ _).drew
 have rB : Row V w.heap.size 108 [.int .i64 (hh : Int), .slice Au b.length cu] := HW.out.1.go bV;have rG : Row V g T (pre ++ [.slice Av ns.length cv]) := HW.out.2.1.go bV;have HV : Shh (V.ownsRow base 108 2 (.slice Av ns.length cv) ns.length (ndC ns) /\ (∀ e ∈ ns, Sl V V.heap.size e.2.2 e.2.1 /\ Off g e.2.2 /\ ∀ k, (Value.slice Av ns.length cv).ownBlock = some k -> Off k e.2.2) /\ Sl V V.heap.size (.slice Au b.length cu) b /\ Below w.heap.size w V) := ⟨own_step2 HW.out.2.2.1 bV, fun e he => ⟨(HW.out.2.2.2.1 e he).1.go bV, (HW.out.2.2.2.1 e he).2⟩, HW.out.2.2.2.2.1.go bV, Below.chain HW.out.2.2.2.2.2 bV⟩;clear hV HW bV;refine hdv0 0 4 (.pointer (some ⟨g, pre.length, none⟩)) (by rfl) (rB) ?_;refine hdv0 1 5 (.pointer (some ⟨g, pre.length, none⟩)) (by rfl) (rB) ?_;refine hdv0 2 6 (.pointer (some ⟨g, pre.length, none⟩)) (by rfl) (rB) ?_;refine hdv0 3 7 (.pointer (some ⟨g, pre.length, none⟩)) (by rfl) (rB) ?_;refine held_load 5 108 (.tmp 3) (some 9) (by kernel_rfl) (by rfl) (by kernel_rfl) w.heap.size 0 (by kernel_rfl) ([.int .i64 (hh : Int), .slice Au b.length cu]) _ (fun w h => h.range) Tryz.underlying108 rfl (info_node) (fun _ _ _ _ h => h) (rB) ?_;simp only [Act.put, arr9, hd9, tl9];refine held_two 4 6 (by kernel_rfl) ?_ ?_
 ·refine step_value 4 _ _ (some 8) (.slice Av ns.length cv) V (by rfl) (by kernel_rfl) (load_n rfl (cell_last rG) (by kernel_rfl)) (rB) ?_;simp only [Act.put, arr9, hd9, tl9];refine held_one 6 (by kernel_rfl) ?_;refine step_value 6 _ _ (some 10) (.slice (some ⟨V.heap.size, 0, none⟩) 1 1) (V.alloc (.cells #[.int .i64 (hh : Int), .slice Au b.length cu] 108)) (by rfl) (by kernel_rfl) (by first | kernel_rfl | go_simp) ((rB).alloc _) ?_;simp only [Act.put, arr9, hd9, tl9];have bx : Below V.heap.size V (V.alloc (.cells #[.int .i64 (hh : Int), .slice Au b.length cu] 108)) := Below.alloc (Below.refl _ _) (Nat.le_refl _) _;have rP : Row (V.alloc (.cells #[.int .i64 (hh : Int), .slice Au b.length cu] 108)) V.heap.size 108 [.int .i64 (hh : Int), .slice Au b.length cu] := Row.new_ rfl rfl;have z_rP := asz V (.cells #[.int .i64 (hh : Int), .slice Au b.length cu] 108);generalize V.alloc (.cells #[.int .i64 (hh : Int), .slice Au b.length cu] 108) = Y2 at *;have b_V := bx;have m_Y2 : V.heap.size <= Y2.heap.size := bx.size;clear bx;refine held_one 7 (by kernel_rfl) ?_;have hbx := HX.out.2.2.1;have hbs : w.heap.size <= Y2.heap.size := (Below.chain HV.out.2.2.2 b_V).size;have how := own_step2 HV.out.1 b_V;refine step_appendO Y2 7 _ (some 11) 102 108 i0 (.agg #[.int .i64 0, .slice none 0 0]) 2 32 Tryz.underlying102 hi0 hz0 hsz0 hby0 rfl (by decide) (.tmp 8) (.tmp 10) (by rfl) (by kernel_rfl) (m := 1) (c := 1) (news := [.int .i64 (hh : Int), .slice Au b.length cu]) how (by kernel_rfl) (by kernel_rfl) rfl (fun j y hj => by rw [addr_add, (rP).cell, Nat.zero_add]; exact hj) oneNode (by have := HX.out.2.2.2.2.2.1; unfold maxLen; omega) (by have := HX.out.2.2.2.2.2.1; omega) (by omega) ?_;intro v2 Y3 ho2 hg2 hat2;have hgX : Row Y2 g T (pre ++ [.slice Av ns.length cv]) := (rG.go b_V);have hrX : Row Y2 w.heap.size 108 [.int .i64 (hh : Int), .slice Au b.length cu] := (rB.go b_V);have hsX : ∀ e ∈ ns, Sl Y2 Y2.heap.size e.2.2 e.2.1 /\ Off g e.2.2 /\ ∀ k, (Value.slice Av ns.length cv).ownBlock = some k -> Off k e.2.2 := fun e he => ⟨(HV.out.2.1 e he).1.go b_V, (HV.out.2.1 e he).2⟩
  have huX : Sl Y2 Y2.heap.size (.slice Au b.length cu) b := HV.out.2.2.1.go b_V;have bwX : Below w.heap.size w Y2 := Below.chain HV.out.2.2.2 b_V;have hne1 : some w.heap.size ≠ (.slice Av ns.length cv : Value).ownBlock := fun e => Nat.lt_irrefl _ (HX.out.2.2.2.2.2.2 _ e.symm)
  have hne2 : some g ≠ (.slice Av ns.length cv : Value).ownBlock := fun e => by have h1 := (how.lt g e.symm).1; have h2 := HX.out.2.1; omega
  have rB2 : Row Y3 w.heap.size 108 [.int .i64 (hh : Int), .slice Au b.length cu] := (hg2.block w.heap.size hrX.lt hne1).trans hrX;have rG2 : Row Y3 g T (pre ++ [.slice Av ns.length cv]) := (hg2.block g hgX.lt hne2).trans hgX;have hat3 : ∀ k, v2.ownBlock = some k -> (.slice Av ns.length cv : Value).ownBlock = some k ∨ Y2.heap.size <= k := fun k hk => by
   rcases hat2 with h1 | h1
   ·exact .inl (h1.symm.trans hk)
   ·rw [h1] at hk;injection hk with hk;exact .inr (by omega)
  obtain ⟨rr, hk1, hk2⟩ := StkAt.push hgX HX.out.1 HX.out.2.1 (Nat.le_trans hbx hbs) hsX huX HX.out.2.2.2.1 HX.out.2.2.2.2.1 how ho2 hg2 hat3;obtain ⟨A2, c2, rfl⟩ := own_form2 ho2;have HP : Shh (StkAt (Y3.setCell ⟨g, pre.length, none⟩ (.slice A2 (ns.length + 1) c2)) base g T pre rr (l ++ [(hh, b)]) /\ But base g w (Y3.setCell ⟨g, pre.length, none⟩ (.slice A2 (ns.length + 1) c2)) /\ Row (Y3.setCell ⟨g, pre.length, none⟩ (.slice A2 (ns.length + 1) c2)) w.heap.size 108 [.int .i64 (hh : Int), .slice Au b.length cu]) := ⟨hk1, ((But.of bwX g).mono hbx).trans hk2, (((But.refl Y3.heap.size g Y3).setCell _ _).row rB2 (Nat.lt_of_lt_of_le hrX.lt hg2.size) (fun e => by have h1 := HX.out.2.1; omega))⟩;clear hk1 hk2 hat3 hne1 hne2 hsX huX bwX hgX hrX how ho2 hg2 hat2 hbx hbs;replace rB := rB2;replace rG := rG2;clear rB2 rG2;refine ⟨rB, ?_⟩;simp only [Act.put, arr9, hd9, tl9];refine hdv0 8 12 (.pointer (some ⟨g, pre.length, none⟩)) (by rfl) (rB) ?_;refine hdv0 9 13 (.pointer (some ⟨g, pre.length, none⟩)) (by rfl) (rB) ?_;refine held_one 10 (by kernel_rfl) ?_;refine step_store1 10 _ (by rfl) (by kernel_rfl) (Y3.setCell ⟨g, pre.length, none⟩ (.slice A2 (ns.length + 1) c2)) (store_n rfl (by kernel_rfl) (by kernel_rfl) (cell_last rG) ((rG).free _)) ⟨HP.out.2.2, ?_⟩;refine wpAnyH_done (by kernel_rfl) ?_ _;go_wp2
  go_end0
  exact ⟨⟨_, rfl⟩, ⟨_, HP.out.1⟩, HP.out.2.1⟩
 ·refine step_value 6 _ _ (some 10) (.slice (some ⟨V.heap.size, 0, none⟩) 1 1) (V.alloc (.cells #[.int .i64 (hh : Int), .slice Au b.length cu] 108)) (by rfl) (by kernel_rfl) (by first | kernel_rfl | go_simp) ((rB).alloc _) ?_;simp only [Act.put, arr9, hd9, tl9];have bx : Below V.heap.size V (V.alloc (.cells #[.int .i64 (hh : Int), .slice Au b.length cu] 108)) := Below.alloc (Below.refl _ _) (Nat.le_refl _) _;have rP : Row (V.alloc (.cells #[.int .i64 (hh : Int), .slice Au b.length cu] 108)) V.heap.size 108 [.int .i64 (hh : Int), .slice Au b.length cu] := Row.new_ rfl rfl;have z_rP := asz V (.cells #[.int .i64 (hh : Int), .slice Au b.length cu] 108);generalize V.alloc (.cells #[.int .i64 (hh : Int), .slice Au b.length cu] 108) = Y1 at *;have b_V := bx;have m_Y1 : V.heap.size <= Y1.heap.size := bx.size;clear bx;refine held_one 4 (by kernel_rfl) ?_;refine step_value 4 _ _ (some 8) (.slice Av ns.length cv) Y1 (by rfl) (by kernel_rfl) (load_n rfl (cell_last (rG.go b_V)) (by kernel_rfl)) ((rB.go b_V)) ?_;simp only [Act.put, arr9, hd9, tl9];refine held_one 7 (by kernel_rfl) ?_;have hbx := HX.out.2.2.1;have hbs : w.heap.size <= Y1.heap.size := (Below.chain HV.out.2.2.2 b_V).size;have how := own_step2 HV.out.1 b_V;refine step_appendO Y1 7 _ (some 11) 102 108 i0 (.agg #[.int .i64 0, .slice none 0 0]) 2 32 Tryz.underlying102 hi0 hz0 hsz0 hby0 rfl (by decide) (.tmp 8) (.tmp 10) (by rfl) (by kernel_rfl) (m := 1) (c := 1) (news := [.int .i64 (hh : Int), .slice Au b.length cu]) how (by kernel_rfl) (by kernel_rfl) rfl (fun j y hj => by rw [addr_add, (rP).cell, Nat.zero_add]; exact hj) oneNode (by have := HX.out.2.2.2.2.2.1; unfold maxLen; omega) (by have := HX.out.2.2.2.2.2.1; omega) (by omega) ?_;intro v2 Y3 ho2 hg2 hat2;have hgX : Row Y1 g T (pre ++ [.slice Av ns.length cv]) := (rG.go b_V);have hrX : Row Y1 w.heap.size 108 [.int .i64 (hh : Int), .slice Au b.length cu] := (rB.go b_V);have hsX : ∀ e ∈ ns, Sl Y1 Y1.heap.size e.2.2 e.2.1 /\ Off g e.2.2 /\ ∀ k, (Value.slice Av ns.length cv).ownBlock = some k -> Off k e.2.2 := fun e he => ⟨(HV.out.2.1 e he).1.go b_V, (HV.out.2.1 e he).2⟩
  have huX : Sl Y1 Y1.heap.size (.slice Au b.length cu) b := HV.out.2.2.1.go b_V;have bwX : Below w.heap.size w Y1 := Below.chain HV.out.2.2.2 b_V;have hne1 : some w.heap.size ≠ (.slice Av ns.length cv : Value).ownBlock := fun e => Nat.lt_irrefl _ (HX.out.2.2.2.2.2.2 _ e.symm)
  have hne2 : some g ≠ (.slice Av ns.length cv : Value).ownBlock := fun e => by have h1 := (how.lt g e.symm).1; have h2 := HX.out.2.1; omega
  have rB2 : Row Y3 w.heap.size 108 [.int .i64 (hh : Int), .slice Au b.length cu] := (hg2.block w.heap.size hrX.lt hne1).trans hrX;have rG2 : Row Y3 g T (pre ++ [.slice Av ns.length cv]) := (hg2.block g hgX.lt hne2).trans hgX;have hat3 : ∀ k, v2.ownBlock = some k -> (.slice Av ns.length cv : Value).ownBlock = some k ∨ Y1.heap.size <= k := fun k hk => by
   rcases hat2 with h1 | h1
   ·exact .inl (h1.symm.trans hk)
   ·rw [h1] at hk;injection hk with hk;exact .inr (by omega)
  obtain ⟨rr, hk1, hk2⟩ := StkAt.push hgX HX.out.1 HX.out.2.1 (Nat.le_trans hbx hbs) hsX huX HX.out.2.2.2.1 HX.out.2.2.2.2.1 how ho2 hg2 hat3;obtain ⟨A2, c2, rfl⟩ := own_form2 ho2;have HP : Shh (StkAt (Y3.setCell ⟨g, pre.length, none⟩ (.slice A2 (ns.length + 1) c2)) base g T pre rr (l ++ [(hh, b)]) /\ But base g w (Y3.setCell ⟨g, pre.length, none⟩ (.slice A2 (ns.length + 1) c2)) /\ Row (Y3.setCell ⟨g, pre.length, none⟩ (.slice A2 (ns.length + 1) c2)) w.heap.size 108 [.int .i64 (hh : Int), .slice Au b.length cu]) := ⟨hk1, ((But.of bwX g).mono hbx).trans hk2, (((But.refl Y3.heap.size g Y3).setCell _ _).row rB2 (Nat.lt_of_lt_of_le hrX.lt hg2.size) (fun e => by have h1 := HX.out.2.1; omega))⟩;clear hk1 hk2 hat3 hne1 hne2 hsX huX bwX hgX hrX how ho2 hg2 hat2 hbx hbs;replace rB := rB2;replace rG := rG2;clear rB2 rG2;refine ⟨rB, ?_⟩;simp only [Act.put, arr9, hd9, tl9];refine hdv0 8 12 (.pointer (some ⟨g, pre.length, none⟩)) (by rfl) (rB) ?_;refine hdv0 9 13 (.pointer (some ⟨g, pre.length, none⟩)) (by rfl) (rB) ?_;refine held_one 10 (by kernel_rfl) ?_;refine step_store1 10 _ (by rfl) (by kernel_rfl) (Y3.setCell ⟨g, pre.length, none⟩ (.slice A2 (ns.length + 1) c2)) (store_n rfl (by kernel_rfl) (by kernel_rfl) (cell_last rG) ((rG).free _)) ⟨HP.out.2.2, ?_⟩;refine wpAnyH_done (by kernel_rfl) ?_ _;go_wp2
  go_end0
  exact ⟨⟨_, rfl⟩, ⟨_, HP.out.1⟩, HP.out.2.1⟩
end Go.Proofs.YtdakbipiifkmfaaGreatDoor
