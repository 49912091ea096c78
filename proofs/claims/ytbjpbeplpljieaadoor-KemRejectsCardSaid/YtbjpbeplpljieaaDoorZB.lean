import Derived.Test.YtbjpbeplpljieaaDoorZA
import Derived.Test.YtbjpbeplpljieaaDoorCards
import Derived.Test.YtbjpbeplpljieaaDoorTie
import Derived.Deep.DeepHandedRow
import Derived.Deep.DeepWitnessRowRef
import Derived.Lib.LaidTab
import Derived.LaidMore
import Derived.Lib.ConvBytes
import Derived.Lib.AtoiErrMem
import Derived.Laws.AppendOwn
import Derived.StillTailTactics
import Derived.RegionTactic
import Derived.Deep.RegionLaw
import Derived.Lib.BitFns
/-
 WALK: keccak.Permute.
-/
namespace Go.Proofs.YtbjpbeplpljieaaDoor
open Go.RowKit
set_option maxRecDepth 100000

theorem info_u64s : (Tryd.prog.info? 70).map (·.size) = some 1 := by kernel_rfl
theorem arr25 : Tryd.prog.underlying 71 = some (.array 25 70) := Tryd.underlying71
/-- the address of lane k of an array -/
theorem run_index25 {a : Act} {x y : Operand} {o : Oper} (b k : Nat) (hk : k < 25) (ho : o.op = .indexAddr 71 x y) (hx : a.eval x = .pointer (some ⟨b, 0, none⟩)) (hy : a.eval y = .int .i64 (k : Int)) (w : World) :
  (execOp a.eval o).run Tryd.prog w = .ok (.value (.pointer (some ⟨b, k, none⟩))) w := by
 have h0 : (0 : Int) ≤ (k : Int) := by omega
 have h1 : (k : Int) < 25 := by omega
 unfold execOp
 simp only [ho, hx, hy]
 go_simp
theorem run_store64 {a : Act} {w : World} {o : Oper} {x y : Operand} {u : Value} (z : UInt64) (b p : Nat) (ho : o.op = .store 70 x y) (hx : a.eval x = .pointer (some ⟨b, p, none⟩)) (hy : a.eval y = .int .u64 (z.toNat : Int)) (hc : w.cell? ⟨b, p, none⟩ = some u) (hf : w.frozen? ⟨b, p, none⟩ = false) :
  (execOp a.eval o).run Tryd.prog w = .ok .skip (w.setCell ⟨b, p, none⟩ (.int .u64 (z.toNat : Int))) := by
 unfold execOp
 simp only [ho, hx, hy]
 go_simp

/-- the table of the rounds' constants holds in world w -/
def KVars (w : World) : Prop := ∀ k, k < 24 → w.cell? ⟨0, k, none⟩ = some (.int .u64 ((lane kC k).toNat : Int))
section
variable {w w' : World} {B g : Nat}
theorem KVars.pos (h : KVars w) : 0 < w.heap.size := World.block_lt_of_cell? w _ (h 0 (by decide))
theorem KVars.step (h : KVars w) (hb : Below w.heap.size w w') : KVars w' := fun k hk => (hb.cell (p := ⟨0, k, none⟩) h.pos).trans (h k hk)
theorem KVars.but (h : KVars w) (hb : But w.heap.size g w w') (hg : 0 ≠ g) : KVars w' := fun k hk => (hb.cell (p := ⟨0, k, none⟩) h.pos hg).trans (h k hk)
theorem KVars.under (h : KVars w) (hb : Below B w w') (hB : 0 < B) : KVars w' := fun k hk => (hb.cell (p := ⟨0, k, none⟩) hB).trans (h k hk)
theorem KVars.drew (h : KVars w) : KVars w.drew := h
end
/-- rows of chi ahead of place 5j, lanes of s from there on -/
def chiUpto (b s : List UInt64) (j : Nat) : List UInt64 := (chiL b).take (5 * j) ++ s.drop (5 * j)
theorem chiUpto_length (b s : List UInt64) (j : Nat) (hj : j ≤ 5) (h : s.length = 25) : (chiUpto b s j).length = 25 := by
 simp [chiUpto, chiL_length, h]; omega
theorem chiUpto_zero (b s : List UInt64) : chiUpto b s 0 = s := by simp [chiUpto]
theorem chiUpto_five (b s : List UInt64) (h : s.length = 25) : chiUpto b s 5 = chiL b := by
 unfold chiUpto
 rw [List.take_of_length_le (by rw [chiL_length]; omega)]
 rw [List.drop_of_length_le (by omega), List.append_nil]
theorem chiUpto_step (b s : List UInt64) (j : Nat) (hj : j < 5) (h : s.length = 25) :
  (((((chiUpto b s j).set (5 * j) (lane b (5 * j) ^^^ andn (lane b (5 * j + 2)) (lane b (5 * j + 1)))).set (5 * j + 1) (lane b (5 * j + 1) ^^^ andn (lane b (5 * j + 3)) (lane b (5 * j + 2)))).set (5 * j + 2) (lane b (5 * j + 2) ^^^ andn (lane b (5 * j + 4)) (lane b (5 * j + 3)))).set (5 * j + 3) (lane b (5 * j + 3) ^^^ andn (lane b (5 * j)) (lane b (5 * j + 4)))).set (5 * j + 4) (lane b (5 * j + 4) ^^^ andn (lane b (5 * j + 1)) (lane b (5 * j))) = chiUpto b s (j + 1) := by
 match s, h with
 | [_, _, _, _, _, _, _, _, _, _, _, _, _, _, _, _, _, _, _, _, _, _, _, _, _], _ =>
  match j, hj with
  | 0, _ => rfl
  | 1, _ => rfl
  | 2, _ => rfl
  | 3, _ => rfl
  | 4, _ => rfl

set_option maxHeartbeats 1000000 in
theorem permute_of (hmix : ∀ (l : List UInt64) (w : World), l.length = 25 → Calls Tryd.prog 94 #[.agg (laneCells l).toArray] w (LanesIs w (mixL l))) (s0 : List UInt64) (hs0 : s0.length = 25) (w : World) (hv : KVars w) :
  Calls Tryd.prog 87 #[.agg (laneCells s0).toArray] w (LanesIs w (permL s0)) := by
 unfold LanesIs
 have hpos := hv.pos
 generalize hn0 : w.heap.size = n0 at *
 have hrA : ∀ o, Row ((w.alloc (.cells (laneCells s0).toArray 71)).alloc o) n0 71 (laneCells s0) := fun o => (Row.new_ hn0.symm rfl).alloc _
 have hrB : ∀ o, Row ((w.alloc o).alloc (.cells (laneCells (List.replicate 25 0)).toArray 71)) (n0 + 1) 71 (laneCells (List.replicate 25 0)) := fun o => Row.new_ (by rw [asz, hn0]) rfl
 have hbA : ∀ o o2, Below n0 w ((w.alloc o).alloc o2) := fun o o2 => ((Below.refl n0 w).alloc (by omega) o).alloc (by rw [asz]; omega) o2
 go_enter Tryd.func87, Tryd.ntmps87
 go_wp2
 go_loopw [3, 4, 5, 6] (fun _ _ _ i wr => ∃ n : Nat, n ≤ 24 ∧ i = .int .i64 n ∧ Row wr n0 71 (laneCells (permK s0 n)) ∧ Row wr (n0 + 1) 71 (laneCells (List.replicate 25 0)) ∧ KVars wr ∧ Below n0 w wr) (fun _ _ _ i _ => 24 - (intOf i).toNat)
 case atStart => exact ⟨0, Nat.zero_le _, rfl, hrA _, hrB _, hv.step (by rw [hn0]; exact hbA _ _), hbA _ _⟩
 case round =>
  clear hrA hrB hbA hv
  obtain ⟨n, hn, rfl, hrs, hre, hv, hbel⟩ := hrel
  by_cases hlt : n < 24
  ·have hstl := permK_length s0 hs0 n
   obtain ⟨st, HST⟩ : ∃ st, Hid (st = permK s0 n) := ⟨_, Lib.hid rfl⟩
   rw [← HST.out] at hstl hrs
   go_wp2_with (first
    | refine wpList_load_any rfl 71 (.tmp 1) rfl n0 rfl 71 (laneCells st) (.array 25 70) hrs Tryd.underlying71 rfl (info_l25.trans (size_lanes _ _ hstl)) ?_
    | (go_at_call 94; refine (hmix st _ hstl).mono ?_))
   rintro e w2 ⟨rfl, b2⟩
   replace hrs := hrs.below b2 hrs.lt
   replace hre := hre.below b2 hre.lt
   replace hv := hv.step b2
   replace hbel := hbel.trans (b2.mono (by have := hbel.size; omega))
   have hbl := mixL_length st
   obtain ⟨bl, HBL⟩ : ∃ bl, Hid (bl = mixL st) := ⟨_, Lib.hid rfl⟩
   rw [← HBL.out] at hbl ⊢
   clear b2
   go_wp2_with (refine wpList_store_any rfl 71 (.tmp 4) (.tmp 10) rfl w2.heap.size rfl (laneCells bl) rfl 71 (laneCells (List.replicate 25 0)) (Row.new_ rfl zero25) (info_l25.trans (size_lanes _ _ hbl)) (by rw [laneCells_length, laneCells_length, hbl]; rfl) (cell_oneLane _) ?_)
   intro w3 hrb bt zt
   try simp only [asz] at bt zt
   have b3 : Below w2.heap.size w2 w3 := (Below.alloc (Below.refl _ _) (Nat.le_refl _) _).trans (bt.under (Nat.le_succ _) (Nat.le_refl _))
   have hnb : n0 + 1 < w2.heap.size := hre.lt
   replace hrs := hrs.below b3 hrs.lt
   replace hre := hre.below b3 hre.lt
   replace hv := hv.step b3
   replace hbel := hbel.trans (b3.mono (by omega))
   clear b3 bt zt
   generalize w2.heap.size = nb at *
   go_wp2
   go_loopw [5] (fun y wr => ∃ j : Nat, j ≤ 5 ∧ y = .int .i64 ((5 * j : Nat) : Int) ∧ Row wr n0 71 (laneCells (chiUpto bl st j)) ∧ Row wr nb 71 (laneCells bl) ∧ Row wr (n0 + 1) 71 (laneCells (List.replicate 25 0)) ∧ KVars wr ∧ Below n0 w wr) (fun y _ => 25 - (intOf y).toNat)
   case atStart => exact ⟨0, Nat.zero_le _, rfl, by rw [chiUpto_zero]; exact hrs, hrb, hre, hv, hbel⟩
   case round =>
    clear hrs hrb hre hv hbel
    obtain ⟨j, hj, rfl, hrs, hrb, hre, hv, hbel⟩ := hrel
    by_cases hj5 : j < 5
    ·have hcl := chiUpto_length bl st j hj hstl
     have HCS := Lib.hid (chiUpto_step bl st j hj5 hstl)
     obtain ⟨cur, HCU⟩ : ∃ cur, Hid (cur = chiUpto bl st j) := ⟨_, Lib.hid rfl⟩
     rw [← HCU.out] at hcl hrs HCS
     obtain ⟨y, hy⟩ : ∃ y, y = 5 * j := ⟨_, rfl⟩
     obtain ⟨y1, hy1⟩ : ∃ y1, y1 = y + 1 := ⟨_, rfl⟩
     obtain ⟨y2, hy2⟩ : ∃ y2, y2 = y + 2 := ⟨_, rfl⟩
     obtain ⟨y3, hy3⟩ : ∃ y3, y3 = y + 3 := ⟨_, rfl⟩
     obtain ⟨y4, hy4⟩ : ∃ y4, y4 = y + 4 := ⟨_, rfl⟩
     have q1 : (y : Int) + 1 = (y1 : Int) := by omega
     have q2 : (y : Int) + 2 = (y2 : Int) := by omega
     have q3 : (y : Int) + 3 = (y3 : Int) := by omega
     have q4 : (y : Int) + 4 = (y4 : Int) := by omega
     have hyb : y4 < 25 := by omega
     have p1 : IntKind.i64.wrap (y1 : Int) = (y1 : Int) := by rw [IntKind.wrap_i64]; omega
     have p2 : IntKind.i64.wrap (y2 : Int) = (y2 : Int) := by rw [IntKind.wrap_i64]; omega
     have p3 : IntKind.i64.wrap (y3 : Int) = (y3 : Int) := by rw [IntKind.wrap_i64]; omega
     have p4 : IntKind.i64.wrap (y4 : Int) = (y4 : Int) := by rw [IntKind.wrap_i64]; omega
     rw [← hy, ← hy1, ← hy2, ← hy3, ← hy4] at HCS
     have HYJ := Lib.hid (And.intro hy (And.intro hy1 (And.intro hy2 (And.intro hy3 hy4))))
     have g0 : y < 25 := by omega
     have g1 : y1 < 25 := by omega
     have g2 : y2 < 25 := by omega
     have g3 : y3 < 25 := by omega
     have hyle : y ≤ 20 := by omega
     rw [← hy]
     clear hy hy1 hy2 hy3 hy4
     go_wp2
     replace hrs := hrs.drew
     replace hrb := hrb.drew
     replace hre := hre.drew
     replace hv := hv.drew
     replace hbel := hbel.drew
     refine wp_region_held_drew (S := fun w' => w'.rangeAt nb 0 (laneCells bl)) (by kernel_rfl) hrb.range (fun _ => ?_)
     generalize wr.drew = W at *
     refine hdv0 0 16 (.int .i64 (y : Int)) (by rfl) hrb.range ?_
     refine hdv0 1 17 (.int .i64 (y : Int)) (by rfl) hrb.range ?_
     refine hdv 2 18 (.int .i64 (y1 : Int)) (by rfl) (fun w _ => by go_simp) hrb.range ?_
     refine hdv0 3 19 (.int .i64 (y : Int)) (by rfl) hrb.range ?_
     refine hdv 4 20 (.int .i64 (y2 : Int)) (by rfl) (fun w _ => by go_simp) hrb.range ?_
     refine hdv0 5 21 (.int .i64 (y : Int)) (by rfl) hrb.range ?_
     refine hdv 6 22 (.int .i64 (y3 : Int)) (by rfl) (fun w _ => by go_simp) hrb.range ?_
     refine hdv0 7 23 (.int .i64 (y : Int)) (by rfl) hrb.range ?_
     refine hdv 8 24 (.int .i64 (y4 : Int)) (by rfl) (fun w _ => by go_simp) hrb.range ?_
     refine hdv0 9 25 (.int .i64 (y : Int)) (by rfl) hrb.range ?_
     refine hdv 10 26 (.pointer (some ⟨nb, y, none⟩)) (by rfl) (fun w _ => run_index25 nb y (by omega) rfl (by kernel_rfl) (by kernel_rfl) w) hrb.range ?_
     refine hdv 11 27 (.int .u64 ((lane bl y).toNat : Int)) (by rfl) (fun w e => run_load1 rfl Tryd.underlying70 (by kernel_rfl) (by have := e y _ (laneCells_lane bl y (by omega)); rwa [Nat.zero_add] at this)) hrb.range ?_
     refine hdv0 12 28 (.int .i64 (y : Int)) (by rfl) hrb.range ?_
     refine hdv 13 29 (.int .i64 (y1 : Int)) (by rfl) (fun w _ => by go_simp) hrb.range ?_
     refine hdv 14 30 (.pointer (some ⟨nb, y1, none⟩)) (by rfl) (fun w _ => run_index25 nb y1 (by omega) rfl (by kernel_rfl) (by kernel_rfl) w) hrb.range ?_
     refine hdv 15 31 (.int .u64 ((lane bl y1).toNat : Int)) (by rfl) (fun w e => run_load1 rfl Tryd.underlying70 (by kernel_rfl) (by have := e y1 _ (laneCells_lane bl y1 (by omega)); rwa [Nat.zero_add] at this)) hrb.range ?_
     refine hdv0 16 32 (.int .i64 (y : Int)) (by rfl) hrb.range ?_
     refine hdv 17 33 (.int .i64 (y2 : Int)) (by rfl) (fun w _ => by go_simp) hrb.range ?_
     refine hdv 18 34 (.pointer (some ⟨nb, y2, none⟩)) (by rfl) (fun w _ => run_index25 nb y2 (by omega) rfl (by kernel_rfl) (by kernel_rfl) w) hrb.range ?_
     refine hdv 19 35 (.int .u64 ((lane bl y2).toNat : Int)) (by rfl) (fun w e => run_load1 rfl Tryd.underlying70 (by kernel_rfl) (by have := e y2 _ (laneCells_lane bl y2 (by omega)); rwa [Nat.zero_add] at this)) hrb.range ?_
     refine hdv0 20 36 (.int .i64 (y : Int)) (by rfl) hrb.range ?_
     refine hdv 21 37 (.int .i64 (y3 : Int)) (by rfl) (fun w _ => by go_simp) hrb.range ?_
     refine hdv 22 38 (.pointer (some ⟨nb, y3, none⟩)) (by rfl) (fun w _ => run_index25 nb y3 (by omega) rfl (by kernel_rfl) (by kernel_rfl) w) hrb.range ?_
     refine hdv 23 39 (.int .u64 ((lane bl y3).toNat : Int)) (by rfl) (fun w e => run_load1 rfl Tryd.underlying70 (by kernel_rfl) (by have := e y3 _ (laneCells_lane bl y3 (by omega)); rwa [Nat.zero_add] at this)) hrb.range ?_
     refine hdv0 24 40 (.int .i64 (y : Int)) (by rfl) hrb.range ?_
     refine hdv 25 41 (.int .i64 (y4 : Int)) (by rfl) (fun w _ => by go_simp) hrb.range ?_
     refine hdv 26 42 (.pointer (some ⟨nb, y4, none⟩)) (by rfl) (fun w _ => run_index25 nb y4 (by omega) rfl (by kernel_rfl) (by kernel_rfl) w) hrb.range ?_
     refine hdv 27 43 (.int .u64 ((lane bl y4).toNat : Int)) (by rfl) (fun w e => run_load1 rfl Tryd.underlying70 (by kernel_rfl) (by have := e y4 _ (laneCells_lane bl y4 (by omega)); rwa [Nat.zero_add] at this)) hrb.range ?_
     refine held_call 28 (Op.call { callee := Callee.value (Operand.func 95), args := #[Operand.tmp 27, Operand.tmp 31, Operand.tmp 35, Operand.tmp 39, Operand.tmp 43], argTypes := #[70, 70, 70, 70, 70] }) 114 (some 44) 95 #[.int .u64 ((lane bl y).toNat : Int), .int .u64 ((lane bl y1).toNat : Int), .int .u64 ((lane bl y2).toNat : Int), .int .u64 ((lane bl y3).toNat : Int), .int .u64 ((lane bl y4).toNat : Int)] (by kernel_rfl) (by kernel_rfl) (by kernel_rfl) (by kernel_rfl) ?_
     refine (chi_any (lane bl y) (lane bl y1) (lane bl y2) (lane bl y3) (lane bl y4) _).mono ?_
     rintro e w' ⟨rfl, hw'⟩
     obtain rfl : W = w' := hw'.symm
     generalize lane bl y ^^^ andn (lane bl y2) (lane bl y1) = z0 at *
     generalize lane bl y1 ^^^ andn (lane bl y3) (lane bl y2) = z1 at *
     generalize lane bl y2 ^^^ andn (lane bl y4) (lane bl y3) = z2 at *
     generalize lane bl y3 ^^^ andn (lane bl y) (lane bl y4) = z3 at *
     generalize lane bl y4 ^^^ andn (lane bl y1) (lane bl y) = z4 at *
     refine ⟨_, rfl, hrb.range, ?_⟩
     simp only [Act.put, arr9, hd9, tl9]
     refine hdv0 29 15 (.tuple #[.int .u64 (z0.toNat : Int), .int .u64 (z1.toNat : Int), .int .u64 (z2.toNat : Int), .int .u64 (z3.toNat : Int), .int .u64 (z4.toNat : Int)]) (by rfl) hrb.range ?_
     refine hdv0 30 45 (.int .u64 (z0.toNat : Int)) (by rfl) hrb.range ?_
     refine hdv0 31 46 (.int .u64 (z1.toNat : Int)) (by rfl) hrb.range ?_
     refine hdv0 32 47 (.int .u64 (z2.toNat : Int)) (by rfl) hrb.range ?_
     refine hdv0 33 48 (.int .u64 (z3.toNat : Int)) (by rfl) hrb.range ?_
     refine hdv0 34 49 (.int .u64 (z4.toNat : Int)) (by rfl) hrb.range ?_
     refine hdv 35 50 (.pointer (some ⟨n0, y, none⟩)) (by rfl) (fun w _ => run_index25 n0 y (by omega) rfl (by kernel_rfl) (by kernel_rfl) w) hrb.range ?_
     have hbvar : Below n0 W W := Below.refl _ _
     refine held_one 36 (by kernel_rfl) ?_
     have hs0 := hrs.set_ y (.int .u64 (z0.toNat : Int))
     rw [laneCells_set] at hs0
     refine step_store1 36 (Op.store 70 (Operand.tmp 50) (Operand.tmp 45)) (by kernel_rfl) (by kernel_rfl) (W.setCell ⟨n0, y, none⟩ (.int .u64 (z0.toNat : Int))) (run_store64 z0 n0 y rfl (by kernel_rfl) (by kernel_rfl) ((hrs.cell y).trans (laneCells_get _ y (by first | omega | (simp; omega)))) (hrs.free y)) ?_
     have hrb := hrb.other ⟨n0, y, none⟩ (.int .u64 (z0.toNat : Int)) (by show nb ≠ n0; omega)
     have hre := hre.other ⟨n0, y, none⟩ (.int .u64 (z0.toNat : Int)) (by show n0 + 1 ≠ n0; omega)
     have hbel := hbel.setCell (p := ⟨n0, y, none⟩) (Nat.le_refl n0) (.int .u64 (z0.toNat : Int))
     have hbvar := hbvar.setCell (p := ⟨n0, y, none⟩) (Nat.le_refl n0) (.int .u64 (z0.toNat : Int))
     have hrs := hs0
     clear hs0
     generalize W.setCell ⟨n0, y, none⟩ (.int .u64 (z0.toNat : Int)) = V0 at *
     refine ⟨hrb.range, ?_⟩
     refine hdv 37 51 (.pointer (some ⟨n0, y1, none⟩)) (by rfl) (fun w _ => run_index25 n0 y1 (by omega) rfl (by kernel_rfl) (by kernel_rfl) w) hrb.range ?_
     refine held_one 38 (by kernel_rfl) ?_
     have hs1 := hrs.set_ y1 (.int .u64 (z1.toNat : Int))
     rw [laneCells_set] at hs1
     refine step_store1 38 (Op.store 70 (Operand.tmp 51) (Operand.tmp 46)) (by kernel_rfl) (by kernel_rfl) (V0.setCell ⟨n0, y1, none⟩ (.int .u64 (z1.toNat : Int))) (run_store64 z1 n0 y1 rfl (by kernel_rfl) (by kernel_rfl) ((hrs.cell y1).trans (laneCells_get _ y1 (by first | omega | (simp; omega)))) (hrs.free y1)) ?_
     have hrb := hrb.other ⟨n0, y1, none⟩ (.int .u64 (z1.toNat : Int)) (by show nb ≠ n0; omega)
     have hre := hre.other ⟨n0, y1, none⟩ (.int .u64 (z1.toNat : Int)) (by show n0 + 1 ≠ n0; omega)
     have hbel := hbel.setCell (p := ⟨n0, y1, none⟩) (Nat.le_refl n0) (.int .u64 (z1.toNat : Int))
     have hbvar := hbvar.setCell (p := ⟨n0, y1, none⟩) (Nat.le_refl n0) (.int .u64 (z1.toNat : Int))
     have hrs := hs1
     clear hs1
     generalize V0.setCell ⟨n0, y1, none⟩ (.int .u64 (z1.toNat : Int)) = V1 at *
     refine ⟨hrb.range, ?_⟩
     refine hdv 39 52 (.pointer (some ⟨n0, y2, none⟩)) (by rfl) (fun w _ => run_index25 n0 y2 (by omega) rfl (by kernel_rfl) (by kernel_rfl) w) hrb.range ?_
     refine held_one 40 (by kernel_rfl) ?_
     have hs2 := hrs.set_ y2 (.int .u64 (z2.toNat : Int))
     rw [laneCells_set] at hs2
     refine step_store1 40 (Op.store 70 (Operand.tmp 52) (Operand.tmp 47)) (by kernel_rfl) (by kernel_rfl) (V1.setCell ⟨n0, y2, none⟩ (.int .u64 (z2.toNat : Int))) (run_store64 z2 n0 y2 rfl (by kernel_rfl) (by kernel_rfl) ((hrs.cell y2).trans (laneCells_get _ y2 (by first | omega | (simp; omega)))) (hrs.free y2)) ?_
     have hrb := hrb.other ⟨n0, y2, none⟩ (.int .u64 (z2.toNat : Int)) (by show nb ≠ n0; omega)
     have hre := hre.other ⟨n0, y2, none⟩ (.int .u64 (z2.toNat : Int)) (by show n0 + 1 ≠ n0; omega)
     have hbel := hbel.setCell (p := ⟨n0, y2, none⟩) (Nat.le_refl n0) (.int .u64 (z2.toNat : Int))
     have hbvar := hbvar.setCell (p := ⟨n0, y2, none⟩) (Nat.le_refl n0) (.int .u64 (z2.toNat : Int))
     have hrs := hs2
     clear hs2
     generalize V1.setCell ⟨n0, y2, none⟩ (.int .u64 (z2.toNat : Int)) = V2 at *
     refine ⟨hrb.range, ?_⟩
     refine hdv 41 53 (.pointer (some ⟨n0, y3, none⟩)) (by rfl) (fun w _ => run_index25 n0 y3 (by omega) rfl (by kernel_rfl) (by kernel_rfl) w) hrb.range ?_
     refine held_one 42 (by kernel_rfl) ?_
     have hs3 := hrs.set_ y3 (.int .u64 (z3.toNat : Int))
     rw [laneCells_set] at hs3
     refine step_store1 42 (Op.store 70 (Operand.tmp 53) (Operand.tmp 48)) (by kernel_rfl) (by kernel_rfl) (V2.setCell ⟨n0, y3, none⟩ (.int .u64 (z3.toNat : Int))) (run_store64 z3 n0 y3 rfl (by kernel_rfl) (by kernel_rfl) ((hrs.cell y3).trans (laneCells_get _ y3 (by first | omega | (simp; omega)))) (hrs.free y3)) ?_
     have hrb := hrb.other ⟨n0, y3, none⟩ (.int .u64 (z3.toNat : Int)) (by show nb ≠ n0; omega)
     have hre := hre.other ⟨n0, y3, none⟩ (.int .u64 (z3.toNat : Int)) (by show n0 + 1 ≠ n0; omega)
     have hbel := hbel.setCell (p := ⟨n0, y3, none⟩) (Nat.le_refl n0) (.int .u64 (z3.toNat : Int))
     have hbvar := hbvar.setCell (p := ⟨n0, y3, none⟩) (Nat.le_refl n0) (.int .u64 (z3.toNat : Int))
     have hrs := hs3
     clear hs3
     generalize V2.setCell ⟨n0, y3, none⟩ (.int .u64 (z3.toNat : Int)) = V3 at *
     refine ⟨hrb.range, ?_⟩
     refine hdv 43 54 (.pointer (some ⟨n0, y4, none⟩)) (by rfl) (fun w _ => run_index25 n0 y4 (by omega) rfl (by kernel_rfl) (by kernel_rfl) w) hrb.range ?_
     refine held_one 44 (by kernel_rfl) ?_
     have hs4 := hrs.set_ y4 (.int .u64 (z4.toNat : Int))
     rw [laneCells_set] at hs4
     refine step_store1 44 (Op.store 70 (Operand.tmp 54) (Operand.tmp 49)) (by kernel_rfl) (by kernel_rfl) (V3.setCell ⟨n0, y4, none⟩ (.int .u64 (z4.toNat : Int))) (run_store64 z4 n0 y4 rfl (by kernel_rfl) (by kernel_rfl) ((hrs.cell y4).trans (laneCells_get _ y4 (by first | omega | (simp; omega)))) (hrs.free y4)) ?_
     have hrb := hrb.other ⟨n0, y4, none⟩ (.int .u64 (z4.toNat : Int)) (by show nb ≠ n0; omega)
     have hre := hre.other ⟨n0, y4, none⟩ (.int .u64 (z4.toNat : Int)) (by show n0 + 1 ≠ n0; omega)
     have hbel := hbel.setCell (p := ⟨n0, y4, none⟩) (Nat.le_refl n0) (.int .u64 (z4.toNat : Int))
     have hbvar := hbvar.setCell (p := ⟨n0, y4, none⟩) (Nat.le_refl n0) (.int .u64 (z4.toNat : Int))
     have hrs := hs4
     clear hs4
     generalize V3.setCell ⟨n0, y4, none⟩ (.int .u64 (z4.toNat : Int)) = V4 at *
     refine ⟨hrb.range, ?_⟩
     refine wpAnyH_done (by kernel_rfl) ?_ _
     try simp only [Act.put, arr9, hd9, tl9]
     have hvZ : KVars V4 := hv.under hbvar (by omega)
     rw [HCS.out] at hrs
     clear q1 q2 q3 q4 p1 p2 p3 p4
     go_wp2
     go_roundw
     case rel => exact ⟨j + 1, by omega, by have := HYJ.out.1; rw [show 5 * (j + 1) = y + 5 by omega]; go_num, hrs, hrb, hre, hvZ, hbel⟩
     case measure => simp [intOf]; have := HYJ.out.1; omega
    ·obtain rfl : j = 5 := by omega
     rw [chiUpto_five bl st hstl] at hrs
     have hc0 := (hrs.cell 0).trans (laneCells_lane (chiL bl) 0 (by rw [chiL_length]; decide))
     have hf0 := hrs.free 0
     have hck := hv n hlt
     have hset := hrs.set_ 0 (.int .u64 ((lane (chiL bl) 0 ^^^ lane kC n).toNat : Int))
     rw [laneCells_set] at hset
     have HP : Hid ((chiL bl).set 0 (lane (chiL bl) 0 ^^^ lane kC n) = permK s0 (n + 1)) := Lib.hid (by rw [HBL.out, HST.out]; rfl)
     rw [HP.out] at hset
     have HX := Lib.hid (u64_xor (lane (chiL bl) 0) (lane kC n))
     clear hrb
     generalize lane (chiL bl) 0 = x0 at *
     generalize lane kC n = kc at *
     go_wp2
     go_region
     go_wp2
     go_roundw
     case rel =>
      rw [HX.out]
      exact ⟨n + 1, by omega, by go_num, hset, hre.beside (by omega), fun k hk => (World.cell?_setCell_other _ _ _ _ (by intro e; cases e; omega)).trans (hv k hk), below_set2 hbel (by omega)⟩
     case measure => simp [intOf]; omega
  ·obtain rfl : n = 24 := by omega
   have hpl := permL_length s0 hs0
   have hrs : Row wr n0 71 (laneCells (permL s0)) := hrs
   go_wp2_with (first
    | refine wpList_load_any rfl 71 (.tmp 1) rfl n0 rfl 71 (laneCells (permL s0)) (.array 25 70) hrs Tryd.underlying71 rfl (info_l25.trans (size_lanes _ _ hpl)) ?_
    | refine wpList_store_any rfl 71 (.tmp 2) (.tmp 63) rfl (n0 + 1) rfl (laneCells (permL s0)) rfl 71 _ hre (info_l25.trans (size_lanes _ _ hpl)) (by rw [laneCells_length, laneCells_length, hpl]; rfl) (cell_oneLane _) ?_)
   intro w9 hr9 b9 _
   have hb9 := hbel.trans (b9.under (Nat.le_of_lt (Nat.lt_trans (Nat.lt_succ_self n0) hre.lt)) (by omega))
   go_wp2
   exact ret_row Tryd.results87 rfl rfl hr9 Tryd.underlying71 rfl (info_l25.trans (size_lanes _ _ hpl)) ⟨rfl, hb9⟩
end Go.Proofs.YtbjpbeplpljieaaDoor

/-
  WHAT THE ROW's LIST GIVES THE WALKS: the table of constants; a world that holds the listed variable as the program's text lays it.
-/
namespace Go.Proofs.YtbjpbeplpljieaaDoor
open Go.ChangeShapes Go.WideShapes Go.ChangeAt Go.RowKit
set_option maxRecDepth 100000

/-- The list of both rows. -/
def laidAll : List (String × DataW Unit) := [("livery/keccak.constants", Rows.laid_livery_keccak_constants)]
theorem cells_arr : Tryd.prog.cellsOf 104 = 24 := by kernel_rfl
theorem cells_u64 : Tryd.prog.cellsOf 70 = 1 := by kernel_rfl
theorem tab_data : (Rows.laid_livery_keccak_constants : DataW Unit) = Lib.tabData .u64 (kC.map fun x => (x.toNat : Int)) := by kernel_rfl

theorem vars_of_laid {W : World} (h0 : laidMetH Tryd.prog laidAll W) : KVars W := by
  have h : laidMet Tryd.prog laidAll W := by rwa [MakeChecks.laidMetH_plain _ _ _ (by kernel_rfl)] at h0
  unfold laidAll at h
  rw [tab_data] at h
  have ht : Lib.TabIs Tryd.prog W "livery/keccak.constants" .u64 (kC.map fun x => (x.toNat : Int)) := Lib.tabIs_of_head (g := 0) (by kernel_rfl) (by kernel_rfl) Tryd.underlying104 Tryd.underlying70 cells_u64 cells_arr h
  intro k hk
  have := World.var?_cell (g := 0) (by kernel_rfl) ht k
  rw [this]
  simp [lane, List.getD, List.getElem?_eq_getElem (show k < kC.length from hk)]

/-- A WORLD FOR THE WITNESS: the heap that the program's own initialisers leave. -/
noncomputable def laidWorld (os : Os) : World := World.doorLaid Tryd.prog 14 os
theorem laid_met (os : Os) (args : Array Value) : laidMet Tryd.prog laidAll ((laidWorld os).forCall (fun _ _ => 0) ⟨#[], args, []⟩).memory :=
  laidMet_of_run' 8 (by kernel_rfl) (by kernel_rfl)
end Go.Proofs.YtbjpbeplpljieaaDoor

/-
 THE TRANSFORM as mathematics: products, there and back.
-/
namespace Go.Proofs.YtbjpbeplpljieaaDoor
set_option maxRecDepth 100000
/-- a finite sum -/
def rS : Nat → (Nat → Int) → Int
 | 0, _ => 0
 | n + 1, f => rS n f + f n
theorem rS_congr {f g : Nat → Int} : ∀ {n : Nat}, (∀ i, i < n → f i = g i) → rS n f = rS n g
 | 0, _ => rfl
 | n + 1, h => by
  show rS n f + f n = rS n g + g n
  rw [rS_congr fun i hi => h i (by omega), h n (by omega)]
theorem rS_add (f g : Nat → Int) : ∀ n, rS n (fun i => f i + g i) = rS n f + rS n g
 | 0 => rfl
 | n + 1 => by
  show rS n (fun i => f i + g i) + (f n + g n) = (rS n f + f n) + (rS n g + g n)
  rw [rS_add f g n]
  omega
theorem rS_mul (c : Int) (f : Nat → Int) : ∀ n, rS n (fun i => c * f i) = c * rS n f
 | 0 => by show (0 : Int) = c * 0; rw [Int.mul_zero]
 | n + 1 => by
  show rS n (fun i => c * f i) + c * f n = c * (rS n f + f n)
  rw [rS_mul c f n, Int.mul_add]
theorem rS_mulr (c : Int) (f : Nat → Int) (n : Nat) : rS n (fun i => f i * c) = rS n f * c := by
 rw [Int.mul_comm, ← rS_mul]
 exact rS_congr fun i _ => Int.mul_comm _ _
theorem rS_zero : ∀ n, rS n (fun _ => 0) = 0
 | 0 => rfl
 | n + 1 => by show rS n (fun _ => 0) + 0 = 0; rw [rS_zero n]; rfl
theorem rS_swap (f : Nat → Nat → Int) (m : Nat) : ∀ n, rS n (fun i => rS m (fun j => f i j)) = rS m (fun j => rS n (fun i => f i j))
 | 0 => (rS_zero m).symm
 | n + 1 => by
  show rS n (fun i => rS m (fun j => f i j)) + rS m (fun j => f n j) = rS m (fun j => rS n (fun i => f i j) + f n j)
  rw [rS_swap f m n, rS_add]
theorem rS_split (f : Nat → Int) (n : Nat) : ∀ m, rS (n + m) f = rS n f + rS m (fun i => f (n + i))
 | 0 => by show rS n f = rS n f + 0; omega
 | m + 1 => by
  show rS (n + m) f + f (n + m) = rS n f + (rS m (fun i => f (n + i)) + f (n + m))
  rw [rS_split f n m]
  omega
theorem rS_two (f : Nat → Int) : ∀ n, rS (2 * n) f = rS n (fun j => f (2 * j)) + rS n (fun j => f (2 * j + 1))
 | 0 => rfl
 | n + 1 => by
  show rS (2 * n) f + f (2 * n) + f (2 * n + 1) = (rS n (fun j => f (2 * j)) + f (2 * n)) + (rS n (fun j => f (2 * j + 1)) + f (2 * n + 1))
  rw [rS_two f n]
  omega
/-- equal modulo q -/
def rM (a b : Int) : Prop := a % 3329 = b % 3329
theorem rM.add {a b c d : Int} (h : rM a b) (k : rM c d) : rM (a + c) (b + d) := by unfold rM at *; omega
theorem rM.sub {a b c d : Int} (h : rM a b) (k : rM c d) : rM (a - c) (b - d) := by unfold rM at *; omega
theorem rM.mul {a b c d : Int} (h : rM a b) (k : rM c d) : rM (a * c) (b * d) := by unfold rM at *; rw [Int.mul_emod, h, k, ← Int.mul_emod]
theorem rM.trans {a b c : Int} (h : rM a b) (k : rM b c) : rM a c := Eq.trans h k
theorem rM.symm {a b : Int} (h : rM a b) : rM b a := Eq.symm h
theorem rM.of {a b : Int} (h : a = b) : rM a b := by rw [h]; exact rfl
theorem rM_mod (a : Int) : rM (a % 3329) a := Int.emod_emod_of_dvd _ ⟨1, rfl⟩
theorem rM.pow {a b : Int} (h : rM a b) : ∀ n : Nat, rM (a ^ n) (b ^ n)
 | 0 => by rw [Int.pow_zero, Int.pow_zero]; exact rfl
 | n + 1 => by rw [Int.pow_succ, Int.pow_succ]; exact (h.pow n).mul h
theorem rM_S {f g : Nat → Int} : ∀ {n : Nat}, (∀ i, i < n → rM (f i) (g i)) → rM (rS n f) (rS n g)
 | 0, _ => rfl
 | n + 1, h => (rM_S fun i hi => h i (by omega)).add (h n (by omega))
/-- one term of a sum -/
theorem rS_pick (f : Nat → Int) (j : Nat) : ∀ n, rS n (fun m => if j = m then f m else 0) = if j < n then f j else 0
 | 0 => by rw [if_neg (by omega)]; rfl
 | n + 1 => by
  show rS n (fun m => if j = m then f m else 0) + (if j = n then f n else 0) = _
  rw [rS_pick f j n]
  by_cases h : j < n
  ·rw [if_pos h, if_neg (by omega), if_pos (by omega)]; omega
  ·by_cases h2 : j = n
   ·subst h2
    rw [if_neg h, if_pos rfl, if_pos (by omega)]; omega
   ·rw [if_neg h, if_neg h2, if_neg (by omega)]; rfl
/-- the sums of products whose places add up to m -/
def cnv (a b : Nat → Int) (m : Nat) : Int := rS 256 (fun i => rS 256 (fun k => if i + k = m then a i * b k else 0))
theorem cnv_dot (a b p : Nat → Int) : rS 512 (fun m => cnv a b m * p m) = rS 256 (fun i => rS 256 (fun k => a i * b k * p (i + k))) := by
 have e1 : ∀ m, m < 512 → cnv a b m * p m = rS 256 (fun i => rS 256 (fun k => if i + k = m then a i * b k * p m else 0)) := fun m _ => by
  unfold cnv
  rw [← rS_mulr]
  refine rS_congr fun i _ => ?_
  rw [← rS_mulr]
  refine rS_congr fun k _ => ?_
  split
  ·rfl
  ·exact Int.zero_mul _
 rw [rS_congr e1, rS_swap]
 refine rS_congr fun i hi => ?_
 rw [rS_swap]
 refine rS_congr fun k hk => ?_
 rw [rS_pick (fun m => a i * b k * p m) (i + k), if_pos (by omega)]
/-- the even and odd parts of the powers of x, where x * x = g -/
def pE (g : Int) (k : Nat) : Int := if k % 2 = 0 then g ^ (k / 2) else 0
def pO (g : Int) (k : Nat) : Int := if k % 2 = 1 then g ^ (k / 2) else 0
theorem pE_add (g : Int) (i k : Nat) : pE g (i + k) = pE g i * pE g k + g * (pO g i * pO g k) := by
 unfold pE pO
 by_cases hi : i % 2 = 0 <;> by_cases hk : k % 2 = 0
 ·rw [if_pos (by omega), if_pos hi, if_pos hk, if_neg (by omega), show (i + k) / 2 = i / 2 + k / 2 by omega, Int.pow_add]
  simp
 ·rw [if_neg (by omega), if_pos hi, if_neg hk, if_neg (by omega)]
  simp
 ·rw [if_neg (by omega), if_neg hi, if_pos hk, if_pos (by omega), if_neg (by omega)]
  simp
 ·rw [if_pos (by omega), if_neg hi, if_neg hk, if_pos (by omega), if_pos (by omega), show (i + k) / 2 = (i / 2 + k / 2) + 1 by omega, Int.pow_succ, Int.pow_add]
  grind
theorem pO_add (g : Int) (i k : Nat) : pO g (i + k) = pE g i * pO g k + pO g i * pE g k := by
 unfold pE pO
 by_cases hi : i % 2 = 0 <;> by_cases hk : k % 2 = 0
 ·rw [if_neg (by omega), if_pos hi, if_neg (by omega), if_neg (by omega)]
  simp
 ·rw [if_pos (by omega), if_pos hi, if_pos (by omega), if_neg (by omega), show (i + k) / 2 = i / 2 + k / 2 by omega, Int.pow_add]
  simp
 ·rw [if_pos (by omega), if_neg hi, if_neg (by omega), if_pos (by omega), if_pos hk, show (i + k) / 2 = i / 2 + k / 2 by omega, Int.pow_add]
  simp
 ·rw [if_neg (by omega), if_neg hi, if_pos (by omega), if_pos (by omega), if_neg hk]
  simp
def evP (g : Int) (a : Nat → Int) : Int := rS 128 (fun j => a (2 * j) * g ^ j)
def odP (g : Int) (a : Nat → Int) : Int := rS 128 (fun j => a (2 * j + 1) * g ^ j)
theorem evP_eq (g : Int) (a : Nat → Int) : evP g a = rS 256 (fun k => a k * pE g k) := by
 rw [show (256 : Nat) = 2 * 128 from rfl, rS_two, show rS 128 (fun j => a (2 * j + 1) * pE g (2 * j + 1)) = 0 from by
  rw [← rS_zero 128]
  refine rS_congr fun j _ => ?_
  unfold pE
  rw [if_neg (by omega), Int.mul_zero], Int.add_zero]
 refine rS_congr fun j _ => ?_
 unfold pE
 rw [if_pos (by omega), show 2 * j / 2 = j by omega]
theorem odP_eq (g : Int) (a : Nat → Int) : odP g a = rS 256 (fun k => a k * pO g k) := by
 rw [show (256 : Nat) = 2 * 128 from rfl, rS_two, show rS 128 (fun j => a (2 * j) * pO g (2 * j)) = 0 from by
  rw [← rS_zero 128]
  refine rS_congr fun j _ => ?_
  unfold pO
  rw [if_neg (by omega), Int.mul_zero], Int.zero_add]
 refine rS_congr fun j _ => ?_
 unfold pO
 rw [if_pos (by omega), show (2 * j + 1) / 2 = j by omega]
theorem dot_mul (a b p r : Nat → Int) : rS 256 (fun i => a i * p i) * rS 256 (fun k => b k * r k) = rS 256 (fun i => rS 256 (fun k => a i * b k * (p i * r k))) := by
 rw [← rS_mulr]
 refine rS_congr fun i _ => ?_
 rw [← rS_mul]
 refine rS_congr fun k _ => ?_
 grind
theorem evP_mul (g : Int) (a b : Nat → Int) : evP g a * evP g b + g * (odP g a * odP g b) = rS 512 (fun m => cnv a b m * pE g m) := by
 rw [cnv_dot, evP_eq, evP_eq, odP_eq, odP_eq, dot_mul, dot_mul, ← rS_mul, ← rS_add]
 refine rS_congr fun i _ => ?_
 rw [← rS_mul, ← rS_add]
 refine rS_congr fun k _ => ?_
 rw [pE_add]
 grind
theorem odP_mul (g : Int) (a b : Nat → Int) : evP g a * odP g b + odP g a * evP g b = rS 512 (fun m => cnv a b m * pO g m) := by
 rw [cnv_dot, evP_eq, evP_eq, odP_eq, odP_eq, dot_mul, dot_mul, ← rS_add]
 refine rS_congr fun i _ => ?_
 rw [← rS_add]
 refine rS_congr fun k _ => ?_
 rw [pO_add]
 grind
/-- the product modulo X^256 + 1, not yet modulo q -/
def ngc (a b : Nat → Int) (m : Nat) : Int := cnv a b m - cnv a b (m + 256)
theorem fold_g {g : Int} (hg : rM (g ^ 128) (-1)) (c p : Nat → Int) (hp : ∀ m, p (256 + m) = g ^ 128 * p m) : rM (rS 512 (fun m => c m * p m)) (rS 256 (fun m => (c m - c (m + 256)) * p m)) := by
 rw [show (512 : Nat) = 256 + 256 from rfl, rS_split, ← rS_add]
 refine rM_S fun m _ => ?_
 rw [hp, Nat.add_comm 256 m]
 have h1 : rM (c (m + 256) * (g ^ 128 * p m)) (c (m + 256) * (-1 * p m)) := (rM.of rfl).mul (hg.mul (rM.of rfl))
 refine ((rM.of rfl).add h1).trans (rM.of ?_)
 grind
theorem pE_256 (g : Int) (m : Nat) : pE g (256 + m) = g ^ 128 * pE g m := by
 unfold pE
 by_cases h : m % 2 = 0
 ·rw [if_pos (by omega), if_pos h, show (256 + m) / 2 = 128 + m / 2 by omega, Int.pow_add]
 ·rw [if_neg (by omega), if_neg h, Int.mul_zero]
theorem pO_256 (g : Int) (m : Nat) : pO g (256 + m) = g ^ 128 * pO g m := by
 unfold pO
 by_cases h : m % 2 = 1
 ·rw [if_pos (by omega), if_pos h, show (256 + m) / 2 = 128 + m / 2 by omega, Int.pow_add]
 ·rw [if_neg (by omega), if_neg h, Int.mul_zero]
theorem ev_ngc {g : Int} (hg : rM (g ^ 128) (-1)) (a b : Nat → Int) : rM (evP g (ngc a b)) (evP g a * evP g b + g * (odP g a * odP g b)) := by
 rw [evP_mul, evP_eq]
 exact (fold_g hg _ _ (pE_256 g)).symm
theorem od_ngc {g : Int} (hg : rM (g ^ 128) (-1)) (a b : Nat → Int) : rM (odP g (ngc a b)) (evP g a * odP g b + odP g a * evP g b) := by
 rw [odP_mul, odP_eq]
 exact (fold_g hg _ _ (pO_256 g)).symm
end Go.Proofs.YtbjpbeplpljieaaDoor

/-
 THE TRANSFORM there and back: the roots.
-/
namespace Go.Proofs.YtbjpbeplpljieaaDoor
set_option maxRecDepth 100000
/-- seven digits from behind -/
def rvN (i : Nat) : Nat := (((((i % 2 * 2 + i / 2 % 2) * 2 + i / 4 % 2) * 2 + i / 8 % 2) * 2 + i / 16 % 2) * 2 + i / 32 % 2) * 2 + i / 64 % 2
/-- the root of pair i -/
def rtN (i : Nat) : Nat := 17 ^ (2 * rvN i + 1) % 3329
def nS : Nat → (Nat → Nat) → Nat
 | 0, _ => 0
 | n + 1, f => nS n f + f n
theorem nS_int (f : Nat → Nat) : ∀ n, ((nS n f : Nat) : Int) = rS n (fun i => (f i : Int))
 | 0 => rfl
 | n + 1 => by
  show ((nS n f + f n : Nat) : Int) = rS n (fun i => (f i : Int)) + (f n : Int)
  rw [Int.natCast_add, nS_int f n]
theorem rt_half : ((List.range 128).all fun i => decide (rtN i ^ 128 % 3329 = 3328)) = true := by decide +kernel
theorem rt_128 (i : Nat) (hi : i < 128) : rM ((rtN i : Int) ^ 128) (-1) := by
 have h := of_decide_eq_true (List.all_eq_true.1 rt_half i (List.mem_range.2 hi))
 have h2 : ((rtN i ^ 128 % 3329 : Nat) : Int) = 3328 := by rw [h]; rfl
 rw [Int.natCast_emod, Int.natCast_pow] at h2
 exact h2.trans (by decide)
theorem rv_back : ((List.range 128).all fun i => decide (rvN i < 128) && decide (rvN (rvN i) = i)) = true := by decide +kernel
theorem rv_lt (i : Nat) (hi : i < 128) : rvN i < 128 := by
 have h := List.all_eq_true.1 rv_back i (List.mem_range.2 hi)
 rw [Bool.and_eq_true] at h
 exact of_decide_eq_true h.1
theorem rv_rv (i : Nat) (hi : i < 128) : rvN (rvN i) = i := by
 have h := List.all_eq_true.1 rv_back i (List.mem_range.2 hi)
 rw [Bool.and_eq_true] at h
 exact of_decide_eq_true h.2
/-- the sum over all roots of the power m -/
theorem sum_roots : ((List.range 256).all fun m => decide (nS 128 (fun i => rtN i ^ m % 3329) % 3329 = if m = 0 then 128 else if m = 128 then 3201 else 0)) = true := by decide +kernel
/-- the sum of the powers of one quotient of roots -/
theorem sum_quot : ((List.range 256).all fun d => decide (nS 128 (fun j => 17 ^ (2 * d * j % 256) % 3329) % 3329 = if d % 128 = 0 then 128 else 0)) = true := by decide +kernel
theorem pow17 : 17 ^ 256 % 3329 = 1 := by decide +kernel
theorem rM_pow17 (n : Nat) : rM ((17 : Int) ^ n) (((17 ^ (n % 256) % 3329 : Nat) : Int)) := by
 have h : rM ((17 : Int) ^ 256) 1 := by
  have h2 : ((17 ^ 256 % 3329 : Nat) : Int) = 1 := by rw [pow17]; rfl
  rw [Int.natCast_emod, Int.natCast_pow] at h2
  exact h2.trans (by decide)
 have e : (17 : Int) ^ n = ((17 : Int) ^ 256) ^ (n / 256) * (17 : Int) ^ (n % 256) := by
  rw [← Int.pow_mul, ← Int.pow_add, Nat.div_add_mod]
 rw [e]
 have h3 : rM (((17 : Int) ^ 256) ^ (n / 256) * (17 : Int) ^ (n % 256)) (1 ^ (n / 256) * (17 : Int) ^ (n % 256)) := (h.pow _).mul (rM.of rfl)
 rw [Int.one_pow, Int.one_mul] at h3
 refine h3.trans ?_
 rw [Int.natCast_emod, Int.natCast_pow]
 exact (rM_mod _).symm
theorem rt_256 (i : Nat) (hi : i < 128) : rM ((rtN i : Int) ^ 256) 1 := by
 have h := (rt_128 i hi).mul (rt_128 i hi)
 rw [← Int.pow_add] at h
 exact h
theorem rt_pow (i : Nat) (hi : i < 128) (n : Nat) : rM ((rtN i : Int) ^ n) (((rtN i ^ (n % 256) % 3329 : Nat) : Int)) := by
 have e : (rtN i : Int) ^ n = ((rtN i : Int) ^ 256) ^ (n / 256) * (rtN i : Int) ^ (n % 256) := by
  rw [← Int.pow_mul, ← Int.pow_add, Nat.div_add_mod]
 rw [e]
 have h3 : rM (((rtN i : Int) ^ 256) ^ (n / 256) * (rtN i : Int) ^ (n % 256)) (1 ^ (n / 256) * (rtN i : Int) ^ (n % 256)) := ((rt_256 i hi).pow _).mul (rM.of rfl)
 rw [Int.one_pow, Int.one_mul] at h3
 refine h3.trans ?_
 rw [Int.natCast_emod, Int.natCast_pow]
 exact (rM_mod _).symm
/-- the roots' powers k + 255 j add up to 128 or to nothing -/
theorem orth (k j : Nat) (hk : k < 128) (hj : j < 128) : rM (rS 128 (fun i => (rtN i : Int) ^ (k + 255 * j))) (if k = j then 128 else 0) := by
 have h1 : rM (rS 128 (fun i => (rtN i : Int) ^ (k + 255 * j))) (rS 128 (fun i => (((rtN i ^ ((k + 255 * j) % 256) % 3329 : Nat)) : Int))) := rM_S fun i hi => rt_pow i hi _
 rw [← nS_int (fun i => rtN i ^ ((k + 255 * j) % 256) % 3329)] at h1
 refine h1.trans ?_
 have h2 := of_decide_eq_true (List.all_eq_true.1 sum_roots ((k + 255 * j) % 256) (List.mem_range.2 (Nat.mod_lt _ (by decide))))
 generalize hm : (k + 255 * j) % 256 = m at *
 generalize hz : nS 128 (fun i => rtN i ^ m % 3329) = z at *
 unfold rM
 by_cases h : k = j
 ·rw [if_pos h]
  rw [if_pos (by omega)] at h2
  omega
 ·rw [if_neg h]
  rw [if_neg (by omega), if_neg (by omega)] at h2
  omega
theorem back_there (c : Nat → Int) (j : Nat) (hj : j < 128) : rM (rS 128 (fun i => rS 128 (fun k => c k * (rtN i : Int) ^ k) * 3303 * (rtN i : Int) ^ (255 * j))) (c j) := by
 have e : rS 128 (fun i => rS 128 (fun k => c k * (rtN i : Int) ^ k) * 3303 * (rtN i : Int) ^ (255 * j)) = rS 128 (fun k => c k * 3303 * rS 128 (fun i => (rtN i : Int) ^ (k + 255 * j))) := by
  have e1 : ∀ i, i < 128 → rS 128 (fun k => c k * (rtN i : Int) ^ k) * 3303 * (rtN i : Int) ^ (255 * j) = rS 128 (fun k => c k * 3303 * (rtN i : Int) ^ (k + 255 * j)) := fun i _ => by
   rw [← rS_mulr, ← rS_mulr]
   refine rS_congr fun k _ => ?_
   rw [Int.pow_add]
   grind
  rw [rS_congr e1, rS_swap]
  exact rS_congr fun k _ => rS_mul _ _ _
 rw [e]
 have h1 : rM (rS 128 (fun k => c k * 3303 * rS 128 (fun i => (rtN i : Int) ^ (k + 255 * j)))) (rS 128 (fun k => if j = k then c k * 3303 * 128 else 0)) := rM_S fun k hk => by
  refine ((rM.of rfl).mul (orth k j hk hj)).trans (rM.of ?_)
  by_cases h : k = j
  ·rw [if_pos h, if_pos h.symm]
  ·rw [if_neg h, if_neg (fun q => h q.symm), Int.mul_zero]
 refine h1.trans ?_
 rw [rS_pick (fun k => c k * 3303 * 128) j, if_pos hj]
 unfold rM
 omega
theorem rt_17 (i : Nat) : rM (rtN i : Int) ((17 : Int) ^ (2 * rvN i + 1)) := by
 unfold rtN
 rw [Int.natCast_emod, Int.natCast_pow]
 exact rM_mod _
theorem quot_pow (i k j : Nat) (hi : i < 128) (hk : k < 128) : rM ((rtN i : Int) ^ (255 * j) * (rtN k : Int) ^ j) (((17 ^ (2 * (rvN k + 128 - rvN i) * j % 256) % 3329 : Nat) : Int)) := by
 refine (((rt_17 i).pow _).mul ((rt_17 k).pow _)).trans ?_
 rw [← Int.pow_mul, ← Int.pow_mul, ← Int.pow_add]
 have h := rM_pow17 ((2 * rvN i + 1) * (255 * j) + (2 * rvN k + 1) * j)
 have h2 := rv_lt i hi
 have h3 := rv_lt k hk
 have e : ((2 * rvN i + 1) * (255 * j) + (2 * rvN k + 1) * j) % 256 = 2 * (rvN k + 128 - rvN i) * j % 256 := by
  obtain ⟨d, hd⟩ : ∃ d, rvN k + 128 = rvN i + d := ⟨rvN k + 128 - rvN i, by omega⟩
  rw [show rvN k + 128 - rvN i = d by omega]
  have e2 : (2 * rvN i + 1) * (255 * j) + (2 * rvN k + 1) * j + 256 * j = 2 * d * j + 256 * ((2 * rvN i + 1) * j) := by
   have e3 : (2 * rvN k + 1) * j + 256 * j = (2 * rvN i + 2 * d + 1) * j := by rw [← Nat.add_mul]; congr 1; omega
   rw [Nat.add_assoc, e3]
   grind
  omega
 rw [e] at h
 exact h
theorem there_back (c : Nat → Int) (k : Nat) (hk : k < 128) : rM (rS 128 (fun j => rS 128 (fun i => c i * 3303 * (rtN i : Int) ^ (255 * j)) * (rtN k : Int) ^ j)) (c k) := by
 have e : rS 128 (fun j => rS 128 (fun i => c i * 3303 * (rtN i : Int) ^ (255 * j)) * (rtN k : Int) ^ j) = rS 128 (fun i => c i * 3303 * rS 128 (fun j => (rtN i : Int) ^ (255 * j) * (rtN k : Int) ^ j)) := by
  have e1 : ∀ j, j < 128 → rS 128 (fun i => c i * 3303 * (rtN i : Int) ^ (255 * j)) * (rtN k : Int) ^ j = rS 128 (fun i => c i * 3303 * ((rtN i : Int) ^ (255 * j) * (rtN k : Int) ^ j)) := fun j _ => by
   rw [← rS_mulr]
   refine rS_congr fun i _ => ?_
   grind
  rw [rS_congr e1, rS_swap]
  exact rS_congr fun i _ => rS_mul _ _ _
 rw [e]
 have h1 : rM (rS 128 (fun i => c i * 3303 * rS 128 (fun j => (rtN i : Int) ^ (255 * j) * (rtN k : Int) ^ j))) (rS 128 (fun i => if k = i then c i * 3303 * 128 else 0)) := rM_S fun i hi => by
  have h2 : rM (rS 128 (fun j => (rtN i : Int) ^ (255 * j) * (rtN k : Int) ^ j)) (if i = k then 128 else 0) := by
   have h3 : rM (rS 128 (fun j => (rtN i : Int) ^ (255 * j) * (rtN k : Int) ^ j)) (rS 128 (fun j => (((17 ^ (2 * (rvN k + 128 - rvN i) * j % 256) % 3329 : Nat)) : Int))) := rM_S fun j _ => quot_pow i k j hi hk
   rw [← nS_int (fun j => 17 ^ (2 * (rvN k + 128 - rvN i) * j % 256) % 3329)] at h3
   refine h3.trans ?_
   have h4 := rv_lt i hi
   have h5 := rv_lt k hk
   by_cases hd : rvN k + 128 - rvN i < 256
   ·have h6 := of_decide_eq_true (List.all_eq_true.1 sum_quot (rvN k + 128 - rvN i) (List.mem_range.2 hd))
    generalize nS 128 (fun j => 17 ^ (2 * (rvN k + 128 - rvN i) * j % 256) % 3329) = z at *
    unfold rM
    by_cases h : i = k
    ·rw [if_pos h]
     rw [if_pos (by rw [h]; omega)] at h6
     omega
    ·rw [if_neg h]
     have h7 : rvN k ≠ rvN i := fun q => h (by rw [← rv_rv i hi, ← rv_rv k hk, q])
     rw [if_neg (by omega)] at h6
     omega
   ·omega
  refine ((rM.of rfl).mul h2).trans (rM.of ?_)
  by_cases h : i = k
  ·rw [if_pos h, if_pos h.symm]
  ·rw [if_neg h, if_neg (fun q => h q.symm), Int.mul_zero]
 refine h1.trans ?_
 rw [rS_pick (fun i => c i * 3303 * 128) k, if_pos hk]
 unfold rM
 omega
end Go.Proofs.YtbjpbeplpljieaaDoor

/-
 POLYNOMIALS of 256 numbers modulo q: their sums, products and transforms, and the laws of the ring.
-/
namespace Go.Proofs.YtbjpbeplpljieaaDoor
set_option maxRecDepth 100000
def rd (x : Int) : Nat := (x % 3329).toNat
theorem rd_int (x : Int) : ((rd x : Nat) : Int) = x % 3329 := by unfold rd; omega
theorem rd_lt (x : Int) : rd x < 3329 := by unfold rd; omega
theorem rd_of {x y : Int} (h : rM x y) : rd x = rd y := by unfold rd; rw [show x % 3329 = y % 3329 from h]
theorem rM_rd (x : Int) : rM ((rd x : Nat) : Int) x := by unfold rM; rw [rd_int]; exact rM_mod x
theorem rd_same (n : Nat) : rd (n : Int) = n % 3329 := by unfold rd; omega
theorem rM_nat (n : Nat) : rM ((n % 3329 : Nat) : Int) (n : Int) := by unfold rM; omega
def iP (a : Nat → Nat) : Nat → Int := fun i => (a i : Int)
def redN (a : Nat → Nat) (k : Nat) : Nat := rd (a k)
def addN (a b : Nat → Nat) (k : Nat) : Nat := rd (a k + b k)
def subN (a b : Nat → Nat) (k : Nat) : Nat := rd (a k - b k)
def mulN (a b : Nat → Nat) (k : Nat) : Nat := rd (ngc (iP a) (iP b) k)
def nttN (a : Nat → Nat) (k : Nat) : Nat := rd (if k % 2 = 0 then evP (rtN (k / 2)) (iP a) else odP (rtN (k / 2)) (iP a))
def invN (a : Nat → Nat) (k : Nat) : Nat := rd (rS 128 (fun i => iP a (2 * i + k % 2) * 3303 * (rtN i : Int) ^ (255 * (k / 2))))
def pairN (a b : Nat → Nat) (k : Nat) : Nat := rd (if k % 2 = 0 then iP a (2 * (k / 2)) * iP b (2 * (k / 2)) + rtN (k / 2) * (iP a (2 * (k / 2) + 1) * iP b (2 * (k / 2) + 1)) else iP a (2 * (k / 2)) * iP b (2 * (k / 2) + 1) + iP a (2 * (k / 2) + 1) * iP b (2 * (k / 2)))
/-- equal below 256, modulo q -/
def pM (a b : Nat → Int) : Prop := ∀ k, k < 256 → rM (a k) (b k)
theorem evP_of {g : Int} {a b : Nat → Int} (h : pM a b) : rM (evP g a) (evP g b) := rM_S fun j hj => (h _ (by omega)).mul (rM.of rfl)
theorem odP_of {g : Int} {a b : Nat → Int} (h : pM a b) : rM (odP g a) (odP g b) := rM_S fun j hj => (h _ (by omega)).mul (rM.of rfl)
theorem cnv_of {a b a' b' : Nat → Int} (h : pM a a') (h2 : pM b b') (m : Nat) : rM (cnv a b m) (cnv a' b' m) := rM_S fun i hi => rM_S fun k hk => by
 split
 ·exact (h i hi).mul (h2 k hk)
 ·exact rfl
theorem ngc_of {a b a' b' : Nat → Int} (h : pM a a') (h2 : pM b b') (m : Nat) : rM (ngc a b m) (ngc a' b' m) := (cnv_of h h2 _).sub (cnv_of h h2 _)
theorem nttN_of {a b : Nat → Nat} (h : pM (iP a) (iP b)) (k : Nat) : nttN a k = nttN b k := by
 unfold nttN
 refine rd_of ?_
 split
 ·exact evP_of h
 ·exact odP_of h
theorem invN_of {a b : Nat → Nat} (h : pM (iP a) (iP b)) (k : Nat) : invN a k = invN b k := by
 unfold invN
 refine rd_of (rM_S fun i hi => ((h _ (by omega)).mul (rM.of rfl)).mul (rM.of rfl))
theorem mulN_of {a b a' b' : Nat → Nat} (h : pM (iP a) (iP a')) (h2 : pM (iP b) (iP b')) (k : Nat) : mulN a b k = mulN a' b' k := rd_of (ngc_of h h2 k)
theorem pairN_of {a b a' b' : Nat → Nat} (h : pM (iP a) (iP a')) (h2 : pM (iP b) (iP b')) (k : Nat) (hk : k < 256) : pairN a b k = pairN a' b' k := by
 unfold pairN
 refine rd_of ?_
 split
 ·exact ((h _ (by omega)).mul (h2 _ (by omega))).add ((rM.of rfl).mul ((h _ (by omega)).mul (h2 _ (by omega))))
 ·exact ((h _ (by omega)).mul (h2 _ (by omega))).add ((h _ (by omega)).mul (h2 _ (by omega)))
theorem pM_eq {a b : Nat → Nat} (h : ∀ k, k < 256 → a k = b k) : pM (iP a) (iP b) := fun k hk => rM.of (by unfold iP; rw [h k hk])
theorem pM_refl (a : Nat → Int) : pM a a := fun _ _ => rfl
theorem pM_red (a : Nat → Nat) : pM (iP (redN a)) (iP a) := fun _ _ => rM_rd _
/-- what the transform's numbers are -/
theorem ntt_even (a : Nat → Nat) (i : Nat) : rM (iP (nttN a) (2 * i)) (evP (rtN i) (iP a)) := by
 unfold iP nttN
 rw [if_pos (by omega), show 2 * i / 2 = i by omega]
 exact rM_rd _
theorem ntt_odd (a : Nat → Nat) (i : Nat) : rM (iP (nttN a) (2 * i + 1)) (odP (rtN i) (iP a)) := by
 unfold iP nttN
 rw [if_neg (by omega), show (2 * i + 1) / 2 = i by omega]
 exact rM_rd _
theorem ntt_mulN (a b : Nat → Nat) (k : Nat) (hk : k < 256) : nttN (mulN a b) k = pairN (nttN a) (nttN b) k := by
 have hg := rt_128 (k / 2) (by omega)
 have h : pM (iP (mulN a b)) (ngc (iP a) (iP b)) := fun k _ => rM_rd _
 unfold pairN
 rw [nttN]
 refine rd_of ?_
 split
 ·refine ((evP_of h).trans (ev_ngc hg _ _)).trans ?_
  exact ((ntt_even a _).symm.mul (ntt_even b _).symm).add ((rM.of rfl).mul ((ntt_odd a _).symm.mul (ntt_odd b _).symm))
 ·refine ((odP_of h).trans (od_ngc hg _ _)).trans ?_
  exact ((ntt_even a _).symm.mul (ntt_odd b _).symm).add ((ntt_odd a _).symm.mul (ntt_even b _).symm)
theorem ntt_addN (a b : Nat → Nat) (k : Nat) : nttN (addN a b) k = addN (nttN a) (nttN b) k := by
 have h : pM (iP (addN a b)) (fun i => iP a i + iP b i) := fun k _ => rM_rd _
 unfold addN
 rw [nttN]
 refine rd_of ?_
 have e1 : ∀ g, evP g (fun i => iP a i + iP b i) = evP g (iP a) + evP g (iP b) := fun g => by
  unfold evP
  rw [← rS_add]
  exact rS_congr fun j _ => Int.add_mul _ _ _
 have e2 : ∀ g, odP g (fun i => iP a i + iP b i) = odP g (iP a) + odP g (iP b) := fun g => by
  unfold odP
  rw [← rS_add]
  exact rS_congr fun j _ => Int.add_mul _ _ _
 by_cases hk : k % 2 = 0
 ·rw [if_pos hk]
  refine (evP_of h).trans ?_
  rw [e1]
  have h1 := ntt_even a (k / 2)
  have h2 := ntt_even b (k / 2)
  rw [show 2 * (k / 2) = k by omega] at h1 h2
  exact h1.symm.add h2.symm
 ·rw [if_neg hk]
  refine (odP_of h).trans ?_
  rw [e2]
  have h1 := ntt_odd a (k / 2)
  have h2 := ntt_odd b (k / 2)
  rw [show 2 * (k / 2) + 1 = k by omega] at h1 h2
  exact h1.symm.add h2.symm
theorem inv_ntt (a : Nat → Nat) (k : Nat) (hk : k < 256) : invN (nttN a) k = redN a k := by
 unfold invN redN
 refine rd_of ?_
 by_cases h : k % 2 = 0
 ·have h1 := back_there (fun j => iP a (2 * j)) (k / 2) (by omega)
  rw [show 2 * (k / 2) = k by omega] at h1
  refine (rM_S fun i hi => ?_).trans h1
  rw [h]
  exact ((ntt_even a i).mul (rM.of rfl)).mul (rM.of rfl)
 ·have h1 := back_there (fun j => iP a (2 * j + 1)) (k / 2) (by omega)
  rw [show 2 * (k / 2) + 1 = k by omega] at h1
  refine (rM_S fun i hi => ?_).trans h1
  rw [show k % 2 = 1 by omega]
  exact ((ntt_odd a i).mul (rM.of rfl)).mul (rM.of rfl)
theorem ntt_inv (a : Nat → Nat) (k : Nat) (hk : k < 256) : nttN (invN a) k = redN a k := by
 unfold nttN redN
 refine rd_of ?_
 by_cases h : k % 2 = 0
 ·rw [if_pos h]
  have h1 := there_back (fun i => iP a (2 * i)) (k / 2) (by omega)
  rw [show 2 * (k / 2) = k by omega] at h1
  refine (rM_S fun j hj => ?_).trans h1
  refine rM.mul ?_ (rM.of rfl)
  unfold iP invN
  rw [show 2 * j % 2 = 0 by omega, show 2 * j / 2 = j by omega]
  exact rM_rd _
 ·rw [if_neg h]
  have h1 := there_back (fun i => iP a (2 * i + 1)) (k / 2) (by omega)
  rw [show 2 * (k / 2) + 1 = k by omega] at h1
  refine (rM_S fun j hj => ?_).trans h1
  refine rM.mul ?_ (rM.of rfl)
  unfold iP invN
  rw [show (2 * j + 1) % 2 = 1 by omega, show (2 * j + 1) / 2 = j by omega]
  exact rM_rd _
theorem rd_rd (x : Int) : rd ((rd x : Nat) : Int) = rd x := rd_of (rM_rd x)
/-- a product by its transforms -/
theorem mul_inv (a b : Nat → Nat) (k : Nat) (hk : k < 256) : mulN a b k = invN (pairN (nttN a) (nttN b)) k := by
 rw [← invN_of (pM_eq fun k hk => ntt_mulN a b k hk) k, inv_ntt _ k hk]
 unfold redN mulN
 exact (rd_rd _).symm
theorem add_comm' (a b : Nat → Nat) (k : Nat) : addN a b k = addN b a k := by unfold addN; rw [Int.add_comm]
theorem add_assoc' (a b c : Nat → Nat) (k : Nat) : addN (addN a b) c k = addN a (addN b c) k := by
 unfold addN
 refine rd_of ?_
 refine ((rM_rd _).add (rM.of rfl)).trans (rM.trans (rM.of (by omega)) ((rM.of rfl).add (rM_rd _).symm))
theorem sub_add' (a b : Nat → Nat) (k : Nat) : subN (addN a b) b k = redN a k := by
 unfold subN addN redN
 refine rd_of (((rM_rd _).sub (rM.of rfl)).trans (rM.of (by omega)))
theorem pair_comm (a b : Nat → Nat) (k : Nat) : pairN a b k = pairN b a k := by
 unfold pairN
 refine rd_of (rM.of ?_)
 split <;> grind
theorem pair_even (a b : Nat → Nat) (i : Nat) : rM (iP (pairN a b) (2 * i)) (iP a (2 * i) * iP b (2 * i) + rtN i * (iP a (2 * i + 1) * iP b (2 * i + 1))) := by
 rw [show iP (pairN a b) (2 * i) = ((pairN a b (2 * i) : Nat) : Int) from rfl]
 unfold pairN
 rw [if_pos (by omega), show 2 * i / 2 = i by omega]
 exact rM_rd _
theorem pair_odd (a b : Nat → Nat) (i : Nat) : rM (iP (pairN a b) (2 * i + 1)) (iP a (2 * i) * iP b (2 * i + 1) + iP a (2 * i + 1) * iP b (2 * i)) := by
 rw [show iP (pairN a b) (2 * i + 1) = ((pairN a b (2 * i + 1) : Nat) : Int) from rfl]
 unfold pairN
 rw [if_neg (by omega), show (2 * i + 1) / 2 = i by omega]
 exact rM_rd _
theorem pair_assoc (a b c : Nat → Nat) (k : Nat) : pairN (pairN a b) c k = pairN a (pairN b c) k := by
 rw [pairN, pairN]
 refine rd_of ?_
 have e1 := pair_even a b (k / 2)
 have e2 := pair_odd a b (k / 2)
 have e3 := pair_even b c (k / 2)
 have e4 := pair_odd b c (k / 2)
 by_cases h : k % 2 = 0
 ·rw [if_pos h, if_pos h]
  refine ((e1.mul (rM.of rfl)).add ((rM.of rfl).mul (e2.mul (rM.of rfl)))).trans (rM.trans (rM.of ?_) (((rM.of rfl).mul e3.symm).add ((rM.of rfl).mul ((rM.of rfl).mul e4.symm))))
  grind
 ·rw [if_neg h, if_neg h]
  refine ((e1.mul (rM.of rfl)).add (e2.mul (rM.of rfl))).trans (rM.trans (rM.of ?_) (((rM.of rfl).mul e4.symm).add ((rM.of rfl).mul e3.symm)))
  grind
theorem pair_add (a b c : Nat → Nat) (k : Nat) : pairN a (addN b c) k = addN (pairN a b) (pairN a c) k := by
 have e : ∀ j, rM (iP (addN b c) j) (iP b j + iP c j) := fun j => rM_rd _
 have e1 := pair_even a b (k / 2)
 have e2 := pair_odd a b (k / 2)
 have e3 := pair_even a c (k / 2)
 have e4 := pair_odd a c (k / 2)
 rw [pairN]
 rw [show addN (pairN a b) (pairN a c) k = rd (iP (pairN a b) k + iP (pairN a c) k) from rfl]
 refine rd_of ?_
 by_cases h : k % 2 = 0
 ·rw [show 2 * (k / 2) = k by omega] at *
  rw [if_pos h]
  refine (((rM.of rfl).mul (e _)).add ((rM.of rfl).mul ((rM.of rfl).mul (e _)))).trans (rM.trans (rM.of ?_) (e1.symm.add e3.symm))
  grind
 ·rw [if_neg h]
  refine (((rM.of rfl).mul (e _)).add ((rM.of rfl).mul (e _))).trans (rM.trans (rM.of ?_) (rM.trans (e2.symm.add e4.symm) (rM.of ?_)))
  ·grind
  ·rw [show 2 * (k / 2) + 1 = k by omega]
theorem mul_comm' (a b : Nat → Nat) (k : Nat) (hk : k < 256) : mulN a b k = mulN b a k := by
 rw [mul_inv a b k hk, mul_inv b a k hk]
 exact invN_of (pM_eq fun k _ => pair_comm _ _ k) k
theorem mul_assoc' (a b c : Nat → Nat) (k : Nat) (hk : k < 256) : mulN (mulN a b) c k = mulN a (mulN b c) k := by
 rw [mul_inv _ _ k hk, mul_inv a _ k hk]
 refine invN_of (pM_eq fun k hk => ?_) k
 rw [pairN_of (pM_eq fun k hk => ntt_mulN a b k hk) (pM_refl _) k hk, pairN_of (pM_refl _) (pM_eq fun k hk => ntt_mulN b c k hk) k hk]
 exact pair_assoc _ _ _ k
theorem inv_addN (a b : Nat → Nat) (k : Nat) (hk : k < 256) : invN (addN a b) k = addN (invN a) (invN b) k := by
 have h : pM (iP (addN a b)) (iP (nttN (addN (invN a) (invN b)))) := fun k hk => by
  refine rM.trans ?_ (rM.of (show iP (addN (nttN (invN a)) (nttN (invN b))) k = _ from by unfold iP; rw [ntt_addN]))
  refine (rM_rd _).trans (rM.trans ?_ (rM_rd _).symm)
  rw [ntt_inv a k hk, ntt_inv b k hk]
  exact (rM_rd _).symm.add (rM_rd _).symm
 rw [invN_of h k, inv_ntt _ k hk]
 exact rd_rd _
theorem mul_add' (a b c : Nat → Nat) (k : Nat) (hk : k < 256) : mulN a (addN b c) k = addN (mulN a b) (mulN a c) k := by
 have h1 : mulN a (addN b c) k = invN (addN (pairN (nttN a) (nttN b)) (pairN (nttN a) (nttN c))) k := by
  rw [mul_inv _ _ k hk]
  refine invN_of (pM_eq fun k hk => ?_) k
  rw [pairN_of (pM_refl _) (pM_eq fun k _ => ntt_addN b c k) k hk]
  exact pair_add _ _ _ k
 rw [h1, inv_addN _ _ k hk]
 unfold addN
 rw [mul_inv a b k hk, mul_inv a c k hk]
/-- the polynomial 1 -/
def oneN (k : Nat) : Nat := if k = 0 then 1 else 0
theorem ntt_one (i : Nat) : rM (iP (nttN oneN) (2 * i)) 1 ∧ rM (iP (nttN oneN) (2 * i + 1)) 0 := by
 constructor
 ·refine (ntt_even _ _).trans (rM.of ?_)
  unfold evP
  rw [show (fun j => iP oneN (2 * j) * (rtN i : Int) ^ j) = (fun j => if 0 = j then 1 else 0) from funext fun j => by
   unfold iP oneN
   by_cases h : j = 0
   ·subst h; rfl
   ·rw [if_neg (by omega), if_neg (by omega)]; simp]
  rw [rS_pick (fun _ => 1) 0, if_pos (by decide)]
 ·refine (ntt_odd _ _).trans (rM.of ?_)
  unfold odP
  rw [← rS_zero 128]
  refine rS_congr fun j _ => ?_
  unfold iP oneN
  rw [if_neg (by omega)]
  simp
theorem mul_one' (a : Nat → Nat) (k : Nat) (hk : k < 256) : mulN a oneN k = redN a k := by
 rw [mul_inv a _ k hk, ← inv_ntt a k hk]
 refine invN_of (fun k hk => ?_) k
 obtain ⟨h1, h2⟩ := ntt_one (k / 2)
 rw [show iP (pairN (nttN a) (nttN oneN)) k = ((pairN (nttN a) (nttN oneN) k : Nat) : Int) from rfl, pairN]
 refine (rM_rd _).trans ?_
 by_cases h : k % 2 = 0
 ·rw [if_pos h]
  refine (((rM.of rfl).mul h1).add ((rM.of rfl).mul ((rM.of rfl).mul h2))).trans (rM.of ?_)
  rw [show 2 * (k / 2) = k by omega]
  simp
 ·rw [if_neg h]
  refine (((rM.of rfl).mul h2).add ((rM.of rfl).mul h1)).trans (rM.of ?_)
  rw [show 2 * (k / 2) + 1 = k by omega]
  simp
end Go.Proofs.YtbjpbeplpljieaaDoor

/-
 POLYNOMIALS IN MEMORY: 256 cells of 16 bits.
-/
namespace Go.Proofs.YtbjpbeplpljieaaDoor
open Go.RowKit
set_option maxRecDepth 100000
def pc (p : Nat → Nat) : List Value := (List.range 256).map fun i => .int .u16 (p i : Int)
theorem pc_length (p : Nat → Nat) : (pc p).length = 256 := by simp [pc]
theorem pc_get (p : Nat → Nat) {k : Nat} (h : k < 256) : (pc p)[k]? = some (.int .u16 (p k : Int)) := by
 unfold pc
 rw [List.getElem?_map, List.getElem?_range h]
 rfl
theorem pc_of {p r : Nat → Nat} (h : ∀ i, i < 256 → p i = r i) : pc p = pc r := by
 unfold pc
 exact List.map_congr_left fun i hi => by rw [h i (List.mem_range.1 hi)]
theorem pc_inj {p r : Nat → Nat} (h : pc p = pc r) (i : Nat) (hi : i < 256) : p i = r i := by
 have h1 := pc_get p hi
 rw [h, pc_get r hi] at h1
 simp only [Option.some.injEq, Value.int.injEq, true_and] at h1
 omega
theorem pc_iff {p r : Nat → Nat} : pc p = pc r ↔ ∀ i, i < 256 → p i = r i := ⟨fun h i hi => pc_inj h i hi, pc_of⟩
def upd (p : Nat → Nat) (k v : Nat) (i : Nat) : Nat := if i = k then v else p i
theorem pc_set (p : Nat → Nat) (k v : Nat) : (pc p).set k (.int .u16 (v : Int)) = pc (upd p k v) := by
 apply List.ext_getElem?
 intro i
 rw [List.getElem?_set]
 by_cases hi : i < 256
 ·rw [pc_get _ hi]
  by_cases h : k = i
  ·subst h
   rw [if_pos rfl, if_pos (by rw [pc_length]; exact hi), pc_get _ hi]
   unfold upd
   rw [if_pos rfl]
  ·rw [if_neg h, pc_get _ hi]
   unfold upd
   rw [if_neg (fun q => h q.symm)]
 ·rw [List.getElem?_eq_none (by rw [pc_length]; omega)]
  by_cases h : k = i
  ·rw [if_pos h, if_neg (by rw [pc_length]; omega), List.getElem?_eq_none (by rw [pc_length]; omega)]
  ·rw [if_neg h, List.getElem?_eq_none (by rw [pc_length]; omega)]
theorem pc_one (p : Nat → Nat) : ∀ u ∈ pc p, u.oneCell' = true := by
 intro u hu
 unfold pc at hu
 obtain ⟨i, _, rfl⟩ := List.mem_map.1 hu
 rfl
theorem pc_zero : pc (fun _ => 0) = List.replicate 256 (.int .u16 0) := rfl
/-- the numbers of a list -/
def nthN (zs : List Int) (i : Nat) : Nat := (zs.getD i 0).toNat
theorem pc_list (zs : List Int) (hl : zs.length = 256) (h : ∀ z ∈ zs, (0 : Int) ≤ z) : zs.map (Value.int .u16) = pc (nthN zs) := by
 apply List.ext_getElem?
 intro i
 by_cases hi : i < 256
 ·rw [pc_get _ hi, List.getElem?_map, List.getElem?_eq_getElem (by omega)]
  unfold nthN
  rw [List.getD_eq_getElem?_getD, List.getElem?_eq_getElem (by omega)]
  have h1 := h zs[i] (List.getElem_mem _)
  simp
  omega
 ·rw [List.getElem?_eq_none (by simp; omega), List.getElem?_eq_none (by rw [pc_length]; omega)]
end Go.Proofs.YtbjpbeplpljieaaDoor

/-
 FOUNDATIONS, merged: see the heads of the parts.
-/
/-
 WALKS: sha2.keyBlock, masked, Mac, Extract.
-/
namespace Go.Proofs.YtbjpbeplpljieaaDoor
open Go.RowKit
set_option maxRecDepth 100000

/-- copy into a block of 64 zeros -/
theorem wpList_copy_key {ops : Array Oper} {rest : List Oper} {o : Oper} {a : Act} {w : World} {Q : Exit → Act → World → Prop} (hgd : o.guard = none) (d s : Operand)
  (ho : o.op = .call { callee := .builtin .copy, args := #[d, s], argTypes := #[23, 23] })
  (g : Nat) (hd : a.eval d = .slice (some ⟨g, 0, none⟩) 64 64) (t : TypeId) (hr : Row w g t (Lib.byteCells (List.replicate 64 0))) (B : Nat) (v : Value) (hs : a.eval s = v) (l : List UInt8) (hsl : Sl w B v l) (hl : l.length ≤ 64)
  (h : ∀ w', Row w' g t (Lib.byteCells (l ++ List.replicate (64 - l.length) 0)) → Below g w w' → wpList Tryd.prog ops Q rest (a.put o.dst (goInt l.length)) w') : wpList Tryd.prog ops Q (o :: rest) a w := by
 obtain ⟨A, c, rfl, h1, h2⟩ := hsl.form
 have hcl : (Lib.byteCells l).length = l.length := Lib.byteCells_length l
 refine wpList_copy_splice hgd d s 23 23 ho 5 Tryd.underlying23 info_u8s (some ⟨g, 0, none⟩) A 64 64 l.length c hd hs g 0 (Lib.byteCells (List.replicate 64 0)) t hr (Lib.byteCells l) (by rw [hcl]; exact (Nat.min_eq_left hl).symm) (fun hp => ?_) (by rw [hcl, Lib.byteCells_length]; simp; omega) (cell_oneCell _) g w (Below.refl _ _) (Nat.le_refl _) (fun w' hw' hb => ?_)
 ·rw [hcl] at hp
  obtain ⟨b, off, rfl, _, hc⟩ := hsl.at_ hp
  refine ⟨rfl, _, rfl, fun j u hu => ?_⟩
  have hj : j < l.length := by have := (List.getElem?_eq_some_iff.1 hu).1; rwa [hcl] at this
  rw [addr_add, hc j hj, ← hu, byteCells_get _ _ hj]
 ·rw [hcl]
  refine h w' ?_ hb
  have e : splice (Lib.byteCells (List.replicate 64 0)) 0 (Lib.byteCells l) = Lib.byteCells (l ++ List.replicate (64 - l.length) 0) := by
   unfold splice
   rw [hcl, List.take_zero, List.nil_append, Nat.zero_add]
   simp only [Lib.byteCells, List.map_append, ← List.map_drop, List.drop_replicate]
  have := hw'.out
  rw [e] at this
  exact this
theorem keyB_long (k : List UInt8) (h : 64 < k.length) : keyB k = sha k ++ List.replicate (64 - (sha k).length) 0 := by unfold keyB; simp [h]
theorem keyB_short (k : List UInt8) (h : ¬ 64 < k.length) : keyB k = k ++ List.replicate (64 - k.length) 0 := by unfold keyB; simp [h]
theorem flat_one (k : List UInt8) : [k].flatten = k := by simp

end Go.Proofs.YtbjpbeplpljieaaDoor

/-
 WALK: sha2.masked.
-/
namespace Go.Proofs.YtbjpbeplpljieaaDoor
open Go.RowKit
set_option maxRecDepth 100000

theorem xorB_length (k : List UInt8) (c : UInt8) : (xorB k c).length = k.length := by simp [xorB]
end Go.Proofs.YtbjpbeplpljieaaDoor

/-
 WALKS: sha2.Mac, Extract.
-/
namespace Go.Proofs.YtbjpbeplpljieaaDoor
open Go.RowKit
set_option maxRecDepth 100000

end Go.Proofs.YtbjpbeplpljieaaDoor

/-
 WALKS: sha2.Expand; the law's 'few'.
-/
namespace Go.Proofs.YtbjpbeplpljieaaDoor
open Go.RowKit
set_option maxRecDepth 100000

theorem own_step {w w' : World} {base : Nat} {e : TypeId} {v : Value} {n : Nat} {xs : List Value} (h : w.ownsRow base e 1 v n xs) (hb : Below w.heap.size w w') : w'.ownsRow base e 1 v n xs := by
 refine ⟨h.1, ?_⟩
 rcases h.2 with h0 | ⟨g, cap, cur, hv, hg, hr, hrest⟩
 ·exact .inl h0
 ·exact .inr ⟨g, cap, cur, hv, hg, (hb.block g (Array.getElem?_eq_some_iff.1 hr).1).trans hr, hrest⟩
/-- at most 40 texts of at most 3000 bytes each -/
def fewB (bss : List (List UInt8)) : Bool := bss.all (fun b => decide (b.length ≤ 3000)) && decide (bss.length ≤ 40)
theorem few_no (bss : List (List UInt8)) (k : Nat) (h : k < bss.length) (hb : 3000 < bss[k].length) : fewB bss = false := by
 unfold fewB
 have : bss.all (fun b => decide (b.length ≤ 3000)) = false := by
  rw [List.all_eq_false]
  exact ⟨bss[k], List.getElem_mem h, by simp; omega⟩
 rw [this]; rfl
theorem few_yes {bss : List (List UInt8)} (h : fewB bss = true) : (∀ b ∈ bss, b.length ≤ 3000) ∧ bss.length ≤ 40 := by
 unfold fewB at h
 simp only [Bool.and_eq_true, List.all_eq_true, decide_eq_true_eq] at h
 exact h
end Go.Proofs.YtbjpbeplpljieaaDoor

/-
 WALKS: seal.derived, seal.Keys.
-/
namespace Go.Proofs.YtbjpbeplpljieaaDoor
open Go.RowKit
set_option maxRecDepth 100000

/-- a hypothesis that nothing looks into till it is opened -/
structure Shh (p : Prop) : Prop where
 out : p
def encI : List UInt8 := [108, 105, 118, 101, 114, 121, 32, 101, 110, 99]
def macI : List UInt8 := [108, 105, 118, 101, 114, 121, 32, 109, 97, 99]
theorem expB_length (prk info : List UInt8) (n : Nat) : (expB prk info n).length = n := by
 unfold expB
 rw [List.length_take, okmB_length]
 omega
/-- bytes that lie in memory are handed back; nothing that was there has turned -/
def SlIs (w : World) (bs : List UInt8) (e : Ending) (w' : World) : Prop := ∃ v, e = .returned v ∧ Sl w' w'.heap.size v bs ∧ Below w.heap.size w w'

/-- a text made to bytes: the slice, the world, and that the slice reads as the text -/
theorem conv_text (s : List UInt8) (hl : s.length ≤ 1000) (w : World) : ∃ v W, (convert 9 23 (.string ⟨s.toArray⟩)).run Tryd.prog w = .ok v W ∧ Shh (Sl W W.heap.size v s ∧ Below w.heap.size w W) := by
 have h := Lib.run_convert_string_bytes (P := Tryd.prog) w 9 23 5 ⟨s.toArray⟩ Tryd.underlying9 Tryd.underlying23 Tryd.underlying5
 refine ⟨_, _, h, ⟨⟨_, _, rfl, grownCap_ge _ _ _ _, grownCap_le_maxLen _ _ _ _ (show s.length ≤ maxLen by unfold maxLen; omega), fun _ => ⟨_, 0, rfl, by rw [Lib.bytesWorld_size]; omega, fun k hk => ?_⟩⟩, Lib.bytesWorld_below _ _ _⟩⟩
 have hc := Lib.bytesWorld_cell w 5 ⟨s.toArray⟩ k (by simpa [ByteArray.size] using hk)
 rw [Nat.zero_add, hc]
 simp [List.getD, hk]

end Go.Proofs.YtbjpbeplpljieaaDoor

/-
 THE WALK of the laws' few; five parts in a row.
-/
namespace Go.Proofs.YtbjpbeplpljieaaDoor
open Go.RowKit
set_option maxRecDepth 100000

/-- texts of at most 2000 bytes each -/
def few4B (bss : List (List UInt8)) : Bool := bss.all (fun b => decide (b.length ≤ 2000))
theorem few4_no (bss : List (List UInt8)) (k : Nat) (h : k < bss.length) (hb : 2000 < bss[k].length) : few4B bss = false := by
 unfold few4B
 rw [List.all_eq_false]
 exact ⟨bss[k], List.getElem_mem h, by simp; omega⟩
theorem few4_yes {bss : List (List UInt8)} (h : few4B bss = true) : ∀ b ∈ bss, b.length ≤ 2000 := by
 unfold few4B at h
 simp only [List.all_eq_true, decide_eq_true_eq] at h
 exact h
theorem PartsO.five {w : World} {B g q n : Nat} {T : TypeId} {u1 u2 u3 u4 u5 : Value} {b1 b2 b3 b4 b5 : List UInt8} (hq : q < B) (hg : q ≠ g) (hr : Row w q T [u1, u2, u3, u4, u5]) (h1 : Sl w B u1 b1) (o1 : Off g u1) (h2 : Sl w B u2 b2) (o2 : Off g u2) (h3 : Sl w B u3 b3) (o3 : Off g u3) (h4 : Sl w B u4 b4) (o4 : Off g u4) (h5 : Sl w B u5 b5) (o5 : Off g u5) :
  PartsO w B g (.slice (some ⟨q, 0, none⟩) 5 n) [b1, b2, b3, b4, b5] :=
 ⟨_, n, rfl, fun _ => ⟨q, 0, rfl, hq, hg, fun i hi => by
  match i, hi with
  | 0, _ => exact ⟨u1, hr.cell 0, h1, o1⟩
  | 1, _ => exact ⟨u2, hr.cell 1, h2, o2⟩
  | 2, _ => exact ⟨u3, hr.cell 2, h3, o3⟩
  | 3, _ => exact ⟨u4, hr.cell 3, h4, o4⟩
  | 4, _ => exact ⟨u5, hr.cell 4, h5, o5⟩⟩⟩
end Go.Proofs.YtbjpbeplpljieaaDoor

/-
 FOUNDATIONS, merged: see the heads of the parts.
-/
/-
 WALKS: the document's own word, constants.
-/
namespace Go.Proofs.YtbjpbeplpljieaaDoor
open Go.RowKit
set_option maxRecDepth 100000

def WordOk (w : World) (x : UInt32) (e : Ending) (w' : World) : Prop := e = .returned (.int .u32 (x.toNat : Int)) ∧ Below w.heap.size w w'
theorem cell_alloc_keep {w : World} {b o : Nat} {v : Value} {ob : Obj} (h : w.cell? ⟨b, o, none⟩ = some v) (hb : b < w.heap.size) : (w.alloc ob).cell? ⟨b, o, none⟩ = some v :=
 ((Below.alloc (Below.refl _ _) (Nat.le_refl _) ob).cell (p := ⟨b, o, none⟩) hb).trans h

end Go.Proofs.YtbjpbeplpljieaaDoor

/-
 WALK: the document's own Compress, its first half: the schedule.
-/
namespace Go.Proofs.YtbjpbeplpljieaaDoor
open Go.RowKit
set_option maxRecDepth 100000

theorem sm1_bits (y : UInt32) : bits .xor .u32 (bits .xor .u32 ((rotr y 17).toNat : Int) ((rotr y 19).toNat : Int)) ((y.toNat : Int) / 1024) = ((sm1 y).toNat : Int) := by
 have h := u32_shr y 10
 simp only [Int.reducePow] at h
 rw [h, u32_xor, u32_xor]
 rfl
theorem sm0_bits (y : UInt32) : bits .xor .u32 (bits .xor .u32 ((rotr y 7).toNat : Int) ((rotr y 18).toNat : Int)) ((y.toNat : Int) / 8) = ((sm0 y).toNat : Int) := by
 have h := u32_shr y 3
 simp only [Int.reducePow] at h
 rw [h, u32_xor, u32_xor]
 rfl

theorem addSt_comm (s v : St) : addSt s v = addSt v s := by simp [addSt, UInt32.add_comm]
end Go.Proofs.YtbjpbeplpljieaaDoor

/-
 WALK: the document's own Join, parts wherever they lie.
-/
namespace Go.Proofs.YtbjpbeplpljieaaDoor
open Go.RowKit
set_option maxRecDepth 100000

/-- bytes of its own are handed back -/
def OwnIs (w : World) (bs : List UInt8) (e : Ending) (w' : World) : Prop := ∃ v, e = .returned v ∧ Gives w bs v w'

set_option maxHeartbeats 1000000 in
theorem refJoin_any (B g : Nat) (v : Value) (bss : List (List UInt8)) (w : World) (hp : PartsO w B g v bss) (hB : B ≤ w.heap.size) (hl : bss.flatten.length ≤ 1099511627776) (hn : bss.length ≤ 1000000) :
  Calls Tryd.prog 15 #[v] w (OwnIs w bss.flatten) := by
 obtain ⟨i0, hi, hz0, hz1, hz2⟩ := info_parts info_u8
 obtain ⟨A, c, rfl⟩ := hp.form
 go_enter Tryd.func15, Tryd.ntmps15
 go_wp2
 go_loopw [3, 5, 9] (fun o _ i wr => ∃ k : Nat, k ≤ bss.length ∧ i = .int .i64 k ∧ wr.ownsRow w.heap.size 5 1 o (bss.take k).flatten.length (Lib.byteCells (bss.take k).flatten) ∧ Below w.heap.size w wr) (fun _ _ i _ => bss.length - (intOf i).toNat)
 case atStart =>
  exact ⟨0, Nat.zero_le _, rfl, World.ownsRow_made w #[] 0 (Nat.le_refl _) (Nat.zero_le _) rfl, (Below.refl _ _).alloc (Nat.le_refl _) _⟩
 case round =>
  obtain ⟨k, hk, rfl, hown, hbel⟩ := hrel
  have hsz := hbel.size
  by_cases hlt : k < bss.length
  ·have hpr := hp.below (hbel.mono hB)
   obtain ⟨q, off, rfl, hq, hqg, hcc⟩ := hpr.at_ (by omega)
   obtain ⟨u, hu, hs, ho⟩ := hcc k hlt
   have hfs := flat_snoc bss k hlt
   have hfl := flat_le bss (k + 1)
   rw [hfs, List.length_append] at hfl
   have HF := Lib.hid hfs
   clear hfs hpr hcc
   generalize bss[k] = cs at *
   generalize (bss.take k).flatten = f0 at *
   go_wp2_with (at_builtin; refine wp_appendSl _ 23 5 i0 Tryd.underlying23 hi hz0 hz1 hz2 rfl _ _ rfl hown hs rfl rfl (by omega) hsz ?_)
   intro v' w1 hown1 _ hb1
   rw [← HF.out] at hown1
   have HO := Lib.hid (own_len hown1 (show f0.length + cs.length = (bss.take (k + 1)).flatten.length by rw [HF.out, List.length_append]))
   clear hown1
   go_wp2
   go_roundw
   case rel => exact ⟨k + 1, by omega, by go_num, HO.out, hbel.trans (hb1 _ (Nat.le_refl _))⟩
   case measure => simp [intOf]; omega
  ·obtain rfl : k = bss.length := by omega
   rw [List.take_of_length_le (Nat.le_refl _)] at hown
   have HO := Lib.hid hown
   clear hown
   go_wp2
   go_ret
   exact ⟨_, rfl, HO.out, hbel⟩
end Go.Proofs.YtbjpbeplpljieaaDoor

/-
 WALK: the document's own Sum256.
-/
namespace Go.Proofs.YtbjpbeplpljieaaDoor
open Go.RowKit
set_option maxRecDepth 100000

theorem two_flat (a b : List UInt8) : [a, b].flatten = a ++ b := by simp
theorem zeros_lt (n k : Nat) (h : k < zerosOf n) : ¬ (n + 1 + k) % 64 = 56 := by unfold zerosOf at h; omega
theorem zeros_eq (n : Nat) : (n + 1 + zerosOf n) % 64 = 56 := by unfold zerosOf; omega
theorem zeros_le (n : Nat) : zerosOf n ≤ 63 := by unfold zerosOf; omega
theorem padB_eq (m : List UInt8) : m ++ [128] ++ List.replicate (zerosOf m.length) 0 ++ bigB (8 * m.length) 8 = padB m := by simp [padB]
theorem padB_len (m : List UInt8) : (padB m).length ≤ m.length + 72 := by
 have := zeros_le m.length
 simp only [padB, List.length_append, List.length_cons, List.length_replicate, bigB_length]
 omega
theorem outB_snoc (s : St) (k : Nat) (h : k < s.list.length) : (outB s).take (4 * (k + 1)) = (outB s).take (4 * k) ++ bigB ((s.list[k]'h).toNat) 4 := by
 have e : ∀ (l : List UInt32) k (h : k < l.length), (l.flatMap fun x => bigB x.toNat 4).take (4 * (k + 1)) = (l.flatMap fun x => bigB x.toNat 4).take (4 * k) ++ bigB (l[k]'h).toNat 4 := by
  intro l
  induction l with
  | nil => intro k h; simp at h
  | cons x r ih =>
   intro k h
   rw [List.flatMap_cons]
   cases k with
   | zero =>
    rw [Nat.mul_zero, List.take_zero, List.nil_append, List.take_append_of_le_length (by rw [bigB_length]; omega), List.take_of_length_le (by rw [bigB_length]; omega)]
    rfl
   | succ k =>
    rw [List.take_append, List.take_append, bigB_length, List.take_of_length_le (l := bigB x.toNat 4) (by rw [bigB_length]; omega), List.take_of_length_le (l := bigB x.toNat 4) (by rw [bigB_length]; omega), show 4 * (k + 1 + 1) - 4 = 4 * (k + 1) by omega, show 4 * (k + 1) - 4 = 4 * k by omega, ih k (by simpa using h), List.append_assoc]
    rfl
 exact e s.list k h

theorem own_mono {w : World} {base base' e n : Nat} {v : Value} {xs : List Value} (h : w.ownsRow base' e 1 v n xs) (hb : base ≤ base') : w.ownsRow base e 1 v n xs := by
 refine ⟨h.1, ?_⟩
 rcases h.2 with h0 | ⟨g, cap, cur, h1, h2, h3⟩
 ·exact .inl h0
 ·exact .inr ⟨g, cap, cur, h1, Nat.le_trans hb h2, h3⟩
theorem blockAt_length (m : List UInt8) (n : Nat) (h : 64 * n + 64 ≤ m.length) : (blockAt m n).length = 64 := by
 simp [blockAt]; omega
theorem blockAt_get (m : List UInt8) (n k : Nat) (h : 64 * n + 64 ≤ m.length) (hk : k < 64) : (blockAt m n)[k]'(by rw [blockAt_length m n h]; exact hk) = m[64 * n + k]'(by omega) := by
 simp [blockAt]

end Go.Proofs.YtbjpbeplpljieaaDoor

/-
 WALKS: the document's own turned, Mac.
-/
namespace Go.Proofs.YtbjpbeplpljieaaDoor
open Go.RowKit
set_option maxRecDepth 100000

end Go.Proofs.YtbjpbeplpljieaaDoor

/-
 WALKS: the document's own Expand, Ask; sha2.Extract; sha2.Expand's errors.
-/
namespace Go.Proofs.YtbjpbeplpljieaaDoor
open Go.RowKit
set_option maxRecDepth 100000

/-- bytes are handed back, wherever they lie -/
def BytesIs (w : World) (bs : List UInt8) (e : Ending) (w' : World) : Prop := ∃ v, e = .returned v ∧ Sl w' w'.heap.size v bs ∧ Below w.heap.size w w'
theorem three_flat (a b c : List UInt8) : [a, b, c].flatten = a ++ b ++ c := by simp
theorem run_cutE (A : Option Addr) (n c j : Nat) (hj : j ≤ c) (w : World) : (Instr.sliceAt 23 (.slice A n c) none (some (.int .i64 (j : Int))) none).run Tryd.prog w = .ok (sliced A 0 j c 1) w := by
 rw [run_sliceAt_slice _ _ _ _ _ _ slice30, run_slice_h w 23 A n c slice30 .i64 (j : Int) (by omega) (by omega), elem30, run_sizeOf_u8, Result.andThen_ok, Int.toNat_natCast]
theorem tB_le (prk info : List UInt8) (j : Nat) : (tB prk info j).length ≤ 32 := by
 cases j with
 | zero => simp [tB]
 | succ j => rw [tB_length]; omega

end Go.Proofs.YtbjpbeplpljieaaDoor

/-
 FOUNDATIONS, merged: see the heads of the parts.
-/
/-
 WALKS: octet.Same, octet.Choose, octet.Xor.
-/
namespace Go.Proofs.YtbjpbeplpljieaaDoor
open Go.RowKit
set_option maxRecDepth 100000

theorem or_xor_zero (d a b : UInt8) : d ||| (a ^^^ b) = 0 ↔ d = 0 ∧ a = b := by
 rw [UInt8.or_eq_zero_iff, UInt8.xor_eq_zero_iff]
theorem and255 (a : UInt8) : bits .and .u8 (a.toNat : Int) 255 = a.toNat := by
 have h := u8_and a 255
 have e : a &&& 255 = a := by
  apply UInt8.toNat_inj.1
  rw [UInt8.toNat_and]
  show a.toNat &&& (2 ^ 8 - 1) = a.toNat
  rw [Nat.and_two_pow_sub_one_eq_mod]
  exact Nat.mod_eq_of_lt a.toNat_lt
 rw [e] at h
 exact h
theorem and0 (a : UInt8) : bits .and .u8 (a.toNat : Int) 0 = 0 := by
 have := u8_and a 0
 simpa using this
theorem andNot255 (a : UInt8) : bits .andNot .u8 (a.toNat : Int) 255 = 0 := by
 have h := u8_andNot a 255
 have e : a &&& ~~~255 = 0 := by
  have e2 : (~~~255 : UInt8) = 0 := by decide
  rw [e2]; simp
 rw [e] at h
 exact h
theorem andNot0 (a : UInt8) : bits .andNot .u8 (a.toNat : Int) 0 = a.toNat := by
 have h := u8_andNot a 0
 have e : a &&& ~~~0 = a := by
  have e2 : (~~~0 : UInt8) = 255 := by decide
  rw [e2]
  apply UInt8.toNat_inj.1
  rw [UInt8.toNat_and]
  show a.toNat &&& (2 ^ 8 - 1) = a.toNat
  rw [Nat.and_two_pow_sub_one_eq_mod]
  exact Nat.mod_eq_of_lt a.toNat_lt
 rw [e] at h
 exact h
theorem or0 (a : UInt8) : bits .or .u8 (a.toNat : Int) 0 = a.toNat := by
 have := u8_or a 0
 simpa using this
theorem zor (a : UInt8) : bits .or .u8 0 (a.toNat : Int) = a.toNat := by
 have := u8_or 0 a
 simpa using this

set_option maxHeartbeats 1000000 in
theorem same_any (B B' : Nat) (va vb : Value) (us bs : List UInt8) (w : World) (ha : Sl w B va us) (hb : Sl w B' vb bs) (hl : us.length ≤ 1099511627776) (_hl2 : bs.length ≤ 1099511627776) :
  Calls Tryd.prog 34 #[va, vb] w fun e w' => e = .returned (.bool (us == bs)) ∧ w = w' := by
 obtain ⟨A, c, rfl, _, _⟩ := ha.form
 obtain ⟨A', c', rfl, _, _⟩ := hb.form
 by_cases hlen : us.length = bs.length
 ·have HL := Lib.hid hlen
  have ht : ((us.length : Int) != (bs.length : Int)) = false := by rw [bne_eq_false_iff_eq]; omega
  have hl3 : bs.length ≤ us.length := by omega
  have hl4 : us.length ≤ bs.length := by omega
  clear hlen
  go_enter Tryd.func34, Tryd.ntmps34
  go_wp2
  go_loop [5, 15] (fun x i => ∃ (k : Nat) (d : UInt8), k ≤ us.length ∧ i = .int .i64 k ∧ x = .int .u8 (d.toNat : Int) ∧ Hid (d = 0 ↔ us.take k = bs.take k)) (fun _ i => us.length - (intOf i).toNat)
  case atStart => exact ⟨0, 0, Nat.zero_le _, rfl, rfl, Lib.hid (by simp)⟩
  case round =>
   obtain ⟨k, d, hk, rfl, rfl, hd⟩ := hrel
   by_cases hlt : k < us.length
   ·obtain ⟨b, off, rfl, hbb, hc⟩ := ha.at_ (by omega)
    obtain ⟨b', off', rfl, hbb', hc'⟩ := hb.at_ (by omega)
    have hk2 : k < bs.length := by omega
    have hc1 := hc k hlt
    have hc2 := hc' k hk2
    have HX := Lib.hid (u8_xor us[k] bs[k])
    have HO := Lib.hid (u8_or d (us[k] ^^^ bs[k]))
    have hd2 : Hid (d ||| (us[k] ^^^ bs[k]) = 0 ↔ us.take (k + 1) = bs.take (k + 1)) := by
     apply Lib.hid
     rw [or_xor_zero, hd.out, take_snoc us k hlt, take_snoc bs k hk2]
     constructor
     ·rintro ⟨h1, h2⟩; rw [h1, h2]
     ·intro h
      have := List.append_inj' h rfl
      exact ⟨this.1, by simpa using this.2⟩
    clear hc hc' hd
    go_wp2
    go_round
    case rel => exact ⟨k + 1, d ||| (us[k] ^^^ bs[k]), by omega, by go_num, by rw [HX.out, HO.out], hd2⟩
    case measure => simp [intOf]; omega
   ·obtain rfl : k = us.length := by omega
    have HR : Hid (((d.toNat : Int) == 0) = (us == bs)) := by
     apply Lib.hid
     have h1 := hd.out
     rw [List.take_of_length_le (Nat.le_refl _), List.take_of_length_le (by omega)] at h1
     by_cases h : d = 0
     ·rw [h1.1 h, h]; simp
     ·have h2 : us ≠ bs := fun e => h (h1.2 e)
      rw [beq_eq_false_iff_ne.2 h2, beq_eq_false_iff_ne]
      intro e
      exact h (UInt8.toNat_inj.1 (by simpa using e))
    go_wp2
    go_ret
    exact ⟨by rw [← HR.out]; rfl, rfl⟩
 ·have ht : ((us.length : Int) != (bs.length : Int)) = true := by rw [bne_iff_ne]; omega
  have HR : Hid ((us == bs) = false) := Lib.hid (by rw [beq_eq_false_iff_ne]; intro e; exact hlen (by rw [e]))
  clear hlen
  go_enter Tryd.func34, Tryd.ntmps34
  go_wp2
  go_ret
  exact ⟨by rw [HR.out]; rfl, rfl⟩

/-! Choose and Xor: the error, or the bytes -/
def PutIs (w : World) (er : Int) (bs : List UInt8) (e : Ending) (w' : World) : Prop := ∃ v, e = .returned (.tuple #[v, .int .i64 er]) ∧ Gives w bs v w'
def pairE (us bs : List UInt8) : Int := if us.length = bs.length then 0 else 1
def chosen (first : Bool) (us bs : List UInt8) : List UInt8 := if us.length = bs.length then (if first then us else bs) else []
def xored (us bs : List UInt8) : List UInt8 := if us.length = bs.length then List.zipWith (· ^^^ ·) us bs else []

theorem gives_blk {w w' : World} {bs : List UInt8} {k : Nat} (hk : bs.length = k) (hm : k ≤ 1099511627776) (h : Blk w' w.heap.size bs) (hb : Below w.heap.size w w') : Gives w bs (.slice (some ⟨w.heap.size, 0, none⟩) k k) w' := by
 subst hk
 exact ⟨h.own (Nat.le_refl _) (by unfold maxLen; omega), hb⟩

end Go.Proofs.YtbjpbeplpljieaaDoor

/-
 WALKS: octet.Bits and the document's own Bits: the bits of each byte, the lowest first.
-/
namespace Go.Proofs.YtbjpbeplpljieaaDoor
open Go.RowKit
set_option maxRecDepth 100000

theorem info_bool : (Tryd.prog.info? 4).map (fun i => (i.zero, i.size, i.bytes)) = some (some (.bool false), 1, 1) := by kernel_rfl
def boolCells (l : List Bool) : List Value := l.map Value.bool
theorem boolCells_append (a b : List Bool) : boolCells (a ++ b) = boolCells a ++ boolCells b := by simp [boolCells]
theorem boolCells_length (a : List Bool) : (boolCells a).length = a.length := by simp [boolCells]

/-- bit i of a byte -/
def bitAt (b : UInt8) (i : Nat) : Bool := decide (b.toNat / 2 ^ i % 2 = 1)
def bits8 (b : UInt8) : List Bool := (List.range 8).map (bitAt b)
def bitsL (bs : List UInt8) : List Bool := bs.flatMap bits8
theorem bits8_length (b : UInt8) : (bits8 b).length = 8 := by simp [bits8]
theorem bitsL_snoc (bs : List UInt8) (b : UInt8) : bitsL (bs ++ [b]) = bitsL bs ++ bits8 b := by simp [bitsL]
theorem bitsL_length (bs : List UInt8) : (bitsL bs).length = 8 * bs.length := by
 induction bs with
 | nil => rfl
 | cons b r ih =>
  simp only [bitsL, List.flatMap_cons, List.length_append, List.length_cons] at ih ⊢
  rw [bits8_length, ih]; omega
theorem bits8_take (b : UInt8) (i : Nat) (h : i < 8) : (bits8 b).take (i + 1) = (bits8 b).take i ++ [bitAt b i] := by
 rw [take_snoc _ _ (by rw [bits8_length]; exact h)]
 simp [bits8]

theorem shr_bit (b : UInt8) (i : Nat) : (bits .and .u8 ((b.toNat : Int) / 2 ^ i) 1 == 1) = bitAt b i := by
 have hb := b.toNat_lt
 have e : ((b.toNat : Int) / 2 ^ i) = ((b.toNat / 2 ^ i : Nat) : Int) := by simp
 have hq : b.toNat / 2 ^ i ≤ b.toNat := Nat.div_le_self _ _
 rw [e]
 unfold bitAt
 generalize b.toNat / 2 ^ i = q at hq ⊢
 have h1 : bits .and .u8 (q : Int) 1 = (q : Int) % 2 := bits_mask .u8 8 (by decide) wraps_u8 1 (by decide) _ (by omega) (by omega)
 rw [h1]
 by_cases h : q % 2 = 1
 ·rw [decide_eq_true h, beq_iff_eq]; omega
 ·rw [decide_eq_false h, beq_eq_false_iff_ne]; omega
theorem rem_bit (b : UInt8) (i : Nat) : (((b.toNat / 2 ^ i : Nat) : Int) % 2 == 1) = bitAt b i := by
 unfold bitAt
 by_cases h : b.toNat / 2 ^ i % 2 = 1
 ·rw [decide_eq_true h, beq_iff_eq]; omega
 ·rw [decide_eq_false h, beq_eq_false_iff_ne]; omega
theorem half_step (n i : Nat) : (((n / 2 ^ i : Nat) : Int) / 2) = ((n / 2 ^ (i + 1) : Nat) : Int) := by
 rw [Nat.pow_succ, ← Nat.div_div_eq_div_mul]; omega

theorem made_false (n : Nat) : madeCells #[.bool false] n = (boolCells (List.replicate n false)).toArray := by
 apply Array.ext
 ·simp [madeCells, boolCells]
 ·intro i h1 h2
  simp [madeCells, boolCells, Nat.mod_one]
/-- A slice of bools is handed back, in memory of its own. -/
def OwnB (w : World) (l : List Bool) (e : Ending) (w' : World) : Prop := ∃ v, e = .returned v ∧ w'.ownsRow w.heap.size 4 1 v l.length (boolCells l) ∧ Below w.heap.size w w'

end Go.Proofs.YtbjpbeplpljieaaDoor

/-
 WALKS: octet.FromBits and the document's own FromBits.
-/
namespace Go.Proofs.YtbjpbeplpljieaaDoor
open Go.RowKit
set_option maxRecDepth 100000

/-- The slice value v reads as the bools l; what it reads lies below block B. -/
def Slb (w : World) (B : Nat) (v : Value) (l : List Bool) : Prop :=
 ∃ A c, v = .slice A l.length c ∧ l.length ≤ c ∧ c ≤ maxLen ∧ (0 < l.length → ∃ b off, A = some ⟨b, off, none⟩ ∧ b < B ∧ ∀ k (h : k < l.length), w.cell? ⟨b, off + k, none⟩ = some (.bool l[k]))
section
variable {w w' : World} {B B' : Nat} {v : Value} {A : Option Addr} {n c : Nat} {l : List Bool}
theorem Slb.form (h : Slb w B v l) : ∃ A c, v = .slice A l.length c ∧ l.length ≤ c ∧ c ≤ maxLen := by
 obtain ⟨A, c, h1, h2, h3, _⟩ := h
 exact ⟨A, c, h1, h2, h3⟩
theorem Slb.at_ (h : Slb w B (.slice A n c) l) (hn : 0 < l.length) : ∃ b off, A = some ⟨b, off, none⟩ ∧ b < B ∧ ∀ k (h : k < l.length), w.cell? ⟨b, off + k, none⟩ = some (.bool l[k]) := by
 obtain ⟨A', c', hv, _, _, hc⟩ := h
 cases hv
 exact hc hn
theorem Slb.keep (h : Slb w B v l) (hk : ∀ p : Addr, p.block < B → w'.cell? p = w.cell? p) : Slb w' B v l := by
 obtain ⟨A', c', hv, h1, h2, hc⟩ := h
 refine ⟨A', c', hv, h1, h2, fun hn => ?_⟩
 obtain ⟨b, off, hA, hb, hr⟩ := hc hn
 exact ⟨b, off, hA, hb, fun k hk' => (hk _ hb).trans (hr k hk')⟩
theorem Slb.more (h : Slb w B v l) (hB : B ≤ B') : Slb w B' v l := by
 obtain ⟨A', c', hv, h1, h2, hc⟩ := h
 refine ⟨A', c', hv, h1, h2, fun hn => ?_⟩
 obtain ⟨b, off, hA, hb, hr⟩ := hc hn
 exact ⟨b, off, hA, by omega, hr⟩
theorem Slb.below (h : Slb w B v l) (hb : Below B w w') : Slb w' B v l := h.keep fun _ hp => hb.cell hp
theorem Slb.step (h : Slb w w.heap.size v l) (hb : Below w.heap.size w w') : Slb w' w'.heap.size v l := (h.below hb).more hb.size
theorem Slb.of_own {base e : Nat} (h : w.ownsRow base e 1 v l.length (boolCells l)) : Slb w w.heap.size v l := by
 rcases h.2 with ⟨rfl, hn⟩ | ⟨g, cap, cur, rfl, hb, hg, hnc, hcm, hsz, hcur⟩
 ·exact ⟨none, 0, by rw [hn], by omega, by unfold maxLen; omega, fun h => absurd h (by omega)⟩
 ·refine ⟨some ⟨g, 0, none⟩, cap, rfl, hnc, hcm, fun hn => ⟨g, 0, rfl, (Array.getElem?_eq_some_iff.1 hg).1, fun k hk => ?_⟩⟩
  have := h.cellAt k (by omega)
  rw [Nat.zero_add, this]
  simp [boolCells, List.getElem?_eq_getElem hk]
end

/-! ### the value of bits -/
def valB : List Bool → Nat
 | [] => 0
 | b :: r => b.toNat + 2 * valB r
theorem valB_snoc (l : List Bool) (b : Bool) : valB (l ++ [b]) = valB l + 2 ^ l.length * b.toNat := by
 induction l with
 | nil => simp [valB]
 | cons x r ih =>
  simp only [List.cons_append, valB, ih, List.length_cons, Nat.pow_succ]
  rw [Nat.mul_add, ← Nat.mul_assoc, Nat.mul_comm 2 (2 ^ r.length)]
  omega
theorem valB_lt (l : List Bool) : valB l < 2 ^ l.length := by
 induction l with
 | nil => simp [valB]
 | cons x r ih =>
  have : x.toNat ≤ 1 := by cases x <;> simp
  simp only [valB, List.length_cons, Nat.pow_succ]
  omega
theorem pow2_le8 {k : Nat} (h : k ≤ 8) : 2 ^ k ≤ 256 := by
 calc 2 ^ k ≤ 2 ^ 8 := Nat.pow_le_pow_right (by decide) h
  _ = 256 := by decide
def chunk (l : List Bool) (j : Nat) : List Bool := (l.drop (8 * j)).take 8
def fromN (l : List Bool) (n : Nat) : List UInt8 := (List.range n).map fun j => UInt8.ofNat (valB (chunk l j))
def fromBits (l : List Bool) : List UInt8 := fromN l ((l.length + 7) / 8)
theorem fromN_length (l : List Bool) (n : Nat) : (fromN l n).length = n := by simp [fromN]
theorem fromN_get (l : List Bool) (n j : Nat) (h : j < (fromN l n).length) : (fromN l n)[j] = UInt8.ofNat (valB (chunk l j)) := by simp [fromN]
theorem fromBits_length (l : List Bool) : (fromBits l).length = (l.length + 7) / 8 := fromN_length _ _

theorem chunk_below (l : List Bool) (k j : Nat) (hk : k < l.length) (hj : j ≠ k / 8) : chunk (l.take (k + 1)) j = chunk (l.take k) j := by
 unfold chunk
 rw [take_snoc l k hk]
 by_cases h : 8 * j + 8 ≤ k
 ·rw [List.drop_append_of_le_length (by rw [List.length_take]; omega), List.take_append_of_le_length (by rw [List.length_drop, List.length_take]; omega)]
 ·rw [List.drop_eq_nil_of_le (by simp; omega), List.drop_eq_nil_of_le (by simp; omega)]
theorem chunk_at (l : List Bool) (k : Nat) (hk : k < l.length) : chunk (l.take (k + 1)) (k / 8) = chunk (l.take k) (k / 8) ++ [l[k]] ∧ (chunk (l.take k) (k / 8)).length = k % 8 := by
 unfold chunk
 have h1 : (List.drop (8 * (k / 8)) (l.take k)).length = k % 8 := by rw [List.length_drop, List.length_take]; omega
 rw [take_snoc l k hk, List.drop_append_of_le_length (by rw [List.length_take]; omega)]
 have h2 : List.take 8 (List.drop (8 * (k / 8)) (l.take k)) = List.drop (8 * (k / 8)) (l.take k) := List.take_of_length_le (by omega)
 rw [h2]
 refine ⟨List.take_of_length_le (by rw [List.length_append, h1]; simp; omega), h1⟩
theorem fromN_false (l : List Bool) (n k : Nat) (hk : k < l.length) (hb : l[k] = false) : fromN (l.take (k + 1)) n = fromN (l.take k) n := by
 unfold fromN
 apply List.map_congr_left
 intro j _
 by_cases hj : j = k / 8
 ·subst hj
  rw [(chunk_at l k hk).1, valB_snoc, hb]
  simp
 ·rw [chunk_below l k j hk hj]
theorem fromN_true (l : List Bool) (n k : Nat) (hk : k < l.length) (hb : l[k] = true) :
  (fromN (l.take k) n).set (k / 8) (UInt8.ofNat (valB (chunk (l.take k) (k / 8)) + 2 ^ (k % 8))) = fromN (l.take (k + 1)) n := by
 apply List.ext_getElem (by simp [fromN])
 intro j h1 h2
 rw [fromN_get]
 by_cases hj : k / 8 = j
 ·subst hj
  rw [List.getElem_set_self, (chunk_at l k hk).1, valB_snoc, hb, (chunk_at l k hk).2]
  simp
 ·rw [List.getElem_set_ne hj, fromN_get, chunk_below l k j hk (Ne.symm hj)]
theorem fromN_nil (n : Nat) : fromN [] n = List.replicate n 0 := by
 apply List.ext_getElem (by simp [fromN])
 intro j h1 h2
 rw [fromN_get]
 simp [chunk, valB]
theorem fromBits_snoc (l : List Bool) (j : Nat) (h : j < (l.length + 7) / 8) : (fromBits l).take (j + 1) = (fromBits l).take j ++ [UInt8.ofNat (valB (chunk l j))] := by
 rw [take_snoc _ _ (by rw [fromBits_length]; exact h)]
 congr 2
 exact fromN_get _ _ _ _
theorem or_bit (a m : Nat) (hm : m < 8) (ha : a < 2 ^ m) : bits .or .u8 (((UInt8.ofNat a).toNat : Nat) : Int) (2 ^ m % 256) = (((UInt8.ofNat (a + 2 ^ m)).toNat : Nat) : Int) := by
 have hp := pow2_le8 (show m + 1 ≤ 8 by omega)
 rw [Nat.pow_succ] at hp
 have h1 : (UInt8.ofNat a).toNat = a := by simp; omega
 have h2 : (UInt8.ofNat (a + 2 ^ m)).toNat = a + 2 ^ m := by simp; omega
 have e : ((2 : Int) ^ m) % 256 = ((2 ^ m : Nat) : Int) := by
  have e1 : ((2 : Int) ^ m) = ((2 ^ m : Nat) : Int) := by simp
  rw [e1]
  generalize 2 ^ m = t at *
  omega
 rw [h1, h2, e, (bits_nat .u8 8 (by decide) wraps_u8 _ _ (by omega) (by omega)).2, Nat.or_comm]
 have := Nat.two_pow_add_eq_or_of_lt ha 1
 rw [Nat.mul_one] at this
 rw [← this]
 congr 1
 omega

def pw (k : Nat) : Nat := 2 ^ k
theorem drop_take (l : List Bool) (i k : Nat) (h : i ≤ k) (hk : k < l.length) : (l.drop i).take (k + 1 - i) = (l.drop i).take (k - i) ++ [l[k]] := by
 have e : k + 1 - i = (k - i) + 1 := by omega
 rw [e, take_snoc _ _ (by rw [List.length_drop]; omega)]
 congr 2
 rw [List.getElem_drop]
 congr 1
 omega

end Go.Proofs.YtbjpbeplpljieaaDoor

/-
 THE WALK of the document's own Xor; the bytes of the bits of bytes.
-/
namespace Go.Proofs.YtbjpbeplpljieaaDoor
open Go.RowKit
set_option maxRecDepth 100000

theorem bitAt_test (b : UInt8) (i : Nat) : bitAt b i = b.toNat.testBit i := by
 unfold bitAt
 rw [Nat.testBit_eq_decide_div_mod_eq]
theorem bits8_xor (a b : UInt8) : List.zipWith (fun p q => p != q) (bits8 a) (bits8 b) = bits8 (a ^^^ b) := by
 unfold bits8
 apply List.ext_getElem (by simp)
 intro i h1 h2
 simp only [List.getElem_zipWith, List.getElem_map, List.getElem_range, bitAt_test, UInt8.toNat_xor, Nat.testBit_xor]
theorem bitsL_xor (us bs : List UInt8) (h : us.length = bs.length) : List.zipWith (fun p q => p != q) (bitsL us) (bitsL bs) = bitsL (List.zipWith (· ^^^ ·) us bs) := by
 induction us generalizing bs with
 | nil => simp [bitsL]
 | cons a r ih =>
  cases bs with
  | nil => simp at h
  | cons b s =>
   have e1 : bitsL (a :: r) = bits8 a ++ bitsL r := by simp [bitsL]
   have e2 : bitsL (b :: s) = bits8 b ++ bitsL s := by simp [bitsL]
   have e3 : bitsL ((a ^^^ b) :: List.zipWith (· ^^^ ·) r s) = bits8 (a ^^^ b) ++ bitsL (List.zipWith (· ^^^ ·) r s) := by simp [bitsL]
   rw [e1, e2, List.zipWith_cons_cons, e3, List.zipWith_append (by rw [bits8_length, bits8_length]), bits8_xor, ih s (by simpa using h)]
theorem valB_bits8 (b : UInt8) : UInt8.ofNat (valB (bits8 b)) = b := by
 have key : ∀ n : Fin 256, UInt8.ofNat (valB (bits8 (UInt8.ofNat n.val))) = UInt8.ofNat n.val := by decide +kernel
 have e : UInt8.ofNat b.toNat = b := by simp
 have := key ⟨b.toNat, b.toNat_lt⟩
 simp only [e] at this
 exact this
theorem chunk_bitsL (bs : List UInt8) (j : Nat) (h : j < bs.length) : chunk (bitsL bs) j = bits8 bs[j] := by
 induction bs generalizing j with
 | nil => simp at h
 | cons b r ih =>
  have e1 : bitsL (b :: r) = bits8 b ++ bitsL r := by simp [bitsL]
  rw [e1]
  cases j with
  | zero =>
   unfold chunk
   rw [Nat.mul_zero, List.drop_zero, List.take_append_of_le_length (by rw [bits8_length]; omega), List.take_of_length_le (by rw [bits8_length]; omega)]
   rfl
  | succ j =>
   have := ih j (by simpa using h)
   unfold chunk at this ⊢
   rw [show 8 * (j + 1) = (bits8 b).length + 8 * j by rw [bits8_length]; omega, ← List.drop_drop, List.drop_left, this]
   rfl
theorem fromBits_bitsL (bs : List UInt8) : fromBits (bitsL bs) = bs := by
 apply List.ext_getElem (by rw [fromBits_length, bitsL_length]; omega)
 intro j h1 h2
 have h := fromN_get (bitsL bs) (((bitsL bs).length + 7) / 8) j h1
 rw [chunk_bitsL bs j h2, valB_bits8] at h
 exact h

theorem own_base {w : World} {base base' : Nat} {e : TypeId} {v : Value} {n : Nat} {xs : List Value} (h : w.ownsRow base e 1 v n xs) (hb : base' ≤ base) : w.ownsRow base' e 1 v n xs := by
 refine ⟨h.1, ?_⟩
 rcases h.2 with hn | ⟨g, cap, cur, hv, hg, rest⟩
 ·exact .inl hn
 ·exact .inr ⟨g, cap, cur, hv, by omega, rest⟩

end Go.Proofs.YtbjpbeplpljieaaDoor

/-
 MATHEMATICS of seal's stream; facts that go from one world to a later one.
-/
namespace Go.Proofs.YtbjpbeplpljieaaDoor
open Go.RowKit
set_option maxRecDepth 100000

theorem share {T G : Prop} (h1 : Shh T → G) (h2 : T) : G := h1 ⟨h2⟩
/-! facts that go on -/
section
variable {w w' : World} {g : Nat} {T : TypeId} {cs : List Value} {v : Value} {bs : List UInt8}
theorem Sl.go (h : Sl w w.heap.size v bs) (b : Below w.heap.size w w') : Sl w' w'.heap.size v bs := (h.below b).more b.size
theorem Row.go (h : Row w g T cs) (b : Below w.heap.size w w') : Row w' g T cs := h.below b h.lt
/-- a slice of bytes that lies in a block of its own, from base on -/
def Own (w : World) (base : Nat) (v : Value) (bs : List UInt8) : Prop := w.ownsRow base 5 1 v bs.length (Lib.byteCells bs)
theorem Own.go {base : Nat} (h : Own w base v bs) (b : Below w.heap.size w w') : Own w' base v bs := own_step h b
theorem Own.lt {base : Nat} (h : Own w base v bs) (k : Nat) (hk : v.ownBlock = some k) : base ≤ k ∧ k < w.heap.size := World.ownsRow.lt h k hk
theorem Row.sl {n : Nat} (hr : Row w g T (Lib.byteCells bs)) (hn : bs.length = n) (hm : n ≤ 1000000) : Sl w w.heap.size (.slice (some ⟨g, 0, none⟩) n n) bs := Sl.of_bytes hr hr.lt hn hm
end

theorem run_arr32_h (g j : Nat) (hj : j ≤ 32) (w : World) : (Instr.sliceAt 22 (.pointer (some ⟨g, 0, none⟩)) none (some (.int .i64 (j : Int))) none).run Tryd.prog w = .ok (.slice (some ⟨g, 0, none⟩) j 32) w := by
 have hA : Tryd.prog.arrayLen 22 = 32 := by kernel_rfl
 have hE : Tryd.prog.elem 22 = 5 := by kernel_rfl
 have hu : Tryd.prog.underlying 22 = some (.array (Tryd.prog.arrayLen 22) (Tryd.prog.elem 22)) := by kernel_rfl
 rw [run_sliceAt_array_h w 22 ⟨g, 0, none⟩ hu .i64 (j : Int) (by omega) (by rw [hA]; omega), hE, run_sizeOf_u8, Result.andThen_ok, hA, Int.toNat_natCast]
 simp [slicedAt, addr_add]
/-! the stream -/
def blkB (enc nonce : List UInt8) (i : Nat) : List UInt8 := macB enc (nonce ++ bigB i 4)
def strN (enc nonce : List UInt8) : Nat → List UInt8
 | 0 => []
 | j + 1 => strN enc nonce j ++ blkB enc nonce j
theorem blkB_length (enc nonce : List UInt8) (i : Nat) : (blkB enc nonce i).length = 32 := macB_length _ _
theorem strN_length (enc nonce : List UInt8) (j : Nat) : (strN enc nonce j).length = 32 * j := by
 induction j with
 | zero => rfl
 | succ j ih => rw [strN, List.length_append, ih, blkB_length]; omega
theorem strN_take (enc nonce : List UInt8) (j k : Nat) (h : j ≤ k) : (strN enc nonce k).take (32 * j) = strN enc nonce j := by
 induction k with
 | zero =>
  obtain rfl : j = 0 := by omega
  rfl
 | succ k ih =>
  by_cases e : j = k + 1
  ·subst e
   rw [List.take_of_length_le (by rw [strN_length]; omega)]
  ·rw [strN, List.take_append_of_le_length (by rw [strN_length]; omega), ih (by omega)]
def blocksN (n : Nat) : Nat := (n + 31) / 32
/-- the first n bytes of the stream -/
def strB (enc nonce : List UInt8) (n : Nat) : List UInt8 := (strN enc nonce (blocksN n)).take n
theorem strB_length (enc nonce : List UInt8) (n : Nat) : (strB enc nonce n).length = n := by
 unfold strB blocksN
 rw [List.length_take, strN_length]
 omega
/-- a text covered by the stream -/
def covB (enc nonce text : List UInt8) : List UInt8 := List.zipWith (· ^^^ ·) text (strB enc nonce text.length)
theorem covB_length (enc nonce text : List UInt8) : (covB enc nonce text).length = text.length := by
 unfold covB
 rw [List.length_zipWith, strB_length, Nat.min_self]
def covN (enc nonce text : List UInt8) (k : Nat) : List UInt8 := List.zipWith (· ^^^ ·) (text.take (32 * k)) (strN enc nonce k)
theorem covN_length (enc nonce text : List UInt8) (k : Nat) : (covN enc nonce text k).length = min (32 * k) text.length := by
 unfold covN
 rw [List.length_zipWith, List.length_take, strN_length]
 omega
theorem zipWith_take_right (us bs : List UInt8) : List.zipWith (· ^^^ ·) us (bs.take us.length) = List.zipWith (· ^^^ ·) us bs := by
 induction us generalizing bs with
 | nil => simp
 | cons a r ih =>
  cases bs with
  | nil => simp
  | cons b s => simp [ih]
theorem covN_all (enc nonce text : List UInt8) (k : Nat) (h : text.length ≤ 32 * k) (hk : k = blocksN text.length) : covN enc nonce text k = covB enc nonce text := by
 unfold covN covB strB
 rw [List.take_of_length_le h, ← hk, zipWith_take_right]
theorem covN_succ (enc nonce text : List UInt8) (k : Nat) (h : 32 * k ≤ text.length) :
  covN enc nonce text (k + 1) = covN enc nonce text k ++ List.zipWith (· ^^^ ·) ((text.drop (32 * k)).take 32) (blkB enc nonce k) := by
 unfold covN
 rw [strN, show 32 * (k + 1) = 32 * k + 32 by omega, List.take_add, List.zipWith_append]
 rw [List.length_take, strN_length]
 omega
theorem xor_zeros (n : Nat) (bs : List UInt8) (h : bs.length = n) : List.zipWith (· ^^^ ·) (List.replicate n (0 : UInt8)) bs = bs := by
 induction bs generalizing n with
 | nil => subst h; rfl
 | cons b s ih =>
  subst h
  rw [List.length_cons, List.replicate_succ, List.zipWith_cons_cons, ih _ rfl]
  simp
theorem covB_zeros (enc nonce : List UInt8) (n : Nat) : covB enc nonce (List.replicate n 0) = strB enc nonce n := by
 unfold covB
 rw [List.length_replicate, xor_zeros _ _ (strB_length _ _ _)]
theorem covB_back (enc nonce text : List UInt8) : covB enc nonce (covB enc nonce text) = text := by
 have key : ∀ us bs : List UInt8, us.length = bs.length → List.zipWith (· ^^^ ·) (List.zipWith (· ^^^ ·) us bs) bs = us := by
  intro us
  induction us with
  | nil => simp
  | cons a r ih =>
   intro bs h
   cases bs with
   | nil => simp at h
   | cons b s =>
    rw [List.zipWith_cons_cons, List.zipWith_cons_cons, ih s (by simpa using h)]
    congr 1
    rw [UInt8.xor_assoc, UInt8.xor_self, UInt8.xor_zero]
 have e : covB enc nonce (covB enc nonce text) = List.zipWith (· ^^^ ·) (covB enc nonce text) (strB enc nonce text.length) := by
  show List.zipWith (· ^^^ ·) (covB enc nonce text) (strB enc nonce (covB enc nonce text).length) = _
  rw [covB_length]
 rw [e]
 unfold covB
 exact key _ _ (strB_length _ _ _).symm
/-! what is sealed -/
def encK (key : List UInt8) : List UInt8 := expB key encI 32
def macK (key : List UInt8) : List UInt8 := expB key macI 32
end Go.Proofs.YtbjpbeplpljieaaDoor

/-
 OPERATIONS on polynomials in memory.
-/
namespace Go.Proofs.YtbjpbeplpljieaaDoor
open Go.RowKit
set_option maxRecDepth 100000
def polyV (p : Nat → Nat) : Value := .agg (pc p).toArray
/-- the answer is a polynomial, and what was in memory stays -/
def PolyIs (w : World) (p : Nat → Nat) (e : Ending) (w' : World) : Prop := e = .returned (polyV p) ∧ Below w.heap.size w w'
theorem bel1 (w : World) (o : Obj) : Below w.heap.size w (w.alloc o) := Below.alloc (Below.refl _ _) (Nat.le_refl _) _
theorem info_poly : (Tryd.prog.info? 62).map (·.size) = some 256 := by kernel_rfl
theorem size_poly (p : Nat → Nat) : some 256 = some (pc p).length := by rw [pc_length]
theorem zero_poly (W : World) : (zeroValue 62).run Tryd.prog W = .ok (.agg (pc fun _ => 0).toArray) W := by kernel_rfl
section
variable {ops : Array Oper} {rest : List Oper} {o : Oper} {a : Act} {w : World} {Q : Exit → Act → World → Prop} {x y : Operand} {op : Oper}
theorem wl_allocP (hgd : o.guard = none) (ho : o.op = .alloc 62) (h : wpList Tryd.prog ops Q rest (a.put o.dst (.pointer (some ⟨w.heap.size, 0, none⟩))) (w.alloc (.cells (pc fun _ => 0).toArray 62))) : wpList Tryd.prog ops Q (o :: rest) a w := by
 refine wl_valueW (.pointer (some ⟨w.heap.size, 0, none⟩)) (w.alloc (.cells (pc fun _ => 0).toArray 62)) hgd ?_ h
 have hz := zero_poly w
 unfold execOp
 simp only [ho]
 generalize pc (fun _ => 0) = z at *
 go_simp
theorem at_poly {g k : Nat} (hk : k < 256) (ho : op.op = .indexAddr 62 x y) (hx : a.eval x = .pointer (some ⟨g, 0, none⟩)) (hy : a.eval y = .int .i64 (k : Int)) : (execOp a.eval op).run Tryd.prog w = .ok (.value (.pointer (some ⟨g, k, none⟩))) w := by
 have h1 : (k : Int) < 256 := by omega
 have h2 : (0 : Int) ≤ (k : Int) := by omega
 unfold execOp
 simp only [ho, hx, hy]
 go_simp
theorem load_u16 {q : Addr} {n : Nat} (ho : op.op = .load 39 x) (hc : w.cell? q = some (.int .u16 (n : Int))) (hx : a.eval x = .pointer (some q)) : (execOp a.eval op).run Tryd.prog w = .ok (.value (.int .u16 (n : Int))) w := by
 unfold execOp
 simp only [ho, hx]
 go_simp
theorem rem_u16 {n r : Nat} (h : r = n % 3329) (hn : n < 65536) (ho : op.op = .binOp .rem 39 x (.const (.int .u16 3329)) 39) (hx : a.eval x = .int .u16 (n : Int)) : (execOp a.eval op).run Tryd.prog w = .ok (.value (.int .u16 (r : Int))) w := by
 have hc : a.eval (.const (.int .u16 3329)) = .int .u16 3329 := rfl
 have e : (n : Int).tmod 3329 = (r : Int) := by rw [Int.tmod_eq_emod_of_nonneg (by omega)]; omega
 have e2 : (n : Int) % 3329 = (r : Int) := by omega
 have hw : IntKind.u16.wrap (r : Int) = (r : Int) := by rw [IntKind.wrap_u16]; omega
 have hm : (r : Int) % 65536 = (r : Int) := by omega
 clear h
 unfold execOp
 simp only [ho, hx, hc]
 go_simp
theorem conv_ui16 {n : Nat} (hn : n < 65536) (ho : op.op = .convert 39 3 x) (hx : a.eval x = .int .u16 (n : Int)) : (execOp a.eval op).run Tryd.prog w = .ok (.value (.int .i64 (n : Int))) w := by
 have hw : IntKind.i64.wrap (n : Int) = (n : Int) := by rw [IntKind.wrap_i64]; omega
 unfold execOp
 simp only [ho, hx]
 go_simp
theorem conv_iu16 {n : Nat} (hn : n < 65536) (ho : op.op = .convert 3 39 x) (hx : a.eval x = .int .i64 (n : Int)) : (execOp a.eval op).run Tryd.prog w = .ok (.value (.int .u16 (n : Int))) w := by
 have hw : IntKind.u16.wrap (n : Int) = (n : Int) := by rw [IntKind.wrap_u16]; omega
 have hm : (n : Int) % 65536 = (n : Int) := by omega
 unfold execOp
 simp only [ho, hx]
 go_simp
theorem add_ii {i j k : Nat} (h : k = i + j ∧ k ≤ 1000000000000) (ho : op.op = .binOp .add 3 x y 3) (hx : a.eval x = .int .i64 (i : Int)) (hy : a.eval y = .int .i64 (j : Int)) : (execOp a.eval op).run Tryd.prog w = .ok (.value (.int .i64 (k : Int))) w := by
 have hw : IntKind.i64.wrap ((i : Int) + (j : Int)) = (k : Int) := by rw [IntKind.wrap_i64]; omega
 clear h
 unfold execOp
 simp only [ho, hx, hy]
 go_simp
theorem sub_ii {i j k : Nat} (h : i = k + j ∧ i ≤ 1000000000000) (ho : op.op = .binOp .sub 3 x y 3) (hx : a.eval x = .int .i64 (i : Int)) (hy : a.eval y = .int .i64 (j : Int)) : (execOp a.eval op).run Tryd.prog w = .ok (.value (.int .i64 (k : Int))) w := by
 have hw : IntKind.i64.wrap ((i : Int) - (j : Int)) = (k : Int) := by rw [IntKind.wrap_i64]; omega
 clear h
 unfold execOp
 simp only [ho, hx, hy]
 go_simp
theorem mul_iin {i j k : Nat} (h : k = i * j) (hk : k ≤ 1000000000000) (ho : op.op = .binOp .mul 3 x y 3) (hx : a.eval x = .int .i64 (i : Int)) (hy : a.eval y = .int .i64 (j : Int)) : (execOp a.eval op).run Tryd.prog w = .ok (.value (.int .i64 (k : Int))) w := by
 have he : (i : Int) * (j : Int) = (k : Int) := by rw [h, Int.natCast_mul]
 have hw : IntKind.i64.wrap (k : Int) = (k : Int) := by rw [IntKind.wrap_i64]; omega
 clear h
 unfold execOp
 simp only [ho, hx, hy]
 go_simp
theorem rem_iq {n r : Nat} (h : r = n % 3329) (hn : n ≤ 1000000000000) (ho : op.op = .binOp .rem 3 x (.const (.int .i64 3329)) 3) (hx : a.eval x = .int .i64 (n : Int)) : (execOp a.eval op).run Tryd.prog w = .ok (.value (.int .i64 (r : Int))) w := by
 have hc : a.eval (.const (.int .i64 3329)) = .int .i64 3329 := rfl
 have e : (n : Int).tmod 3329 = (r : Int) := by rw [Int.tmod_eq_emod_of_nonneg (by omega)]; omega
 have e2 : (n : Int) % 3329 = (r : Int) := by omega
 have hw : IntKind.i64.wrap (r : Int) = (r : Int) := by rw [IntKind.wrap_i64]; omega
 clear h
 unfold execOp
 simp only [ho, hx, hc]
 go_simp
end
end Go.Proofs.YtbjpbeplpljieaaDoor

/-
 THE DOCUMENT'S OWN Reduce, Add, Sub.
-/
namespace Go.Proofs.YtbjpbeplpljieaaDoor
open Go.RowKit
set_option maxRecDepth 100000
/-- the first k numbers of r, the others of p -/
def half (r p : Nat → Nat) (k i : Nat) : Nat := if i < k then r i else p i
theorem half_zero (r p : Nat → Nat) : pc (half r p 0) = pc p := pc_of fun i _ => if_neg (by omega)
theorem half_all (r p : Nat → Nat) : pc (half r p 256) = pc r := pc_of fun _ h => if_pos h
theorem half_next (r p : Nat → Nat) (k : Nat) : pc (upd (half r p k) k (r k)) = pc (half r p (k + 1)) := pc_of fun i _ => by
 unfold upd half
 by_cases h : i = k
 ·rw [if_pos h, if_pos (by omega), h]
 ·rw [if_neg h]
  by_cases h2 : i < k
  ·rw [if_pos h2, if_pos (by omega)]
  ·rw [if_neg h2, if_neg (by omega)]
theorem half_now (r p : Nat → Nat) (k : Nat) : half r p k k = p k := if_neg (by omega)
end Go.Proofs.YtbjpbeplpljieaaDoor

/-
 THE DOCUMENT'S OWN roots: rev, power, Root; width, Near.
-/
namespace Go.Proofs.YtbjpbeplpljieaaDoor
open Go.RowKit
set_option maxRecDepth 100000
section
variable {a : Act} {x y : Operand} {op : Oper} {w : World}
theorem rem_i2 {n r : Nat} (h : r = n % 2) (hn : n ≤ 1000000000000) (ho : op.op = .binOp .rem 3 x (.const (.int .i64 2)) 3) (hx : a.eval x = .int .i64 (n : Int)) : (execOp a.eval op).run Tryd.prog w = .ok (.value (.int .i64 (r : Int))) w := by
 have hc : a.eval (.const (.int .i64 2)) = .int .i64 2 := rfl
 have e : (n : Int).tmod 2 = (r : Int) := by rw [Int.tmod_eq_emod_of_nonneg (by omega)]; omega
 have e2 : (n : Int) % 2 = (r : Int) := by omega
 have hw : IntKind.i64.wrap (r : Int) = (r : Int) := by rw [IntKind.wrap_i64]; omega
 clear h
 unfold execOp
 simp only [ho, hx, hc]
 go_simp
theorem quo_i2 {n r : Nat} (h : r = n / 2) (hn : n ≤ 1000000000000) (ho : op.op = .binOp .quo 3 x (.const (.int .i64 2)) 3) (hx : a.eval x = .int .i64 (n : Int)) : (execOp a.eval op).run Tryd.prog w = .ok (.value (.int .i64 (r : Int))) w := by
 have hc : a.eval (.const (.int .i64 2)) = .int .i64 2 := rfl
 have e : (n : Int).tdiv 2 = (r : Int) := by rw [Int.tdiv_eq_ediv_of_nonneg (by omega)]; omega
 have e2 : (n : Int) / 2 = (r : Int) := by omega
 have hw : IntKind.i64.wrap (r : Int) = (r : Int) := by rw [IntKind.wrap_i64]; omega
 clear h
 unfold execOp
 simp only [ho, hx, hc]
 go_simp
theorem quo_ii {i j k : Nat} (h : k = i / j) (hj : 0 < j) (hi : i ≤ 1000000000000) (ho : op.op = .binOp .quo 3 x y 3) (hx : a.eval x = .int .i64 (i : Int)) (hy : a.eval y = .int .i64 (j : Int)) : (execOp a.eval op).run Tryd.prog w = .ok (.value (.int .i64 (k : Int))) w := by
 have hk : k ≤ i := by rw [h]; exact Nat.div_le_self _ _
 have e : (i : Int).tdiv (j : Int) = (k : Int) := by rw [Int.tdiv_eq_ediv_of_nonneg (by omega), h, Int.natCast_ediv]
 have hw : IntKind.i64.wrap (k : Int) = (k : Int) := by rw [IntKind.wrap_i64]; omega
 have hz : ¬ (j : Int) = 0 := by omega
 clear h
 generalize (i : Int) = ii at *
 generalize (j : Int) = jj at *
 generalize (k : Int) = kk at *
 unfold execOp
 simp only [ho, hx, hy]
 go_simp
end
/-- the first k digits from behind -/
def rvP (i : Nat) : Nat → Nat
 | 0 => 0
 | k + 1 => 2 * rvP i k + i / 2 ^ k % 2
theorem rvP_le (i : Nat) : ∀ k, rvP i k < 2 ^ k
 | 0 => Nat.one_pos
 | k + 1 => by
  show 2 * rvP i k + i / 2 ^ k % 2 < 2 ^ (k + 1)
  have := rvP_le i k
  rw [Nat.pow_succ]
  omega
theorem rvP_all (i : Nat) : rvP i 7 = rvN i := by
 show 2 * (2 * (2 * (2 * (2 * (2 * (2 * 0 + i / 1 % 2) + i / 2 % 2) + i / 4 % 2) + i / 8 % 2) + i / 16 % 2) + i / 32 % 2) + i / 64 % 2 = rvN i
 unfold rvN
 omega
/-- the answer is a number, and the world is as it was -/
def NumIs (w : World) (n : Nat) (e : Ending) (w' : World) : Prop := e = .returned (.int .i64 (n : Int)) ∧ w = w'
/-- powers modulo q, one factor after the other -/
def pwN (x : Nat) : Nat → Nat
 | 0 => 1
 | n + 1 => pwN x n * x % 3329
theorem pwN_eq (x : Nat) : ∀ n, pwN x n % 3329 = x ^ n % 3329
 | 0 => rfl
 | n + 1 => by
  show pwN x n * x % 3329 % 3329 = x ^ (n + 1) % 3329
  rw [Nat.mod_mod, Nat.pow_succ, Nat.mul_mod, pwN_eq x n, ← Nat.mul_mod]
theorem pwN_lt (x : Nat) : ∀ n, pwN x n < 3329
 | 0 => by show 1 < 3329; decide
 | n + 1 => Nat.mod_lt _ (by decide)
theorem pwN_is (x n : Nat) : pwN x n = x ^ n % 3329 := by rw [← pwN_eq, Nat.mod_eq_of_lt (pwN_lt x n)]
end Go.Proofs.YtbjpbeplpljieaaDoor

/-
 STORES into polynomials; Horner's rule.
-/
namespace Go.Proofs.YtbjpbeplpljieaaDoor
open Go.RowKit
set_option maxRecDepth 100000
section
variable {ops : Array Oper} {rest : List Oper} {o : Oper} {a : Act} {w : World} {Q : Exit → Act → World → Prop} {x y : Operand} {op : Oper}
theorem wl_at (d : Nat) (hd : o.dst = some d) (v : Value) (hgd : o.guard = none) (hrun : (execOp a.eval o).run Tryd.prog w = .ok (.value v) w) {a2 : Act} (h : wpList Tryd.prog ops Q rest a2 w) (ha : a.put (some d) v = a2 := by ((try simp only [Act.put, arr9, hd9, tl9]); rfl)) : wpList Tryd.prog ops Q (o :: rest) a w := wl_value v hgd hrun (by rw [hd, ha]; exact h)
theorem wl_storeP {g k v : Nat} {q : Nat → Nat} (hgd : o.guard = none) (hk : k < 256) (ho : o.op = .store 39 x y) (hx : a.eval x = .pointer (some ⟨g, k, none⟩)) (hy : a.eval y = .int .u16 (v : Int)) (hr : Row w g 62 (pc q))
 (h : ∀ w2, Row w2 g 62 (pc (upd q k v)) → But w.heap.size g w w2 → w2.heap.size = w.heap.size → wpList Tryd.prog ops Q rest (a.put o.dst undef) w2) : wpList Tryd.prog ops Q (o :: rest) a w := by
 have hc := hr.cell k
 rw [pc_get _ hk] at hc
 have hf := hr.free k
 have hs := hr.set_ k (.int .u16 (v : Int))
 rw [pc_set] at hs
 refine wpList_plain hgd fun K hK => ?_
 unfold Oper.wp
 rw [show (execOp a.eval o).run Tryd.prog w = .ok .skip (w.setCell ⟨g, k, none⟩ (.int .u16 (v : Int))) from by
  unfold execOp
  simp only [ho, hx, hy]
  go_simp]
 exact hK _ _ (h _ hs ((But.refl _ _ _).setCell _ _) (by simp [World.setCell]))
theorem dec_i {i : Int} (h : -1 ≤ i ∧ i ≤ 1000000) (ho : op.op = .binOp .sub 3 x (.const (.int .i64 1)) 3) (hx : a.eval x = .int .i64 i) : (execOp a.eval op).run Tryd.prog w = .ok (.value (.int .i64 (i - 1))) w := by
 have hc : a.eval (.const (.int .i64 1)) = .int .i64 1 := rfl
 have hw : IntKind.i64.wrap (i - 1) = i - 1 := by rw [IntKind.wrap_i64]; omega
 clear h
 unfold execOp
 simp only [ho, hx, hc]
 go_simp
end
/-- the sum by Horner's rule, from number 127 down -/
def hz (g : Nat) (c : Nat → Nat) : Nat → Nat
 | 0 => 0
 | m + 1 => (hz g c m * g + c (127 - m)) % 3329
theorem hz_lt (g : Nat) (c : Nat → Nat) : ∀ m, hz g c m < 3329
 | 0 => by show 0 < 3329; decide
 | m + 1 => Nat.mod_lt _ (by decide)
theorem rS_first (f : Nat → Int) : ∀ n, rS (n + 1) f = f 0 + rS n (fun t => f (t + 1))
 | 0 => by show 0 + f 0 = f 0 + 0; omega
 | n + 1 => by
  show rS (n + 1) f + f (n + 1) = f 0 + (rS n (fun t => f (t + 1)) + f (n + 1))
  rw [rS_first f n]
  omega
theorem hz_sum (g : Nat) (c : Nat → Nat) : ∀ m, m ≤ 128 → rM (hz g c m : Int) (rS m (fun t => (c (128 - m + t) : Int) * (g : Int) ^ t))
 | 0, _ => rfl
 | m + 1, h => by
  have ih := hz_sum g c m (by omega)
  rw [rS_first, show hz g c (m + 1) = (hz g c m * g + c (127 - m)) % 3329 from rfl, Int.pow_zero, Int.mul_one, show 128 - (m + 1) + 0 = 127 - m by omega]
  refine (rM_nat _).trans ?_
  rw [Int.natCast_add, Int.natCast_mul]
  refine ((ih.mul (rM.of rfl)).add (rM.of rfl)).trans (rM.of ?_)
  rw [← rS_mulr, Int.add_comm]
  congr 1
  refine rS_congr fun t ht => ?_
  rw [show 128 - (m + 1) + (t + 1) = 128 - m + t by omega, Int.pow_succ, Int.mul_assoc]
theorem hz_even (p : Nat → Nat) (k : Nat) : hz (rtN k) (fun j => p (2 * j)) 128 = nttN p (2 * k) := by
 have h := hz_sum (rtN k) (fun j => p (2 * j)) 128 (Nat.le_refl _)
 have h2 := hz_lt (rtN k) (fun j => p (2 * j)) 128
 rw [show nttN p (2 * k) = rd (evP (rtN k) (iP p)) by unfold nttN; rw [if_pos (by omega), show 2 * k / 2 = k by omega]]
 rw [← Nat.mod_eq_of_lt h2, ← rd_same]
 refine rd_of (h.trans (rM.of ?_))
 exact rS_congr fun t _ => by rw [show 128 - 128 + t = t by omega]; rfl
theorem hz_odd (p : Nat → Nat) (k : Nat) : hz (rtN k) (fun j => p (2 * j + 1)) 128 = nttN p (2 * k + 1) := by
 have h := hz_sum (rtN k) (fun j => p (2 * j + 1)) 128 (Nat.le_refl _)
 have h2 := hz_lt (rtN k) (fun j => p (2 * j + 1)) 128
 rw [show nttN p (2 * k + 1) = rd (odP (rtN k) (iP p)) by unfold nttN; rw [if_neg (by omega), show (2 * k + 1) / 2 = k by omega]]
 rw [← Nat.mod_eq_of_lt h2, ← rd_same]
 refine rd_of (h.trans (rM.of ?_))
 exact rS_congr fun t _ => by rw [show 128 - 128 + t = t by omega]; rfl
theorem half_two (r p : Nat → Nat) (k : Nat) : pc (upd (upd (half r p (2 * k)) (2 * k) (r (2 * k))) (2 * k + 1) (r (2 * k + 1))) = pc (half r p (2 * (k + 1))) := pc_of fun i _ => by
 unfold upd half
 by_cases h : i = 2 * k + 1
 ·rw [if_pos h, if_pos (by omega), h]
 ·rw [if_neg h]
  by_cases h2 : i = 2 * k
  ·rw [if_pos h2, if_pos (by omega), h2]
  ·rw [if_neg h2]
   by_cases h3 : i < 2 * k
   ·rw [if_pos h3, if_pos (by omega)]
   ·rw [if_neg h3, if_neg (by omega)]
end Go.Proofs.YtbjpbeplpljieaaDoor

/-
 OPERATIONS of the program's own functions: numbers of 16 and 32 bits, elements of arrays by value.
-/
namespace Go.Proofs.YtbjpbeplpljieaaDoor
open Go.RowKit
set_option maxRecDepth 100000
theorem run_idx (T : TypeId) (m : Nat) (hT : Tryd.prog.underlying T = some (.array m 39)) (W : World) (l : List Value) (k : Nat) (v : Value) (hk : k < m) (h : l[k]? = some v) : (Instr.index T (.agg l.toArray) (.int .i64 (k : Int))).run Tryd.prog W = .ok v W := by
 have h2 : (0 : Int) ≤ (k : Int) ∧ (k : Int) < (m : Int) := by omega
 have h3 : (k : Int).toNat = k := by omega
 have h4 : l.toArray[k]? = some v := by simpa using h
 have h6 := Tryd.underlying39
 have hs : (sizeOf 39).run Tryd.prog W = .ok 1 W := by kernel_rfl
 simp [Instr.index, asIntOf, h2, part, isAgg, run_underlying hT, run_underlying h6, hs, h, -Int.natCast_nonneg]
 exact fun q => absurd hk (by omega)
/-- the answer is a number of 16 bits, and the world is as it was -/
def U16Is (w : World) (n : Nat) (e : Ending) (w' : World) : Prop := e = .returned (.int .u16 (n : Int)) ∧ w = w'
section
variable {a : Act} {x y : Operand} {op : Oper} {w : World}
theorem idx_poly {k : Nat} {l : List Value} {v : Value} (hk : k < 256) (h : l[k]? = some v) (ho : op.op = .index 62 x y) (hx : a.eval x = .agg l.toArray) (hy : a.eval y = .int .i64 (k : Int)) : (execOp a.eval op).run Tryd.prog w = .ok (.value v) w := by
 have h1 := run_idx 62 256 Tryd.underlying62 w l k v hk h
 unfold execOp
 simp only [ho, hx, hy]
 go_simp
theorem idx_roots {k : Nat} {l : List Value} {v : Value} (hk : k < 128) (h : l[k]? = some v) (ho : op.op = .index 99 x y) (hx : a.eval x = .agg l.toArray) (hy : a.eval y = .int .i64 (k : Int)) : (execOp a.eval op).run Tryd.prog w = .ok (.value v) w := by
 have h1 := run_idx 99 128 Tryd.underlying99 w l k v hk h
 unfold execOp
 simp only [ho, hx, hy]
 go_simp
theorem add_uu {i j k : Nat} (h : k = i + j ∧ k < 65536) (ho : op.op = .binOp .add 39 x y 39) (hx : a.eval x = .int .u16 (i : Int)) (hy : a.eval y = .int .u16 (j : Int)) : (execOp a.eval op).run Tryd.prog w = .ok (.value (.int .u16 (k : Int))) w := by
 have hw : IntKind.u16.wrap ((i : Int) + (j : Int)) = (k : Int) := by rw [IntKind.wrap_u16]; omega
 have hm : ((i : Int) + (j : Int)) % 65536 = (k : Int) := by omega
 clear h
 unfold execOp
 simp only [ho, hx, hy]
 go_simp
theorem sub_uu {i j k : Nat} (h : i = k + j ∧ i < 65536) (ho : op.op = .binOp .sub 39 x y 39) (hx : a.eval x = .int .u16 (i : Int)) (hy : a.eval y = .int .u16 (j : Int)) : (execOp a.eval op).run Tryd.prog w = .ok (.value (.int .u16 (k : Int))) w := by
 have hw : IntKind.u16.wrap ((i : Int) - (j : Int)) = (k : Int) := by rw [IntKind.wrap_u16]; omega
 have hm : ((i : Int) - (j : Int)) % 65536 = (k : Int) := by omega
 clear h
 unfold execOp
 simp only [ho, hx, hy]
 go_simp
theorem conv_u32 {n : Nat} (hn : n < 65536) (ho : op.op = .convert 39 110 x) (hx : a.eval x = .int .u16 (n : Int)) : (execOp a.eval op).run Tryd.prog w = .ok (.value (.int .u32 (n : Int))) w := by
 have hw : IntKind.u32.wrap (n : Int) = (n : Int) := by rw [IntKind.wrap_u32]; omega
 have hm : (n : Int) % 4294967296 = (n : Int) := by omega
 unfold execOp
 simp only [ho, hx]
 go_simp
theorem conv_32 {n k : Nat} (h : k = n % 65536) (ho : op.op = .convert 110 39 x) (hx : a.eval x = .int .u32 (n : Int)) : (execOp a.eval op).run Tryd.prog w = .ok (.value (.int .u16 (k : Int))) w := by
 have hw : IntKind.u16.wrap (n : Int) = (k : Int) := by rw [IntKind.wrap_u16]; omega
 have hm : (n : Int) % 65536 = (k : Int) := by omega
 clear h
 unfold execOp
 simp only [ho, hx]
 go_simp
theorem mul_32 {i j k : Nat} (h : k = i * j) (hk : k < 4294967296) (ho : op.op = .binOp .mul 110 x y 110) (hx : a.eval x = .int .u32 (i : Int)) (hy : a.eval y = .int .u32 (j : Int)) : (execOp a.eval op).run Tryd.prog w = .ok (.value (.int .u32 (k : Int))) w := by
 have he : (i : Int) * (j : Int) = (k : Int) := by rw [h, Int.natCast_mul]
 have hw : IntKind.u32.wrap (k : Int) = (k : Int) := by rw [IntKind.wrap_u32]; omega
 have hm : (k : Int) % 4294967296 = (k : Int) := by omega
 clear h
 unfold execOp
 simp only [ho, hx, hy]
 go_simp
theorem rem_32 {n r : Nat} (h : r = n % 3329) (hn : n < 4294967296) (ho : op.op = .binOp .rem 110 x (.const (.int .u32 3329)) 110) (hx : a.eval x = .int .u32 (n : Int)) : (execOp a.eval op).run Tryd.prog w = .ok (.value (.int .u32 (r : Int))) w := by
 have hc : a.eval (.const (.int .u32 3329)) = .int .u32 3329 := rfl
 have e : (n : Int).tmod 3329 = (r : Int) := by rw [Int.tmod_eq_emod_of_nonneg (by omega)]; omega
 have e2 : (n : Int) % 3329 = (r : Int) := by omega
 have hw : IntKind.u32.wrap (r : Int) = (r : Int) := by rw [IntKind.wrap_u32]; omega
 have hm : (r : Int) % 4294967296 = (r : Int) := by omega
 clear h
 unfold execOp
 simp only [ho, hx, hc]
 go_simp
theorem add_32 {i j k : Nat} (h : k = i + j ∧ k < 4294967296) (ho : op.op = .binOp .add 110 x y 110) (hx : a.eval x = .int .u32 (i : Int)) (hy : a.eval y = .int .u32 (j : Int)) : (execOp a.eval op).run Tryd.prog w = .ok (.value (.int .u32 (k : Int))) w := by
 have hw : IntKind.u32.wrap ((i : Int) + (j : Int)) = (k : Int) := by rw [IntKind.wrap_u32]; omega
 have hm : ((i : Int) + (j : Int)) % 4294967296 = (k : Int) := by omega
 clear h
 unfold execOp
 simp only [ho, hx, hy]
 go_simp
theorem quo_32q {n r : Nat} (h : r = n / 3329) (hn : n < 4294967296) (ho : op.op = .binOp .quo 110 x (.const (.int .u32 3329)) 110) (hx : a.eval x = .int .u32 (n : Int)) : (execOp a.eval op).run Tryd.prog w = .ok (.value (.int .u32 (r : Int))) w := by
 have hc : a.eval (.const (.int .u32 3329)) = .int .u32 3329 := rfl
 have e : (n : Int).tdiv 3329 = (r : Int) := by rw [Int.tdiv_eq_ediv_of_nonneg (by omega)]; omega
 have e2 : (n : Int) / 3329 = (r : Int) := by omega
 have hw : IntKind.u32.wrap (r : Int) = (r : Int) := by rw [IntKind.wrap_u32]; omega
 have hm : (r : Int) % 4294967296 = (r : Int) := by omega
 clear h
 unfold execOp
 simp only [ho, hx, hc]
 go_simp
/-- a shift to the left by d: times 2 to the d -/
theorem shl_32 {n d k : Nat} (h : k = n * 2 ^ d) (hd : d ≤ 31) (hk : k < 4294967296) (ho : op.op = .binOp .shl 110 x y 3) (hx : a.eval x = .int .u32 (n : Int)) (hy : a.eval y = .int .i64 (d : Int)) : (execOp a.eval op).run Tryd.prog w = .ok (.value (.int .u32 (k : Int))) w := by
 have h1 : ¬ (d : Int) < 0 := by omega
 have h2 : (d : Int).toNat = d := by omega
 have he : (n : Int) * 2 ^ d = (k : Int) := by rw [h, Int.natCast_mul, Int.natCast_pow]; rfl
 have hw : IntKind.u32.wrap (k : Int) = (k : Int) := by rw [IntKind.wrap_u32]; omega
 have hm : (k : Int) % 4294967296 = (k : Int) := by omega
 have h3 : d < 32 := by omega
 clear h
 unfold execOp
 simp only [ho, hx, hy]
 go_simp
theorem shr_32 {n d k : Nat} (h : k = n / 2 ^ d) (hd : d ≤ 31) (hn : n < 4294967296) (ho : op.op = .binOp .shr 110 x y 3) (hx : a.eval x = .int .u32 (n : Int)) (hy : a.eval y = .int .i64 (d : Int)) : (execOp a.eval op).run Tryd.prog w = .ok (.value (.int .u32 (k : Int))) w := by
 have h1 : ¬ (d : Int) < 0 := by omega
 have h2 : (d : Int).toNat = d := by omega
 have hk : k ≤ n := by rw [h]; exact Nat.div_le_self _ _
 have he : (n : Int) / 2 ^ d = (k : Int) := by rw [h, Int.natCast_ediv, Int.natCast_pow]; rfl
 have hw : IntKind.u32.wrap (k : Int) = (k : Int) := by rw [IntKind.wrap_u32]; omega
 have hm : (k : Int) % 4294967296 = (k : Int) := by omega
 have h3 : d < 32 := by omega
 clear h
 unfold execOp
 simp only [ho, hx, hy]
 go_simp
end
end Go.Proofs.YtbjpbeplpljieaaDoor

/-
 THE PROGRAM'S OWN sum, difference, product, low, ones, rev.
-/
namespace Go.Proofs.YtbjpbeplpljieaaDoor
open Go.RowKit
set_option maxRecDepth 100000
theorem sum_any (i j : Nat) (h : i + j < 65536) (w : World) : Calls Tryd.prog 64 #[.int .u16 (i : Int), .int .u16 (j : Int)] w (U16Is w ((i + j) % 3329)) := by
 unfold U16Is
 have HR : Shh ((IntKind.u16.wrap ((i : Int) + (j : Int))).tmod 3329 = (((i + j) % 3329 : Nat) : Int)) := ⟨by
  rw [IntKind.wrap_u16, Int.tmod_eq_emod_of_nonneg (by omega)]
  omega⟩
 clear h
 generalize (i + j) % 3329 = r at *
 go_enter Tryd.func64, Tryd.ntmps64
 go_wp2
 go_ret
 exact ⟨ret_int HR.out, rfl⟩
theorem difference_any (i j : Nat) (h : i < 60000 ∧ j ≤ i + 3329) (w : World) : Calls Tryd.prog 79 #[.int .u16 (i : Int), .int .u16 (j : Int)] w (U16Is w ((i + 3329 - j) % 3329)) := by
 unfold U16Is
 have HR : Shh ((IntKind.u16.wrap (IntKind.u16.wrap ((i : Int) + 3329) - (j : Int))).tmod 3329 = (((i + 3329 - j) % 3329 : Nat) : Int)) := ⟨by
  rw [IntKind.wrap_u16, IntKind.wrap_u16, Int.tmod_eq_emod_of_nonneg (by omega)]
  omega⟩
 clear h
 generalize (i + 3329 - j) % 3329 = r at *
 go_enter Tryd.func79, Tryd.ntmps79
 go_wp2
 go_ret
 exact ⟨ret_int HR.out, rfl⟩
theorem product_any (i j : Nat) (h : i < 65536 ∧ j < 65536) (w : World) : Calls Tryd.prog 78 #[.int .u16 (i : Int), .int .u16 (j : Int)] w (U16Is w (i * j % 3329)) := by
 unfold U16Is
 have HR : Shh ((i : Int) % 4294967296 * ((j : Int) % 4294967296) % 4294967296 % 3329 = ((i * j % 3329 : Nat) : Int)) := ⟨by
  have h1 : i * j < 4294967296 := Nat.lt_of_le_of_lt (Nat.mul_le_mul (Nat.le_of_lt_succ h.1) (Nat.le_of_lt_succ h.2)) (by decide)
  rw [show (i : Int) % 4294967296 = i by omega, show (j : Int) % 4294967296 = j by omega, ← Int.natCast_mul]
  omega⟩
 clear h
 generalize i * j % 3329 = r at *
 go_enter Tryd.func78, Tryd.ntmps78
 go_wp2
 go_ret
 exact ⟨ret_int HR.out, rfl⟩
theorem and_low (n d : Nat) (hn : n < 65536) (hd : d ≤ 16) : bits .and .u16 (n : Int) ((2 ^ d - 1 : Nat) : Int) = ((n % 2 ^ d : Nat) : Int) := by
 have h2 : 2 ^ d ≤ 65536 := Nat.le_trans (Nat.pow_le_pow_right (by decide) hd) (by decide)
 have h0 := Nat.two_pow_pos d
 rw [(bits_nat .u16 16 (by decide) (fun m h0 h1 => by rw [IntKind.wrap_u16]; omega) n (2 ^ d - 1) hn (by omega)).1, Nat.and_two_pow_sub_one_eq_mod]
theorem low_any (d n : Nat) (hd : d ≤ 16) (hn : n < 65536) (w : World) : Calls Tryd.prog 90 #[.int .i64 (d : Int), .int .u16 (n : Int)] w (U16Is w (n % 2 ^ d)) := by
 unfold U16Is
 have HA : Shh (bits .and .u16 (n : Int) (IntKind.u16.wrap (IntKind.u16.wrap (2 ^ min d 16) - 1)) = ((n % 2 ^ d : Nat) : Int)) := ⟨by
  have h2 : 2 ^ d ≤ 65536 := Nat.le_trans (Nat.pow_le_pow_right (by decide) hd) (by decide)
  have h0 := Nat.two_pow_pos d
  rw [← and_low n d hn hd, show min d 16 = d by omega, show ((2 : Int) ^ d) = ((2 ^ d : Nat) : Int) by rw [Int.natCast_pow]; rfl]
  congr 1
  rw [IntKind.wrap_u16, IntKind.wrap_u16]
  generalize 2 ^ d = P at *
  omega⟩
 generalize n % 2 ^ d = r at *
 have h1 : ¬ (d : Int) < 0 := by omega
 clear hd hn
 go_enter Tryd.func90, Tryd.ntmps90
 go_wp2
 go_ret
 exact ⟨ret_int HA.out, rfl⟩
theorem rev8_is : ((List.range 128).all fun i => decide (Lib.rev8 (i : Int) / 2 = (rvN i : Int))) = true := by decide +kernel
theorem rev_prog (i : Nat) (hi : i < 128) (w : World) : Calls Tryd.prog 91 #[.int .i64 (i : Int)] w (NumIs w (rvN i)) := by
 unfold NumIs
 have HR : Shh (wrap64 (Lib.rev8 (i : Int) / 2) = (rvN i : Int)) := ⟨by
  have h := List.all_eq_true.1 rev8_is i (List.mem_range.2 hi)
  have h2 := rv_lt i hi
  simp only [decide_eq_true_eq] at h
  rw [h]
  unfold wrap64
  omega⟩
 have HB : (0 : Int) ≤ (i : Int) ∧ (i : Int) ≤ 255 := by omega
 have hw : (i : Int) % 256 = (i : Int) := by omega
 generalize rvN i = r at *
 go_enter Tryd.func91, Tryd.ntmps91
 go_wp2
 go_ret
 exact ⟨ret_int HR.out, rfl⟩
end Go.Proofs.YtbjpbeplpljieaaDoor

/-
 THE FAST TRANSFORM, layer by layer: a block of L numbers is the remainder modulo X^L - r.
-/
namespace Go.Proofs.YtbjpbeplpljieaaDoor
set_option maxRecDepth 100000
/-- number i of the remainder modulo X^L - r of a polynomial of L * J numbers -/
def blk (L J : Nat) (r : Int) (a : Nat → Int) (i : Nat) : Int := rS J (fun j => a (i + L * j) * r ^ j)
theorem blk_one (L : Nat) (r : Int) (a : Nat → Int) (i : Nat) : blk L 1 r a i = a i := by
 unfold blk
 show 0 + a (i + L * 0) * r ^ 0 = a i
 rw [Int.pow_zero, Nat.mul_zero, Nat.add_zero]
 omega
theorem blk_even (g : Int) (a : Nat → Int) : blk 2 128 g a 0 = evP g a := rS_congr fun j _ => by rw [Nat.zero_add]
theorem blk_odd (g : Int) (a : Nat → Int) : blk 2 128 g a 1 = odP g a := rS_congr fun j _ => by rw [Nat.add_comm 1]
/-- a block parts into two -/
theorem blk_split (L J : Nat) {s r : Int} (h : rM (s * s) r) (a : Nat → Int) (i : Nat) : rM (blk L (2 * J) s a i) (blk (2 * L) J r a i + s * blk (2 * L) J r a (i + L)) := by
 unfold blk
 rw [rS_two, ← rS_mul]
 refine rM.add (rM_S fun j _ => ?_) (rM_S fun j _ => ?_)
 ·rw [show i + L * (2 * j) = i + 2 * L * j by grind, Int.pow_mul]
  exact (rM.of rfl).mul (rM.pow (by rw [show s ^ 2 = s * s by grind]; exact h) j)
 ·rw [show i + L * (2 * j + 1) = i + L + 2 * L * j by grind, Int.pow_succ, Int.pow_mul]
  refine ((rM.of rfl).mul ((rM.pow (by rw [show s ^ 2 = s * s by grind]; exact h) j).mul (rM.of rfl))).trans (rM.of ?_)
  grind
theorem blk_split' (L J : Nat) {s r : Int} (h : rM (s * s) r) (a : Nat → Int) (i : Nat) : rM (blk L (2 * J) (-s) a i) (blk (2 * L) J r a i - s * blk (2 * L) J r a (i + L)) := by
 refine (blk_split L J (s := -s) (by rw [show -s * -s = s * s by grind]; exact h) a i).trans (rM.of ?_)
 grind
/-- two halves are put together: twice the block -/
theorem blk_join (L J : Nat) {s r : Int} (h : rM (s * s) r) (a : Nat → Int) (i : Nat) : rM (blk L (2 * J) s a i + blk L (2 * J) (-s) a i) (2 * blk (2 * L) J r a i) :=
 ((blk_split L J h a i).add (blk_split' L J h a i)).trans (rM.of (by omega))
theorem blk_join' (L J : Nat) {s r t : Int} (h : rM (s * s) r) (ht : rM (s * t) 1) (a : Nat → Int) (i : Nat) : rM ((blk L (2 * J) s a i - blk L (2 * J) (-s) a i) * t) (2 * blk (2 * L) J r a (i + L)) := by
 refine (((blk_split L J h a i).sub (blk_split' L J h a i)).mul (rM.of rfl)).trans ?_
 refine rM.trans (rM.of (show _ = 2 * blk (2 * L) J r a (i + L) * (s * t) by grind)) ?_
 refine ((rM.of rfl).mul ht).trans (rM.of (by omega))
end Go.Proofs.YtbjpbeplpljieaaDoor

/-
 THE FAST TRANSFORM: the tree of remainders, layer by layer.
-/
namespace Go.Proofs.YtbjpbeplpljieaaDoor
set_option maxRecDepth 100000
/-- 17 to the power rev -/
def wN (t : Nat) : Nat := 17 ^ rvN t % 3329
theorem wN_lt (t : Nat) : wN t < 3329 := Nat.mod_lt _ (by decide)
/-- the root of a node of the tree: node 1 is all, 2 t and 2 t + 1 are the halves of t -/
def nodeR (u : Nat) : Int := if u = 1 then -1 else if u % 2 = 0 then (wN (u / 2) : Int) else -(wN (u / 2) : Int)
theorem node_sq' : ((List.range 128).all fun t => decide (t = 0 ∨ (wN t * wN t) % 3329 = if t = 1 then 3328 else if t % 2 = 0 then wN (t / 2) else (3329 - wN (t / 2)) % 3329)) = true := by decide +kernel
theorem node_leaf' : ((List.range 128).all fun i => decide (rtN i = if i % 2 = 0 then wN (64 + i / 2) else (3329 - wN (64 + i / 2)) % 3329)) = true := by decide +kernel
theorem node_inv' : (([1, 2, 4, 8, 16, 32, 64] : List Nat).all fun J => (List.range J).all fun k => decide (wN (2 * J - 1 - k) * wN (J + k) % 3329 = 3328)) = true := by decide +kernel
theorem node_sq (t : Nat) (h0 : 1 ≤ t) (ht : t < 128) : rM ((wN t : Int) * (wN t : Int)) (nodeR t) := by
 have h := List.all_eq_true.1 node_sq' t (List.mem_range.2 ht)
 simp only [decide_eq_true_eq] at h
 have h1 : (wN t * wN t) % 3329 = if t = 1 then 3328 else if t % 2 = 0 then wN (t / 2) else (3329 - wN (t / 2)) % 3329 := by
  rcases h with h | h
  ·omega
  ·exact h
 have h2 := wN_lt (t / 2)
 unfold rM nodeR
 rw [← Int.natCast_mul]
 generalize wN t * wN t = X at *
 generalize wN (t / 2) = Y at *
 split at h1
 ·rw [if_pos (by assumption)]
  omega
 ·rw [if_neg (by assumption)]
  split at h1
  ·rw [if_pos (by assumption)]
   omega
  ·rw [if_neg (by assumption)]
   omega
theorem node_leaf (i : Nat) (hi : i < 128) : rM (nodeR (128 + i)) (rtN i : Int) := by
 have h := List.all_eq_true.1 node_leaf' i (List.mem_range.2 hi)
 simp only [decide_eq_true_eq] at h
 unfold rM nodeR
 rw [if_neg (by omega), show (128 + i) / 2 = 64 + i / 2 by omega]
 have h2 := wN_lt (64 + i / 2)
 generalize wN (64 + i / 2) = Y at *
 by_cases hp : i % 2 = 0
 ·rw [if_pos (by omega)]
  rw [if_pos hp] at h
  omega
 ·rw [if_neg (by omega)]
  rw [if_neg hp] at h
  omega
theorem node_inv (J k : Nat) (hJ : J = 1 ∨ J = 2 ∨ J = 4 ∨ J = 8 ∨ J = 16 ∨ J = 32 ∨ J = 64) (hk : k < J) : rM ((wN (2 * J - 1 - k) : Int) * (wN (J + k) : Int)) (-1) := by
 have h := List.all_eq_true.1 node_inv' J (by rcases hJ with rfl | rfl | rfl | rfl | rfl | rfl | rfl <;> decide)
 have h2 := List.all_eq_true.1 h k (List.mem_range.2 hk)
 simp only [decide_eq_true_eq] at h2
 unfold rM
 rw [← Int.natCast_mul]
 omega
theorem node_two (t : Nat) : nodeR (2 * t) = (wN t : Int) := by
 unfold nodeR
 rw [if_neg (by omega), if_pos (by omega), show 2 * t / 2 = t by omega]
theorem node_odd (t : Nat) (h : 1 ≤ t) : nodeR (2 * t + 1) = -(wN t : Int) := by
 unfold nodeR
 rw [if_neg (by omega), if_neg (by omega), show (2 * t + 1) / 2 = t by omega]
/-- a layer: J blocks of L numbers each -/
def lay (L J : Nat) (a : Nat → Int) (x : Nat) : Int := blk L J (nodeR (J + x / L)) a (x % L)
theorem blk_r {L J : Nat} {s t : Int} (h : rM s t) (a : Nat → Int) (i : Nat) : rM (blk L J s a i) (blk L J t a i) := rM_S fun j _ => (rM.of rfl).mul (h.pow j)
theorem lay_first (a : Nat → Int) (x : Nat) (hx : x < 256) : lay 256 1 a x = a x := by
 unfold lay
 rw [blk_one, Nat.mod_eq_of_lt hx]
theorem lay_last (a : Nat → Int) (x : Nat) (hx : x < 256) : rM (lay 2 128 a x) (if x % 2 = 0 then evP (rtN (x / 2)) a else odP (rtN (x / 2)) a) := by
 unfold lay
 refine (blk_r (node_leaf (x / 2) (by omega)) a _).trans (rM.of ?_)
 by_cases h : x % 2 = 0
 ·rw [if_pos h, h, blk_even]
 ·rw [if_neg h, show x % 2 = 1 by omega, blk_odd]
theorem divs (H k j : Nat) (hj : j < H) : (2 * H * k + j) / H = 2 * k ∧ (2 * H * k + j) % H = j ∧ (2 * H * k + j) / (2 * H) = k ∧ (2 * H * k + j) % (2 * H) = j ∧ (2 * H * k + j + H) / H = 2 * k + 1 ∧ (2 * H * k + j + H) % H = j ∧ (2 * H * k + j + H) / (2 * H) = k ∧ (2 * H * k + j + H) % (2 * H) = j + H := by
 have h0 : 0 < H := by omega
 have e1 : 2 * H * k + j = j + H * (2 * k) := by grind
 have e2 : 2 * H * k + j + H = j + H * (2 * k + 1) := by grind
 have e3 : 2 * H * k + j = j + 2 * H * k := by omega
 have e4 : 2 * H * k + j + H = j + H + 2 * H * k := by omega
 refine ⟨?_, ?_, ?_, ?_, ?_, ?_, ?_, ?_⟩
 ·rw [e1, Nat.add_mul_div_left _ _ h0, Nat.div_eq_of_lt hj, Nat.zero_add]
 ·rw [e1, Nat.add_mul_mod_self_left, Nat.mod_eq_of_lt hj]
 ·rw [e3, Nat.add_mul_div_left _ _ (by omega), Nat.div_eq_of_lt (by omega), Nat.zero_add]
 ·rw [e3, Nat.add_mul_mod_self_left, Nat.mod_eq_of_lt (by omega)]
 ·rw [e2, Nat.add_mul_div_left _ _ h0, Nat.div_eq_of_lt hj, Nat.zero_add]
 ·rw [e2, Nat.add_mul_mod_self_left, Nat.mod_eq_of_lt hj]
 ·rw [e4, Nat.add_mul_div_left _ _ (by omega), Nat.div_eq_of_lt (by omega), Nat.zero_add]
 ·rw [e4, Nat.add_mul_mod_self_left, Nat.mod_eq_of_lt (by omega)]
theorem lay_lo (H J k j : Nat) (hJ : 1 ≤ J) (hJ2 : J ≤ 64) (hk : k < J) (hj : j < H) (a : Nat → Int) : rM (lay H (2 * J) a (2 * H * k + j)) (lay (2 * H) J a (2 * H * k + j) + (wN (J + k) : Int) * lay (2 * H) J a (2 * H * k + j + H)) := by
 obtain ⟨d1, d2, d3, d4, d5, d6, d7, d8⟩ := divs H k j hj
 unfold lay
 rw [d1, d2, d3, d4, d7, d8, show 2 * J + 2 * k = 2 * (J + k) by omega, node_two]
 exact blk_split H J (node_sq (J + k) (by omega) (by omega)) a j
theorem lay_hi (H J k j : Nat) (hJ : 1 ≤ J) (hJ2 : J ≤ 64) (hk : k < J) (hj : j < H) (a : Nat → Int) : rM (lay H (2 * J) a (2 * H * k + j + H)) (lay (2 * H) J a (2 * H * k + j) - (wN (J + k) : Int) * lay (2 * H) J a (2 * H * k + j + H)) := by
 obtain ⟨d1, d2, d3, d4, d5, d6, d7, d8⟩ := divs H k j hj
 unfold lay
 rw [d5, d6, d3, d4, d7, d8, show 2 * J + (2 * k + 1) = 2 * (J + k) + 1 by omega, node_odd _ (by omega)]
 exact blk_split' H J (node_sq (J + k) (by omega) (by omega)) a j
/-- the numbers of a layer, times e -/
def layN (e : Nat) (L J : Nat) (p : Nat → Nat) (x : Nat) : Nat := rd ((e : Int) * lay L J (iP p) x)
theorem layN_lt (e L J : Nat) (p : Nat → Nat) (x : Nat) : layN e L J p x < 3329 := rd_lt _
theorem layN_first (p : Nat → Nat) (x : Nat) (hx : x < 256) : layN 1 256 1 p x = redN p x := by
 unfold layN redN
 rw [lay_first _ _ hx]
 exact rd_of (rM.of (by unfold iP; omega))
theorem layN_last (p : Nat → Nat) (x : Nat) (hx : x < 256) : layN 1 2 128 p x = nttN p x := by
 unfold layN nttN
 refine rd_of ((rM.of (by omega)).trans (lay_last _ _ hx))
theorem rM_layN (e L J : Nat) (p : Nat → Nat) (x : Nat) : rM (layN e L J p x : Int) ((e : Int) * lay L J (iP p) x) := rM_rd _
theorem rM_lay1 (L J : Nat) (p : Nat → Nat) (x : Nat) : rM (layN 1 L J p x : Int) (lay L J (iP p) x) := (rM_layN 1 L J p x).trans (rM.of (Int.one_mul _))
theorem nat_of {a b : Nat} (h : rM (a : Int) (b : Int)) (ha : a < 3329) (hb : b < 3329) : a = b := by unfold rM at h; omega
theorem layN_lo (H J k j : Nat) (hJ : 1 ≤ J) (hJ2 : J ≤ 64) (hk : k < J) (hj : j < H) (p : Nat → Nat) : layN 1 H (2 * J) p (2 * H * k + j) = (layN 1 (2 * H) J p (2 * H * k + j) + wN (J + k) * layN 1 (2 * H) J p (2 * H * k + j + H) % 3329) % 3329 := by
 refine nat_of ?_ (layN_lt _ _ _ _ _) (Nat.mod_lt _ (by decide))
 refine ((rM_lay1 _ _ _ _).trans (lay_lo H J k j hJ hJ2 hk hj _)).trans ?_
 refine rM.symm ((rM_nat _).trans ?_)
 rw [Int.natCast_add]
 refine (rM_lay1 _ _ _ _).add ?_
 refine (rM_nat _).trans ?_
 rw [Int.natCast_mul]
 exact (rM.of rfl).mul (rM_lay1 _ _ _ _)
theorem layN_hi (H J k j : Nat) (hJ : 1 ≤ J) (hJ2 : J ≤ 64) (hk : k < J) (hj : j < H) (p : Nat → Nat) : layN 1 H (2 * J) p (2 * H * k + j + H) = (layN 1 (2 * H) J p (2 * H * k + j) + 3329 - wN (J + k) * layN 1 (2 * H) J p (2 * H * k + j + H) % 3329) % 3329 := by
 refine nat_of ?_ (layN_lt _ _ _ _ _) (Nat.mod_lt _ (by decide))
 refine ((rM_lay1 _ _ _ _).trans (lay_hi H J k j hJ hJ2 hk hj _)).trans ?_
 refine rM.symm ((rM_nat _).trans ?_)
 have h1 := Nat.mod_lt (wN (J + k) * layN 1 (2 * H) J p (2 * H * k + j + H)) (show 0 < 3329 by decide)
 rw [Int.ofNat_sub (by omega), Int.natCast_add]
 refine rM.sub (((rM_lay1 _ _ _ _).add (show rM ((3329 : Nat) : Int) 0 from rfl)).trans (rM.of (Int.add_zero _))) ?_
 refine (rM_nat _).trans ?_
 rw [Int.natCast_mul]
 exact (rM.of rfl).mul (rM_lay1 _ _ _ _)
/-- back: two halves make twice the block -/
theorem layB_lo (e H J k j : Nat) (hJ : 1 ≤ J) (hJ2 : J ≤ 64) (hk : k < J) (hj : j < H) (p : Nat → Nat) : layN (2 * e) (2 * H) J p (2 * H * k + j) = (layN e H (2 * J) p (2 * H * k + j) + layN e H (2 * J) p (2 * H * k + j + H)) % 3329 := by
 refine nat_of ?_ (layN_lt _ _ _ _ _) (Nat.mod_lt _ (by decide))
 refine (rM_layN _ _ _ _ _).trans ?_
 refine rM.symm ((rM_nat _).trans ?_)
 rw [Int.natCast_add]
 refine ((rM_layN _ _ _ _ _).add (rM_layN _ _ _ _ _)).trans ?_
 refine (((rM.of rfl).mul (lay_lo H J k j hJ hJ2 hk hj _)).add ((rM.of rfl).mul (lay_hi H J k j hJ hJ2 hk hj _))).trans (rM.of ?_)
 rw [Int.natCast_mul]
 generalize lay (2 * H) J (iP p) (2 * H * k + j) = A
 generalize (wN (J + k) : Int) * lay (2 * H) J (iP p) (2 * H * k + j + H) = B
 grind
theorem layB_hi (e H J k j : Nat) (hJ : J = 1 ∨ J = 2 ∨ J = 4 ∨ J = 8 ∨ J = 16 ∨ J = 32 ∨ J = 64) (hk : k < J) (hj : j < H) (p : Nat → Nat) : layN (2 * e) (2 * H) J p (2 * H * k + j + H) = wN (2 * J - 1 - k) * ((layN e H (2 * J) p (2 * H * k + j + H) + 3329 - layN e H (2 * J) p (2 * H * k + j)) % 3329) % 3329 := by
 refine nat_of ?_ (layN_lt _ _ _ _ _) (Nat.mod_lt _ (by decide))
 refine (rM_layN _ _ _ _ _).trans ?_
 refine rM.symm ((rM_nat _).trans ?_)
 have h1 := layN_lt e H (2 * J) p (2 * H * k + j)
 have hJ1 : 1 ≤ J := by omega
 have hJ2 : J ≤ 64 := by omega
 rw [Int.natCast_mul]
 have h2 : rM (((layN e H (2 * J) p (2 * H * k + j + H) + 3329 - layN e H (2 * J) p (2 * H * k + j)) % 3329 : Nat) : Int) (-(2 * (e : Int)) * ((wN (J + k) : Int) * lay (2 * H) J (iP p) (2 * H * k + j + H))) := by
  refine (rM_nat _).trans ?_
  rw [Int.ofNat_sub (by omega), Int.natCast_add]
  refine rM.trans (rM.sub (((rM_layN _ _ _ _ _).add (show rM ((3329 : Nat) : Int) 0 from rfl)).trans (rM.of (Int.add_zero _))) (rM_layN _ _ _ _ _)) ?_
  refine (((rM.of rfl).mul (lay_hi H J k j hJ1 hJ2 hk hj _)).sub ((rM.of rfl).mul (lay_lo H J k j hJ1 hJ2 hk hj _))).trans (rM.of ?_)
  generalize lay (2 * H) J (iP p) (2 * H * k + j) = A
  generalize (wN (J + k) : Int) * lay (2 * H) J (iP p) (2 * H * k + j + H) = B
  grind
 refine ((rM.of rfl).mul h2).trans ?_
 generalize lay (2 * H) J (iP p) (2 * H * k + j + H) = A
 refine (rM.of (show _ = (-(2 * (e : Int)) * A) * ((wN (2 * J - 1 - k) : Int) * (wN (J + k) : Int)) by grind)).trans ?_
 refine ((rM.of rfl).mul (node_inv J k hJ hk)).trans (rM.of ?_)
 rw [Int.natCast_mul]
 grind
/-- at the end of the way back -/
theorem layB_end (p : Nat → Nat) (x : Nat) (hx : x < 256) : layN 128 256 1 p x * 3303 % 3329 = redN p x := by
 refine nat_of ?_ (Nat.mod_lt _ (by decide)) (rd_lt _)
 refine (rM_nat _).trans ?_
 rw [Int.natCast_mul]
 refine ((rM_layN _ _ _ _ _).mul (rM.of rfl)).trans ?_
 rw [lay_first _ _ hx]
 refine rM.trans ?_ (rM_rd _).symm
 unfold rM iP
 omega
theorem layB_start (p : Nat → Nat) (x : Nat) (hx : x < 256) : layN 1 2 128 (invN p) x = redN p x := by rw [layN_last _ _ hx, ntt_inv _ _ hx]
theorem inv_red (p : Nat → Nat) (x : Nat) : redN (invN p) x = invN p x := by
 unfold redN invN
 exact rd_rd _
/-- in the middle of a layer: k blocks and j numbers of the next one are done -/
def midN (H k j : Nat) (r p : Nat → Nat) (x : Nat) : Nat := if x / (2 * H) < k ∨ x / (2 * H) = k ∧ x % H < j then r x else p x
def isHalf (H : Nat) : Prop := H = 128 ∨ H = 64 ∨ H = 32 ∨ H = 16 ∨ H = 8 ∨ H = 4 ∨ H = 2
theorem mid_start (H : Nat) (r p : Nat → Nat) : pc (midN H 0 0 r p) = pc p := pc_of fun i _ => by
 unfold midN
 rw [if_neg (fun h => h.elim (Nat.not_lt_zero _) (fun h => Nat.not_lt_zero _ h.2))]
theorem mid_next (H k : Nat) (hH : isHalf H) (r p : Nat → Nat) : pc (midN H k H r p) = pc (midN H (k + 1) 0 r p) := pc_of fun i _ => by
 unfold midN
 have h : (i / (2 * H) < k ∨ i / (2 * H) = k ∧ i % H < H) ↔ (i / (2 * H) < k + 1 ∨ i / (2 * H) = k + 1 ∧ i % H < 0) := by
  rcases hH with rfl | rfl | rfl | rfl | rfl | rfl | rfl <;> omega
 by_cases h1 : i / (2 * H) < k ∨ i / (2 * H) = k ∧ i % H < H
 ·rw [if_pos h1, if_pos (h.1 h1)]
 ·rw [if_neg h1, if_neg (fun q => h1 (h.2 q))]
theorem mid_end (H J : Nat) (hH : isHalf H) (hJ : H * J = 128) (r p : Nat → Nat) : pc (midN H J 0 r p) = pc r := pc_of fun i hi => by
 unfold midN
 rw [if_pos]
 rcases hH with rfl | rfl | rfl | rfl | rfl | rfl | rfl <;> omega
theorem mid_lo (H k j : Nat) (hj : j < H) (r p : Nat → Nat) : midN H k j r p (2 * H * k + j) = p (2 * H * k + j) := by
 unfold midN
 obtain ⟨_, d2, d3, _⟩ := divs H k j hj
 rw [d2, d3, if_neg (by omega)]
theorem mid_hi (H k j : Nat) (hj : j < H) (r p : Nat → Nat) : midN H k j r p (2 * H * k + j + H) = p (2 * H * k + j + H) := by
 unfold midN
 obtain ⟨_, _, _, _, _, d6, d7, _⟩ := divs H k j hj
 rw [d6, d7, if_neg (by omega)]
theorem mid_two (H k j : Nat) (hH : isHalf H) (hj : j < H) (r p : Nat → Nat) : pc (upd (upd (midN H k j r p) (2 * H * k + j) (r (2 * H * k + j))) (2 * H * k + j + H) (r (2 * H * k + j + H))) = pc (midN H k (j + 1) r p) := pc_of fun i _ => by
 have h : (i / (2 * H) < k ∨ i / (2 * H) = k ∧ i % H < j + 1) ↔ ((i / (2 * H) < k ∨ i / (2 * H) = k ∧ i % H < j) ∨ i = 2 * H * k + j ∨ i = 2 * H * k + j + H) := by
  rcases hH with rfl | rfl | rfl | rfl | rfl | rfl | rfl <;> omega
 unfold upd midN
 by_cases h1 : i = 2 * H * k + j + H
 ·rw [if_pos h1, if_pos (h.2 (by omega)), h1]
 ·rw [if_neg h1]
  by_cases h2 : i = 2 * H * k + j
  ·rw [if_pos h2, if_pos (h.2 (by omega)), h2]
  ·rw [if_neg h2]
   by_cases h3 : i / (2 * H) < k ∨ i / (2 * H) = k ∧ i % H < j
   ·rw [if_pos h3, if_pos (h.2 (.inl h3))]
   ·rw [if_neg h3, if_neg (fun q => (h.1 q).elim h3 (fun q => q.elim h2 h1))]
end Go.Proofs.YtbjpbeplpljieaaDoor

/-
 THE PROGRAM'S OWN roots: an array of 128 numbers.
-/
namespace Go.Proofs.YtbjpbeplpljieaaDoor
open Go.RowKit
set_option maxRecDepth 100000
/-- n numbers of 16 bits in memory -/
def uc (n : Nat) (f : Nat → Nat) : List Value := (List.range n).map fun i => .int .u16 (f i : Int)
theorem uc_length (n : Nat) (p : Nat → Nat) : (uc n p).length = n := by simp [uc]
theorem uc_get {n : Nat} (p : Nat → Nat) {k : Nat} (h : k < n) : (uc n p)[k]? = some (.int .u16 (p k : Int)) := by
 unfold uc
 rw [List.getElem?_map, List.getElem?_range h]
 rfl
theorem uc_of {n : Nat} {p r : Nat → Nat} (h : ∀ i, i < n → p i = r i) : uc n p = uc n r := by
 unfold uc
 exact List.map_congr_left fun i hi => by rw [h i (List.mem_range.1 hi)]
theorem uc_set (n : Nat) (p : Nat → Nat) (k v : Nat) : (uc n p).set k (.int .u16 (v : Int)) = uc n (upd p k v) := by
 apply List.ext_getElem?
 intro i
 rw [List.getElem?_set]
 by_cases hi : i < n
 ·rw [uc_get _ hi]
  by_cases h : k = i
  ·subst h
   rw [if_pos rfl, if_pos (by rw [uc_length]; exact hi), uc_get _ hi]
   unfold upd
   rw [if_pos rfl]
  ·rw [if_neg h, uc_get _ hi]
   unfold upd
   rw [if_neg (fun q => h q.symm)]
 ·rw [List.getElem?_eq_none (l := uc n (upd p k v)) (by rw [uc_length]; omega)]
  by_cases h : k = i
  ·rw [if_pos h, if_neg (by rw [uc_length]; omega)]
  ·rw [if_neg h, List.getElem?_eq_none (by rw [uc_length]; omega)]
theorem uc_one (n : Nat) (p : Nat → Nat) : ∀ u ∈ uc n p, u.oneCell' = true := by
 intro u hu
 unfold uc at hu
 obtain ⟨i, _, rfl⟩ := List.mem_map.1 hu
 rfl
theorem info_roots : (Tryd.prog.info? 99).map (·.size) = some 128 := by kernel_rfl
theorem size_uc (n : Nat) (p : Nat → Nat) : some n = some (uc n p).length := by rw [uc_length]
theorem zero_roots (W : World) : (zeroValue 99).run Tryd.prog W = .ok (.agg (uc 128 fun _ => 0).toArray) W := by kernel_rfl
section
variable {ops : Array Oper} {rest : List Oper} {o : Oper} {a : Act} {w : World} {Q : Exit → Act → World → Prop} {x y : Operand} {op : Oper}
theorem wl_allocR (hgd : o.guard = none) (ho : o.op = .alloc 99) (h : wpList Tryd.prog ops Q rest (a.put o.dst (.pointer (some ⟨w.heap.size, 0, none⟩))) (w.alloc (.cells (uc 128 fun _ => 0).toArray 99))) : wpList Tryd.prog ops Q (o :: rest) a w := by
 refine wl_valueW (.pointer (some ⟨w.heap.size, 0, none⟩)) (w.alloc (.cells (uc 128 fun _ => 0).toArray 99)) hgd ?_ h
 have hz := zero_roots w
 unfold execOp
 simp only [ho]
 generalize uc 128 (fun _ => 0) = z at *
 go_simp
theorem at_roots {g k : Nat} (hk : k < 128) (ho : op.op = .indexAddr 99 x y) (hx : a.eval x = .pointer (some ⟨g, 0, none⟩)) (hy : a.eval y = .int .i64 (k : Int)) : (execOp a.eval op).run Tryd.prog w = .ok (.value (.pointer (some ⟨g, k, none⟩))) w := by
 have h1 : (k : Int) < 128 := by omega
 have h2 : (0 : Int) ≤ (k : Int) := by omega
 unfold execOp
 simp only [ho, hx, hy]
 go_simp
theorem wl_storeU {g k v n : Nat} {T : TypeId} {q : Nat → Nat} (hgd : o.guard = none) (hk : k < n) (ho : o.op = .store 39 x y) (hx : a.eval x = .pointer (some ⟨g, k, none⟩)) (hy : a.eval y = .int .u16 (v : Int)) (hr : Row w g T (uc n q))
 (h : ∀ w2, Row w2 g T (uc n (upd q k v)) → But w.heap.size g w w2 → w2.heap.size = w.heap.size → wpList Tryd.prog ops Q rest (a.put o.dst undef) w2) : wpList Tryd.prog ops Q (o :: rest) a w := by
 have hc := hr.cell k
 rw [uc_get _ hk] at hc
 have hf := hr.free k
 have hs := hr.set_ k (.int .u16 (v : Int))
 rw [uc_set] at hs
 refine wpList_plain hgd fun K hK => ?_
 unfold Oper.wp
 rw [show (execOp a.eval o).run Tryd.prog w = .ok .skip (w.setCell ⟨g, k, none⟩ (.int .u16 (v : Int))) from by
  unfold execOp
  simp only [ho, hx, hy]
  go_simp]
 exact hK _ _ (h _ hs ((But.refl _ _ _).setCell _ _) (by simp [World.setCell]))
end
/-- what is laid after k rounds -/
def rtS (k i : Nat) : Nat := if rvN i < k then wN i else 0
theorem rtS_zero : uc 128 (rtS 0) = uc 128 fun _ => 0 := uc_of fun i _ => if_neg (by omega)
theorem rtS_all : uc 128 (rtS 128) = uc 128 wN := uc_of fun i hi => if_pos (rv_lt i hi)
theorem rtS_next (k : Nat) (hk : k < 128) : uc 128 (upd (rtS k) (rvN k) (17 ^ k % 3329)) = uc 128 (rtS (k + 1)) := uc_of fun i hi => by
 unfold upd rtS
 by_cases h : i = rvN k
 ·have e : rvN i = k := by rw [h]; exact rv_rv k hk
  rw [if_pos h, e, if_pos (by omega)]
  unfold wN
  rw [e]
 ·have e : rvN i ≠ k := fun q => h (by rw [← q]; exact (rv_rv i hi).symm)
  rw [if_neg h]
  by_cases h2 : rvN i < k
  ·rw [if_pos h2, if_pos (by omega)]
  ·rw [if_neg h2, if_neg (by omega)]
/-- the answer is the roots -/
def RootsIs (w : World) (e : Ending) (w' : World) : Prop := e = .returned (.agg (uc 128 wN).toArray) ∧ Below w.heap.size w w'
set_option maxHeartbeats 1000000 in
theorem roots_any (w : World) : Calls Tryd.prog 77 #[] w (RootsIs w) := by
 unfold RootsIs
 generalize hN : w.heap.size = N at *
 have HL := Shh.mk rtS_all
 generalize uc 128 wN = fin at *
 go_enter Tryd.func77, Tryd.ntmps77
 go_wp2_with (refine wl_allocR rfl rfl ?_)
 obtain ⟨W, hW⟩ : ∃ W, W = (w.alloc (.cells (uc 128 fun _ => 0).toArray 99)).alloc (.cells (uc 128 fun _ => 0).toArray 99) := ⟨_, rfl⟩
 have HW : Shh (Row W N 99 (uc 128 fun _ => 0) ∧ Row W (N + 1) 99 (uc 128 fun _ => 0) ∧ Below N w W) := by
  refine ⟨by rw [hW]; exact (Row.new_ hN.symm rfl).alloc _, by rw [hW]; exact Row.new_ (by rw [asz, hN]) rfl, ?_⟩
  rw [hW, ← hN]
  exact Below.chain (bel1 _ _) (bel1 _ _)
 try simp only [asz, hN]
 rw [← hW]
 clear hW
 go_wp2
 go_loopw [2, 3, 4] (fun p _ i wr => ∃ k : Nat, k ≤ 128 ∧ i = .int .i64 (k : Int) ∧ p = .int .u16 ((17 ^ k % 3329 : Nat) : Int) ∧ Shh (Row wr N 99 (uc 128 fun _ => 0) ∧ Row wr (N + 1) 99 (uc 128 (rtS k)) ∧ Below N w wr)) (fun _ _ i _ => 128 - (intOf i).toNat)
 case atStart => exact ⟨0, Nat.zero_le _, rfl, rfl, ⟨by rw [rtS_zero]; exact HW.out⟩⟩
 case round =>
  clear HW
  obtain ⟨k, hk, rfl, rfl, HI⟩ := hrel
  by_cases hlt : k < 128
  ·have hlt2 : (k : Int) < 128 := by omega
   have HN2 := Shh.mk (rtS_next k hlt)
   have HP : Shh (17 ^ k % 3329 < 3329 ∧ 17 ^ (k + 1) % 3329 = 17 ^ k % 3329 * 17 % 3329) := ⟨Nat.mod_lt _ (by decide), by rw [Nat.pow_succ, Nat.mod_mul_mod]⟩
   have HV := Shh.mk (rv_lt k hlt)
   have HRV := Shh.mk (fun W => rev_prog k hlt W)
   generalize rvN k = v at *
   have hv2 : (v : Int) < 128 := by have := HV.out; omega
   obtain ⟨p, Hp⟩ : ∃ p, Shh (p = 17 ^ k % 3329) := ⟨_, ⟨rfl⟩⟩
   rw [← Hp.out] at HN2 HP ⊢
   have HPR := Shh.mk (fun W => product_any p 17 ⟨by have := HP.out.1; omega, by decide⟩ W)
   obtain ⟨p2, Hp2⟩ : ∃ p2, Shh (p2 = p * 17 % 3329) := ⟨_, ⟨rfl⟩⟩
   rw [← Hp2.out] at HPR HP
   unfold NumIs at HRV
   unfold U16Is at HPR
   clear Hp
   go_wp2_with (go_at_call 91; refine (HRV.out _).mono ?_)
   rintro e w2 ⟨rfl, rfl⟩
   go_wp2_with (first | refine wl_at 10 rfl (.pointer (some ⟨N + 1, v, none⟩)) rfl (at_roots HV.out rfl rfl rfl) ?_ | refine wl_storeU rfl HV.out rfl rfl rfl HI.out.2.1 ?_)
   intro w3 r3 b3 z3
   rw [HN2.out] at r3
   have HI3 : Shh (Row w3 N 99 (uc 128 fun _ => 0) ∧ Row w3 (N + 1) 99 (uc 128 (rtS (k + 1))) ∧ Below N w w3) := ⟨b3.row HI.out.1 HI.out.1.lt (by omega), r3, HI.out.2.2.trans (b3.under (Nat.le_of_lt HI.out.1.lt) (by omega))⟩
   clear r3 b3 z3 HI
   go_wp2_with (go_at_call 78; refine (HPR.out _).mono ?_)
   rintro e w2 ⟨rfl, rfl⟩
   go_wp2
   go_roundw
   case rel => exact ⟨k + 1, by omega, by go_num, by rw [HP.out.2], HI3⟩
   case measure => simp [intOf]; omega
  ·have hlt2 : ¬ (k : Int) < 128 := by omega
   have HI2 : Shh (Row wr N 99 (uc 128 fun _ => 0) ∧ Row wr (N + 1) 99 fin ∧ Below N w wr) := ⟨by
    have h := HI.out
    rw [show k = 128 by omega, HL.out] at h
    exact h⟩
   have HFI : Shh ((Tryd.prog.info? 99).map (·.size) = some fin.length ∧ fin.length = (uc 128 fun _ => 0).length ∧ ∀ u ∈ fin, u.oneCell' = true) := by
    rw [← HL.out]
    exact ⟨info_roots.trans (size_uc _ _), by rw [uc_length, uc_length], uc_one _ _⟩
   clear HI HL
   go_wp2_with (first
    | refine wpList_load_any rfl 99 (.tmp 1) rfl (N + 1) rfl 99 fin (.array 128 39) HI2.out.2.1 Tryd.underlying99 rfl HFI.out.1 ?_
    | refine wpList_store_any rfl 99 (.tmp 0) (.tmp 14) rfl N rfl fin rfl 99 _ HI2.out.1 HFI.out.1 HFI.out.2.1.symm HFI.out.2.2 ?_)
   intro w9 hr9 b9 _
   have hb9 := HI2.out.2.2.trans (b9.under (Nat.le_of_lt HI2.out.1.lt) (Nat.le_refl _))
   go_wp2
   exact ret_row Tryd.results77 rfl rfl hr9 Tryd.underlying99 rfl HFI.out.1 ⟨rfl, hb9⟩
end Go.Proofs.YtbjpbeplpljieaaDoor

/-
 THE PROGRAM'S OWN Reduce.
-/
namespace Go.Proofs.YtbjpbeplpljieaaDoor
open Go.RowKit
set_option maxRecDepth 100000
set_option maxHeartbeats 1000000 in
theorem Reduce_any (p : Nat → Nat) (hp : ∀ i, i < 256 → p i < 65536) (w : World) : Calls Tryd.prog 76 #[polyV p] w (PolyIs w (redN p)) := by
 unfold PolyIs polyV
 generalize hN : w.heap.size = N at *
 have HP := Shh.mk hp
 have HR : Shh (∀ i, redN p i = p i % 3329) := ⟨fun i => rd_same _⟩
 generalize redN p = r at *
 clear hp
 have HL0 : Shh (Row ((w.alloc (.cells (pc p).toArray 62)).alloc (.cells (pc fun _ => 0).toArray 62)) N 62 (pc p)) := ⟨(Row.new_ hN.symm rfl).alloc _⟩
 go_enter Tryd.func76, Tryd.ntmps76
 go_wp2_with (first | refine wl_allocP rfl rfl ?_ | refine wpList_load_any rfl 62 (.tmp 1) rfl N rfl 62 (pc p) (.array 256 39) HL0.out Tryd.underlying62 rfl (info_poly.trans (size_poly p)) ?_)
 obtain ⟨W, hW⟩ : ∃ W, W = (w.alloc (.cells (pc p).toArray 62)).alloc (.cells (pc fun _ => 0).toArray 62) := ⟨_, rfl⟩
 have HW : Shh (Row W N 62 (pc p) ∧ Row W (N + 1) 62 (pc fun _ => 0) ∧ Below N w W) := by
  refine ⟨by rw [hW]; exact (Row.new_ hN.symm rfl).alloc _, by rw [hW]; exact Row.new_ (by rw [asz, hN]) rfl, ?_⟩
  rw [hW, ← hN]
  exact Below.chain (bel1 _ _) (bel1 _ _)
 try simp only [asz, hN]
 rw [← hW]
 clear hW HL0
 go_loopw [3, 4, 6] (fun _ _ i wr => ∃ k : Nat, k ≤ 256 ∧ i = .int .i64 (k : Int) ∧ Shh (Row wr N 62 (pc (half r p k)) ∧ Row wr (N + 1) 62 (pc fun _ => 0) ∧ Below N w wr)) (fun _ _ i _ => 256 - (intOf i).toNat)
 case atStart => exact ⟨0, Nat.zero_le _, rfl, ⟨by rw [half_zero]; exact HW.out⟩⟩
 case round =>
  clear HW
  obtain ⟨k, hk, rfl, HI⟩ := hrel
  by_cases hlt : k < 256
  ·have HE : Shh (r k = p k % 3329 ∧ p k < 65536) := ⟨HR.out k, HP.out k hlt⟩
   have HN2 := Shh.mk (half_next r p k)
   have HG := Shh.mk (pc_get p hlt)
   generalize r k = rk at *
   generalize p k = pk at *
   have hlt2 : (k : Int) < 256 := by omega
   go_wp2_with (first | refine wl_at 9 rfl (.int .u16 (pk : Int)) rfl (idx_poly hlt HG.out rfl rfl rfl) ?_ | refine wl_at 12 rfl (.int .u16 (rk : Int)) rfl (rem_u16 HE.out.1 HE.out.2 rfl rfl) ?_ | refine wl_at 13 rfl (.pointer (some ⟨N, k, none⟩)) rfl (at_poly hlt rfl rfl rfl) ?_ | refine wl_storeP rfl hlt rfl rfl rfl HI.out.1 ?_)
   intro w3 r3 b3 z3
   rw [HN2.out] at r3
   have HI3 : Shh (Row w3 N 62 (pc (half r p (k + 1))) ∧ Row w3 (N + 1) 62 (pc fun _ => 0) ∧ Below N w w3) := ⟨r3, b3.row HI.out.2.1 HI.out.2.1.lt (by omega), HI.out.2.2.trans (b3.under (Nat.le_of_lt HI.out.1.lt) (by omega))⟩
   clear r3 b3 z3 HI
   go_wp2
   go_roundw
   case rel => exact ⟨k + 1, by omega, by go_num, HI3⟩
   case measure => simp [intOf]; omega
  ·have HL : Shh (pc (half r p k) = pc r) := ⟨by rw [show k = 256 by omega]; exact half_all _ _⟩
   rw [HL.out] at HI
   have hlt2 : ¬ (k : Int) < 256 := by omega
   clear HL HP HR
   go_wp2_with (first
    | refine wpList_load_any rfl 62 (.tmp 1) rfl N rfl 62 (pc r) (.array 256 39) HI.out.1 Tryd.underlying62 rfl (info_poly.trans (size_poly r)) ?_
    | refine wpList_store_any rfl 62 (.tmp 2) (.tmp 15) rfl (N + 1) rfl (pc r) rfl 62 _ HI.out.2.1 (info_poly.trans (size_poly r)) (by rw [pc_length, pc_length]) (pc_one r) ?_)
   intro w9 hr9 b9 _
   have hb9 := HI.out.2.2.trans (b9.under (Nat.le_of_lt HI.out.1.lt) (Nat.le_succ _))
   go_wp2
   exact ret_row Tryd.results76 rfl rfl hr9 Tryd.underlying62 rfl (info_poly.trans (size_poly r)) ⟨rfl, hb9⟩
end Go.Proofs.YtbjpbeplpljieaaDoor

/-
 NUMBERS OF d BITS, one behind the other: digits of one great number.
-/
namespace Go.Proofs.YtbjpbeplpljieaaDoor
set_option maxRecDepth 100000
/-- the number of the first k digits f to the base b -/
def sumN (f : Nat → Nat) (b : Nat) : Nat → Nat
 | 0 => 0
 | k + 1 => sumN f b k + f k * b ^ k
theorem sumN_lt {f : Nat → Nat} {b : Nat} (h : ∀ i, f i < b) : ∀ k, sumN f b k < b ^ k
 | 0 => by show 0 < b ^ 0; rw [Nat.pow_zero]; decide
 | k + 1 => by
  have h1 := sumN_lt h k
  have h2 : (f k + 1) * b ^ k ≤ b * b ^ k := Nat.mul_le_mul_right _ (h k)
  rw [Nat.add_mul, Nat.one_mul] at h2
  show sumN f b k + f k * b ^ k < b ^ (k + 1)
  rw [Nat.pow_succ, Nat.mul_comm (b ^ k) b]
  omega
theorem sumN_of {f g : Nat → Nat} {b : Nat} : ∀ k, (∀ i, i < k → f i = g i) → sumN f b k = sumN g b k
 | 0, _ => rfl
 | k + 1, h => by
  show sumN f b k + f k * b ^ k = sumN g b k + g k * b ^ k
  rw [sumN_of k fun i hi => h i (by omega), h k (by omega)]
theorem sumN_digit {f : Nat → Nat} {b : Nat} (h : ∀ i, f i < b) (i : Nat) : ∀ k, i < k → sumN f b k / b ^ i % b = f i
 | 0, hk => by omega
 | k + 1, hk => by
  have hb : 0 < b := Nat.lt_of_le_of_lt (Nat.zero_le _) (h 0)
  by_cases hi : i = k
  ·subst hi
   show (sumN f b i + f i * b ^ i) / b ^ i % b = f i
   rw [Nat.add_mul_div_right _ _ (Nat.pow_pos hb), Nat.div_eq_of_lt (sumN_lt h i), Nat.zero_add, Nat.mod_eq_of_lt (h i)]
  ·have ih := sumN_digit h i k (by omega)
   show (sumN f b k + f k * b ^ k) / b ^ i % b = f i
   obtain ⟨e, rfl⟩ : ∃ e, k = i + 1 + e := ⟨k - i - 1, by omega⟩
   rw [show f (i + 1 + e) * b ^ (i + 1 + e) = f (i + 1 + e) * b ^ e * b * b ^ i by rw [Nat.pow_add, Nat.pow_succ]; grind, Nat.add_mul_div_right _ _ (Nat.pow_pos hb), Nat.add_mul_mod_self_right]
   exact ih
theorem litB_mod (n k : Nat) : litB (n % 256 ^ k) k = litB n k := by
 have h := litB_litN (litB n k)
 rw [litN_litB, litB_length] at h
 exact h
theorem litB_eq {n m k : Nat} (h : n % 256 ^ k = m % 256 ^ k) : litB n k = litB m k := by rw [← litB_mod n, h, litB_mod]
theorem litB_snoc (n m : Nat) : litB n (m + 1) = litB n m ++ [UInt8.ofNat (n / 256 ^ m % 256)] := by
 apply List.ext_getElem
 ·simp [litB_length]
 intro i h1 h2
 rw [litB_length] at h1
 rw [litB_getElem, List.getElem_append]
 split
 ·rw [litB_getElem]
 ·rename_i h
  rw [litB_length] at h
  have e : i = m := by omega
  subst e
  simp [litB_length]
/-- the first n bits of a number -/
def bitN (V n : Nat) : List Bool := (List.range n).map V.testBit
theorem bitN_length (V n : Nat) : (bitN V n).length = n := by simp [bitN]
theorem bitN_get (V n i : Nat) (h : i < (bitN V n).length) : (bitN V n)[i] = V.testBit i := by simp [bitN]
theorem bitN_snoc (V n : Nat) : bitN V (n + 1) = bitN V n ++ [V.testBit n] := by
 unfold bitN
 rw [List.range_succ, List.map_append]
 rfl
theorem bitN_of {V U n : Nat} (h : ∀ i, i < n → V.testBit i = U.testBit i) : bitN V n = bitN U n := by
 unfold bitN
 exact List.map_congr_left fun i hi => h i (List.mem_range.1 hi)
theorem bitN_mod (V n : Nat) : bitN (V % 2 ^ n) n = bitN V n := bitN_of fun i hi => by simp [Nat.testBit_mod_two_pow, hi]
theorem bits8_get (b : UInt8) (i : Nat) (h : i < (bits8 b).length) : (bits8 b)[i] = b.toNat.testBit i := by simp [bits8, bitAt_test]
theorem bitsL_bitN : ∀ bs : List UInt8, bitsL bs = bitN (litN bs) (8 * bs.length)
 | [] => rfl
 | b :: bs => by
  have ih := bitsL_bitN bs
  have e1 : bitsL (b :: bs) = bits8 b ++ bitsL bs := rfl
  have e2 : litN (b :: bs) = 2 ^ 8 * litN bs + b.toNat := by
   show b.toNat + 256 * litN bs = _ 
   omega
  rw [e1, ih, e2]
  apply List.ext_getElem
  ·simp [bits8_length, bitN_length]; omega
  intro i h1 h2
  rw [bitN_get, Nat.testBit_two_pow_mul_add _ b.toNat_lt, List.getElem_append]
  split
  ·rename_i h
   rw [bits8_length] at h
   rw [if_pos h]
   exact bits8_get _ _ _
  ·rename_i h
   rw [bits8_length] at h
   rw [if_neg h, bitN_get, bits8_length]
theorem fromBits_bitN (V m : Nat) : fromBits (bitN V (8 * m)) = litB V m := by
 have h := fromBits_bitsL (litB V m)
 rw [bitsL_bitN, litN_litB, litB_length, show (256 : Nat) = 2 ^ 8 from rfl, ← Nat.pow_mul, bitN_mod] at h
 exact h
/-- coefficient i of d bits in the number V -/
def decN (d V i : Nat) : Nat := V / 2 ^ (d * i) % 2 ^ d
theorem decN_lt (d V i : Nat) : decN d V i < 2 ^ d := Nat.mod_lt _ (Nat.two_pow_pos d)
/-- the digits of a number are its own again -/
theorem decN_sum {f : Nat → Nat} (d i k : Nat) (h : ∀ i, f i < 2 ^ d) (hi : i < k) : decN d (sumN f (2 ^ d) k) i = f i := by
 unfold decN
 rw [Nat.pow_mul]
 exact sumN_digit h i k hi
/-- a number of k digits is the sum of its digits -/
theorem sumN_decN (d V : Nat) : ∀ k, sumN (decN d V) (2 ^ d) k = V % 2 ^ (d * k)
 | 0 => by
  rw [Nat.mul_zero, Nat.pow_zero, Nat.mod_one]
  rfl
 | k + 1 => by
  show sumN (decN d V) (2 ^ d) k + decN d V k * (2 ^ d) ^ k = _
  rw [sumN_decN d V k, Nat.mul_succ, Nat.pow_add, Nat.mod_mul, ← Nat.pow_mul, Nat.mul_comm (decN d V k)]
  rfl
/-- one more coefficient: its bits stand behind the others -/
theorem sumN_bit {f : Nat → Nat} (d k j : Nat) (h : ∀ i, f i < 2 ^ d) : (sumN f (2 ^ d) (k + 1)).testBit (d * k + j) = (f k).testBit j := by
 have h1 := sumN_lt h k
 rw [← Nat.pow_mul] at h1
 show (sumN f (2 ^ d) k + f k * (2 ^ d) ^ k).testBit (d * k + j) = _
 rw [← Nat.pow_mul, Nat.add_comm, Nat.mul_comm, Nat.testBit_two_pow_mul_add _ h1, if_neg (by omega), show d * k + j - d * k = j by omega]
theorem sumN_below {f : Nat → Nat} (d k i : Nat) (h : ∀ i, f i < 2 ^ d) (hi : i < d * k) : (sumN f (2 ^ d) (k + 1)).testBit i = (sumN f (2 ^ d) k).testBit i := by
 have h1 := sumN_lt h k
 rw [← Nat.pow_mul] at h1
 show (sumN f (2 ^ d) k + f k * (2 ^ d) ^ k).testBit i = _
 rw [← Nat.pow_mul, Nat.add_comm, Nat.mul_comm, Nat.testBit_two_pow_mul_add _ h1, if_pos hi]
/-- packing: a coefficient comes in -/
theorem pack_in {f : Nat → Nat} (d k m c : Nat) (hc : c + 8 * m = d * k) : sumN f (2 ^ d) (k + 1) / 256 ^ m = sumN f (2 ^ d) k / 256 ^ m + f k * 2 ^ c ∧ litB (sumN f (2 ^ d) (k + 1)) m = litB (sumN f (2 ^ d) k) m := by
 have e : f k * (2 ^ d) ^ k = f k * 2 ^ c * 256 ^ m := by
  rw [← Nat.pow_mul, ← hc, Nat.pow_add, show (256 : Nat) = 2 ^ 8 from rfl, ← Nat.pow_mul, Nat.mul_assoc]
 have e2 : sumN f (2 ^ d) (k + 1) = sumN f (2 ^ d) k + f k * 2 ^ c * 256 ^ m := by rw [← e]; rfl
 have hp : 0 < 256 ^ m := Nat.pow_pos (by decide)
 constructor
 ·rw [e2, Nat.add_mul_div_right _ _ hp]
 ·refine litB_eq ?_
  rw [e2, Nat.add_mul_mod_self_right]
theorem pack_lt {f : Nat → Nat} (d k m c : Nat) (h : ∀ i, f i < 2 ^ d) (hc : c + 8 * m = d * k) : sumN f (2 ^ d) k / 256 ^ m < 2 ^ c := by
 have h1 := sumN_lt h k
 rw [← Nat.pow_mul, ← hc, Nat.add_comm, Nat.pow_add, show 2 ^ (8 * m) = 256 ^ m by rw [Nat.pow_mul]] at h1
 exact Nat.div_lt_of_lt_mul h1
/-- unpacking: a byte comes in -/
theorem unpack_in (V s c m : Nat) (hc : s + c = 8 * m) : V / 2 ^ s % 2 ^ (c + 8) = V / 2 ^ s % 2 ^ c + V / 256 ^ m % 256 * 2 ^ c := by
 rw [Nat.pow_add, Nat.mod_mul, Nat.div_div_eq_div_mul, ← Nat.pow_add, hc, Nat.pow_mul, Nat.mul_comm (2 ^ c)]
theorem unpack_out (V s c d : Nat) (hd : d ≤ c) : V / 2 ^ s % 2 ^ c % 2 ^ d = V / 2 ^ s % 2 ^ d ∧ V / 2 ^ s % 2 ^ c / 2 ^ d = V / 2 ^ (s + d) % 2 ^ (c - d) := by
 obtain ⟨e, rfl⟩ : ∃ e, c = d + e := ⟨c - d, by omega⟩
 constructor
 ·rw [Nat.pow_add, Nat.mod_mul_right_mod]
 ·rw [show d + e - d = e by omega, Nat.pow_add, Nat.pow_add, Nat.mod_mul_right_div_self, Nat.div_div_eq_div_mul]
theorem litN_byte (bs : List UInt8) (m : Nat) (h : m < bs.length) : litN bs / 256 ^ m % 256 = (bs[m]).toNat := by
 have h1 := litB_litN bs
 have h2 : m < (litB (litN bs) bs.length).length := by rw [litB_length]; exact h
 have h3 := litB_getElem (litN bs) bs.length m h2
 have h4 : (litB (litN bs) bs.length)[m] = bs[m] := by congr 1
 rw [h4] at h3
 rw [h3]
 simp
end Go.Proofs.YtbjpbeplpljieaaDoor

/-
 ARRAYS of numbers; the product's sums, one summand after the other.
-/
namespace Go.Proofs.YtbjpbeplpljieaaDoor
open Go.RowKit
set_option maxRecDepth 100000
def ic (n : Nat) (f : Nat → Nat) : List Value := (List.range n).map fun i => .int .i64 (f i : Int)
theorem ic_length (n : Nat) (p : Nat → Nat) : (ic n p).length = n := by simp [ic]
theorem ic_get {n : Nat} (p : Nat → Nat) {k : Nat} (h : k < n) : (ic n p)[k]? = some (.int .i64 (p k : Int)) := by
 unfold ic
 rw [List.getElem?_map, List.getElem?_range h]
 rfl
theorem ic_of {n : Nat} {p r : Nat → Nat} (h : ∀ i, i < n → p i = r i) : ic n p = ic n r := by
 unfold ic
 exact List.map_congr_left fun i hi => by rw [h i (List.mem_range.1 hi)]
theorem ic_set (n : Nat) (p : Nat → Nat) (k v : Nat) : (ic n p).set k (.int .i64 (v : Int)) = ic n (upd p k v) := by
 apply List.ext_getElem?
 intro i
 rw [List.getElem?_set]
 by_cases hi : i < n
 ·rw [ic_get _ hi]
  by_cases h : k = i
  ·subst h
   rw [if_pos rfl, if_pos (by rw [ic_length]; exact hi), ic_get _ hi]
   unfold upd
   rw [if_pos rfl]
  ·rw [if_neg h, ic_get _ hi]
   unfold upd
   rw [if_neg (fun q => h q.symm)]
 ·rw [List.getElem?_eq_none (l := ic n (upd p k v)) (by rw [ic_length]; omega)]
  by_cases h : k = i
  ·rw [if_pos h, if_neg (by rw [ic_length]; omega)]
  ·rw [if_neg h, List.getElem?_eq_none (by rw [ic_length]; omega)]
section
variable {ops : Array Oper} {rest : List Oper} {o : Oper} {a : Act} {w : World} {Q : Exit → Act → World → Prop} {x y : Operand} {op : Oper}
theorem load_ir {q : Addr} {n : Nat} (ho : op.op = .load 3 x) (hc : w.cell? q = some (.int .i64 (n : Int))) (hx : a.eval x = .pointer (some q)) : (execOp a.eval op).run Tryd.prog w = .ok (.value (.int .i64 (n : Int))) w := by
 unfold execOp
 simp only [ho, hx]
 go_simp
theorem run_storeI {g k v : Nat} {n : Nat} {T : TypeId} {q : Nat → Nat} (hk : k < n) (hr : Row w g T (ic n q)) (ho : op.op = .store 3 x y) (hx : a.eval x = .pointer (some ⟨g, k, none⟩)) (hy : a.eval y = .int .i64 (v : Int)) : (execOp a.eval op).run Tryd.prog w = .ok .skip (w.setCell ⟨g, k, none⟩ (.int .i64 (v : Int))) := by
 have hc := hr.cell k
 rw [ic_get _ hk] at hc
 have hf := hr.free k
 unfold execOp
 simp only [ho, hx, hy]
 go_simp
theorem run_storeP {g k v : Nat} {T : TypeId} {q : Nat → Nat} (hk : k < 256) (hr : Row w g T (pc q)) (ho : op.op = .store 39 x y) (hx : a.eval x = .pointer (some ⟨g, k, none⟩)) (hy : a.eval y = .int .u16 (v : Int)) : (execOp a.eval op).run Tryd.prog w = .ok .skip (w.setCell ⟨g, k, none⟩ (.int .u16 (v : Int))) := by
 have hc := hr.cell k
 rw [pc_get _ hk] at hc
 have hf := hr.free k
 unfold execOp
 simp only [ho, hx, hy]
 go_simp
end
theorem nS_le {f : Nat → Nat} {c : Nat} (h : ∀ i, f i ≤ c) : ∀ n, nS n f ≤ n * c
 | 0 => Nat.zero_le _
 | n + 1 => by
  show nS n f + f n ≤ (n + 1) * c
  rw [Nat.succ_mul]
  exact Nat.add_le_add (nS_le h n) (h n)
/-- the sums of the product, when i rows and k summands of the next are done -/
def sumP (A B : Nat → Nat) (i k m : Nat) : Nat := nS i (fun i' => nS 256 (fun k' => if i' + k' = m then A i' * B k' else 0)) + nS k (fun k' => if i + k' = m then A i * B k' else 0)
theorem sumP_zero (A B : Nat → Nat) : sumP A B 0 0 = fun _ => 0 := rfl
theorem sumP_row (A B : Nat → Nat) (i : Nat) : sumP A B i 256 = sumP A B (i + 1) 0 := by
 funext m
 rfl
theorem sumP_next (A B : Nat → Nat) (i k : Nat) : upd (sumP A B i k) (i + k) (sumP A B i k (i + k) + A i * B k) = sumP A B i (k + 1) := by
 funext m
 unfold upd
 by_cases h : m = i + k
 ·subst h
  rw [if_pos rfl]
  show _ = nS i _ + (nS k _ + (if i + k = i + k then A i * B k else 0))
  rw [if_pos rfl, ← Nat.add_assoc]
  rfl
 ·rw [if_neg h]
  show _ = nS i _ + (nS k _ + (if i + k = m then A i * B k else 0))
  rw [if_neg (fun q => h q.symm), Nat.add_zero]
  rfl
theorem sumP_le {A B : Nat → Nat} (hA : ∀ i, A i < 3329) (hB : ∀ i, B i < 3329) (i k m : Nat) (hi : i ≤ 256) (hk : k ≤ 256) : sumP A B i k m ≤ 800000000000 := by
 have h1 : ∀ i k, A i * B k ≤ 3328 * 3328 := fun i k => Nat.mul_le_mul (Nat.le_of_lt_succ (hA i)) (Nat.le_of_lt_succ (hB k))
 have h2 : ∀ i' k', (if i' + k' = m then A i' * B k' else 0) ≤ 3328 * 3328 := fun i' k' => by
  split
  ·exact h1 _ _
  ·exact Nat.zero_le _
 have h3 := nS_le (fun i' => nS_le (h2 i') 256) i
 have h4 := nS_le (h2 i) k
 unfold sumP
 refine Nat.le_trans (Nat.add_le_add h3 h4) ?_
 refine Nat.le_trans (Nat.add_le_add (Nat.mul_le_mul_right _ hi) (Nat.mul_le_mul_right _ hk)) (by decide)
theorem sumP_cnv (A B : Nat → Nat) (m : Nat) : ((sumP A B 256 0 m : Nat) : Int) = cnv (iP A) (iP B) m := by
 unfold sumP cnv
 show (((nS 256 _) + 0 : Nat) : Int) = _
 rw [Nat.add_zero, nS_int]
 refine rS_congr fun i _ => ?_
 rw [nS_int]
 refine rS_congr fun k _ => ?_
 split
 ·exact Int.natCast_mul _ _
 ·rfl
theorem mul_out (p r : Nat → Nat) (k : Nat) : (sumP (fun i => p i % 3329) (fun i => r i % 3329) 256 0 k % 3329 + 3329 - sumP (fun i => p i % 3329) (fun i => r i % 3329) 256 0 (k + 256) % 3329) % 3329 = mulN p r k := by
 have h : ∀ q : Nat → Nat, pM (iP fun i => q i % 3329) (iP q) := fun q k _ => rM_nat _
 have h1 : mulN p r k = rd (ngc (iP fun i => p i % 3329) (iP fun i => r i % 3329) k) := (rd_of (ngc_of (h p) (h r) k)).symm
 rw [h1]
 unfold ngc rd
 rw [← sumP_cnv, ← sumP_cnv]
 generalize sumP (fun i => p i % 3329) (fun i => r i % 3329) 256 0 k = x
 generalize sumP (fun i => p i % 3329) (fun i => r i % 3329) 256 0 (k + 256) = y
 omega
end Go.Proofs.YtbjpbeplpljieaaDoor

/-
 COMPRESSION, number by number.
-/
namespace Go.Proofs.YtbjpbeplpljieaaDoor
def cmpN (d x : Nat) : Nat := ((2 * x * 2 ^ d + 3329) / (2 * 3329)) % 2 ^ d
def dcmN (d y : Nat) : Nat := (2 * y * 3329 + 2 ^ d) / (2 * 2 ^ d)
theorem cmpN_lt (d x : Nat) : cmpN d x < 2 ^ d := Nat.mod_lt _ (Nat.two_pow_pos d)
theorem dcmN_lt (d y : Nat) (hd : d ≤ 12) (hy : y < 2 ^ d) : dcmN d y < 65536 := by
 unfold dcmN
 have h1 : 2 ^ d ≤ 2 ^ 12 := Nat.pow_le_pow_right (by decide) hd
 have h2 : 2 ^ 12 = 4096 := by decide
 have h0 := Nat.two_pow_pos d
 generalize 2 ^ d = P at *
 refine Nat.div_lt_of_lt_mul ?_
 have : P * 65536 ≥ P * 1 := Nat.mul_le_mul_left _ (by decide)
 have h3 : y * 3329 ≤ 4096 * 3329 := Nat.mul_le_mul_right _ (by omega)
 have h4 : y ≤ P - 1 := by omega
 have h5 : y * 3329 ≤ P * 3329 := Nat.mul_le_mul_right _ (by omega)
 rw [Nat.mul_assoc, Nat.mul_assoc]
 omega
def cmpP (d : Nat) (p : Nat → Nat) (k : Nat) : Nat := cmpN d (p k % 3329)
def dcmP (d : Nat) (p : Nat → Nat) (k : Nat) : Nat := dcmN d (p k % 2 ^ d)
end Go.Proofs.YtbjpbeplpljieaaDoor

/-
 THE DOCUMENT'S OWN Compress, Decompress.
-/
namespace Go.Proofs.YtbjpbeplpljieaaDoor
open Go.RowKit
set_option maxRecDepth 100000
section
variable {a : Act} {x y : Operand} {op : Oper} {w : World}
theorem rem_ij {i j k : Nat} (h : k = i % j) (hj : 0 < j) (hi : i ≤ 1000000000000) (ho : op.op = .binOp .rem 3 x y 3) (hx : a.eval x = .int .i64 (i : Int)) (hy : a.eval y = .int .i64 (j : Int)) : (execOp a.eval op).run Tryd.prog w = .ok (.value (.int .i64 (k : Int))) w := by
 have hk : k ≤ i := by rw [h]; exact Nat.mod_le _ _
 have e : (i : Int).tmod (j : Int) = (k : Int) := by rw [Int.tmod_eq_emod_of_nonneg (by omega), h, Int.natCast_emod]
 have hw : IntKind.i64.wrap (k : Int) = (k : Int) := by rw [IntKind.wrap_i64]; omega
 have hz : ¬ (j : Int) = 0 := by omega
 clear h
 generalize (i : Int) = ii at *
 generalize (j : Int) = jj at *
 generalize (k : Int) = kk at *
 unfold execOp
 simp only [ho, hx, hy]
 go_simp
end
theorem results_row_slot7 {P : Program} {fn : Func} {q p : Tmp} {ty : TypeId} (h : fn.results = #[.cell p ty, .tmp q]) (tmps : Array Value) (w : World) (g : Nat) (t : TypeId) (cs : List Value) (d : TypeDesc) (v : Value)
  (hq : tmps.getD q undef = v) (hp : tmps.getD p undef = .pointer (some ⟨g, 0, none⟩)) (hg : Row w g t cs)
  (hu : P.underlying ty = some d) (hd : (match d with | .struct _ | .array _ _ => true | _ => false) = true) (hi : (P.info? ty).map (·.size) = some cs.length) :
  (results fn tmps).run P w = .ok (.tuple #[.agg cs.toArray, v]) w := by
 have hp' : tmps[p]?.getD undef = .pointer (some ⟨g, 0, none⟩) := by simpa using hp
 have hq' : tmps[q]?.getD undef = v := by simpa using hq
 simp [results, h, hp', hq', asAddr, run_loadVar_row w g t ty cs.toArray (0, 0) d hg hu hd (by simpa using hi)]
theorem ret_rs7 {P : Program} {f : Func} {a : Act} {q p : Tmp} {ty : TypeId} {d : TypeDesc} {post : Ending → World → Prop} {w : World} {g : Nat} {T : TypeId} {cs : List Value} {v : Value} (hf : f.results = #[.cell p ty, .tmp q]) (hdf : a.defers = []) (hq : a.tmps.getD q undef = v) (hp : a.tmps.getD p undef = .pointer (some ⟨g, 0, none⟩)) (hr : Row w g T cs)
  (hu : P.underlying ty = some d) (hd : (match d with | .struct _ | .array _ _ => true | _ => false) = true) (hi : (P.info? ty).map (·.size) = some cs.length) (h : post (.returned (.tuple #[.agg cs.toArray, v])) w) : bodyPost P f post .ret a w :=
 bodyPost_ret (v := .tuple #[.agg cs.toArray, v]) (results_row_slot7 hf _ _ g T cs d v hq hp hr hu hd hi) hdf h
/-- the answer is a polynomial and a code -/
def CodeIs (w : World) (p : Nat → Nat) (er : Int) (e : Ending) (w' : World) : Prop := e = .returned (.tuple #[polyV p, .int .i64 er]) ∧ Below w.heap.size w w'
end Go.Proofs.YtbjpbeplpljieaaDoor
