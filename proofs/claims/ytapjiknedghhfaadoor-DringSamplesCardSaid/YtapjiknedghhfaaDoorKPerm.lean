/-
 WALK: keccak.Permute.
-/
import Derived.Test.YtapjiknedghhfaaDoorKLa
import Derived.Test.YtapjiknedghhfaaDoorHand2
namespace Go.Proofs.YtapjiknedghhfaaDoor
open Go.RowKit
set_option maxRecDepth 100000

theorem info_u64s : (Tryd.prog.info? 56).map (·.size) = some 1 := by kernel_rfl
theorem arr25 : Tryd.prog.underlying 57 = some (.array 25 56) := Tryd.underlying57
/-- the address of lane k of an array -/
theorem run_index25 {a : Act} {x y : Operand} {o : Oper} (b k : Nat) (hk : k < 25) (ho : o.op = .indexAddr 57 x y) (hx : a.eval x = .pointer (some ⟨b, 0, none⟩)) (hy : a.eval y = .int .i64 (k : Int)) (w : World) :
  (execOp a.eval o).run Tryd.prog w = .ok (.value (.pointer (some ⟨b, k, none⟩))) w := by
 have h0 : (0 : Int) ≤ (k : Int) := by omega
 have h1 : (k : Int) < 25 := by omega
 unfold execOp
 simp only [ho, hx, hy]
 go_simp
theorem run_store64 {a : Act} {w : World} {o : Oper} {x y : Operand} {u : Value} (z : UInt64) (b p : Nat) (ho : o.op = .store 56 x y) (hx : a.eval x = .pointer (some ⟨b, p, none⟩)) (hy : a.eval y = .int .u64 (z.toNat : Int)) (hc : w.cell? ⟨b, p, none⟩ = some u) (hf : w.frozen? ⟨b, p, none⟩ = false) :
  (execOp a.eval o).run Tryd.prog w = .ok .skip (w.setCell ⟨b, p, none⟩ (.int .u64 (z.toNat : Int))) := by
 unfold execOp
 simp only [ho, hx, hy]
 go_simp

/-- the table of the rounds' constants holds in world w -/
def KVars (w : World) : Prop := ∀ k, k < 24 → w.cell? ⟨0, k, none⟩ = some (.int .u64 ((lane kC k).toNat : Int))
section
variable {w w' : World} {B g : Nat}
theorem KVars.pos (h : KVars w) : 0 < w.heap.size := World.block_lt_of_cell? w _ (h 0 (by decide))
theorem KVars.step (h : KVars w) (hb : Below w.heap.size w w') : KVars w' := fun k hk => (hb.cell (p := ⟨0, k, none⟩) h.pos).trans (h k hk)
theorem KVars.but (h : KVars w) (hb : But w.heap.size g w w') (hg : 0 ≠ g) : KVars w' := fun k hk => (hb.cell (p := ⟨0, k, none⟩) h.pos hg).trans (h k hk)
theorem KVars.under (h : KVars w) (hb : Below B w w') (hB : 0 < B) : KVars w' := fun k hk => (hb.cell (p := ⟨0, k, none⟩) hB).trans (h k hk)
theorem KVars.drew (h : KVars w) : KVars w.drew := h
end
/-- rows of chi ahead of place 5j, lanes of s from there on -/
def chiUpto (b s : List UInt64) (j : Nat) : List UInt64 := (chiL b).take (5 * j) ++ s.drop (5 * j)
theorem chiUpto_length (b s : List UInt64) (j : Nat) (hj : j ≤ 5) (h : s.length = 25) : (chiUpto b s j).length = 25 := by
 simp [chiUpto, chiL_length, h]; omega
theorem chiUpto_zero (b s : List UInt64) : chiUpto b s 0 = s := by simp [chiUpto]
theorem chiUpto_five (b s : List UInt64) (h : s.length = 25) : chiUpto b s 5 = chiL b := by
 unfold chiUpto
 rw [List.take_of_length_le (by rw [chiL_length]; omega)]
 rw [List.drop_of_length_le (by omega), List.append_nil]
theorem chiUpto_step (b s : List UInt64) (j : Nat) (hj : j < 5) (h : s.length = 25) :
  (((((chiUpto b s j).set (5 * j) (lane b (5 * j) ^^^ andn (lane b (5 * j + 2)) (lane b (5 * j + 1)))).set (5 * j + 1) (lane b (5 * j + 1) ^^^ andn (lane b (5 * j + 3)) (lane b (5 * j + 2)))).set (5 * j + 2) (lane b (5 * j + 2) ^^^ andn (lane b (5 * j + 4)) (lane b (5 * j + 3)))).set (5 * j + 3) (lane b (5 * j + 3) ^^^ andn (lane b (5 * j)) (lane b (5 * j + 4)))).set (5 * j + 4) (lane b (5 * j + 4) ^^^ andn (lane b (5 * j + 1)) (lane b (5 * j))) = chiUpto b s (j + 1) := by
 match s, h with
 | [_, _, _, _, _, _, _, _, _, _, _, _, _, _, _, _, _, _, _, _, _, _, _, _, _], _ =>
  match j, hj with
  | 0, _ => rfl
  | 1, _ => rfl
  | 2, _ => rfl
  | 3, _ => rfl
  | 4, _ => rfl

set_option maxHeartbeats 1000000 in
theorem permute_of (hmix : ∀ (l : List UInt64) (w : World), l.length = 25 → Calls Tryd.prog 53 #[.agg (laneCells l).toArray] w (LanesIs w (mixL l))) (s0 : List UInt64) (hs0 : s0.length = 25) (w : World) (hv : KVars w) :
  Calls Tryd.prog 50 #[.agg (laneCells s0).toArray] w (LanesIs w (permL s0)) := by
 unfold LanesIs
 have hpos := hv.pos
 generalize hn0 : w.heap.size = n0 at *
 have hrA : ∀ o, Row ((w.alloc (.cells (laneCells s0).toArray 57)).alloc o) n0 57 (laneCells s0) := fun o => (Row.new_ hn0.symm rfl).alloc _
 have hrB : ∀ o, Row ((w.alloc o).alloc (.cells (laneCells (List.replicate 25 0)).toArray 57)) (n0 + 1) 57 (laneCells (List.replicate 25 0)) := fun o => Row.new_ (by rw [asz, hn0]) rfl
 have hbA : ∀ o o2, Below n0 w ((w.alloc o).alloc o2) := fun o o2 => ((Below.refl n0 w).alloc (by omega) o).alloc (by rw [asz]; omega) o2
 go_enter Tryd.func50, Tryd.ntmps50
 go_wp2
 go_loopw [3, 4, 5, 6] (fun _ _ _ i wr => ∃ n : Nat, n ≤ 24 ∧ i = .int .i64 n ∧ Row wr n0 57 (laneCells (permK s0 n)) ∧ Row wr (n0 + 1) 57 (laneCells (List.replicate 25 0)) ∧ KVars wr ∧ Below n0 w wr) (fun _ _ _ i _ => 24 - (intOf i).toNat)
 case atStart => exact ⟨0, Nat.zero_le _, rfl, hrA _, hrB _, hv.step (by rw [hn0]; exact hbA _ _), hbA _ _⟩
 case round =>
  clear hrA hrB hbA hv
  obtain ⟨n, hn, rfl, hrs, hre, hv, hbel⟩ := hrel
  by_cases hlt : n < 24
  ·have hstl := permK_length s0 hs0 n
   obtain ⟨st, HST⟩ : ∃ st, Hid (st = permK s0 n) := ⟨_, Lib.hid rfl⟩
   rw [← HST.out] at hstl hrs
   go_wp2_with (first
    | refine wpList_load_any rfl 57 (.tmp 1) rfl n0 rfl 57 (laneCells st) (.array 25 56) hrs Tryd.underlying57 rfl (info_l25.trans (size_lanes _ _ hstl)) ?_
    | (go_at_call 53; refine (hmix st _ hstl).mono ?_))
   rintro e w2 ⟨rfl, b2⟩
   replace hrs := hrs.below b2 hrs.lt
   replace hre := hre.below b2 hre.lt
   replace hv := hv.step b2
   replace hbel := hbel.trans (b2.mono (by have := hbel.size; omega))
   have hbl := mixL_length st
   obtain ⟨bl, HBL⟩ : ∃ bl, Hid (bl = mixL st) := ⟨_, Lib.hid rfl⟩
   rw [← HBL.out] at hbl ⊢
   clear b2
   go_wp2_with (refine wpList_store_any rfl 57 (.tmp 4) (.tmp 10) rfl w2.heap.size rfl (laneCells bl) rfl 57 (laneCells (List.replicate 25 0)) (Row.new_ rfl zero25) (info_l25.trans (size_lanes _ _ hbl)) (by rw [laneCells_length, laneCells_length, hbl]; rfl) (cell_oneLane _) ?_)
   intro w3 hrb bt zt
   try simp only [asz] at bt zt
   have b3 : Below w2.heap.size w2 w3 := (Below.alloc (Below.refl _ _) (Nat.le_refl _) _).trans (bt.under (Nat.le_succ _) (Nat.le_refl _))
   have hnb : n0 + 1 < w2.heap.size := hre.lt
   replace hrs := hrs.below b3 hrs.lt
   replace hre := hre.below b3 hre.lt
   replace hv := hv.step b3
   replace hbel := hbel.trans (b3.mono (by omega))
   clear b3 bt zt
   generalize w2.heap.size = nb at *
   go_wp2
   go_loopw [5] (fun y wr => ∃ j : Nat, j ≤ 5 ∧ y = .int .i64 ((5 * j : Nat) : Int) ∧ Row wr n0 57 (laneCells (chiUpto bl st j)) ∧ Row wr nb 57 (laneCells bl) ∧ Row wr (n0 + 1) 57 (laneCells (List.replicate 25 0)) ∧ KVars wr ∧ Below n0 w wr) (fun y _ => 25 - (intOf y).toNat)
   case atStart => exact ⟨0, Nat.zero_le _, rfl, by rw [chiUpto_zero]; exact hrs, hrb, hre, hv, hbel⟩
   case round =>
    clear hrs hrb hre hv hbel
    obtain ⟨j, hj, rfl, hrs, hrb, hre, hv, hbel⟩ := hrel
    by_cases hj5 : j < 5
    ·have hcl := chiUpto_length bl st j hj hstl
     have HCS := Lib.hid (chiUpto_step bl st j hj5 hstl)
     obtain ⟨cur, HCU⟩ : ∃ cur, Hid (cur = chiUpto bl st j) := ⟨_, Lib.hid rfl⟩
     rw [← HCU.out] at hcl hrs HCS
     obtain ⟨y, hy⟩ : ∃ y, y = 5 * j := ⟨_, rfl⟩
     obtain ⟨y1, hy1⟩ : ∃ y1, y1 = y + 1 := ⟨_, rfl⟩
     obtain ⟨y2, hy2⟩ : ∃ y2, y2 = y + 2 := ⟨_, rfl⟩
     obtain ⟨y3, hy3⟩ : ∃ y3, y3 = y + 3 := ⟨_, rfl⟩
     obtain ⟨y4, hy4⟩ : ∃ y4, y4 = y + 4 := ⟨_, rfl⟩
     have q1 : (y : Int) + 1 = (y1 : Int) := by omega
     have q2 : (y : Int) + 2 = (y2 : Int) := by omega
     have q3 : (y : Int) + 3 = (y3 : Int) := by omega
     have q4 : (y : Int) + 4 = (y4 : Int) := by omega
     have hyb : y4 < 25 := by omega
     have p1 : IntKind.i64.wrap (y1 : Int) = (y1 : Int) := by rw [IntKind.wrap_i64]; omega
     have p2 : IntKind.i64.wrap (y2 : Int) = (y2 : Int) := by rw [IntKind.wrap_i64]; omega
     have p3 : IntKind.i64.wrap (y3 : Int) = (y3 : Int) := by rw [IntKind.wrap_i64]; omega
     have p4 : IntKind.i64.wrap (y4 : Int) = (y4 : Int) := by rw [IntKind.wrap_i64]; omega
     rw [← hy, ← hy1, ← hy2, ← hy3, ← hy4] at HCS
     have HYJ := Lib.hid (And.intro hy (And.intro hy1 (And.intro hy2 (And.intro hy3 hy4))))
     have g0 : y < 25 := by omega
     have g1 : y1 < 25 := by omega
     have g2 : y2 < 25 := by omega
     have g3 : y3 < 25 := by omega
     have hyle : y ≤ 20 := by omega
     rw [← hy]
     clear hy hy1 hy2 hy3 hy4
     go_wp2
     replace hrs := hrs.drew
     replace hrb := hrb.drew
     replace hre := hre.drew
     replace hv := hv.drew
     replace hbel := hbel.drew
     refine wp_region_held_drew (S := fun w' => w'.rangeAt nb 0 (laneCells bl)) (by kernel_rfl) hrb.range (fun _ => ?_)
     generalize wr.drew = W at *
     refine hdv0 0 16 (.int .i64 (y : Int)) (by rfl) hrb.range ?_
     refine hdv0 1 17 (.int .i64 (y : Int)) (by rfl) hrb.range ?_
     refine hdv 2 18 (.int .i64 (y1 : Int)) (by rfl) (fun w _ => by go_simp) hrb.range ?_
     refine hdv0 3 19 (.int .i64 (y : Int)) (by rfl) hrb.range ?_
     refine hdv 4 20 (.int .i64 (y2 : Int)) (by rfl) (fun w _ => by go_simp) hrb.range ?_
     refine hdv0 5 21 (.int .i64 (y : Int)) (by rfl) hrb.range ?_
     refine hdv 6 22 (.int .i64 (y3 : Int)) (by rfl) (fun w _ => by go_simp) hrb.range ?_
     refine hdv0 7 23 (.int .i64 (y : Int)) (by rfl) hrb.range ?_
     refine hdv 8 24 (.int .i64 (y4 : Int)) (by rfl) (fun w _ => by go_simp) hrb.range ?_
     refine hdv0 9 25 (.int .i64 (y : Int)) (by rfl) hrb.range ?_
     refine hdv 10 26 (.pointer (some ⟨nb, y, none⟩)) (by rfl) (fun w _ => run_index25 nb y (by omega) rfl (by kernel_rfl) (by kernel_rfl) w) hrb.range ?_
     refine hdv 11 27 (.int .u64 ((lane bl y).toNat : Int)) (by rfl) (fun w e => run_load1 rfl Tryd.underlying56 (by kernel_rfl) (by have := e y _ (laneCells_lane bl y (by omega)); rwa [Nat.zero_add] at this)) hrb.range ?_
     refine hdv0 12 28 (.int .i64 (y : Int)) (by rfl) hrb.range ?_
     refine hdv 13 29 (.int .i64 (y1 : Int)) (by rfl) (fun w _ => by go_simp) hrb.range ?_
     refine hdv 14 30 (.pointer (some ⟨nb, y1, none⟩)) (by rfl) (fun w _ => run_index25 nb y1 (by omega) rfl (by kernel_rfl) (by kernel_rfl) w) hrb.range ?_
     refine hdv 15 31 (.int .u64 ((lane bl y1).toNat : Int)) (by rfl) (fun w e => run_load1 rfl Tryd.underlying56 (by kernel_rfl) (by have := e y1 _ (laneCells_lane bl y1 (by omega)); rwa [Nat.zero_add] at this)) hrb.range ?_
     refine hdv0 16 32 (.int .i64 (y : Int)) (by rfl) hrb.range ?_
     refine hdv 17 33 (.int .i64 (y2 : Int)) (by rfl) (fun w _ => by go_simp) hrb.range ?_
     refine hdv 18 34 (.pointer (some ⟨nb, y2, none⟩)) (by rfl) (fun w _ => run_index25 nb y2 (by omega) rfl (by kernel_rfl) (by kernel_rfl) w) hrb.range ?_
     refine hdv 19 35 (.int .u64 ((lane bl y2).toNat : Int)) (by rfl) (fun w e => run_load1 rfl Tryd.underlying56 (by kernel_rfl) (by have := e y2 _ (laneCells_lane bl y2 (by omega)); rwa [Nat.zero_add] at this)) hrb.range ?_
     refine hdv0 20 36 (.int .i64 (y : Int)) (by rfl) hrb.range ?_
     refine hdv 21 37 (.int .i64 (y3 : Int)) (by rfl) (fun w _ => by go_simp) hrb.range ?_
     refine hdv 22 38 (.pointer (some ⟨nb, y3, none⟩)) (by rfl) (fun w _ => run_index25 nb y3 (by omega) rfl (by kernel_rfl) (by kernel_rfl) w) hrb.range ?_
     refine hdv 23 39 (.int .u64 ((lane bl y3).toNat : Int)) (by rfl) (fun w e => run_load1 rfl Tryd.underlying56 (by kernel_rfl) (by have := e y3 _ (laneCells_lane bl y3 (by omega)); rwa [Nat.zero_add] at this)) hrb.range ?_
     refine hdv0 24 40 (.int .i64 (y : Int)) (by rfl) hrb.range ?_
     refine hdv 25 41 (.int .i64 (y4 : Int)) (by rfl) (fun w _ => by go_simp) hrb.range ?_
     refine hdv 26 42 (.pointer (some ⟨nb, y4, none⟩)) (by rfl) (fun w _ => run_index25 nb y4 (by omega) rfl (by kernel_rfl) (by kernel_rfl) w) hrb.range ?_
     refine hdv 27 43 (.int .u64 ((lane bl y4).toNat : Int)) (by rfl) (fun w e => run_load1 rfl Tryd.underlying56 (by kernel_rfl) (by have := e y4 _ (laneCells_lane bl y4 (by omega)); rwa [Nat.zero_add] at this)) hrb.range ?_
     refine held_call 28 (Op.call { callee := Callee.value (Operand.func 54), args := #[Operand.tmp 27, Operand.tmp 31, Operand.tmp 35, Operand.tmp 39, Operand.tmp 43], argTypes := #[56, 56, 56, 56, 56] }) 82 (some 44) 54 #[.int .u64 ((lane bl y).toNat : Int), .int .u64 ((lane bl y1).toNat : Int), .int .u64 ((lane bl y2).toNat : Int), .int .u64 ((lane bl y3).toNat : Int), .int .u64 ((lane bl y4).toNat : Int)] (by kernel_rfl) (by kernel_rfl) (by kernel_rfl) (by kernel_rfl) ?_
     refine (chi_any (lane bl y) (lane bl y1) (lane bl y2) (lane bl y3) (lane bl y4) _).mono ?_
     rintro e w' ⟨rfl, hw'⟩
     obtain rfl : W = w' := hw'.symm
     generalize lane bl y ^^^ andn (lane bl y2) (lane bl y1) = z0 at *
     generalize lane bl y1 ^^^ andn (lane bl y3) (lane bl y2) = z1 at *
     generalize lane bl y2 ^^^ andn (lane bl y4) (lane bl y3) = z2 at *
     generalize lane bl y3 ^^^ andn (lane bl y) (lane bl y4) = z3 at *
     generalize lane bl y4 ^^^ andn (lane bl y1) (lane bl y) = z4 at *
     refine ⟨_, rfl, hrb.range, ?_⟩
     simp only [Act.put, arr9, hd9, tl9]
     refine hdv0 29 15 (.tuple #[.int .u64 (z0.toNat : Int), .int .u64 (z1.toNat : Int), .int .u64 (z2.toNat : Int), .int .u64 (z3.toNat : Int), .int .u64 (z4.toNat : Int)]) (by rfl) hrb.range ?_
     refine hdv0 30 45 (.int .u64 (z0.toNat : Int)) (by rfl) hrb.range ?_
     refine hdv0 31 46 (.int .u64 (z1.toNat : Int)) (by rfl) hrb.range ?_
     refine hdv0 32 47 (.int .u64 (z2.toNat : Int)) (by rfl) hrb.range ?_
     refine hdv0 33 48 (.int .u64 (z3.toNat : Int)) (by rfl) hrb.range ?_
     refine hdv0 34 49 (.int .u64 (z4.toNat : Int)) (by rfl) hrb.range ?_
     refine hdv 35 50 (.pointer (some ⟨n0, y, none⟩)) (by rfl) (fun w _ => run_index25 n0 y (by omega) rfl (by kernel_rfl) (by kernel_rfl) w) hrb.range ?_
     have hbvar : Below n0 W W := Below.refl _ _
     refine held_one 36 (by kernel_rfl) ?_
     have hs0 := hrs.set_ y (.int .u64 (z0.toNat : Int))
     rw [laneCells_set] at hs0
     refine step_store1 36 (Op.store 56 (Operand.tmp 50) (Operand.tmp 45)) (by kernel_rfl) (by kernel_rfl) (W.setCell ⟨n0, y, none⟩ (.int .u64 (z0.toNat : Int))) (run_store64 z0 n0 y rfl (by kernel_rfl) (by kernel_rfl) ((hrs.cell y).trans (laneCells_get _ y (by first | omega | (simp; omega)))) (hrs.free y)) ?_
     have hrb := hrb.other ⟨n0, y, none⟩ (.int .u64 (z0.toNat : Int)) (by show nb ≠ n0; omega)
     have hre := hre.other ⟨n0, y, none⟩ (.int .u64 (z0.toNat : Int)) (by show n0 + 1 ≠ n0; omega)
     have hbel := hbel.setCell (p := ⟨n0, y, none⟩) (Nat.le_refl n0) (.int .u64 (z0.toNat : Int))
     have hbvar := hbvar.setCell (p := ⟨n0, y, none⟩) (Nat.le_refl n0) (.int .u64 (z0.toNat : Int))
     have hrs := hs0
     clear hs0
     generalize W.setCell ⟨n0, y, none⟩ (.int .u64 (z0.toNat : Int)) = V0 at *
     refine ⟨hrb.range, ?_⟩
     refine hdv 37 51 (.pointer (some ⟨n0, y1, none⟩)) (by rfl) (fun w _ => run_index25 n0 y1 (by omega) rfl (by kernel_rfl) (by kernel_rfl) w) hrb.range ?_
     refine held_one 38 (by kernel_rfl) ?_
     have hs1 := hrs.set_ y1 (.int .u64 (z1.toNat : Int))
     rw [laneCells_set] at hs1
     refine step_store1 38 (Op.store 56 (Operand.tmp 51) (Operand.tmp 46)) (by kernel_rfl) (by kernel_rfl) (V0.setCell ⟨n0, y1, none⟩ (.int .u64 (z1.toNat : Int))) (run_store64 z1 n0 y1 rfl (by kernel_rfl) (by kernel_rfl) ((hrs.cell y1).trans (laneCells_get _ y1 (by first | omega | (simp; omega)))) (hrs.free y1)) ?_
     have hrb := hrb.other ⟨n0, y1, none⟩ (.int .u64 (z1.toNat : Int)) (by show nb ≠ n0; omega)
     have hre := hre.other ⟨n0, y1, none⟩ (.int .u64 (z1.toNat : Int)) (by show n0 + 1 ≠ n0; omega)
     have hbel := hbel.setCell (p := ⟨n0, y1, none⟩) (Nat.le_refl n0) (.int .u64 (z1.toNat : Int))
     have hbvar := hbvar.setCell (p := ⟨n0, y1, none⟩) (Nat.le_refl n0) (.int .u64 (z1.toNat : Int))
     have hrs := hs1
     clear hs1
     generalize V0.setCell ⟨n0, y1, none⟩ (.int .u64 (z1.toNat : Int)) = V1 at *
     refine ⟨hrb.range, ?_⟩
     refine hdv 39 52 (.pointer (some ⟨n0, y2, none⟩)) (by rfl) (fun w _ => run_index25 n0 y2 (by omega) rfl (by kernel_rfl) (by kernel_rfl) w) hrb.range ?_
     refine held_one 40 (by kernel_rfl) ?_
     have hs2 := hrs.set_ y2 (.int .u64 (z2.toNat : Int))
     rw [laneCells_set] at hs2
     refine step_store1 40 (Op.store 56 (Operand.tmp 52) (Operand.tmp 47)) (by kernel_rfl) (by kernel_rfl) (V1.setCell ⟨n0, y2, none⟩ (.int .u64 (z2.toNat : Int))) (run_store64 z2 n0 y2 rfl (by kernel_rfl) (by kernel_rfl) ((hrs.cell y2).trans (laneCells_get _ y2 (by first | omega | (simp; omega)))) (hrs.free y2)) ?_
     have hrb := hrb.other ⟨n0, y2, none⟩ (.int .u64 (z2.toNat : Int)) (by show nb ≠ n0; omega)
     have hre := hre.other ⟨n0, y2, none⟩ (.int .u64 (z2.toNat : Int)) (by show n0 + 1 ≠ n0; omega)
     have hbel := hbel.setCell (p := ⟨n0, y2, none⟩) (Nat.le_refl n0) (.int .u64 (z2.toNat : Int))
     have hbvar := hbvar.setCell (p := ⟨n0, y2, none⟩) (Nat.le_refl n0) (.int .u64 (z2.toNat : Int))
     have hrs := hs2
     clear hs2
     generalize V1.setCell ⟨n0, y2, none⟩ (.int .u64 (z2.toNat : Int)) = V2 at *
     refine ⟨hrb.range, ?_⟩
     refine hdv 41 53 (.pointer (some ⟨n0, y3, none⟩)) (by rfl) (fun w _ => run_index25 n0 y3 (by omega) rfl (by kernel_rfl) (by kernel_rfl) w) hrb.range ?_
     refine held_one 42 (by kernel_rfl) ?_
     have hs3 := hrs.set_ y3 (.int .u64 (z3.toNat : Int))
     rw [laneCells_set] at hs3
     refine step_store1 42 (Op.store 56 (Operand.tmp 53) (Operand.tmp 48)) (by kernel_rfl) (by kernel_rfl) (V2.setCell ⟨n0, y3, none⟩ (.int .u64 (z3.toNat : Int))) (run_store64 z3 n0 y3 rfl (by kernel_rfl) (by kernel_rfl) ((hrs.cell y3).trans (laneCells_get _ y3 (by first | omega | (simp; omega)))) (hrs.free y3)) ?_
     have hrb := hrb.other ⟨n0, y3, none⟩ (.int .u64 (z3.toNat : Int)) (by show nb ≠ n0; omega)
     have hre := hre.other ⟨n0, y3, none⟩ (.int .u64 (z3.toNat : Int)) (by show n0 + 1 ≠ n0; omega)
     have hbel := hbel.setCell (p := ⟨n0, y3, none⟩) (Nat.le_refl n0) (.int .u64 (z3.toNat : Int))
     have hbvar := hbvar.setCell (p := ⟨n0, y3, none⟩) (Nat.le_refl n0) (.int .u64 (z3.toNat : Int))
     have hrs := hs3
     clear hs3
     generalize V2.setCell ⟨n0, y3, none⟩ (.int .u64 (z3.toNat : Int)) = V3 at *
     refine ⟨hrb.range, ?_⟩
     refine hdv 43 54 (.pointer (some ⟨n0, y4, none⟩)) (by rfl) (fun w _ => run_index25 n0 y4 (by omega) rfl (by kernel_rfl) (by kernel_rfl) w) hrb.range ?_
     refine held_one 44 (by kernel_rfl) ?_
     have hs4 := hrs.set_ y4 (.int .u64 (z4.toNat : Int))
     rw [laneCells_set] at hs4
     refine step_store1 44 (Op.store 56 (Operand.tmp 54) (Operand.tmp 49)) (by kernel_rfl) (by kernel_rfl) (V3.setCell ⟨n0, y4, none⟩ (.int .u64 (z4.toNat : Int))) (run_store64 z4 n0 y4 rfl (by kernel_rfl) (by kernel_rfl) ((hrs.cell y4).trans (laneCells_get _ y4 (by first | omega | (simp; omega)))) (hrs.free y4)) ?_
     have hrb := hrb.other ⟨n0, y4, none⟩ (.int .u64 (z4.toNat : Int)) (by show nb ≠ n0; omega)
     have hre := hre.other ⟨n0, y4, none⟩ (.int .u64 (z4.toNat : Int)) (by show n0 + 1 ≠ n0; omega)
     have hbel := hbel.setCell (p := ⟨n0, y4, none⟩) (Nat.le_refl n0) (.int .u64 (z4.toNat : Int))
     have hbvar := hbvar.setCell (p := ⟨n0, y4, none⟩) (Nat.le_refl n0) (.int .u64 (z4.toNat : Int))
     have hrs := hs4
     clear hs4
     generalize V3.setCell ⟨n0, y4, none⟩ (.int .u64 (z4.toNat : Int)) = V4 at *
     refine ⟨hrb.range, ?_⟩
     refine wpAnyH_done (by kernel_rfl) ?_ _
     try simp only [Act.put, arr9, hd9, tl9]
     have hvZ : KVars V4 := hv.under hbvar (by omega)
     rw [HCS.out] at hrs
     clear q1 q2 q3 q4 p1 p2 p3 p4
     go_wp2
     go_roundw
     case rel => exact ⟨j + 1, by omega, by have := HYJ.out.1; rw [show 5 * (j + 1) = y + 5 by omega]; go_num, hrs, hrb, hre, hvZ, hbel⟩
     case measure => simp [intOf]; have := HYJ.out.1; omega
    ·obtain rfl : j = 5 := by omega
     rw [chiUpto_five bl st hstl] at hrs
     have hc0 := (hrs.cell 0).trans (laneCells_lane (chiL bl) 0 (by rw [chiL_length]; decide))
     have hf0 := hrs.free 0
     have hck := hv n hlt
     have hset := hrs.set_ 0 (.int .u64 ((lane (chiL bl) 0 ^^^ lane kC n).toNat : Int))
     rw [laneCells_set] at hset
     have HP : Hid ((chiL bl).set 0 (lane (chiL bl) 0 ^^^ lane kC n) = permK s0 (n + 1)) := Lib.hid (by rw [HBL.out, HST.out]; rfl)
     rw [HP.out] at hset
     have HX := Lib.hid (u64_xor (lane (chiL bl) 0) (lane kC n))
     clear hrb
     generalize lane (chiL bl) 0 = x0 at *
     generalize lane kC n = kc at *
     go_wp2
     go_region
     go_wp2
     go_roundw
     case rel =>
      rw [HX.out]
      exact ⟨n + 1, by omega, by go_num, hset, hre.beside (by omega), fun k hk => (World.cell?_setCell_other _ _ _ _ (by intro e; cases e; omega)).trans (hv k hk), below_set2 hbel (by omega)⟩
     case measure => simp [intOf]; omega
  ·obtain rfl : n = 24 := by omega
   have hpl := permL_length s0 hs0
   have hrs : Row wr n0 57 (laneCells (permL s0)) := hrs
   go_wp2_with (first
    | refine wpList_load_any rfl 57 (.tmp 1) rfl n0 rfl 57 (laneCells (permL s0)) (.array 25 56) hrs Tryd.underlying57 rfl (info_l25.trans (size_lanes _ _ hpl)) ?_
    | refine wpList_store_any rfl 57 (.tmp 2) (.tmp 63) rfl (n0 + 1) rfl (laneCells (permL s0)) rfl 57 _ hre (info_l25.trans (size_lanes _ _ hpl)) (by rw [laneCells_length, laneCells_length, hpl]; rfl) (cell_oneLane _) ?_)
   intro w9 hr9 b9 _
   have hb9 := hbel.trans (b9.under (Nat.le_of_lt (Nat.lt_trans (Nat.lt_succ_self n0) hre.lt)) (by omega))
   go_wp2
   exact ret_row Tryd.results50 rfl rfl hr9 Tryd.underlying57 rfl (info_l25.trans (size_lanes _ _ hpl)) ⟨rfl, hb9⟩
end Go.Proofs.YtapjiknedghhfaaDoor
