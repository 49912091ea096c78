import Derived.Test.YtbjpbeplpljieaaDoorZA
import Derived.Test.YtbjpbeplpljieaaDoorZB
import Derived.BigRegion
import Derived.Deep.RegionWith
import Derived.Deep.RegionHeld
import Derived.Test.YtbjpbeplpljieaaDoorZF
/-
 WALKS: the document's own turn, round.
-/
namespace Go.Proofs.YtbjpbeplpljieaaDoor
open Go.RowKit
set_option maxRecDepth 100000

theorem turn_any (x : UInt64) (n : Nat) (h2 : n ≤ 63) (w : World) :
  Calls Tryd.prog 92 #[.int .u64 (x.toNat : Int), .int .i64 (n : Int)] w (LaneIs w (trn x n)) := by
 unfold LaneIs
 by_cases h0 : n = 0
 ·subst h0
  go_enter Tryd.func92, Tryd.ntmps92
  go_wp2
  go_ret
  exact ⟨rfl, rfl⟩
 ·have ht : trn x n = rotl x n := if_neg h0
  have hr := u64_rotl x n
  have hw := wraps_u64 (n : Int) (by omega) (by omega)
  have hw2 := wraps_u64 ((64 - n : Nat) : Int) (by omega) (by omega)
  have q1 : (64 : Int) - (n : Int) = ((64 - n : Nat) : Int) := by omega
  have hd : decide ((n : Int) = 0) = false := by simp; omega
  rw [ht]
  go_enter Tryd.func92, Tryd.ntmps92
  go_wp2
  go_ret
  refine ⟨ret_int ?_, rfl⟩
  exact hr
theorem zero5 : (#[.int .u64 0, .int .u64 0, .int .u64 0, .int .u64 0, .int .u64 0] : Array Value) = (laneCells (List.replicate 5 0)).toArray := by rfl
theorem run_index5 {a : Act} {x y : Operand} {o : Oper} (b k : Nat) (hk : k < 5) (ho : o.op = .indexAddr 111 x y) (hx : a.eval x = .pointer (some ⟨b, 0, none⟩)) (hy : a.eval y = .int .i64 (k : Int)) (w : World) :
  (execOp a.eval o).run Tryd.prog w = .ok (.value (.pointer (some ⟨b, k, none⟩))) w := by
 have h0 : (0 : Int) ≤ (k : Int) := by omega
 have h1 : (k : Int) < 5 := by omega
 unfold execOp
 simp only [ho, hx, hy]
 go_simp
theorem u64_not (a : UInt64) : bits .xor .u64 18446744073709551615 (a.toNat : Int) = ((~~~a).toNat : Int) := by
 have h := u64_xor (~~~0) a
 have e : ~~~(0 : UInt64) ^^^ a = ~~~a := by
  apply UInt64.toBitVec_inj.1
  show ~~~(0#64) ^^^ a.toBitVec = ~~~a.toBitVec
  rw [show ~~~(0#64) = BitVec.allOnes 64 from rfl, BitVec.allOnes_xor]
 rw [e] at h
 exact h
section
variable {P : Program} {w : World} {a : Act} {o : Oper}
theorem run_notL {x : Operand} {t : TypeId} {p : UInt64} (ho : o.op = .unOp .xor t x) (hx : a.eval x = .int .u64 (p.toNat : Int)) : (execOp a.eval o).run P w = .ok (.value (.int .u64 ((~~~p).toNat : Int))) w := by
 have h : bits .xor .u64 (if IntKind.u64.signed = true then -1 else IntKind.u64.max) (p.toNat : Int) = ((~~~p).toNat : Int) := u64_not p
 generalize (~~~p).toNat = q at *
 unfold execOp
 simp only [ho, hx]
 simp [go_sem, h]
theorem run_andL {x y : Operand} {t u : TypeId} {p q : UInt64} (ho : o.op = .binOp .and t x y u) (hx : a.eval x = .int .u64 ((~~~p).toNat : Int)) (hy : a.eval y = .int .u64 (q.toNat : Int)) : (execOp a.eval o).run P w = .ok (.value (.int .u64 ((andn q p).toNat : Int))) w := by
 have h : bits .and .u64 ((~~~p).toNat : Int) (q.toNat : Int) = ((andn q p).toNat : Int) := by rw [u64_and, andn, UInt64.and_comm]
 unfold execOp
 simp only [ho, hx, hy]
 generalize ~~~p = np at *
 simp [go_sem, h]
end
theorem rem5 (k : Nat) : (k : Int).tmod 5 = ((k % 5 : Nat) : Int) := rfl

section
variable {ops : Array Oper} {rest : List Oper} {a : Act} {w : World} {Q : Exit → Act → World → Prop} {d : Option Tmp} {ty : TypeId} {pos : String} {after : Array Edge}
/-- a load of 25 lanes: tried where it stands alone -/
theorem wl_load25 {x : Operand} (b : Nat) (t : TypeId) (l : List UInt64) (hx : a.eval x = .pointer (some ⟨b, 0, none⟩)) (hr : Row w b t (laneCells l)) (hl : l.length = 25)
  (h : wpList Tryd.prog ops Q rest (a.put d (.agg (laneCells l).toArray)) w) : wpList Tryd.prog ops Q (⟨d, .load 71 x, ty, pos, after, none⟩ :: rest) a w :=
 wpList_load_any rfl 71 x rfl b hx t (laneCells l) (.array 25 70) hr Tryd.underlying71 rfl (info_l25.trans (size_lanes _ _ hl)) h
theorem wl_store25 {x y : Operand} (b : Nat) (t : TypeId) (l m : List UInt64) (hx : a.eval x = .pointer (some ⟨b, 0, none⟩)) (hy : a.eval y = .agg (laneCells l).toArray) (hr : Row w b t (laneCells m)) (hl : l.length = 25) (hm : m.length = 25)
  (h : ∀ w2, Row w2 b t (laneCells l) → But w.heap.size b w w2 → w2.heap.size = w.heap.size → wpList Tryd.prog ops Q rest (a.put d undef) w2) : wpList Tryd.prog ops Q (⟨d, .store 71 x y, ty, pos, after, none⟩ :: rest) a w :=
 wpList_store_any rfl 71 x y rfl b hx (laneCells l) hy t _ hr (info_l25.trans (size_lanes _ _ hl)) (by rw [laneCells_length, laneCells_length, hl, hm]) (cell_oneLane _) h
end

set_option maxHeartbeats 8000000 in
theorem round_any (l : List UInt64) (hl : l.length = 25) (c : UInt64) (w : World) :
  Calls Tryd.prog 84 #[.agg (laneCells l).toArray, .int .u64 (c.toNat : Int)] w (LanesIs w (roundL l c)) := by
 unfold LanesIs
 generalize hN : w.heap.size = N at *
 have hrA : ∀ o p, Row (((w.alloc (.cells (laneCells l).toArray 71)).alloc o).alloc p) N 71 (laneCells l) := fun o p => ((Row.new_ hN.symm rfl).alloc _).alloc _
 have hrR : ∀ o p, Row (((w.alloc o).alloc (.cells (laneCells (List.replicate 25 0)).toArray 71)).alloc p) (N + 1) 71 (laneCells (List.replicate 25 0)) := fun o p => (Row.new_ (by rw [asz, hN]) rfl).alloc _
 have hrS : ∀ o p, Row (((w.alloc o).alloc p).alloc (.cells (laneCells (List.replicate 5 0)).toArray 111)) (N + 1 + 1) 111 (laneCells (List.replicate 5 0)) := fun o p => Row.new_ (by rw [asz, asz, hN]) rfl
 have hbA : ∀ o p q, Below N w (((w.alloc o).alloc p).alloc q) := fun o p q => (((Below.refl N w).alloc (by omega) o).alloc (by rw [asz]; omega) p).alloc (by rw [asz, asz]; omega) q
 go_enter Tryd.func84, Tryd.ntmps84
 go_wp2
 go_loopw [6, 16] (fun _ i wr => ∃ k : Nat, k ≤ 25 ∧ i = .int .i64 (k : Int) ∧ Row wr N 71 (laneCells l) ∧ Row wr (N + 1) 71 (laneCells (List.replicate 25 0)) ∧ Row wr (N + 1 + 1) 111 (laneCells (sumL l k)) ∧ Below N w wr) (fun _ i _ => 25 - (intOf i).toNat)
 case atStart => exact ⟨0, Nat.zero_le _, rfl, hrA _ _, hrR _ _, hrS _ _, hbA _ _ _⟩
 case round =>
  clear hrA hrR hrS hbA
  obtain ⟨k, hk, rfl, hra, hrr, hrs, hbel⟩ := hrel
  by_cases hlt : k < 25
  ·have hsl := sumL_length l k
   obtain ⟨r, hr⟩ : ∃ r, r = k % 5 := ⟨_, rfl⟩
   have HS : Hid (sumL l (k + 1) = (sumL l k).set r (lane (sumL l k) r ^^^ lane l k)) := Lib.hid (by rw [hr]; rfl)
   have q1 : (k : Int).tmod 5 = (r : Int) := by rw [rem5, hr]
   have q2 : (k : Int) % 5 = (r : Int) := by omega
   have hr5 : r < 5 := by omega
   clear hr
   generalize sumL l k = s at *
   replace hra := hra.drew
   replace hrr := hrr.drew
   replace hrs := hrs.drew
   replace hbel := hbel.drew
   have hca := (hra.cell k).trans (laneCells_lane _ _ (by omega))
   have hcs := (hrs.cell r).trans (laneCells_lane _ _ (by omega))
   have hfs := hrs.free r
   have hx := u64_xor (lane s r) (lane l k)
   have hrs2 := hrs.set_ r (.int .u64 ((lane s r ^^^ lane l k).toNat : Int))
   rw [laneCells_set] at hrs2
   have hra2 := hra.other ⟨N + 1 + 1, r, none⟩ (.int .u64 ((lane s r ^^^ lane l k).toNat : Int)) (by show N ≠ N + 1 + 1; omega)
   have hrr2 := hrr.other ⟨N + 1 + 1, r, none⟩ (.int .u64 ((lane s r ^^^ lane l k).toNat : Int)) (by show N + 1 ≠ N + 1 + 1; omega)
   have hbel2 := hbel.setCell (p := ⟨N + 1 + 1, r, none⟩) (show N ≤ N + 1 + 1 by omega) (.int .u64 ((lane s r ^^^ lane l k).toNat : Int))
   generalize lane s r ^^^ lane l k = z at *
   generalize lane s r = x at *
   generalize lane l k = y at *
   clear hra hrr hrs hbel
   go_wp2
   go_region
   go_wp2
   go_roundw
   case rel => exact ⟨k + 1, by omega, by go_num, hra2, hrr2, by rw [HS.out]; exact hrs2, hbel2⟩
   case measure => simp [intOf]; omega
  ·have HKa : Hid (k = 25) := Lib.hid (by omega)
   have hsl := sumL_length l k
   obtain ⟨s, HSE⟩ : ∃ s, Hid (s = sumL l k) := ⟨_, Lib.hid rfl⟩
   rw [← HSE.out] at hrs hsl
   go_wp2
   go_loopw [7, 29] (fun _ i wr => ∃ k : Nat, k ≤ 25 ∧ i = .int .i64 (k : Int) ∧ Row wr N 71 (laneCells (thetaL l s k)) ∧ Row wr (N + 1) 71 (laneCells (List.replicate 25 0)) ∧ Row wr (N + 1 + 1) 111 (laneCells s) ∧ Below N w wr) (fun _ i _ => 25 - (intOf i).toNat)
   case atStart => exact ⟨0, Nat.zero_le _, rfl, hra, hrr, hrs, hbel⟩
   case round =>
    clear hra hrr hrs hbel
    obtain ⟨k, hk, rfl, hra, hrr, hrs, hbel⟩ := hrel
    by_cases hlt : k < 25
    ·have htl := thetaL_length l s k
     obtain ⟨r4, hr4⟩ : ∃ r, r = (k + 4) % 5 := ⟨_, rfl⟩
     obtain ⟨r1, hr1⟩ : ∃ r, r = (k + 1) % 5 := ⟨_, rfl⟩
     have HS : Hid (thetaL l s (k + 1) = (thetaL l s k).set k (lane (thetaL l s k) k ^^^ (lane s r4 ^^^ trn (lane s r1) 1))) := Lib.hid (by rw [hr4, hr1]; rfl)
     obtain ⟨k4, hk4⟩ : ∃ r, r = k + 4 := ⟨_, rfl⟩
     obtain ⟨k1, hk1⟩ : ∃ r, r = k + 1 := ⟨_, rfl⟩
     have p4 : (k : Int) + 4 = (k4 : Int) := by omega
     have p1 : (k : Int) + 1 = (k1 : Int) := by omega
     have q4 : (k4 : Int).tmod 5 = (r4 : Int) := by rw [rem5, hr4, hk4]
     have q1 : (k1 : Int).tmod 5 = (r1 : Int) := by rw [rem5, hr1, hk1]
     have q4' : (k4 : Int) % 5 = (r4 : Int) := by omega
     have q1' : (k1 : Int) % 5 = (r1 : Int) := by omega
     have hr45 : r4 < 5 := by omega
     have hr15 : r1 < 5 := by omega
     have hw4 : IntKind.i64.wrap (k4 : Int) = (k4 : Int) := by rw [IntKind.wrap_i64]; omega
     have hw1 : IntKind.i64.wrap (k1 : Int) = (k1 : Int) := by rw [IntKind.wrap_i64]; omega
     have HK1 := Lib.hid hk1
     clear hr4 hr1 hk4 hk1
     generalize thetaL l s k = t at *
     replace hra := hra.drew
     replace hrr := hrr.drew
     replace hrs := hrs.drew
     replace hbel := hbel.drew
     obtain ⟨y, hy⟩ : ∃ y, Hid (y = lane s r4 ^^^ trn (lane s r1) 1) := ⟨_, Lib.hid rfl⟩
     obtain ⟨z, hz⟩ : ∃ z, Hid (z = lane t k ^^^ y) := ⟨_, Lib.hid rfl⟩
     rw [← hy.out, ← hz.out] at HS
     have ht := turn_any (lane s r1) 1 (by decide)
     have hl4 : (laneCells s)[r4]? = some (.int .u64 ((lane s r4).toNat : Int)) := laneCells_lane _ _ (by omega)
     have hl1 : (laneCells s)[r1]? = some (.int .u64 ((lane s r1).toNat : Int)) := laneCells_lane _ _ (by omega)
     generalize trn (lane s r1) 1 = x1 at *
     generalize lane s r1 = x at *
     generalize lane s r4 = x4 at *
     have hca := (hra.cell k).trans (laneCells_lane t _ (by omega))
     generalize lane t k = v at *
     have hfa := hra.free k
     have hc4 := (hrs.cell r4).trans hl4
     have hc1 := (hrs.cell r1).trans hl1
     have hra2 := hra.set_ k (.int .u64 (z.toNat : Int))
     rw [laneCells_set] at hra2
     have hrs2 := hrs.other ⟨N, k, none⟩ (.int .u64 (z.toNat : Int)) (by show N + 1 + 1 ≠ N; omega)
     have hrr2 := hrr.other ⟨N, k, none⟩ (.int .u64 (z.toNat : Int)) (by show N + 1 ≠ N; omega)
     have hbel2 := hbel.setCell (p := ⟨N, k, none⟩) (show N ≤ N by omega) (.int .u64 (z.toNat : Int))
     go_wp2
     refine wp_region_held_drew (S := fun w' => w'.cell? ⟨N + 1 + 1, r4, none⟩ = some (.int .u64 (x4.toNat : Int)) ∧ w'.cell? ⟨N + 1 + 1, r1, none⟩ = some (.int .u64 (x.toNat : Int))) (by kernel_rfl) ⟨hc4, hc1⟩ (fun hSX => ?_)
     generalize wr.drew = X at *
     refine hdv 0 32 (.int .i64 (k : Int)) (by rfl) (fun w hS => by kernel_rfl) hSX ?_
     refine hdv 1 33 (.pointer (some ⟨N, k, none⟩)) (by rfl) (fun w hS => run_index25 N k hlt rfl (by kernel_rfl) (by kernel_rfl) w) hSX ?_
     refine hdv 3 35 (.int .i64 (k : Int)) (by rfl) (fun w hS => by kernel_rfl) hSX ?_
     refine hdv 4 36 (.int .i64 (k4 : Int)) (by rfl) (fun w hS => by go_simp) hSX ?_
     refine hdv 5 37 (.int .i64 (r4 : Int)) (by rfl) (fun w hS => by go_simp) hSX ?_
     refine hdv 6 38 (.pointer (some ⟨N + 1 + 1, r4, none⟩)) (by rfl) (fun w hS => run_index5 (N + 1 + 1) r4 hr45 rfl (by kernel_rfl) (by kernel_rfl) w) hSX ?_
     refine hdv 7 39 (.int .u64 (x4.toNat : Int)) (by rfl) (fun w hS => run_load1 rfl Tryd.underlying70 (by kernel_rfl) hS.1) hSX ?_
     refine hdv 8 40 (.int .i64 (k : Int)) (by rfl) (fun w hS => by kernel_rfl) hSX ?_
     refine hdv 9 41 (.int .i64 (k1 : Int)) (by rfl) (fun w hS => by go_simp) hSX ?_
     refine hdv 10 42 (.int .i64 (r1 : Int)) (by rfl) (fun w hS => by go_simp) hSX ?_
     refine hdv 11 43 (.pointer (some ⟨N + 1 + 1, r1, none⟩)) (by rfl) (fun w hS => run_index5 (N + 1 + 1) r1 hr15 rfl (by kernel_rfl) (by kernel_rfl) w) hSX ?_
     refine hdv 12 44 (.int .u64 (x.toNat : Int)) (by rfl) (fun w hS => run_load1 rfl Tryd.underlying70 (by kernel_rfl) hS.2) hSX ?_
     refine held_two 2 13 (by kernel_rfl) ?_ ?_
     ·refine step_value 2 (Op.load 70 (Operand.tmp 33)) 70 (some 34) (.int .u64 (v.toNat : Int)) _ (by kernel_rfl) (by kernel_rfl) (run_load1 rfl Tryd.underlying70 (by kernel_rfl) hca) hSX ?_
      simp only [Act.put, arr9, hd9, tl9]
      refine held_one 13 (by kernel_rfl) ?_
      refine step_call 13 (Op.call { callee := Callee.value (Operand.func 92), args := #[Operand.tmp 44, Operand.const (Value.int IntKind.i64 1)], argTypes := #[70, 3] }) 70 (some 45) 92 (#[.int .u64 (x.toNat : Int), .int .i64 1]) (by kernel_rfl) (by kernel_rfl) (by kernel_rfl) ?_
      refine (ht _).mono ?_
      rintro e w' ⟨rfl, hw'⟩
      obtain rfl : X = w' := hw'.symm
      refine ⟨_, rfl, hSX, ?_⟩
      simp only [Act.put, arr9, hd9, tl9]
      refine hdv 14 46 (.int .u64 (y.toNat : Int)) (by rfl) (fun w hS => by rw [hy.out]; exact run_xorL (p := x4) (q := x1) rfl (by kernel_rfl) (by kernel_rfl)) hSX ?_
      refine hdv 15 47 (.int .u64 (z.toNat : Int)) (by rfl) (fun w hS => by rw [hz.out]; exact run_xorL (p := v) (q := y) rfl (by kernel_rfl) (by kernel_rfl)) hSX ?_
      refine hdv 16 48 (.pointer (some ⟨N, k, none⟩)) (by rfl) (fun w hS => run_index25 N k hlt rfl (by kernel_rfl) (by kernel_rfl) w) hSX ?_
      refine held_one 17 (by kernel_rfl) ?_
      refine step_store1 17 (Op.store 70 (Operand.tmp 48) (Operand.tmp 47)) (by kernel_rfl) (by kernel_rfl) (X.setCell ⟨N, k, none⟩ (.int .u64 (z.toNat : Int))) (run_store64 z N k rfl (by kernel_rfl) (by kernel_rfl) hca hfa) ⟨⟨(hrs2.cell r4).trans hl4, (hrs2.cell r1).trans hl1⟩, ?_⟩
      refine wpAnyH_done (by kernel_rfl) ?_ _
      clear hSX hca hfa hc4 hc1
      generalize X.setCell ⟨N, k, none⟩ (.int .u64 (z.toNat : Int)) = Y at *
      go_wp2
      go_roundw
      case rel => exact ⟨k + 1, by omega, by go_num, by rw [HS.out]; exact hra2, hrr2, hrs2, hbel2⟩
      case measure => simp [intOf]; omega
     ·refine step_call 13 (Op.call { callee := Callee.value (Operand.func 92), args := #[Operand.tmp 44, Operand.const (Value.int IntKind.i64 1)], argTypes := #[70, 3] }) 70 (some 45) 92 (#[.int .u64 (x.toNat : Int), .int .i64 1]) (by kernel_rfl) (by kernel_rfl) (by kernel_rfl) ?_
      refine (ht _).mono ?_
      rintro e w' ⟨rfl, hw'⟩
      obtain rfl : X = w' := hw'.symm
      refine ⟨_, rfl, hSX, ?_⟩
      simp only [Act.put, arr9, hd9, tl9]
      refine hdv 14 46 (.int .u64 (y.toNat : Int)) (by rfl) (fun w hS => by rw [hy.out]; exact run_xorL (p := x4) (q := x1) rfl (by kernel_rfl) (by kernel_rfl)) hSX ?_
      refine held_one 2 (by kernel_rfl) ?_
      refine step_value 2 (Op.load 70 (Operand.tmp 33)) 70 (some 34) (.int .u64 (v.toNat : Int)) _ (by kernel_rfl) (by kernel_rfl) (run_load1 rfl Tryd.underlying70 (by kernel_rfl) hca) hSX ?_
      simp only [Act.put, arr9, hd9, tl9]
      refine hdv 15 47 (.int .u64 (z.toNat : Int)) (by rfl) (fun w hS => by rw [hz.out]; exact run_xorL (p := v) (q := y) rfl (by kernel_rfl) (by kernel_rfl)) hSX ?_
      refine hdv 16 48 (.pointer (some ⟨N, k, none⟩)) (by rfl) (fun w hS => run_index25 N k hlt rfl (by kernel_rfl) (by kernel_rfl) w) hSX ?_
      refine held_one 17 (by kernel_rfl) ?_
      refine step_store1 17 (Op.store 70 (Operand.tmp 48) (Operand.tmp 47)) (by kernel_rfl) (by kernel_rfl) (X.setCell ⟨N, k, none⟩ (.int .u64 (z.toNat : Int))) (run_store64 z N k rfl (by kernel_rfl) (by kernel_rfl) hca hfa) ⟨⟨(hrs2.cell r4).trans hl4, (hrs2.cell r1).trans hl1⟩, ?_⟩
      refine wpAnyH_done (by kernel_rfl) ?_ _
      clear hSX hca hfa hc4 hc1
      generalize X.setCell ⟨N, k, none⟩ (.int .u64 (z.toNat : Int)) = Y at *
      go_wp2
      go_roundw
      case rel => exact ⟨k + 1, by omega, by go_num, by rw [HS.out]; exact hra2, hrr2, hrs2, hbel2⟩
      case measure => simp [intOf]; omega
    ·have HKb : Hid (k = 25) := Lib.hid (by omega)
     have htl := thetaL_length l s k
     obtain ⟨t, HTE⟩ : ∃ t, Hid (t = thetaL l s k) := ⟨_, Lib.hid rfl⟩
     rw [← HTE.out] at hra htl
     have ht25 : t.length = 25 := htl.trans hl
     have hwz := hbel.size
     have hca0 := (hra.cell 0).trans (laneCells_lane t 0 (by omega))
     have hNs := hrs.lt
     obtain ⟨N8, hN8⟩ : ∃ N8, N8 = wr.heap.size := ⟨_, rfl⟩
     have hrb2 : Row (wr.alloc (.cells (laneCells ((List.replicate 25 0).set 0 (lane t 0))).toArray 71)) N8 71 (laneCells ((List.replicate 25 0).set 0 (lane t 0))) := Row.new_ hN8 rfl
     have hra2 := hra.alloc (.cells (laneCells ((List.replicate 25 0).set 0 (lane t 0))).toArray 71)
     have hrr2 := hrr.alloc (.cells (laneCells ((List.replicate 25 0).set 0 (lane t 0))).toArray 71)
     have hbel2 := hbel.alloc (by omega) (.cells (laneCells ((List.replicate 25 0).set 0 (lane t 0))).toArray 71)
     have hcb1 : (wr.alloc (.cells (laneCells (List.replicate 25 0)).toArray 71)).cell? ⟨N, 0, none⟩ = some (.int .u64 ((lane t 0).toNat : Int)) := ((hra.alloc _).cell 0).trans (laneCells_lane t 0 (by omega))
     have hN8N : N + 1 + 1 < N8 := by omega
     have HR0 : Hid (rhoL t 0 = (List.replicate 25 0).set 0 (lane t 0)) := Lib.hid rfl
     replace hN8 := hN8.symm
     clear hra hrr hrs hbel hwz hNs
     rw [← zero25] at hcb1
     have hEQ : (laneCells ((List.replicate 25 0).set 0 (lane t 0))).toArray = #[.int .u64 ((lane t 0).toNat : Int), .int .u64 0, .int .u64 0, .int .u64 0, .int .u64 0, .int .u64 0, .int .u64 0, .int .u64 0, .int .u64 0, .int .u64 0, .int .u64 0, .int .u64 0, .int .u64 0, .int .u64 0, .int .u64 0, .int .u64 0, .int .u64 0, .int .u64 0, .int .u64 0, .int .u64 0, .int .u64 0, .int .u64 0, .int .u64 0, .int .u64 0, .int .u64 0] := by rfl
     rw [hEQ] at hra2 hrr2 hrb2 hbel2
     clear hEQ
     generalize lane t 0 = t0 at *
     go_wp2
     go_loopw [9, 10, 11, 12, 13, 53] (fun x y _ _ _ i wr => ∃ k : Nat, k ≤ 24 ∧ i = .int .i64 (k : Int) ∧ x = .int .i64 ((xyN k).1 : Int) ∧ y = .int .i64 ((xyN k).2 : Int) ∧ Row wr N 71 (laneCells t) ∧ Row wr (N + 1) 71 (laneCells (List.replicate 25 0)) ∧ Row wr N8 71 (laneCells (rhoL t k)) ∧ Below N w wr) (fun _ _ _ _ _ i _ => 24 - (intOf i).toNat)
     case atStart => exact ⟨0, Nat.zero_le _, rfl, rfl, rfl, hra2, hrr2, by rw [HR0.out]; exact hrb2, hbel2⟩
     case round =>
      clear hra2 hrr2 hrb2 hbel2 hca0 hcb1 hN8
      obtain ⟨k, hk, rfl, rfl, rfl, hra, hrr, hrb, hbel⟩ := hrel
      by_cases hlt : k < 24
      ·have hbl := rhoL_length t k
       have hxy := xyN_lt k
       have hxy1 := xyN_lt (k + 1)
       have HX1 : Hid ((xyN (k + 1)).1 = (xyN k).2) := Lib.hid rfl
       have HX2 : Hid ((xyN (k + 1)).2 = (2 * (xyN k).1 + 3 * (xyN k).2) % 5) := Lib.hid rfl
       have HRS : Hid (rhoL t (k + 1) = (rhoL t k).set (5 * (xyN (k + 1)).2 + (xyN (k + 1)).1) (trn (lane t (5 * (xyN k).2 + (xyN k).1)) ((k + 1) * (k + 2) / 2 % 64))) := Lib.hid rfl
       generalize hx : (xyN k).1 = x at *
       generalize hy : (xyN k).2 = y at *
       generalize hnx : (xyN (k + 1)).1 = nx at *
       generalize hny : (xyN (k + 1)).2 = ny at *
       obtain rfl : nx = y := HX1.out
       obtain ⟨hx5, hy5⟩ := hxy
       have hny5 := hxy1.2
       obtain ⟨m2, e2⟩ : ∃ m, m = 2 * x := ⟨_, rfl⟩
       obtain ⟨m3, e3⟩ : ∃ m, m = 3 * nx := ⟨_, rfl⟩
       obtain ⟨m, em⟩ : ∃ m', m' = m2 + m3 := ⟨_, rfl⟩
       obtain ⟨f1, ef1⟩ : ∃ m', m' = 5 * ny := ⟨_, rfl⟩
       obtain ⟨d, ed⟩ : ∃ m', m' = f1 + nx := ⟨_, rfl⟩
       obtain ⟨f2, ef2⟩ : ∃ m', m' = 5 * nx := ⟨_, rfl⟩
       obtain ⟨sr, es⟩ : ∃ m', m' = f2 + x := ⟨_, rfl⟩
       obtain ⟨k1, ek1⟩ : ∃ m', m' = k + 1 := ⟨_, rfl⟩
       obtain ⟨k2, ek2⟩ : ∃ m', m' = k + 2 := ⟨_, rfl⟩
       obtain ⟨pr, epr⟩ : ∃ m', m' = k1 * k2 := ⟨_, rfl⟩
       obtain ⟨hf, ehf⟩ : ∃ m', m' = pr / 2 := ⟨_, rfl⟩
       obtain ⟨rt, ert⟩ : ∃ m', m' = hf % 64 := ⟨_, rfl⟩
       have hprb : pr ≤ 625 := by rw [epr]; exact Nat.mul_le_mul (show k1 ≤ 25 by omega) (show k2 ≤ 25 by omega)
       have hny2 : ny = m % 5 := by rw [em, e2, e3]; exact HX2.out
       rw [← ef1, ← ef2, ← ek1, ← ek2, ← epr, ← ehf, ← ert, ← ed, ← es] at HRS
       have q2 : (2 : Int) * (x : Int) = (m2 : Int) := by omega
       have q3 : (3 : Int) * (nx : Int) = (m3 : Int) := by omega
       have qm : (m2 : Int) + (m3 : Int) = (m : Int) := by omega
       have qn : (m : Int).tmod 5 = (ny : Int) := by rw [rem5, hny2]
       have qn' : (m : Int) % 5 = (ny : Int) := by omega
       have qf1 : (5 : Int) * (ny : Int) = (f1 : Int) := by omega
       have qd : (f1 : Int) + (nx : Int) = (d : Int) := by omega
       have qf2 : (5 : Int) * (nx : Int) = (f2 : Int) := by omega
       have qs : (f2 : Int) + (x : Int) = (sr : Int) := by omega
       have qk1 : (k : Int) + 1 = (k1 : Int) := by omega
       have qk2 : (k : Int) + 2 = (k2 : Int) := by omega
       have qpr : (k1 : Int) * (k2 : Int) = (pr : Int) := by rw [epr]; simp
       have qhf : (pr : Int).tdiv 2 = (hf : Int) := (show (pr : Int).tdiv 2 = ((pr / 2 : Nat) : Int) from rfl).trans (by rw [ehf])
       have qhf' : (pr : Int) / 2 = (hf : Int) := by omega
       have qrt : (hf : Int).tmod 64 = (rt : Int) := (show (hf : Int).tmod 64 = ((hf % 64 : Nat) : Int) from rfl).trans (by rw [ert])
       have qrt' : (hf : Int) % 64 = (rt : Int) := by omega
       have w_m2 : IntKind.i64.wrap (m2 : Int) = (m2 : Int) := by rw [IntKind.wrap_i64]; omega
       have w_m3 : IntKind.i64.wrap (m3 : Int) = (m3 : Int) := by rw [IntKind.wrap_i64]; omega
       have w_m : IntKind.i64.wrap (m : Int) = (m : Int) := by rw [IntKind.wrap_i64]; omega
       have w_f1 : IntKind.i64.wrap (f1 : Int) = (f1 : Int) := by rw [IntKind.wrap_i64]; omega
       have w_d : IntKind.i64.wrap (d : Int) = (d : Int) := by rw [IntKind.wrap_i64]; omega
       have w_f2 : IntKind.i64.wrap (f2 : Int) = (f2 : Int) := by rw [IntKind.wrap_i64]; omega
       have w_sr : IntKind.i64.wrap (sr : Int) = (sr : Int) := by rw [IntKind.wrap_i64]; omega
       have w_k1 : IntKind.i64.wrap (k1 : Int) = (k1 : Int) := by rw [IntKind.wrap_i64]; omega
       have w_k2 : IntKind.i64.wrap (k2 : Int) = (k2 : Int) := by rw [IntKind.wrap_i64]; omega
       have w_pr : IntKind.i64.wrap (pr : Int) = (pr : Int) := by rw [IntKind.wrap_i64]; omega
       have w_hf : IntKind.i64.wrap (hf : Int) = (hf : Int) := by rw [IntKind.wrap_i64]; omega
       have hd25 : d < 25 := by omega
       have hs25 : sr < 25 := by omega
       have hrt : rt ≤ 63 := by omega
       have HK := Lib.hid ek1
       have id1 : (0 : Int) ≤ (d : Int) := by omega
       have id2 : (d : Int) < 25 := by omega
       have is1 : (0 : Int) ≤ (sr : Int) := by omega
       have is2 : (sr : Int) < 25 := by omega
       clear e2 e3 em ef1 ed ef2 es ek1 ek2 epr ehf ert hny2 hprb hxy1 HX2 HX1
       have hcs := (hra.cell sr).trans (laneCells_lane t sr (by omega))
       generalize rhoL t k = bb at *
       have hcd := (hrb.cell d).trans (laneCells_lane bb d (by omega))
       have hfd := hrb.free d
       obtain ⟨z, hz⟩ : ∃ z, z = trn (lane t sr) rt := ⟨_, rfl⟩
       have ht := turn_any (lane t sr) rt hrt
       rw [← hz] at ht HRS
       generalize lane t sr = ls at *
       generalize lane bb d = lb at *
       have hrb2 := hrb.set_ d (.int .u64 (z.toNat : Int))
       rw [laneCells_set] at hrb2
       have hra2 := hra.other ⟨N8, d, none⟩ (.int .u64 (z.toNat : Int)) (by show N ≠ N8; omega)
       have hrr2 := hrr.other ⟨N8, d, none⟩ (.int .u64 (z.toNat : Int)) (by show N + 1 ≠ N8; omega)
       have hbel2 := hbel.setCell (p := ⟨N8, d, none⟩) (show N ≤ N8 by omega) (.int .u64 (z.toNat : Int))
       clear hra hrr hrb hbel hz
       go_wp2_with (go_at_call 92; refine (ht _).mono ?_)
       rintro e wK ⟨rfl, rfl⟩
       go_wp2
       go_roundw
       case rel => exact ⟨k + 1, by omega, by rw [HK.out], by rw [hnx], by rw [hny], hra2, hrr2, by rw [← HK.out, HRS.out]; exact hrb2, hbel2⟩
       case measure => simp [intOf]; omega
      ·have HKc : Hid (k = 24) := Lib.hid (by omega)
       have hbl := rhoL_length t k
       obtain ⟨bb, HBE⟩ : ∃ bb, Hid (bb = rhoL t k) := ⟨_, Lib.hid rfl⟩
       rw [← HBE.out] at hrb hbl
       go_wp2
       go_loopw [14, 15, 85] (fun _ _ i wr => ∃ k : Nat, k ≤ 25 ∧ i = .int .i64 (k : Int) ∧ Row wr N 71 (laneCells (chiR t bb k)) ∧ Row wr (N + 1) 71 (laneCells (List.replicate 25 0)) ∧ Row wr N8 71 (laneCells bb) ∧ Below N w wr) (fun _ _ i _ => 25 - (intOf i).toNat)
       case atStart => exact ⟨0, Nat.zero_le _, rfl, hra, hrr, hrb, hbel⟩
       case round =>
        clear hra hrr hrb hbel
        obtain ⟨k, hk, rfl, hra, hrr, hrb, hbel⟩ := hrel
        by_cases hlt : k < 25
        ·have hcl := chiR_length t bb k
         have HS : Hid (chiR t bb (k + 1) = (chiR t bb k).set k (lane bb k ^^^ andn (lane bb (k / 5 * 5 + (k + 2) % 5)) (lane bb (k / 5 * 5 + (k + 1) % 5)))) := Lib.hid rfl
         generalize chiR t bb k = cc at *
         obtain ⟨qu, equ⟩ : ∃ m', m' = k / 5 := ⟨_, rfl⟩
         obtain ⟨row, er⟩ : ∃ m', m' = qu * 5 := ⟨_, rfl⟩
         obtain ⟨k1, ek1⟩ : ∃ m', m' = k + 1 := ⟨_, rfl⟩
         obtain ⟨k2, ek2⟩ : ∃ m', m' = k + 2 := ⟨_, rfl⟩
         obtain ⟨m1, em1⟩ : ∃ m', m' = k1 % 5 := ⟨_, rfl⟩
         obtain ⟨m2, em2⟩ : ∃ m', m' = k2 % 5 := ⟨_, rfl⟩
         obtain ⟨j1, ej1⟩ : ∃ m', m' = row + m1 := ⟨_, rfl⟩
         obtain ⟨j2, ej2⟩ : ∃ m', m' = row + m2 := ⟨_, rfl⟩
         rw [← equ, ← ek1, ← ek2, ← em1, ← em2, ← er, ← ej1, ← ej2] at HS
         have qqu : (k : Int).tdiv 5 = (qu : Int) := (show (k : Int).tdiv 5 = ((k / 5 : Nat) : Int) from rfl).trans (by rw [equ])
         have qqu' : (k : Int) / 5 = (qu : Int) := by omega
         have qrow : (qu : Int) * 5 = (row : Int) := by omega
         have qk1 : (k : Int) + 1 = (k1 : Int) := by omega
         have qk2 : (k : Int) + 2 = (k2 : Int) := by omega
         have qm1 : (k1 : Int).tmod 5 = (m1 : Int) := by rw [rem5, em1]
         have qm1' : (k1 : Int) % 5 = (m1 : Int) := by omega
         have qm2 : (k2 : Int).tmod 5 = (m2 : Int) := by rw [rem5, em2]
         have qm2' : (k2 : Int) % 5 = (m2 : Int) := by omega
         have qj1 : (row : Int) + (m1 : Int) = (j1 : Int) := by omega
         have qj2 : (row : Int) + (m2 : Int) = (j2 : Int) := by omega
         have w_qu : IntKind.i64.wrap (qu : Int) = (qu : Int) := by rw [IntKind.wrap_i64]; omega
         have w_row : IntKind.i64.wrap (row : Int) = (row : Int) := by rw [IntKind.wrap_i64]; omega
         have w_k1 : IntKind.i64.wrap (k1 : Int) = (k1 : Int) := by rw [IntKind.wrap_i64]; omega
         have w_k2 : IntKind.i64.wrap (k2 : Int) = (k2 : Int) := by rw [IntKind.wrap_i64]; omega
         have w_j1 : IntKind.i64.wrap (j1 : Int) = (j1 : Int) := by rw [IntKind.wrap_i64]; omega
         have w_j2 : IntKind.i64.wrap (j2 : Int) = (j2 : Int) := by rw [IntKind.wrap_i64]; omega
         have hj1 : j1 < 25 := by omega
         have hj2 : j2 < 25 := by omega
         have HK := Lib.hid ek1
         clear equ er ek1 ek2 em1 em2 ej1 ej2
         replace hra := hra.drew
         replace hrr := hrr.drew
         replace hrb := hrb.drew
         replace hbel := hbel.drew
         have hl0 : (laneCells bb)[k]? = some (.int .u64 ((lane bb k).toNat : Int)) := laneCells_lane _ _ (by omega)
         have hl1 : (laneCells bb)[j1]? = some (.int .u64 ((lane bb j1).toNat : Int)) := laneCells_lane _ _ (by omega)
         have hl2 : (laneCells bb)[j2]? = some (.int .u64 ((lane bb j2).toNat : Int)) := laneCells_lane _ _ (by omega)
         generalize lane bb k = b0 at *
         generalize lane bb j1 = b1 at *
         generalize lane bb j2 = b2 at *
         obtain ⟨nb1, hn1⟩ : ∃ y, Hid (y = ~~~b1) := ⟨_, Lib.hid rfl⟩
         obtain ⟨an, han⟩ : ∃ y, Hid (y = andn b2 b1) := ⟨_, Lib.hid rfl⟩
         obtain ⟨z, hz⟩ : ∃ z, Hid (z = b0 ^^^ an) := ⟨_, Lib.hid rfl⟩
         rw [← han.out, ← hz.out] at HS
         have hca := (hra.cell k).trans (laneCells_lane cc _ (by omega))
         have hfa := hra.free k
         have hra2 := hra.set_ k (.int .u64 (z.toNat : Int))
         rw [laneCells_set] at hra2
         have hrb2 := hrb.other ⟨N, k, none⟩ (.int .u64 (z.toNat : Int)) (by show N8 ≠ N; omega)
         have hrr2 := hrr.other ⟨N, k, none⟩ (.int .u64 (z.toNat : Int)) (by show N + 1 ≠ N; omega)
         have hbel2 := hbel.setCell (p := ⟨N, k, none⟩) (show N ≤ N by omega) (.int .u64 (z.toNat : Int))
         go_wp2
         refine wp_region_held_drew (S := fun w' => w'.cell? ⟨N8, k, none⟩ = some (.int .u64 (b0.toNat : Int)) ∧ w'.cell? ⟨N8, j1, none⟩ = some (.int .u64 (b1.toNat : Int)) ∧ w'.cell? ⟨N8, j2, none⟩ = some (.int .u64 (b2.toNat : Int))) (by kernel_rfl) ⟨(hrb.cell k).trans hl0, (hrb.cell j1).trans hl1, (hrb.cell j2).trans hl2⟩ (fun hSX => ?_)
         generalize wr.drew = X at *
         refine hdv 0 91 (.int .i64 (k : Int)) (by rfl) (fun w hS => by kernel_rfl) hSX ?_
         refine hdv 1 92 (.int .i64 (k : Int)) (by rfl) (fun w hS => by kernel_rfl) hSX ?_
         refine hdv 2 93 (.pointer (some ⟨N8, k, none⟩)) (by rfl) (fun w hS => run_index25 N8 k hlt rfl (by kernel_rfl) (by kernel_rfl) w) hSX ?_
         refine hdv 3 94 (.int .u64 (b0.toNat : Int)) (by rfl) (fun w hS => run_load1 rfl Tryd.underlying70 (by kernel_rfl) hS.1) hSX ?_
         refine hdv 4 95 (.int .i64 (row : Int)) (by rfl) (fun w hS => by kernel_rfl) hSX ?_
         refine hdv 5 96 (.int .i64 (k : Int)) (by rfl) (fun w hS => by kernel_rfl) hSX ?_
         refine hdv 6 97 (.int .i64 (k1 : Int)) (by rfl) (fun w hS => by go_simp) hSX ?_
         refine hdv 7 98 (.int .i64 (m1 : Int)) (by rfl) (fun w hS => by go_simp) hSX ?_
         refine hdv 8 99 (.int .i64 (j1 : Int)) (by rfl) (fun w hS => by go_simp) hSX ?_
         refine hdv 9 100 (.pointer (some ⟨N8, j1, none⟩)) (by rfl) (fun w hS => run_index25 N8 j1 hj1 rfl (by kernel_rfl) (by kernel_rfl) w) hSX ?_
         refine hdv 10 101 (.int .u64 (b1.toNat : Int)) (by rfl) (fun w hS => run_load1 rfl Tryd.underlying70 (by kernel_rfl) hS.2.1) hSX ?_
         refine hdv 11 102 (.int .u64 (nb1.toNat : Int)) (by rfl) (fun w hS => by rw [hn1.out]; exact run_notL (p := b1) rfl (by kernel_rfl)) hSX ?_
         refine hdv 12 103 (.int .i64 (row : Int)) (by rfl) (fun w hS => by kernel_rfl) hSX ?_
         refine hdv 13 104 (.int .i64 (k : Int)) (by rfl) (fun w hS => by kernel_rfl) hSX ?_
         refine hdv 14 105 (.int .i64 (k2 : Int)) (by rfl) (fun w hS => by go_simp) hSX ?_
         refine hdv 15 106 (.int .i64 (m2 : Int)) (by rfl) (fun w hS => by go_simp) hSX ?_
         refine hdv 16 107 (.int .i64 (j2 : Int)) (by rfl) (fun w hS => by go_simp) hSX ?_
         refine hdv 17 108 (.pointer (some ⟨N8, j2, none⟩)) (by rfl) (fun w hS => run_index25 N8 j2 hj2 rfl (by kernel_rfl) (by kernel_rfl) w) hSX ?_
         refine hdv 18 109 (.int .u64 (b2.toNat : Int)) (by rfl) (fun w hS => run_load1 rfl Tryd.underlying70 (by kernel_rfl) hS.2.2) hSX ?_
         refine hdv 19 110 (.int .u64 (an.toNat : Int)) (by rfl) (fun w hS => by rw [han.out, hn1.out]; exact run_andL (p := b1) (q := b2) rfl (by kernel_rfl) (by kernel_rfl)) hSX ?_
         refine hdv 20 111 (.int .u64 (z.toNat : Int)) (by rfl) (fun w hS => by rw [hz.out]; exact run_xorL (p := b0) (q := an) rfl (by kernel_rfl) (by kernel_rfl)) hSX ?_
         refine hdv 21 112 (.pointer (some ⟨N, k, none⟩)) (by rfl) (fun w hS => run_index25 N k hlt rfl (by kernel_rfl) (by kernel_rfl) w) hSX ?_
         refine held_one 22 (by kernel_rfl) ?_
         refine step_store1 22 (Op.store 70 (Operand.tmp 112) (Operand.tmp 111)) (by kernel_rfl) (by kernel_rfl) (X.setCell ⟨N, k, none⟩ (.int .u64 (z.toNat : Int))) (run_store64 z N k rfl (by kernel_rfl) (by kernel_rfl) hca hfa) ⟨⟨(hrb2.cell k).trans hl0, (hrb2.cell j1).trans hl1, (hrb2.cell j2).trans hl2⟩, ?_⟩
         refine wpAnyH_done (by kernel_rfl) ?_ _
         clear hSX hca hfa
         generalize X.setCell ⟨N, k, none⟩ (.int .u64 (z.toNat : Int)) = Y at *
         go_wp2
         go_roundw
         case rel => exact ⟨k + 1, by omega, by rw [HK.out], by rw [← HK.out, HS.out]; exact hra2, hrr2, hrb2, hbel2⟩
         case measure => simp [intOf]; omega
        ·have HKd : Hid (k = 25) := Lib.hid (by omega)
         have hcl := chiR_length t bb k
         obtain ⟨cc, HCE⟩ : ∃ cc, Hid (cc = chiR t bb k) := ⟨_, Lib.hid rfl⟩
         rw [← HCE.out] at hra hcl
         have hc25 : cc.length = 25 := hcl.trans ht25
         have HR : Hid (roundL l c = cc.set 0 (lane cc 0 ^^^ c)) := Lib.hid (by rw [HCE.out, HKd.out, HBE.out, HKc.out, HTE.out, HKb.out, HSE.out, HKa.out]; rfl)
         obtain ⟨z, hz⟩ : ∃ z, z = lane cc 0 ^^^ c := ⟨_, rfl⟩
         have hx : bits .xor .u64 ((lane cc 0).toNat : Int) (c.toNat : Int) = (z.toNat : Int) := by rw [hz]; exact u64_xor _ _
         rw [← hz] at HR
         have hca := (hra.cell 0).trans (laneCells_lane cc 0 (by omega))
         have hfa := hra.free 0
         have hNlt := hra.lt
         have hra2 := hra.set_ 0 (.int .u64 (z.toNat : Int))
         rw [laneCells_set, ← HR.out] at hra2
         have hrr2 := hrr.other ⟨N, 0, none⟩ (.int .u64 (z.toNat : Int)) (by show N + 1 ≠ N; omega)
         have hbel2 := hbel.setCell (p := ⟨N, 0, none⟩) (show N ≤ N by omega) (.int .u64 (z.toNat : Int))
         have hrl : (roundL l c).length = 25 := by rw [HR.out, List.length_set, hc25]
         generalize lane cc 0 = c0 at *
         clear hra hrr hrb hbel hz
         obtain ⟨res, HRes⟩ : ∃ res, Hid (res = roundL l c) := ⟨_, Lib.hid rfl⟩
         rw [← HRes.out] at hra2 hrl
         generalize hY : wr.setCell ⟨N, 0, none⟩ (.int .u64 (z.toNat : Int)) = Y at *
         have hNlt2 := hra2.lt
         clear hNlt
         clear HR
         go_wp2_with (first
          | refine wpList_load_any rfl 71 (.tmp 2) rfl N rfl 71 (laneCells res) (.array 25 70) hra2 Tryd.underlying71 rfl (info_l25.trans (size_lanes _ _ hrl)) ?_
          | refine wpList_store_any rfl 71 (.tmp 4) (.tmp 119) rfl (N + 1) rfl (laneCells res) rfl 71 _ hrr2 (info_l25.trans (size_lanes _ _ hrl)) (by rw [laneCells_length, laneCells_length, hrl]; rfl) (cell_oneLane _) ?_)
         intro w9 hr9 b9 _
         have hb9 := hbel2.trans (b9.under (Nat.le_of_lt hNlt2) (Nat.le_succ _))
         go_wp2
         exact ret_row Tryd.results84 rfl rfl hr9 Tryd.underlying71 rfl (info_l25.trans (size_lanes _ _ hrl)) ⟨by rw [HRes.out], hb9⟩
end Go.Proofs.YtbjpbeplpljieaaDoor


/-
 WALKS: the document's own constants, Permute.
-/
namespace Go.Proofs.YtbjpbeplpljieaaDoor
open Go.RowKit
set_option maxRecDepth 100000

theorem info_l24 : (Tryd.prog.info? 104).map (·.size) = some 24 := by kernel_rfl
theorem zero24w : (#[.int .u64 0, .int .u64 0, .int .u64 0, .int .u64 0, .int .u64 0, .int .u64 0, .int .u64 0, .int .u64 0, .int .u64 0, .int .u64 0, .int .u64 0, .int .u64 0, .int .u64 0, .int .u64 0, .int .u64 0, .int .u64 0, .int .u64 0, .int .u64 0, .int .u64 0, .int .u64 0, .int .u64 0, .int .u64 0, .int .u64 0, .int .u64 0] : Array Value) = (laneCells (List.replicate 24 0)).toArray := by rfl
theorem kC_length : kC.length = 24 := rfl
theorem run_index24 {a : Act} {x y : Operand} {o : Oper} (b k : Nat) (hk : k < 24) (ho : o.op = .indexAddr 104 x y) (hx : a.eval x = .pointer (some ⟨b, 0, none⟩)) (hy : a.eval y = .int .i64 (k : Int)) (w : World) :
  (execOp a.eval o).run Tryd.prog w = .ok (.value (.pointer (some ⟨b, k, none⟩))) w := by
 have h0 : (0 : Int) ≤ (k : Int) := by omega
 have h1 : (k : Int) < 24 := by omega
 unfold execOp
 simp only [ho, hx, hy]
 go_simp
section
variable {P : Program} {md : Region.Mode} {ops : Array Oper} {Q : Exit → Act → World → Prop} {S : World → Prop} {fuel : Nat} {listed : Array Bool} {a : Act} {w : World}
theorem step_loadRow (i : Nat) (ty : TypeId) (x : Operand) (dst : Option Tmp) (hop : (ops[i]?).map (fun o => (o.op, o.dst)) = some (.load ty x, dst)) (hw : (ops[i]?).map (fun o => Region.wanted o (yielded ops a.tmps)) = some true)
  (b o : Nat) (hx : a.eval x = .pointer (some ⟨b, o, none⟩)) (cs : List Value) (d : TypeDesc) (hc : w.rangeAt b o cs) (hu : P.underlying ty = some d) (hd : d.isRow = true) (hi : (P.info? ty).map (·.size) = some cs.length) (hS : S w)
  (h : wpAnyH P md ops Q S fuel (listed.setIfInBounds i true) (a.put dst (.agg cs.toArray)) w) : HStep P md ops Q S fuel listed a w i := by
 unfold HStep
 cases ho : ops[i]? with
 | none => rw [ho] at hop; cases hop
 | some op =>
  rw [ho] at hop hw
  simp only [Option.map_some, Option.some.injEq, Prod.mk.injEq] at hop hw
  refine wpOp_step ho fun K' hK => ?_
  rw [if_pos hw]
  refine wp_load_mid ty x hop.1 b o hx cs d hc hu hd hi (hK _ _ ?_)
  rw [hop.2]
  exact ⟨hS, h⟩
end

theorem kconstants_any (w : World) : Calls Tryd.prog 83 #[] w (LanesIs w kC) := by
 unfold LanesIs
 generalize hN : w.heap.size = N at *
 have hr0 : Row (w.alloc (.cells (laneCells (List.replicate 24 0)).toArray 104)) N 104 (laneCells (List.replicate 24 0)) := Row.new_ hN.symm rfl
 have hb0 : Below N w (w.alloc (.cells (laneCells (List.replicate 24 0)).toArray 104)) := (Below.refl N w).alloc (by omega) _
 go_enter Tryd.func83, Tryd.ntmps83
 go_wp2_with (first
  | refine wpList_build_eq rfl 104 _ rfl (laneCells kC).toArray (by kernel_rfl) ?_
  | refine wpList_store_any rfl 104 (.tmp 0) (.tmp 1) rfl N rfl (laneCells kC) rfl 104 _ hr0 (info_l24.trans (size_lanes _ _ rfl)) rfl (cell_oneLane _) ?_)
 intro w9 hr9 b9 _
 have hb9 := hb0.trans (b9.under (by omega) (Nat.le_refl _))
 go_wp2
 exact ret_row Tryd.results83 rfl rfl hr9 Tryd.underlying104 rfl (info_l24.trans (size_lanes _ _ rfl)) ⟨rfl, hb9⟩

set_option maxHeartbeats 2000000 in
theorem refPermute_any (l : List UInt64) (hl : l.length = 25) (w : World) :
  Calls Tryd.prog 60 #[.agg (laneCells l).toArray] w (LanesIs w (permL l)) := by
 unfold LanesIs
 have HP : Shh (permL l = refPerm l 24) := Shh.mk (refPerm_eq l hl 24).symm
 generalize hN : w.heap.size = N at *
 have hrA : Row ((w.alloc (.cells (laneCells l).toArray 71)).alloc (.cells (laneCells (List.replicate 25 0)).toArray 71)) N 71 (laneCells l) := (Row.new_ hN.symm rfl).alloc _
 have hrR : Row ((w.alloc (.cells (laneCells l).toArray 71)).alloc (.cells (laneCells (List.replicate 25 0)).toArray 71)) (N + 1) 71 (laneCells (List.replicate 25 0)) := Row.new_ (by rw [asz, hN]) rfl
 have hbA : Below N w ((w.alloc (.cells (laneCells l).toArray 71)).alloc (.cells (laneCells (List.replicate 25 0)).toArray 71)) := ((Below.refl N w).alloc (by omega) _).alloc (by rw [asz]; omega) _
 go_enter Tryd.func60, Tryd.ntmps60
 go_wp2_with (go_at_call 83; refine (kconstants_any _).mono ?_)
 rintro e w1 ⟨rfl, b1⟩
 rw [asz, asz, hN] at b1
 replace hrA := hrA.below b1 (by omega)
 replace hrR := hrR.below b1 (by omega)
 replace hbA := hbA.trans (b1.mono (by omega))
 have hz1 := b1.size
 rw [asz, asz, hN] at hz1
 clear b1
 obtain ⟨C, hC⟩ : ∃ C, C = w1.heap.size := ⟨_, rfl⟩
 replace hC := hC.symm
 have hrC0 : Row (w1.alloc (.cells (laneCells (List.replicate 24 0)).toArray 104)) C 104 (laneCells (List.replicate 24 0)) := Row.new_ hC.symm rfl
 go_wp2_with (refine wpList_store_any rfl 104 (.tmp 3) (.tmp 5) rfl C rfl (laneCells kC) rfl 104 _ hrC0 (info_l24.trans (size_lanes _ _ rfl)) rfl (cell_oneLane _) ?_)
 intro w2 hrC b2 z2
 try simp only [asz] at b2 z2
 replace hrA := b2.row (hrA.alloc _) (by omega) (by omega)
 replace hrR := b2.row (hrR.alloc _) (by omega) (by omega)
 replace hbA := (hbA.alloc (by omega) _).trans (b2.under (by omega) (by omega))
 have hNC : N + 1 < C := by omega
 clear b2 z2 hrC0 hz1 hC
 go_wp2
 go_loopw [4, 6] (fun _ i wr => ∃ k : Nat, k ≤ 24 ∧ i = .int .i64 (k : Int) ∧ Row wr N 71 (laneCells (refPerm l k)) ∧ Row wr (N + 1) 71 (laneCells (List.replicate 25 0)) ∧ Row wr C 104 (laneCells kC) ∧ Below N w wr) (fun _ i _ => 24 - (intOf i).toNat)
 case atStart => exact ⟨0, Nat.zero_le _, rfl, hrA, hrR, hrC, hbA⟩
 case round =>
  clear hrA hrR hrC hbA
  obtain ⟨k, hk, rfl, hrA, hrR, hrC, hbA⟩ := hrel
  have hpl : (refPerm l k).length = 25 := by rw [refPerm_eq l hl k]; exact permK_length l hl k
  have HS : Shh (refPerm l (k + 1) = roundL (refPerm l k) (lane kC k)) := Shh.mk rfl
  obtain ⟨cur, HC⟩ : ∃ c, Shh (c = refPerm l k) := ⟨_, Shh.mk rfl⟩
  rw [← HC.out] at hpl HS hrA
  by_cases hlt : k < 24
  ·replace hrA := hrA.drew
   replace hrR := hrR.drew
   replace hrC := hrC.drew
   replace hbA := hbA.drew
   have hcl : (laneCells kC)[k]? = some (.int .u64 ((lane kC k).toNat : Int)) := laneCells_lane _ _ (by rw [kC_length]; omega)
   have hrd := round_any cur hpl (lane kC k)
   have hrl : (roundL cur (lane kC k)).length = 25 := by rw [← HS.out, refPerm_eq l hl (k + 1)]; exact permK_length l hl (k + 1)
   obtain ⟨nx, HN⟩ : ∃ nx, Shh (nx = roundL cur (lane kC k)) := ⟨_, Shh.mk rfl⟩
   rw [← HN.out] at hrd hrl HS
   generalize lane kC k = rc at *
   go_wp2
   refine wp_region_held_drew (S := fun w' => w'.cell? ⟨C, k, none⟩ = some (.int .u64 (rc.toNat : Int))) (by kernel_rfl) ((hrC.cell k).trans hcl) (fun hSX => ?_)
   generalize wr.drew = X at *
   refine hdv0 1 10 (.int .i64 (k : Int)) (by rfl) hSX ?_
   refine hdv 2 11 (.pointer (some ⟨C, k, none⟩)) (by rfl) (fun w _ => run_index24 C k hlt rfl (by kernel_rfl) (by kernel_rfl) w) hSX ?_
   refine hdv 3 12 (.int .u64 (rc.toNat : Int)) (by rfl) (fun w hS => run_load1 rfl Tryd.underlying70 (by kernel_rfl) hS) hSX ?_
   refine held_one 0 (by kernel_rfl) ?_
   refine step_loadRow 0 71 (Operand.tmp 1) (some 9) (by kernel_rfl) (by kernel_rfl) N 0 (by kernel_rfl) (laneCells cur) (.array 25 70) hrA.range Tryd.underlying71 rfl (info_l25.trans (size_lanes _ _ hpl)) hSX ?_
   simp only [Act.put, arr9, hd9, tl9]
   refine held_one 4 (by kernel_rfl) ?_
   refine step_call 4 (Op.call { callee := Callee.value (Operand.func 84), args := #[Operand.tmp 9, Operand.tmp 12], argTypes := #[71, 70] }) 71 (some 13) 84 (#[.agg (laneCells cur).toArray, .int .u64 (rc.toNat : Int)]) (by kernel_rfl) (by kernel_rfl) (by kernel_rfl) ?_
   refine (hrd _).mono ?_
   rintro e w3 ⟨rfl, b3⟩
   replace hrA := hrA.below b3 hrA.lt
   replace hrR := hrR.below b3 hrR.lt
   have hrC3 := hrC.below b3 hrC.lt
   have hz3 := hbA.size
   replace hbA := hbA.trans (b3.mono (by omega))
   refine ⟨_, rfl, (hrC3.cell k).trans hcl, ?_⟩
   simp only [Act.put, arr9, hd9, tl9]
   refine held_one 5 (by kernel_rfl) ?_
   refine step_storeRow 5 71 (Operand.tmp 1) (Operand.tmp 13) (by kernel_rfl) (by kernel_rfl) N (by kernel_rfl) (laneCells nx) (by kernel_rfl) _ _ hrA (info_l25.trans (size_lanes _ _ hrl)) (by rw [laneCells_length, laneCells_length, hpl, hrl]) (cell_oneLane _) ?_
   intro Y hrY bY zY
   have hrC4 := bY.row hrC3 hrC3.lt (by omega)
   have hrR4 := bY.row hrR hrR.lt (by omega)
   have hbY := hbA.trans (bY.under (Nat.le_of_lt hrA.lt) (Nat.le_refl _))
   refine ⟨(hrC4.cell k).trans hcl, ?_⟩
   refine wpAnyH_done (by kernel_rfl) ?_ _
   clear hrA hrR hrC hrC3 hbA hrd zY bY b3 hSX hcl
   rw [← HS.out] at hrY
   go_wp2
   go_roundw
   case rel => exact ⟨k + 1, by omega, by go_num, hrY, hrR4, hrC4, hbY⟩
   case measure => simp [intOf]; omega
  ·have HE : Shh (permL l = cur) := Shh.mk (by rw [HP.out, HC.out, show k = 24 by omega])
   have hNlt := hrA.lt
   go_wp2_with (first
    | refine wpList_load_any rfl 71 (.tmp 1) rfl N rfl 71 (laneCells cur) (.array 25 70) hrA Tryd.underlying71 rfl (info_l25.trans (size_lanes _ _ hpl)) ?_
    | refine wpList_store_any rfl 71 (.tmp 2) (.tmp 15) rfl (N + 1) rfl (laneCells cur) rfl 71 _ hrR (info_l25.trans (size_lanes _ _ hpl)) (by rw [laneCells_length, laneCells_length, hpl]; rfl) (cell_oneLane _) ?_)
   intro w9 hr9 b9 _
   have hb9 := hbA.trans (b9.under (Nat.le_of_lt hNlt) (Nat.le_succ _))
   go_wp2
   exact ret_row Tryd.results60 rfl rfl hr9 Tryd.underlying71 rfl (info_l25.trans (size_lanes _ _ hpl)) ⟨by rw [HE.out], hb9⟩
end Go.Proofs.YtbjpbeplpljieaaDoor

/-
 WALK: the document's own bytes.
-/
namespace Go.Proofs.YtbjpbeplpljieaaDoor
open Go.RowKit
set_option maxRecDepth 100000

theorem map_range_snoc (l : List UInt64) (k : Nat) : (List.range (k + 1)).map (byteL l) = (List.range k).map (byteL l) ++ [byteL l k] := by
 rw [List.range_succ, List.map_append]
 rfl
theorem kown_mono {w : World} {base base' e n : Nat} {v : Value} {xs : List Value} (h : w.ownsRow base' e 1 v n xs) (hb : base ≤ base') : w.ownsRow base e 1 v n xs := by
 refine ⟨h.1, ?_⟩
 rcases h.2 with h0 | ⟨g, cap, cur, h1, h2, h3⟩
 ·exact .inl h0
 ·exact .inr ⟨g, cap, cur, h1, Nat.le_trans hb h2, h3⟩
theorem wrapu8_nat (n : Nat) : IntKind.u8.wrap (n : Int) = ((UInt8.ofNat n).toNat : Int) := by
 rw [IntKind.wrap_u8]
 simp

set_option maxHeartbeats 1000000 in
theorem refBytes_any (l : List UInt64) (hl : l.length = 25) (n : Nat) (hn : n ≤ 200) (w : World) :
  Calls Tryd.prog 61 #[.agg (laneCells l).toArray, .int .i64 (n : Int)] w (OwnIs w ((List.range n).map (byteL l))) := by
 unfold OwnIs
 obtain ⟨i0, hi, hz0, hz1, hz2⟩ := info_parts info_u8
 unfold Gives
 generalize hN : w.heap.size = N at *
 have hrA : ∀ o, Row ((w.alloc (.cells (laneCells l).toArray 71)).alloc o) N 71 (laneCells l) := fun o => (Row.new_ hN.symm rfl).alloc _
 have hbA : ∀ o p, Below N w ((w.alloc o).alloc p) := fun o p => ((Below.refl N w).alloc (by omega) _).alloc (by rw [asz]; omega) _
 have hz : (w.alloc (.cells (laneCells l).toArray 71)).heap.size = N + 1 := by rw [asz, hN]
 have ho : ((w.alloc (.cells (laneCells l).toArray 71)).alloc (.cells #[] 5)).ownsRow (N + 1) 5 1 (.slice (some ⟨N + 1, 0, none⟩) 0 0) 0 [] := by
  have := World.ownsRow_made (base := N + 1) (e := 5) (size := 1) (w.alloc (.cells (laneCells l).toArray 71)) #[] 0 (by omega) (Nat.zero_le _) rfl
  rw [hz] at this
  exact this
 go_enter Tryd.func61, Tryd.ntmps61
 go_wp2
 go_loopw [5, 6, 9] (fun o _ i wr => ∃ k : Nat, k ≤ n ∧ i = .int .i64 (k : Int) ∧ Row wr N 71 (laneCells l) ∧ wr.ownsRow (N + 1) 5 1 o k (Lib.byteCells ((List.range k).map (byteL l))) ∧ Below N w wr ∧ N + 1 ≤ wr.heap.size) (fun _ _ i _ => n - (intOf i).toNat)
 case atStart => exact ⟨0, Nat.zero_le _, rfl, hrA _, ho, hbA _ _, by simp [hz]⟩
 case round =>
  clear hrA hbA ho hz
  obtain ⟨k, hk, rfl, hr, hown, hbel, hsz⟩ := hrel
  obtain ⟨A1, c1, rfl⟩ := own_form hown
  by_cases hlt : k < n
  ·obtain ⟨p, hp⟩ : ∃ p, p = k / 8 := ⟨_, rfl⟩
   obtain ⟨r, hr8⟩ : ∃ r, r = k % 8 := ⟨_, rfl⟩
   obtain ⟨r8, hrr⟩ : ∃ r', r' = 8 * r := ⟨_, rfl⟩
   have qp : (k : Int).tdiv 8 = (p : Int) := (show (k : Int).tdiv 8 = ((k / 8 : Nat) : Int) from rfl).trans (by rw [hp])
   have qp' : (k : Int) / 8 = (p : Int) := by omega
   have qr : (k : Int).tmod 8 = (r : Int) := (show (k : Int).tmod 8 = ((k % 8 : Nat) : Int) from rfl).trans (by rw [hr8])
   have qr' : (k : Int) % 8 = (r : Int) := by omega
   have qs : (8 : Int) * (r : Int) = (r8 : Int) := by omega
   have wp : IntKind.i64.wrap (p : Int) = (p : Int) := by rw [IntKind.wrap_i64]; omega
   have ws : IntKind.i64.wrap (r8 : Int) = (r8 : Int) := by rw [IntKind.wrap_i64]; omega
   have wu : IntKind.u64.wrap (r8 : Int) = (r8 : Int) := by rw [IntKind.wrap_u64]; omega
   have hp25 : p < 25 := by omega
   have hc := (hr.cell p).trans (laneCells_lane l p (by omega))
   have hb : byteL l k = UInt8.ofNat ((lane l p).toNat / 2 ^ r8) := by rw [hrr, hr8, hp]; rfl
   have hw8 := wrapu8_nat ((lane l p).toNat / 2 ^ r8)
   rw [← hb] at hw8
   have hdiv : ((lane l p).toNat : Int) / 2 ^ r8 = (((lane l p).toNat / 2 ^ r8 : Nat) : Int) := by simp
   have HM := Shh.mk (map_range_snoc l k)
   have hrb : r8 < 64 := by omega
   have hln : ((List.range k).map (byteL l)).length = k := by simp
   generalize byteL l k = b at *
   generalize lane l p = x at *
   generalize (List.range k).map (byteL l) = pre at *
   generalize hdd : x.toNat / 2 ^ r8 = xd at *
   have hrn : ((r8 : Int)).toNat = r8 := by omega
   clear hp hr8 hrr hb hdd
   go_wp2_with (at_builtin; refine wp_append1 _ 23 5 i0 (.int .u8 0) Tryd.underlying23 hi hz0 hz1 hz2 rfl rfl _ _ rfl hown rfl rfl rfl (by omega) hsz ?_)
   intro v' w2 o2 _ b2
   have HO : Shh (w2.ownsRow (N + 1) 5 1 v' (k + 1) (Lib.byteCells ((List.range (k + 1)).map (byteL l)))) := Shh.mk (by
    rw [HM.out]
    have e2 : Lib.byteCells (pre ++ [b]) = Lib.byteCells pre ++ [.int .u8 (b.toNat : Int)] := by simp [Lib.byteCells]
    rw [e2]
    exact o2)
   obtain ⟨A2, c2, rfl⟩ := own_form o2
   have hr2 := hr.below (b2 _ (Nat.le_refl _)) (Nat.lt_succ_self N)
   have hbel2 := hbel.trans (b2 _ (Nat.le_succ N))
   have hsz2 := (b2 _ (Nat.le_refl _)).size
   clear hown hc hw8 hdiv HM hr hbel b2 o2
   go_wp2
   go_roundw
   case rel => exact ⟨k + 1, by omega, by go_num, hr2, HO.out, hbel2, by omega⟩
   case measure => simp [intOf]; omega
  ·obtain rfl : k = n := by omega
   have HO : Shh (wr.ownsRow N 5 1 (.slice A1 k c1) ((List.range k).map (byteL l)).length (Lib.byteCells ((List.range k).map (byteL l)))) := Shh.mk (by
    have := kown_mono (base := N) hown (Nat.le_succ N)
    simpa using this)
   clear hown
   go_wp2
   go_ret
   exact ⟨_, rfl, HO.out, hbel⟩
end Go.Proofs.YtbjpbeplpljieaaDoor

/-
 WALK: the document's own Sponge.
-/
namespace Go.Proofs.YtbjpbeplpljieaaDoor
open Go.RowKit
set_option maxRecDepth 100000

theorem run_indexSc {a : Act} {x y : Operand} {op : Oper} (b k n c : Nat) (hk : k < n) (ho : op.op = .indexAddr 23 x y) (hx : a.eval x = .slice (some ⟨b, 0, none⟩) n c) (hy : a.eval y = .int .i64 (k : Int)) (w : World) :
  (execOp a.eval op).run Tryd.prog w = .ok (.value (.pointer (some ⟨b, k, none⟩))) w := by
 have h0 : (0 : Int) ≤ (k : Int) := by omega
 have h1 : (k : Int) < (n : Int) := by omega
 unfold execOp
 simp only [ho, hx, hy]
 go_simp
theorem run_shlU {a : Act} {x y : Operand} {op : Oper} {t u : TypeId} (b : UInt8) (r : Nat) (hr : r < 64) (ho : op.op = .binOp .shl t x y u) (hx : a.eval x = .int .u64 (b.toNat : Int)) (hy : a.eval y = .int .u64 (r : Int)) (w : World) :
  (execOp a.eval op).run Tryd.prog w = .ok (.value (.int .u64 ((UInt64.ofNat (b.toNat * 2 ^ r)).toNat : Int))) w := by
 have h0 : (0 : Int) ≤ (r : Int) := by omega
 have h1 : (r : Int) < 64 := by omega
 have hn : ((r : Int)).toNat = r := by omega
 unfold execOp
 simp only [ho, hx, hy]
 clear hx hy ho
 generalize hq : (2 : Nat) ^ r = q
 simp [go_sem, hn]
 all_goals
  rw [IntKind.wrap_u64, ← hq]
  simp
theorem own_below {w w' : World} {base e n : Nat} {v : Value} {xs : List Value} (h : w.ownsRow base e 1 v n xs) (hb : Below w.heap.size w w') : w'.ownsRow base e 1 v n xs := by
 refine ⟨h.1, ?_⟩
 rcases h.2 with h0 | ⟨q, cap, cur, h1, h2, h3, h4⟩
 ·exact .inl h0
 ·exact .inr ⟨q, cap, cur, h1, h2, (hb.block q (Array.getElem?_eq_some_iff.1 h3).1).trans h3, h4⟩
theorem own_but {w w' : World} {base e n g : Nat} {v : Value} {xs : List Value} (h : w.ownsRow base e 1 v n xs) (hb : But w.heap.size g w w') (hg : g < base) : w'.ownsRow base e 1 v n xs := by
 refine ⟨h.1, ?_⟩
 rcases h.2 with h0 | ⟨q, cap, cur, h1, h2, h3, h4⟩
 ·exact .inl h0
 ·exact .inr ⟨q, cap, cur, h1, h2, (hb.block q (Array.getElem?_eq_some_iff.1 h3).1 (by omega)).trans h3, h4⟩
def kslLen : Value → Nat
 | .slice _ n _ => n
 | _ => 0
/-- the last byte turned -/
def turnLast (p : List UInt8) : List UInt8 := p.set (p.length - 1) (p.getD (p.length - 1) 0 ^^^ 128)
theorem turnLast_length (p : List UInt8) : (turnLast p).length = p.length := List.length_set
theorem turned_blocks (rate : Nat) (hr : 0 < rate) (x : List UInt8) (q z : Nat) (hz : x.length + z = q * rate + rate) (hq : q * rate < x.length) :
  (turnLast (x ++ List.replicate z 0)).drop (q * rate) = kpadB rate (x.drop (q * rate)) ∧ (turnLast (x ++ List.replicate z 0)).take (q * rate) = x.take (q * rate) := by
 have hT : (x ++ List.replicate z (0 : UInt8)).length = q * rate + rate := by simp; omega
 have hd : (x ++ List.replicate z (0 : UInt8)).drop (q * rate) = x.drop (q * rate) ++ List.replicate (rate - (x.drop (q * rate)).length) 0 := by
  rw [List.drop_append, show q * rate - x.length = 0 by omega, List.drop_zero, List.length_drop, show rate - (x.length - q * rate) = z by omega]
 constructor
 ·unfold turnLast kpadB
  rw [hT, List.drop_set, if_neg (by omega), hd, show q * rate + rate - 1 - q * rate = rate - 1 by omega, ← hd]
  congr 2
  rw [List.getD, List.getD, List.getElem?_drop, show q * rate + (rate - 1) = q * rate + rate - 1 by omega]
 ·unfold turnLast
  rw [hT, List.take_set_of_le (by omega), List.take_append_of_le_length (by omega)]
/-- what is squeezed from comes out of the blocks -/
theorem perm_blocks (rate : Nat) (hr : 0 < rate) (hr2 : rate ≤ 200) (suf : UInt8) (m : List UInt8) (q z : Nat) (hz : (m ++ [suf]).length + z = q * rate + rate) (hq : q * rate < (m ++ [suf]).length) :
  ∃ F, absorbL rate suf m = ⟨F, rate⟩ ∧ F.length = 25 ∧ permL F = absJ rate (turnLast ((m ++ [suf]) ++ List.replicate z 0)) (q + 1) := by
 have hb := turned_blocks rate hr (m ++ [suf]) q z hz hq
 have hl : (m ++ [suf]).length = m.length + 1 := by simp
 refine ⟨_, absorbL_block rate hr hr2 suf m q (by omega) (by rw [Nat.succ_mul]; omega), by rw [layX_length, absJ_length], ?_⟩
 rw [absJ, hb.1, List.take_of_length_le (by rw [kpadB_length _ _ (by rw [List.length_drop]; omega)]; exact Nat.le_refl _), absJ_prefix rate _ (m ++ [suf]) (q * rate) q hb.2 (Nat.le_refl _)]
theorem mod_at (q rate r : Nat) (h : r < rate) : (q * rate + r) % rate = r := by
 rw [Nat.mul_comm, Nat.mul_add_mod]
 exact Nat.mod_eq_of_lt h
theorem block_get (P : List UInt8) (a rate k : Nat) (h : k < ((P.drop a).take rate).length) (h2 : a + k < P.length) : ((P.drop a).take rate)[k] = P[a + k] := by simp

set_option maxHeartbeats 4000000 in
theorem refSponge_any (rate : Nat) (hr : 0 < rate) (hr2 : rate ≤ 200) (suf : UInt8) (n : Nat) (hn : n ≤ 1048576) (B : Nat) (v : Value) (m : List UInt8) (w : World) (hs : Sl w B v m) (hB : B ≤ w.heap.size) (hl : m.length ≤ 1000000) :
  Calls Tryd.prog 36 #[.int .i64 (rate : Int), .int .u8 (suf.toNat : Int), v, .int .i64 (n : Int)] w (OwnIs w (spongeL rate suf m n)) := by
 unfold OwnIs
 obtain ⟨A, c, rfl, _, _⟩ := hs.form
 obtain ⟨i0, hi, hz0, hz1, hz2⟩ := info_parts info_u8
 obtain ⟨q, hq⟩ : ∃ q, q = m.length / rate := ⟨_, rfl⟩
 obtain ⟨x, hx⟩ : ∃ x, x = m ++ [suf] := ⟨_, rfl⟩
 have hxl : x.length = m.length + 1 := by rw [hx]; simp
 have hdm := Nat.div_add_mod m.length rate
 have hml := Nat.mod_lt m.length hr
 rw [← hq, Nat.mul_comm] at hdm
 obtain ⟨T, hT⟩ : ∃ T, T = q * rate + rate := ⟨_, rfl⟩
 have hq1 : q * rate < x.length := by omega
 have hxT : x.length ≤ T := by omega
 have hTb : T ≤ 1000400 := by omega
 obtain ⟨F, hF, hFl, hFp⟩ := perm_blocks rate hr hr2 suf m q (T - x.length) (by rw [← hx]; omega) (by rw [← hx]; exact hq1)
 rw [← hx] at hFp
 have HSP : Shh (∀ k, spongeL rate suf m k = (Sp.mk F rate).outs rate k) := Shh.mk (fun k => by rw [← hF]; rfl)
 have HFP := Shh.mk hFp
 have HXE := Shh.mk hx
 clear hF hFp hdm hml hq
 have HMOD : Shh (∀ k, x.length + k < T → ¬ (x.length + k) % rate = 0) := Shh.mk (fun k hk => by
  obtain ⟨r, hr'⟩ : ∃ r, x.length + k = q * rate + r := ⟨x.length + k - q * rate, by omega⟩
  rw [hr', mod_at q rate r (by omega)]
  omega)
 have HMOD0 : Shh (T % rate = 0) := Shh.mk (by rw [hT]; have := mod_at (q + 1) rate 0 hr; rw [Nat.succ_mul, Nat.add_zero] at this; exact this)
 have HT := Shh.mk hT
 have HQ1 := Shh.mk hq1
 have HXL := Shh.mk hxl
 have hx2 : x.length ≤ 1000001 := by omega
 clear hT hq1 hx hxl
 have hx1 : 1 ≤ x.length := by have := HXL.out; omega
 generalize hN : w.heap.size = N at *
 have hb2 : ∀ o o2, Below N w ((w.alloc o).alloc o2) := fun o o2 => ((Below.refl N w).alloc (by omega) _).alloc (by rw [asz]; omega) _
 go_enter Tryd.func36, Tryd.ntmps36
 go_wp2_with (go_at_call 15; refine (refJoin_any (N + 2) (N + 2) _ [m, [suf]] _ (PartsO.two (Nat.lt_succ_self _) (by omega) (Row.new_ (by rw [asz, hN]) rfl) ((hs.below ((hb2 _ _).mono hB)).more (by omega)) (hs.off (by omega)) (Sl.of_bytes (T := 5) ((Row.new_ hN.symm rfl).alloc _) (by omega) rfl (by simp)) (Off.at_ (by omega))) (by rw [asz, asz, hN]; exact Nat.le_refl _) (by rw [two_flat, ← HXE.out]; omega) (by simp)).mono ?_)
 rintro e w1 ⟨v1, rfl, g1⟩
 rw [two_flat, ← HXE.out] at g1
 have o1 := g1.1
 have b1 : Below N w w1 := (hb2 _ _).trans (g1.2.mono (by rw [asz, asz, hN]; omega))
 have hs1 := g1.2.size
 rw [asz, asz, hN] at o1 hs1
 clear g1 hb2 hs
 obtain ⟨A1, c1, rfl⟩ := own_form o1
 have hr0 : ¬ rate = 0 := by omega
 have hri : ¬ (rate : Int) = 0 := by omega
 go_wp2
 go_loopw [9] (fun o wr => ∃ k : Nat, x.length + k ≤ T ∧ wr.ownsRow (N + 2) 5 1 o (x.length + k) (Lib.byteCells (x ++ List.replicate k 0)) ∧ Below N w wr ∧ N + 2 ≤ wr.heap.size) (fun o _ => T - kslLen o)
 case atStart => exact ⟨0, by omega, by rw [List.replicate_zero, List.append_nil, Nat.add_zero]; exact o1, b1, hs1⟩
 case round =>
  clear o1 b1 hs1
  obtain ⟨k, hk, o1, b1, hs1⟩ := hrel
  obtain ⟨A1, c1, rfl⟩ := own_form o1
  obtain ⟨L, hL⟩ : ∃ L, L = x.length + k := ⟨_, rfl⟩
  obtain ⟨R, hR⟩ : ∃ R, R = (x.length + k) % rate := ⟨_, rfl⟩
  have qa : (L : Int).tmod (rate : Int) = (R : Int) := (show (L : Int).tmod (rate : Int) = ((L % rate : Nat) : Int) from rfl).trans (by rw [hR, hL])
  have qa2 : (L : Int) % (rate : Int) = (R : Int) := (show (L : Int) % (rate : Int) = ((L % rate : Nat) : Int) from rfl).trans (by rw [hR, hL])
  have HR := Shh.mk hR
  clear hR
  rw [← hL] at o1 ⊢
  by_cases hlt : L < T
  ·have hne : ¬ R = 0 := by rw [HR.out]; exact HMOD.out k (by omega)
   have HL := Shh.mk hL
   clear hL
   go_wp2_with (at_builtin; refine wp_append1 _ 23 5 i0 (.int .u8 0) Tryd.underlying23 hi hz0 hz1 hz2 rfl rfl _ _ rfl o1 rfl rfl rfl (by omega) hs1 ?_)
   intro v' w2 o2 _ b2
   have HO : Shh (w2.ownsRow (N + 2) 5 1 v' (x.length + (k + 1)) (Lib.byteCells (x ++ List.replicate (k + 1) 0))) := Shh.mk (by
    have e2 : Lib.byteCells (x ++ List.replicate (k + 1) (0 : UInt8)) = Lib.byteCells (x ++ List.replicate k 0) ++ [.int .u8 0] := by
     rw [List.replicate_succ', ← List.append_assoc]
     simp [Lib.byteCells]
    rw [e2, show x.length + (k + 1) = L + 1 by have := HL.out; omega]
    exact o2)
   have hs2 := (b2 _ (Nat.le_refl _)).size
   obtain ⟨A2, c2, rfl⟩ := own_form o2
   have HL2 := HL.out
   clear o2 o1
   go_wp2
   go_roundw
   case rel => exact ⟨k + 1, by omega, HO.out, b1.trans (b2 _ (by omega)), by omega⟩
   case measure => simp only [kslLen]; omega
  ·have hLT : L = T := by omega
   have hne : R = 0 := by rw [HR.out, ← hL, hLT]; exact HMOD0.out
   have HK : Shh (k = T - x.length) := Shh.mk (by omega)
   obtain ⟨P0, hP0⟩ : ∃ P, P = x ++ List.replicate k (0 : UInt8) := ⟨_, rfl⟩
   have hP0l : P0.length = T := by rw [hP0]; simp; omega
   rw [← hP0] at o1
   have HP1 : Shh (permL F = absJ rate (turnLast P0) (q + 1)) := Shh.mk (by rw [hP0, HK.out]; exact HFP.out)
   have qz : (L : Int).tmod (rate : Int) = 0 := by rw [qa, hne]; rfl
   have qz2 : (L : Int) % (rate : Int) = 0 := by rw [qa2, hne]; rfl
   clear HMOD HMOD0 HXE HR qa qa2 hk hP0
   subst hLT
   clear hL HK hne
   rcases o1.2 with ⟨h0, hT0⟩ | ⟨g, cap, cur, hv, hg, hh, hnc, hcm, hsz, hcur⟩
   ·exfalso; omega
   cases hv
   have hrg : Row wr g 5 cur.toList := by simpa [Row] using hh
   have hcells : ∀ i (h : i < P0.length), cur.toList[i]? = some (.int .u8 (P0[i].toNat : Int)) := fun i h => by
    have h2 := congrArg (fun l : List Value => l[i]?) hcur
    simp only [byteCells_get P0 i h] at h2
    rwa [List.getElem?_take_of_lt (by omega)] at h2
   have hgl := hrg.lt
   clear o1 hh hcur
   obtain ⟨t1, ht1⟩ : ∃ t, t = L - 1 := ⟨_, rfl⟩
   have hL1 : 1 ≤ L := by omega
   have qt : (L : Int) - 1 = (t1 : Int) := by omega
   have wt : IntKind.i64.wrap (t1 : Int) = (t1 : Int) := by rw [IntKind.wrap_i64]; omega
   have htl : t1 < L := by omega
   obtain ⟨y, hy⟩ : ∃ y, y = P0[t1]'(by omega) := ⟨_, rfl⟩
   have hcb := (hrg.cell t1).trans (hcells t1 (by omega))
   rw [← hy] at hcb
   have hfb := hrg.free t1
   have hxo := u8_xor y 128
   rw [show ((128 : UInt8).toNat : Int) = 128 from rfl] at hxo
   have hrg2 := hrg.set_ t1 (.int .u8 ((y ^^^ 128).toNat : Int))
   obtain ⟨cs, hcs⟩ : ∃ cs, cs = cur.toList.set t1 (.int .u8 ((y ^^^ 128).toNat : Int)) := ⟨_, rfl⟩
   obtain ⟨P1, hP1⟩ : ∃ P, P = turnLast P0 := ⟨_, rfl⟩
   have hP1l : P1.length = L := by rw [hP1, turnLast_length, hP0l]
   have HCS : Shh (∀ i (h : i < P1.length), cs[i]? = some (.int .u8 (P1[i].toNat : Int))) := Shh.mk (fun i h => by
    have hP1' : P1 = P0.set t1 (y ^^^ 128) := by
     rw [hP1, turnLast, hP0l, ← ht1, kgetD_get P0 t1 0 (by omega), hy]
    subst hP1'
    rw [hcs, List.getElem_set]
    by_cases hi : t1 = i
    ·subst hi
     rw [List.getElem?_set_self (by rw [Array.length_toList]; omega), if_pos rfl]
    ·rw [List.getElem?_set_ne hi, if_neg hi]
     exact hcells i (by omega))
   rw [← hcs] at hrg2
   rw [← hP1] at HP1
   have b2 := b1.setCell (p := ⟨g, t1, none⟩) (show N ≤ g by omega) (.int .u8 ((y ^^^ 128).toNat : Int))
   clear hrg b1 hcells hcs hP1 hy hP0l ht1
   generalize (y ^^^ 128).toNat = yn at *
   have hYs : (wr.setCell ⟨g, t1, none⟩ (.int .u8 (yn : Int))).heap.size = wr.heap.size := by simp [World.setCell]
   obtain ⟨nA, hnA⟩ : ∃ nA, wr.heap.size = nA := ⟨_, rfl⟩
   rw [hnA] at hYs hs1 hgl
   have hrA : Row ((wr.setCell ⟨g, t1, none⟩ (.int .u8 (yn : Int))).alloc (.cells (laneCells (List.replicate 25 0)).toArray 71)) nA 71 (laneCells (absJ rate P1 0)) := Row.new_ hYs.symm rfl
   have hrG := hrg2.alloc (.cells (laneCells (List.replicate 25 0)).toArray 71)
   have hbN := b2.alloc (by rw [hYs]; omega) (.cells (laneCells (List.replicate 25 0)).toArray 71)
   clear hrg2 b2 hYs
   go_wp2
   go_loopw [11, 12, 43] (fun at_ _ _ wr => ∃ j : Nat, j ≤ q + 1 ∧ at_ = .int .i64 ((j * rate : Nat) : Int) ∧ Row wr nA 71 (laneCells (absJ rate P1 j)) ∧ Row wr g 5 cs ∧ Below N w wr) (fun at_ _ _ _ => L - (intOf at_).toNat)
   case atStart => exact ⟨0, Nat.zero_le _, by rw [Nat.zero_mul]; rfl, hrA, hrG, hbN⟩
   case round =>
    clear hrA hrG hbN hcb hfb hxo qz qz2
    obtain ⟨j, hj, rfl, hrA, hrG, hbN⟩ := hrel
    obtain ⟨at0, hat⟩ : ∃ a, a = j * rate := ⟨_, rfl⟩
    rw [← hat]
    have HAT := Shh.mk hat
    have haL : Lib.byteCells P1 = Lib.byteCells P1 := rfl
    clear haL
    have HJS : Shh (at0 < L → at0 + rate ≤ L) := Shh.mk (fun h => by
     have h1 : j < q + 1 := Nat.lt_of_mul_lt_mul_right (a := rate) (by rw [Nat.succ_mul]; have := HT.out; omega)
     have h2 := Nat.mul_le_mul_right rate (show j + 1 ≤ q + 1 from h1)
     rw [Nat.succ_mul, Nat.succ_mul] at h2
     have := HT.out
     omega)
    have HJL : Shh (at0 < L → j < q + 1) := Shh.mk (fun h => Nat.lt_of_mul_lt_mul_right (a := rate) (by rw [Nat.succ_mul]; have := HT.out; omega))
    have HJE : Shh (¬ at0 < L → j = q + 1) := Shh.mk (fun h => by
     have h2 := Nat.mul_le_mul_right rate hj
     rw [Nat.succ_mul] at h2
     have h3 : j * rate = (q + 1) * rate := by rw [Nat.succ_mul]; have := HT.out; omega
     exact Nat.mul_right_cancel hr h3)
    clear hat
    by_cases hlt2 : at0 < L
    ·have hfull := HJS.out hlt2
     have hjq := HJL.out hlt2
     obtain ⟨X0, hX⟩ : ∃ X, X = (P1.drop at0).take rate := ⟨_, rfl⟩
     have hXl : X0.length = rate := by rw [hX]; simp; omega
     have HXG : Shh (∀ k (h : k < X0.length), X0[k] = P1[at0 + k]'(by omega)) := Shh.mk (fun k h => by subst hX; exact block_get P1 at0 rate k h (by omega))
     have hal := absJ_length rate P1 j
     have HNX : Shh (absJ rate P1 (j + 1) = permL (layX (absJ rate P1 j) 0 X0)) := Shh.mk (by rw [absJ, hX, HAT.out])
     obtain ⟨a0, ha0⟩ : ∃ a, a = absJ rate P1 j := ⟨_, rfl⟩
     rw [← ha0] at hal HNX hrA
     clear hX ha0 HJS HJL HJE
     go_wp2
     go_loopw [12, 43] (fun _ i wr => ∃ k : Nat, k ≤ rate ∧ i = .int .i64 (k : Int) ∧ Row wr nA 71 (laneCells (layX a0 0 (X0.take k))) ∧ Row wr g 5 cs ∧ Below N w wr) (fun _ i _ => rate - (intOf i).toNat)
     case atStart => exact ⟨0, Nat.zero_le _, rfl, hrA, hrG, hbN⟩
     case round =>
      clear hrA hrG hbN
      obtain ⟨k, hk, rfl, hrA, hrG, hbN⟩ := hrel
      have hcl : (layX a0 0 (X0.take k)).length = 25 := by rw [layX_length, hal]
      by_cases hlk : k < rate
      ·have HLS : Shh (layX a0 0 (X0.take (k + 1)) = maskL (layX a0 0 (X0.take k)) k (X0[k]'(by omega))) := Shh.mk (by rw [layX_take X0 a0 0 k (by omega), Nat.zero_add])
       obtain ⟨cu, hcu⟩ : ∃ c, c = layX a0 0 (X0.take k) := ⟨_, rfl⟩
       rw [← hcu] at HLS hcl hrA
       obtain ⟨y, hy⟩ : ∃ y, y = X0[k]'(by omega) := ⟨_, rfl⟩
       rw [← hy] at HLS
       obtain ⟨j2, hj2e⟩ : ∃ j2, j2 = at0 + k := ⟨_, rfl⟩
       have hj2 : j2 < L := by omega
       have hgy : cs[j2]? = some (.int .u8 (y.toNat : Int)) := by
        rw [HCS.out j2 (by omega), hy, HXG.out k (by omega)]
        subst hj2e
        rfl
       have qj2 : (at0 : Int) + (k : Int) = (j2 : Int) := by omega
       have wj2 : IntKind.i64.wrap (j2 : Int) = (j2 : Int) := by rw [IntKind.wrap_i64]; omega
       obtain ⟨p, hp⟩ : ∃ p, p = k / 8 := ⟨_, rfl⟩
       obtain ⟨r, hr8⟩ : ∃ r, r = k % 8 := ⟨_, rfl⟩
       obtain ⟨r8, hrr⟩ : ∃ r', r' = 8 * r := ⟨_, rfl⟩
       have qp : (k : Int).tdiv 8 = (p : Int) := (show (k : Int).tdiv 8 = ((k / 8 : Nat) : Int) from rfl).trans (by rw [hp])
       have qp' : (k : Int) / 8 = (p : Int) := by omega
       have qr : (k : Int).tmod 8 = (r : Int) := (show (k : Int).tmod 8 = ((k % 8 : Nat) : Int) from rfl).trans (by rw [hr8])
       have qr' : (k : Int) % 8 = (r : Int) := by omega
       have qs : (8 : Int) * (r : Int) = (r8 : Int) := by omega
       have wp : IntKind.i64.wrap (p : Int) = (p : Int) := by rw [IntKind.wrap_i64]; omega
       have ws : IntKind.i64.wrap (r8 : Int) = (r8 : Int) := by rw [IntKind.wrap_i64]; omega
       have wu : IntKind.u64.wrap (r8 : Int) = (r8 : Int) := by rw [IntKind.wrap_u64]; omega
       have hy8 : y.toNat < 256 := y.toNat_lt
       have wy : IntKind.u64.wrap (y.toNat : Int) = (y.toNat : Int) := by rw [IntKind.wrap_u64]; omega
       have hp25 : p < 25 := by omega
       have hrb : r8 < 64 := by omega
       have HME : Shh (layX a0 0 (X0.take (k + 1)) = cu.set p (lane cu p ^^^ UInt64.ofNat (y.toNat * 2 ^ r8))) := Shh.mk (by rw [HLS.out, maskL, hrr, hr8, hp])
       obtain ⟨z, hz⟩ : ∃ z, Shh (z = UInt64.ofNat (y.toNat * 2 ^ r8)) := ⟨_, Shh.mk rfl⟩
       obtain ⟨vz, hvz⟩ : ∃ z', Shh (z' = lane cu p ^^^ z) := ⟨_, Shh.mk rfl⟩
       clear HLS
       have HLS : Shh (layX a0 0 (X0.take (k + 1)) = cu.set p vz) := Shh.mk (by rw [HME.out, hvz.out, hz.out])
       clear HME hcu hy hj2e hp hr8 hrr
       replace hrA := hrA.drew
       replace hrG := hrG.drew
       replace hbN := hbN.drew
       have hca := (hrA.cell p).trans (laneCells_lane cu p (by omega))
       generalize lane cu p = v at *
       have hfa := hrA.free p
       have hra2 := hrA.set_ p (.int .u64 (vz.toNat : Int))
       rw [laneCells_set] at hra2
       have hrg2 := hrG.other ⟨nA, p, none⟩ (.int .u64 (vz.toNat : Int)) (by show g ≠ nA; omega)
       have hbel2 := hbN.setCell (p := ⟨nA, p, none⟩) (show N ≤ nA by omega) (.int .u64 (vz.toNat : Int))
       go_wp2
       refine wp_region_held_drew (S := fun w' => w'.cell? ⟨g, j2, none⟩ = some (.int .u8 (y.toNat : Int))) (by kernel_rfl) ((hrG.cell j2).trans hgy) (fun hSX => ?_)
       generalize wr.drew = X at *
       refine hdv 0 46 (.int .i64 (k : Int)) (by rfl) (fun w hS => by kernel_rfl) hSX ?_
       refine hdv 1 47 (.int .i64 (p : Int)) (by rfl) (fun w hS => by go_simp) hSX ?_
       refine hdv 2 48 (.pointer (some ⟨nA, p, none⟩)) (by rfl) (fun w hS => run_index25 nA p hp25 rfl (by kernel_rfl) (by kernel_rfl) w) hSX ?_
       refine hdv 4 50 (.slice (some ⟨g, 0, none⟩) L c1) (by rfl) (fun w hS => by kernel_rfl) hSX ?_
       refine hdv 5 51 (.int .i64 (at0 : Int)) (by rfl) (fun w hS => by kernel_rfl) hSX ?_
       refine hdv 6 52 (.int .i64 (k : Int)) (by rfl) (fun w hS => by kernel_rfl) hSX ?_
       refine hdv 7 53 (.int .i64 (j2 : Int)) (by rfl) (fun w hS => by go_simp) hSX ?_
       refine hdv 8 54 (.pointer (some ⟨g, j2, none⟩)) (by rfl) (fun w hS => run_indexSc g j2 L c1 hj2 rfl (by kernel_rfl) (by kernel_rfl) w) hSX ?_
       refine hdv 9 55 (.int .u8 (y.toNat : Int)) (by rfl) (fun w hS => run_load1 rfl Tryd.underlying5 (by kernel_rfl) hS) hSX ?_
       refine hdv 10 56 (.int .u64 (y.toNat : Int)) (by rfl) (fun w hS => by go_simp) hSX ?_
       refine hdv 11 57 (.int .i64 (k : Int)) (by rfl) (fun w hS => by kernel_rfl) hSX ?_
       refine hdv 12 58 (.int .i64 (r : Int)) (by rfl) (fun w hS => by go_simp) hSX ?_
       refine hdv 13 59 (.int .i64 (r8 : Int)) (by rfl) (fun w hS => by go_simp) hSX ?_
       refine hdv 14 60 (.int .u64 (r8 : Int)) (by rfl) (fun w hS => by go_simp) hSX ?_
       refine hdv 15 61 (.int .u64 (z.toNat : Int)) (by rfl) (fun w hS => by rw [hz.out]; exact run_shlU y r8 hrb rfl (by kernel_rfl) (by kernel_rfl) w) hSX ?_
       refine held_one 3 (by kernel_rfl) ?_
       refine step_value 3 (Op.load 70 (Operand.tmp 48)) 70 (some 49) (.int .u64 (v.toNat : Int)) _ (by kernel_rfl) (by kernel_rfl) (run_load1 rfl Tryd.underlying70 (by kernel_rfl) hca) hSX ?_
       simp only [Act.put, arr9, hd9, tl9]
       refine hdv 16 62 (.int .u64 (vz.toNat : Int)) (by rfl) (fun w hS => by rw [hvz.out]; exact run_xorL (p := v) (q := z) rfl (by kernel_rfl) (by kernel_rfl)) hSX ?_
       refine hdv 17 63 (.pointer (some ⟨nA, p, none⟩)) (by rfl) (fun w hS => run_index25 nA p hp25 rfl (by kernel_rfl) (by kernel_rfl) w) hSX ?_
       refine held_one 18 (by kernel_rfl) ?_
       refine step_store1 18 (Op.store 70 (Operand.tmp 63) (Operand.tmp 62)) (by kernel_rfl) (by kernel_rfl) (X.setCell ⟨nA, p, none⟩ (.int .u64 (vz.toNat : Int))) (run_store64 vz nA p rfl (by kernel_rfl) (by kernel_rfl) hca hfa) ⟨(hrg2.cell j2).trans hgy, ?_⟩
       refine wpAnyH_done (by kernel_rfl) ?_ _
       clear hSX hca hfa
       generalize X.setCell ⟨nA, p, none⟩ (.int .u64 (vz.toNat : Int)) = Y at *
       go_wp2
       go_roundw
       case rel => exact ⟨k + 1, by omega, by go_num, by rw [HLS.out]; exact hra2, hrg2, hbel2⟩
       case measure => simp [intOf]; omega
      ·obtain ⟨nx, HNE⟩ : ∃ l, Shh (l = layX a0 0 X0) := ⟨_, Shh.mk rfl⟩
       have hkr : k = rate := by omega
       rw [show X0.take k = X0 by rw [hkr, ← hXl, List.take_length], ← HNE.out] at hrA hcl
       rw [← HNE.out] at HNX
       have hpl := permL_length nx hcl
       have hPm := refPermute_any nx hcl
       obtain ⟨px, HPX⟩ : ∃ l, Shh (l = permL nx) := ⟨_, Shh.mk rfl⟩
       rw [← HPX.out] at hpl hPm HNX
       have hkk := Shh.mk hkr
       clear hkr
       go_wp2_with (first
        | refine wpList_load_any rfl 71 (.tmp 10) rfl nA rfl 71 (laneCells nx) (.array 25 70) hrA Tryd.underlying71 rfl (info_l25.trans (size_lanes _ _ hcl)) ?_
        | (go_at_call 60; refine (hPm _).mono ?_))
       rintro e w3 ⟨rfl, b3⟩
       replace hrA := hrA.below b3 hrA.lt
       replace hrG := hrG.below b3 hrG.lt
       replace hbN := hbN.trans (b3.mono (by have := hbN.size; omega))
       clear b3
       go_wp2_with (refine wpList_store_any rfl 71 (.tmp 10) (.tmp 66) rfl nA rfl (laneCells px) rfl 71 _ hrA (info_l25.trans (size_lanes _ _ hpl)) (by rw [laneCells_length, laneCells_length, hcl, hpl]) (cell_oneLane _) ?_)
       intro w4 hrA4 b4 z4
       have hrG4 := b4.row hrG hrG.lt (by omega)
       have hbN4 := hbN.trans (b4.under (by have := hrA.lt; omega) (by omega))
       obtain ⟨at1, hat1⟩ : ∃ a, a = at0 + rate := ⟨_, rfl⟩
       have q1 : (at0 : Int) + (rate : Int) = (at1 : Int) := by omega
       have w1' : IntKind.i64.wrap (at1 : Int) = (at1 : Int) := by rw [IntKind.wrap_i64]; omega
       have HAT1 : Shh (at1 = (j + 1) * rate) := Shh.mk (by rw [hat1, Nat.succ_mul, HAT.out])
       have HM := Shh.mk hat1
       rw [← HNX.out] at hrA4
       clear hrA hrG hbN b4 z4 hat1 hPm
       go_wp2
       go_roundw
       case rel => exact ⟨j + 1, by omega, by rw [HAT1.out], hrA4, hrG4, hbN4⟩
       case measure => simp [intOf]; have := HM.out; omega
    ·have hje := HJE.out hlt2
     rw [hje, ← HP1.out] at hrA
     have hpl0 := permL_length F hFl
     have hgl2 := hrA.lt
     obtain ⟨a0, HA0⟩ : ∃ a, Shh (a = permL F) := ⟨_, Shh.mk rfl⟩
     rw [← HA0.out] at hrA hpl0
     obtain ⟨nO, hnO⟩ : ∃ nO, wr.heap.size = nO := ⟨_, rfl⟩
     rw [hnO] at hgl2
     have hrA1 := hrA.alloc (.cells #[] 5)
     have hbN1 := hbN.alloc (by omega) (.cells #[] 5)
     have ho : (wr.alloc (.cells #[] 5)).ownsRow nO 5 1 (.slice (some ⟨nO, 0, none⟩) 0 0) 0 [] := by
      have := World.ownsRow_made (base := nO) (e := 5) (size := 1) wr #[] 0 (by omega) (Nat.zero_le _) rfl
      rw [hnO] at this
      exact this
     have hzO : (wr.alloc (.cells #[] 5)).heap.size = nO + 1 := by rw [asz, hnO]
     clear HJS HJL HJE hje hrG hrA hbN HCS HAT
     go_wp2
     go_loopw [13] (fun o wr => ∃ (cc : Nat) (l' a : List UInt64), cc ≤ n ∧ l'.length = 25 ∧ a.length = 25 ∧ Row wr nA 71 (laneCells a) ∧ wr.ownsRow nO 5 1 o cc (Lib.byteCells ((Sp.mk F rate).outs rate cc)) ∧ Below N w wr ∧ nO ≤ wr.heap.size ∧ Shh (cc < n → (Sp.mk F rate).behind rate cc = ⟨l', rate⟩) ∧ Shh (cc = 0 → a = permL l') ∧ Shh (0 < cc → a = l')) (fun o _ => n - kslLen o)
     case atStart => exact ⟨0, F, a0, Nat.zero_le _, hFl, hpl0, hrA1, ho, hbN1, by omega, Shh.mk (fun _ => rfl), Shh.mk (fun _ => HA0.out), Shh.mk (fun h => by omega)⟩
     case round =>
      clear hrA1 ho hbN1 hzO hpl0
      obtain ⟨cc, l', a, hcn, hll, hal, hrA, hown, hbN, hsz, HB, H0, H1⟩ := hrel
      obtain ⟨Ao, co, rfl⟩ := own_form hown
      have hol : ((Sp.mk F rate).outs rate cc).length = cc := Sp.outs_length _ _ _
      by_cases hlt4 : cc < n
      ·obtain ⟨nc, hnc⟩ : ∃ k, k = n - cc := ⟨_, rfl⟩
       obtain ⟨d, hd⟩ : ∃ d, d = min rate nc := ⟨_, rfl⟩
       have hd0 : 0 < d := by omega
       have hdr : d ≤ rate := by omega
       have hdn : cc + d ≤ n := by omega
       have HDF : Shh (cc + d < n → d = rate) := Shh.mk (fun h => by omega)
       have qn : (n : Int) - (cc : Int) = (nc : Int) := by omega
       have wn : IntKind.i64.wrap (nc : Int) = (nc : Int) := by rw [IntKind.wrap_i64]; omega
       have m1 : (if (nc : Int) < (rate : Int) then (nc : Int) else (rate : Int)) = (d : Int) := by split <;> omega
       have m2 : (if nc < rate then (nc : Int) else (rate : Int)) = (d : Int) := by split <;> omega
       have m3 : (if (rate : Int) < (nc : Int) then (rate : Int) else (nc : Int)) = (d : Int) := by split <;> omega
       have m4 : (if rate < nc then (rate : Int) else (nc : Int)) = (d : Int) := by split <;> omega
       clear hnc hd
       have hpl := permL_length l' hll
       have hBy := refBytes_any (permL l') hpl d (by omega)
       have HOE : Shh ((Sp.mk F rate).outs rate (cc + d) = (Sp.mk F rate).outs rate cc ++ (List.range d).map (byteL (permL l'))) := Shh.mk (by rw [outs_app, HB.out hlt4, (outs_full rate l' d hd0 hdr).1])
       have HBE : Shh (cc + d < n → (Sp.mk F rate).behind rate (cc + d) = ⟨permL l', rate⟩) := Shh.mk (fun h => by rw [behind_app, HB.out hlt4, (outs_full rate l' d hd0 hdr).2, HDF.out h])
       have hPm := refPermute_any l' hll
       obtain ⟨px, HPX⟩ : ∃ l, Shh (l = permL l') := ⟨_, Shh.mk rfl⟩
       rw [← HPX.out] at hpl hBy HOE hPm
       have HB2 : Shh (cc + d < n → (Sp.mk F rate).behind rate (cc + d) = ⟨px, rate⟩) := Shh.mk (fun h => by rw [HPX.out]; exact HBE.out h)
       have hln : ((List.range d).map (byteL px)).length = d := by simp
       generalize hbl : (List.range d).map (byteL px) = by_ at *
       generalize hou : (Sp.mk F rate).outs rate cc = ou at *
       clear hbl hou HBE
       by_cases hc0 : 0 < cc
       ·have hgt : (0 : Int) < (cc : Int) := by omega
        have hae := H1.out hc0
        subst hae
        clear H0 H1 HB HDF
        go_wp2_with (first
         | refine wpList_load_any rfl 71 (.tmp 10) rfl nA rfl 71 (laneCells a) (.array 25 70) hrA Tryd.underlying71 rfl (info_l25.trans (size_lanes _ _ hal)) ?_
         | (go_at_call 60; refine (hPm _).mono ?_))
        rintro e w3 ⟨rfl, b3⟩
        have hrA3 := hrA.below b3 hrA.lt
        have hown3 := own_below hown b3
        have hbN3 := hbN.trans (b3.mono (by have := hbN.size; omega))
        have hsz3 : nO ≤ w3.heap.size := by have := b3.size; omega
        clear b3 hrA hown hbN
        go_wp2_with (refine wpList_store_any rfl 71 (.tmp 10) (.tmp 76) rfl nA rfl (laneCells px) rfl 71 _ hrA3 (info_l25.trans (size_lanes _ _ hpl)) (by rw [laneCells_length, laneCells_length, hal, hpl]) (cell_oneLane _) ?_)
        intro w4 hrA b4 z4
        have hown := own_but hown3 b4 hgl2
        have hbN := hbN3.trans (b4.under (by omega) (by omega))
        have hsz4 : nO ≤ w4.heap.size := by omega
        clear hrA3 hown3 hbN3 b4 z4 hsz hsz3
        go_wp2_with (first
         | refine wpList_load_any rfl 71 (.tmp 10) rfl nA rfl 71 (laneCells px) (.array 25 70) hrA Tryd.underlying71 rfl (info_l25.trans (size_lanes _ _ hpl)) ?_
         | (go_at_call 61; refine (hBy _).mono ?_))
        rintro e w5 ⟨v5, rfl, g5⟩
        have s5 := gives_sl g5
        obtain ⟨A5, c5, rfl, _, _⟩ := s5.form
        rw [hln] at s5
        have b5 := g5.2
        have hrA5 := hrA.below b5 hrA.lt
        have hbN5 := hbN.trans (b5.mono (by have := hbN.size; omega))
        have hown5 := own_len (own_below hown b5) hol.symm
        have hsz5 : nO ≤ w5.heap.size := by have := b5.size; omega
        clear g5 hown b5 hrA hbN
        go_wp2_with (at_builtin; refine wp_appendSl _ 23 5 i0 Tryd.underlying23 hi hz0 hz1 hz2 rfl _ _ rfl hown5 s5 rfl rfl (by rw [hol, hln]; omega) hsz5 ?_)
        intro v' w6 o6 _ b6
        rw [← HOE.out] at o6
        have o7 := own_len o6 (show _ = cc + d by first | rfl | rw [Sp.outs_length])
        obtain ⟨A6, c6, rfl⟩ := own_form o7
        have hrA6 := hrA5.below (b6 _ (Nat.le_refl _)) (by omega)
        have hbN6 := hbN5.trans (b6 _ (by omega))
        have hsz6 : nO ≤ w6.heap.size := by have := (b6 _ (Nat.le_refl _)).size; omega
        have HOO := Shh.mk o7
        clear o6 o7 b6 hown5 s5 hrA5 hbN5
        go_wp2
        go_roundw
        case rel => exact ⟨cc + d, px, px, by omega, hpl, hpl, hrA6, HOO.out, hbN6, hsz6, HB2, Shh.mk (fun h => by omega), Shh.mk (fun _ => rfl)⟩
        case measure => simp only [kslLen]; omega
       ·have hgt : ¬ (0 : Int) < (cc : Int) := by omega
        have hae := (H0.out (by omega)).trans HPX.out.symm
        rw [hae] at hrA
        clear H0 H1 HB HDF
        go_wp2_with (first
         | refine wpList_load_any rfl 71 (.tmp 10) rfl nA rfl 71 (laneCells px) (.array 25 70) hrA Tryd.underlying71 rfl (info_l25.trans (size_lanes _ _ hpl)) ?_
         | (go_at_call 61; refine (hBy _).mono ?_))
        rintro e w5 ⟨v5, rfl, g5⟩
        have s5 := gives_sl g5
        obtain ⟨A5, c5, rfl, _, _⟩ := s5.form
        rw [hln] at s5
        have b5 := g5.2
        have hrA5 := hrA.below b5 hrA.lt
        have hbN5 := hbN.trans (b5.mono (by have := hbN.size; omega))
        have hown5 := own_len (own_below hown b5) hol.symm
        have hsz5 : nO ≤ w5.heap.size := by have := b5.size; omega
        clear g5 hown b5 hrA hbN
        go_wp2_with (at_builtin; refine wp_appendSl _ 23 5 i0 Tryd.underlying23 hi hz0 hz1 hz2 rfl _ _ rfl hown5 s5 rfl rfl (by rw [hol, hln]; omega) hsz5 ?_)
        intro v' w6 o6 _ b6
        rw [← HOE.out] at o6
        have o7 := own_len o6 (show _ = cc + d by first | rfl | rw [Sp.outs_length])
        obtain ⟨A6, c6, rfl⟩ := own_form o7
        have hrA6 := hrA5.below (b6 _ (Nat.le_refl _)) (by omega)
        have hbN6 := hbN5.trans (b6 _ (by omega))
        have hsz6 : nO ≤ w6.heap.size := by have := (b6 _ (Nat.le_refl _)).size; omega
        have HOO := Shh.mk o7
        clear o6 o7 b6 hown5 s5 hrA5 hbN5
        go_wp2
        go_roundw
        case rel => exact ⟨cc + d, px, px, by omega, hpl, hpl, hrA6, HOO.out, hbN6, hsz6, HB2, Shh.mk (fun h => by omega), Shh.mk (fun _ => rfl)⟩
        case measure => simp only [kslLen]; omega
      ·have hcn' : cc = n := by omega
       have HO : Shh (wr.ownsRow N 5 1 (.slice Ao cc co) (spongeL rate suf m n).length (Lib.byteCells (spongeL rate suf m n))) := Shh.mk (by
        rw [HSP.out n, ← hcn', hol]
        exact kown_mono (base := N) hown (by omega))
       clear hown hcn'
       go_wp2
       go_ret
       refine ⟨_, rfl, ?_⟩
       unfold Gives
       rw [hN]
       exact ⟨HO.out, hbN⟩
end Go.Proofs.YtbjpbeplpljieaaDoor

/-
 WALKS: the document's own Sha3256, Sha3512, Shake, Ask.
-/
namespace Go.Proofs.YtbjpbeplpljieaaDoor
open Go.RowKit
set_option maxRecDepth 100000

theorem refShake128_any (n : Nat) (hn : n ≤ 1048576) (B : Nat) (v : Value) (m : List UInt8) (w : World) (hs : Sl w B v m) (hB : B ≤ w.heap.size) (hl : m.length ≤ 1000000) :
  Calls Tryd.prog 14 #[.int .i64 128, .int .i64 (n : Int), v] w (OwnIs w (spongeL 168 31 m n)) := by
 unfold OwnIs
 go_enter Tryd.func14, Tryd.ntmps14
 go_wp2_with (go_at_call 36; refine (refSponge_any 168 (by decide) (by decide) 31 n hn B v m _ hs hB hl).mono ?_)
 rintro e w1 ⟨v1, rfl, g1⟩
 go_wp2
 go_ret
 exact ⟨_, rfl, g1⟩
theorem refShake256_any (n : Nat) (hn : n ≤ 1048576) (B : Nat) (v : Value) (m : List UInt8) (w : World) (hs : Sl w B v m) (hB : B ≤ w.heap.size) (hl : m.length ≤ 1000000) :
  Calls Tryd.prog 14 #[.int .i64 256, .int .i64 (n : Int), v] w (OwnIs w (spongeL 136 31 m n)) := by
 unfold OwnIs
 go_enter Tryd.func14, Tryd.ntmps14
 go_wp2_with (go_at_call 36; refine (refSponge_any 136 (by decide) (by decide) 31 n hn B v m _ hs hB hl).mono ?_)
 rintro e w1 ⟨v1, rfl, g1⟩
 go_wp2
 go_ret
 exact ⟨_, rfl, g1⟩
/-- bytes of their own and no error are handed back -/
def OwnOk (w : World) (bs : List UInt8) (e : Ending) (w' : World) : Prop := ∃ v, e = .returned (.tuple #[v, .int .i64 0]) ∧ Gives w bs v w'
/-- no bytes and an error are handed back -/
def NoneIs (w : World) (c : Int) (e : Ending) (w' : World) : Prop := e = .returned (.tuple #[.slice none 0 0, .int .i64 c]) ∧ w' = w
end Go.Proofs.YtbjpbeplpljieaaDoor
