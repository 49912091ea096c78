/-
 WALKS: the document's own turn, round.
-/
import Derived.Test.YtapjiknedghhfaaDoorKLa
import Derived.Test.YtapjiknedghhfaaDoorKPerm
import Derived.Test.YtapjiknedghhfaaDoorKMa
import Derived.BigRegion
import Derived.Deep.RegionWith
import Derived.Deep.RegionHeld
namespace Go.Proofs.YtapjiknedghhfaaDoor
open Go.RowKit
set_option maxRecDepth 100000

theorem turn_any (x : UInt64) (n : Nat) (h2 : n ≤ 63) (w : World) :
  Calls Tryd.prog 55 #[.int .u64 (x.toNat : Int), .int .i64 (n : Int)] w (LaneIs w (trn x n)) := by
 unfold LaneIs
 by_cases h0 : n = 0
 ·subst h0
  go_enter Tryd.func55, Tryd.ntmps55
  go_wp2
  go_ret
  exact ⟨rfl, rfl⟩
 ·have ht : trn x n = rotl x n := if_neg h0
  have hr := u64_rotl x n
  have hw := wraps_u64 (n : Int) (by omega) (by omega)
  have hw2 := wraps_u64 ((64 - n : Nat) : Int) (by omega) (by omega)
  have q1 : (64 : Int) - (n : Int) = ((64 - n : Nat) : Int) := by omega
  have hd : decide ((n : Int) = 0) = false := by simp; omega
  rw [ht]
  go_enter Tryd.func55, Tryd.ntmps55
  go_wp2
  go_ret
  refine ⟨ret_int ?_, rfl⟩
  exact hr
theorem zero5 : (#[.int .u64 0, .int .u64 0, .int .u64 0, .int .u64 0, .int .u64 0] : Array Value) = (laneCells (List.replicate 5 0)).toArray := by rfl
theorem run_index5 {a : Act} {x y : Operand} {o : Oper} (b k : Nat) (hk : k < 5) (ho : o.op = .indexAddr 84 x y) (hx : a.eval x = .pointer (some ⟨b, 0, none⟩)) (hy : a.eval y = .int .i64 (k : Int)) (w : World) :
  (execOp a.eval o).run Tryd.prog w = .ok (.value (.pointer (some ⟨b, k, none⟩))) w := by
 have h0 : (0 : Int) ≤ (k : Int) := by omega
 have h1 : (k : Int) < 5 := by omega
 unfold execOp
 simp only [ho, hx, hy]
 go_simp
theorem u64_not (a : UInt64) : bits .xor .u64 18446744073709551615 (a.toNat : Int) = ((~~~a).toNat : Int) := by
 have h := u64_xor (~~~0) a
 have e : ~~~(0 : UInt64) ^^^ a = ~~~a := by
  apply UInt64.toBitVec_inj.1
  show ~~~(0#64) ^^^ a.toBitVec = ~~~a.toBitVec
  rw [show ~~~(0#64) = BitVec.allOnes 64 from rfl, BitVec.allOnes_xor]
 rw [e] at h
 exact h
section
variable {P : Program} {w : World} {a : Act} {o : Oper}
theorem run_notL {x : Operand} {t : TypeId} {p : UInt64} (ho : o.op = .unOp .xor t x) (hx : a.eval x = .int .u64 (p.toNat : Int)) : (execOp a.eval o).run P w = .ok (.value (.int .u64 ((~~~p).toNat : Int))) w := by
 have h : bits .xor .u64 (if IntKind.u64.signed = true then -1 else IntKind.u64.max) (p.toNat : Int) = ((~~~p).toNat : Int) := u64_not p
 generalize (~~~p).toNat = q at *
 unfold execOp
 simp only [ho, hx]
 simp [go_sem, h]
theorem run_andL {x y : Operand} {t u : TypeId} {p q : UInt64} (ho : o.op = .binOp .and t x y u) (hx : a.eval x = .int .u64 ((~~~p).toNat : Int)) (hy : a.eval y = .int .u64 (q.toNat : Int)) : (execOp a.eval o).run P w = .ok (.value (.int .u64 ((andn q p).toNat : Int))) w := by
 have h : bits .and .u64 ((~~~p).toNat : Int) (q.toNat : Int) = ((andn q p).toNat : Int) := by rw [u64_and, andn, UInt64.and_comm]
 unfold execOp
 simp only [ho, hx, hy]
 generalize ~~~p = np at *
 simp [go_sem, h]
end
theorem rem5 (k : Nat) : (k : Int).tmod 5 = ((k % 5 : Nat) : Int) := rfl

section
variable {ops : Array Oper} {rest : List Oper} {a : Act} {w : World} {Q : Exit → Act → World → Prop} {d : Option Tmp} {ty : TypeId} {pos : String} {after : Array Edge}
/-- a load of 25 lanes: tried where it stands alone -/
theorem wl_load25 {x : Operand} (b : Nat) (t : TypeId) (l : List UInt64) (hx : a.eval x = .pointer (some ⟨b, 0, none⟩)) (hr : Row w b t (laneCells l)) (hl : l.length = 25)
  (h : wpList Tryd.prog ops Q rest (a.put d (.agg (laneCells l).toArray)) w) : wpList Tryd.prog ops Q (⟨d, .load 57 x, ty, pos, after, none⟩ :: rest) a w :=
 wpList_load_any rfl 57 x rfl b hx t (laneCells l) (.array 25 56) hr Tryd.underlying57 rfl (info_l25.trans (size_lanes _ _ hl)) h
theorem wl_store25 {x y : Operand} (b : Nat) (t : TypeId) (l m : List UInt64) (hx : a.eval x = .pointer (some ⟨b, 0, none⟩)) (hy : a.eval y = .agg (laneCells l).toArray) (hr : Row w b t (laneCells m)) (hl : l.length = 25) (hm : m.length = 25)
  (h : ∀ w2, Row w2 b t (laneCells l) → But w.heap.size b w w2 → w2.heap.size = w.heap.size → wpList Tryd.prog ops Q rest (a.put d undef) w2) : wpList Tryd.prog ops Q (⟨d, .store 57 x y, ty, pos, after, none⟩ :: rest) a w :=
 wpList_store_any rfl 57 x y rfl b hx (laneCells l) hy t _ hr (info_l25.trans (size_lanes _ _ hl)) (by rw [laneCells_length, laneCells_length, hl, hm]) (cell_oneLane _) h
end

set_option maxHeartbeats 8000000 in
theorem round_any (l : List UInt64) (hl : l.length = 25) (c : UInt64) (w : World) :
  Calls Tryd.prog 52 #[.agg (laneCells l).toArray, .int .u64 (c.toNat : Int)] w (LanesIs w (roundL l c)) := by
 unfold LanesIs
 generalize hN : w.heap.size = N at *
 have hrA : ∀ o p, Row (((w.alloc (.cells (laneCells l).toArray 57)).alloc o).alloc p) N 57 (laneCells l) := fun o p => ((Row.new_ hN.symm rfl).alloc _).alloc _
 have hrR : ∀ o p, Row (((w.alloc o).alloc (.cells (laneCells (List.replicate 25 0)).toArray 57)).alloc p) (N + 1) 57 (laneCells (List.replicate 25 0)) := fun o p => (Row.new_ (by rw [asz, hN]) rfl).alloc _
 have hrS : ∀ o p, Row (((w.alloc o).alloc p).alloc (.cells (laneCells (List.replicate 5 0)).toArray 84)) (N + 1 + 1) 84 (laneCells (List.replicate 5 0)) := fun o p => Row.new_ (by rw [asz, asz, hN]) rfl
 have hbA : ∀ o p q, Below N w (((w.alloc o).alloc p).alloc q) := fun o p q => (((Below.refl N w).alloc (by omega) o).alloc (by rw [asz]; omega) p).alloc (by rw [asz, asz]; omega) q
 go_enter Tryd.func52, Tryd.ntmps52
 go_wp2
 go_loopw [6, 16] (fun _ i wr => ∃ k : Nat, k ≤ 25 ∧ i = .int .i64 (k : Int) ∧ Row wr N 57 (laneCells l) ∧ Row wr (N + 1) 57 (laneCells (List.replicate 25 0)) ∧ Row wr (N + 1 + 1) 84 (laneCells (sumL l k)) ∧ Below N w wr) (fun _ i _ => 25 - (intOf i).toNat)
 case atStart => exact ⟨0, Nat.zero_le _, rfl, hrA _ _, hrR _ _, hrS _ _, hbA _ _ _⟩
 case round =>
  clear hrA hrR hrS hbA
  obtain ⟨k, hk, rfl, hra, hrr, hrs, hbel⟩ := hrel
  by_cases hlt : k < 25
  ·have hsl := sumL_length l k
   obtain ⟨r, hr⟩ : ∃ r, r = k % 5 := ⟨_, rfl⟩
   have HS : Hid (sumL l (k + 1) = (sumL l k).set r (lane (sumL l k) r ^^^ lane l k)) := Lib.hid (by rw [hr]; rfl)
   have q1 : (k : Int).tmod 5 = (r : Int) := by rw [rem5, hr]
   have q2 : (k : Int) % 5 = (r : Int) := by omega
   have hr5 : r < 5 := by omega
   clear hr
   generalize sumL l k = s at *
   replace hra := hra.drew
   replace hrr := hrr.drew
   replace hrs := hrs.drew
   replace hbel := hbel.drew
   have hca := (hra.cell k).trans (laneCells_lane _ _ (by omega))
   have hcs := (hrs.cell r).trans (laneCells_lane _ _ (by omega))
   have hfs := hrs.free r
   have hx := u64_xor (lane s r) (lane l k)
   have hrs2 := hrs.set_ r (.int .u64 ((lane s r ^^^ lane l k).toNat : Int))
   rw [laneCells_set] at hrs2
   have hra2 := hra.other ⟨N + 1 + 1, r, none⟩ (.int .u64 ((lane s r ^^^ lane l k).toNat : Int)) (by show N ≠ N + 1 + 1; omega)
   have hrr2 := hrr.other ⟨N + 1 + 1, r, none⟩ (.int .u64 ((lane s r ^^^ lane l k).toNat : Int)) (by show N + 1 ≠ N + 1 + 1; omega)
   have hbel2 := hbel.setCell (p := ⟨N + 1 + 1, r, none⟩) (show N ≤ N + 1 + 1 by omega) (.int .u64 ((lane s r ^^^ lane l k).toNat : Int))
   generalize lane s r ^^^ lane l k = z at *
   generalize lane s r = x at *
   generalize lane l k = y at *
   clear hra hrr hrs hbel
   go_wp2
   go_region
   go_wp2
   go_roundw
   case rel => exact ⟨k + 1, by omega, by go_num, hra2, hrr2, by rw [HS.out]; exact hrs2, hbel2⟩
   case measure => simp [intOf]; omega
  ·have HKa : Hid (k = 25) := Lib.hid (by omega)
   have hsl := sumL_length l k
   obtain ⟨s, HSE⟩ : ∃ s, Hid (s = sumL l k) := ⟨_, Lib.hid rfl⟩
   rw [← HSE.out] at hrs hsl
   go_wp2
   go_loopw [7, 29] (fun _ i wr => ∃ k : Nat, k ≤ 25 ∧ i = .int .i64 (k : Int) ∧ Row wr N 57 (laneCells (thetaL l s k)) ∧ Row wr (N + 1) 57 (laneCells (List.replicate 25 0)) ∧ Row wr (N + 1 + 1) 84 (laneCells s) ∧ Below N w wr) (fun _ i _ => 25 - (intOf i).toNat)
   case atStart => exact ⟨0, Nat.zero_le _, rfl, hra, hrr, hrs, hbel⟩
   case round =>
    clear hra hrr hrs hbel
    obtain ⟨k, hk, rfl, hra, hrr, hrs, hbel⟩ := hrel
    by_cases hlt : k < 25
    ·have htl := thetaL_length l s k
     obtain ⟨r4, hr4⟩ : ∃ r, r = (k + 4) % 5 := ⟨_, rfl⟩
     obtain ⟨r1, hr1⟩ : ∃ r, r = (k + 1) % 5 := ⟨_, rfl⟩
     have HS : Hid (thetaL l s (k + 1) = (thetaL l s k).set k (lane (thetaL l s k) k ^^^ (lane s r4 ^^^ trn (lane s r1) 1))) := Lib.hid (by rw [hr4, hr1]; rfl)
     obtain ⟨k4, hk4⟩ : ∃ r, r = k + 4 := ⟨_, rfl⟩
     obtain ⟨k1, hk1⟩ : ∃ r, r = k + 1 := ⟨_, rfl⟩
     have p4 : (k : Int) + 4 = (k4 : Int) := by omega
     have p1 : (k : Int) + 1 = (k1 : Int) := by omega
     have q4 : (k4 : Int).tmod 5 = (r4 : Int) := by rw [rem5, hr4, hk4]
     have q1 : (k1 : Int).tmod 5 = (r1 : Int) := by rw [rem5, hr1, hk1]
     have q4' : (k4 : Int) % 5 = (r4 : Int) := by omega
     have q1' : (k1 : Int) % 5 = (r1 : Int) := by omega
     have hr45 : r4 < 5 := by omega
     have hr15 : r1 < 5 := by omega
     have hw4 : IntKind.i64.wrap (k4 : Int) = (k4 : Int) := by rw [IntKind.wrap_i64]; omega
     have hw1 : IntKind.i64.wrap (k1 : Int) = (k1 : Int) := by rw [IntKind.wrap_i64]; omega
     have HK1 := Lib.hid hk1
     clear hr4 hr1 hk4 hk1
     generalize thetaL l s k = t at *
     replace hra := hra.drew
     replace hrr := hrr.drew
     replace hrs := hrs.drew
     replace hbel := hbel.drew
     obtain ⟨y, hy⟩ : ∃ y, Hid (y = lane s r4 ^^^ trn (lane s r1) 1) := ⟨_, Lib.hid rfl⟩
     obtain ⟨z, hz⟩ : ∃ z, Hid (z = lane t k ^^^ y) := ⟨_, Lib.hid rfl⟩
     rw [← hy.out, ← hz.out] at HS
     have ht := turn_any (lane s r1) 1 (by decide)
     have hl4 : (laneCells s)[r4]? = some (.int .u64 ((lane s r4).toNat : Int)) := laneCells_lane _ _ (by omega)
     have hl1 : (laneCells s)[r1]? = some (.int .u64 ((lane s r1).toNat : Int)) := laneCells_lane _ _ (by omega)
     generalize trn (lane s r1) 1 = x1 at *
     generalize lane s r1 = x at *
     generalize lane s r4 = x4 at *
     have hca := (hra.cell k).trans (laneCells_lane t _ (by omega))
     generalize lane t k = v at *
     have hfa := hra.free k
     have hc4 := (hrs.cell r4).trans hl4
     have hc1 := (hrs.cell r1).trans hl1
     have hra2 := hra.set_ k (.int .u64 (z.toNat : Int))
     rw [laneCells_set] at hra2
     have hrs2 := hrs.other ⟨N, k, none⟩ (.int .u64 (z.toNat : Int)) (by show N + 1 + 1 ≠ N; omega)
     have hrr2 := hrr.other ⟨N, k, none⟩ (.int .u64 (z.toNat : Int)) (by show N + 1 ≠ N; omega)
     have hbel2 := hbel.setCell (p := ⟨N, k, none⟩) (show N ≤ N by omega) (.int .u64 (z.toNat : Int))
     go_wp2
     refine wp_region_held_drew (S := fun w' => w'.cell? ⟨N + 1 + 1, r4, none⟩ = some (.int .u64 (x4.toNat : Int)) ∧ w'.cell? ⟨N + 1 + 1, r1, none⟩ = some (.int .u64 (x.toNat : Int))) (by kernel_rfl) ⟨hc4, hc1⟩ (fun hSX => ?_)
     generalize wr.drew = X at *
     refine hdv 0 32 (.int .i64 (k : Int)) (by rfl) (fun w hS => by kernel_rfl) hSX ?_
     refine hdv 1 33 (.pointer (some ⟨N, k, none⟩)) (by rfl) (fun w hS => run_index25 N k hlt rfl (by kernel_rfl) (by kernel_rfl) w) hSX ?_
     refine hdv 3 35 (.int .i64 (k : Int)) (by rfl) (fun w hS => by kernel_rfl) hSX ?_
     refine hdv 4 36 (.int .i64 (k4 : Int)) (by rfl) (fun w hS => by go_simp) hSX ?_
     refine hdv 5 37 (.int .i64 (r4 : Int)) (by rfl) (fun w hS => by go_simp) hSX ?_
     refine hdv 6 38 (.pointer (some ⟨N + 1 + 1, r4, none⟩)) (by rfl) (fun w hS => run_index5 (N + 1 + 1) r4 hr45 rfl (by kernel_rfl) (by kernel_rfl) w) hSX ?_
     refine hdv 7 39 (.int .u64 (x4.toNat : Int)) (by rfl) (fun w hS => run_load1 rfl Tryd.underlying56 (by kernel_rfl) hS.1) hSX ?_
     refine hdv 8 40 (.int .i64 (k : Int)) (by rfl) (fun w hS => by kernel_rfl) hSX ?_
     refine hdv 9 41 (.int .i64 (k1 : Int)) (by rfl) (fun w hS => by go_simp) hSX ?_
     refine hdv 10 42 (.int .i64 (r1 : Int)) (by rfl) (fun w hS => by go_simp) hSX ?_
     refine hdv 11 43 (.pointer (some ⟨N + 1 + 1, r1, none⟩)) (by rfl) (fun w hS => run_index5 (N + 1 + 1) r1 hr15 rfl (by kernel_rfl) (by kernel_rfl) w) hSX ?_
     refine hdv 12 44 (.int .u64 (x.toNat : Int)) (by rfl) (fun w hS => run_load1 rfl Tryd.underlying56 (by kernel_rfl) hS.2) hSX ?_
     refine held_two 2 13 (by kernel_rfl) ?_ ?_
     ·refine step_value 2 (Op.load 56 (Operand.tmp 33)) 56 (some 34) (.int .u64 (v.toNat : Int)) _ (by kernel_rfl) (by kernel_rfl) (run_load1 rfl Tryd.underlying56 (by kernel_rfl) hca) hSX ?_
      simp only [Act.put, arr9, hd9, tl9]
      refine held_one 13 (by kernel_rfl) ?_
      refine step_call 13 (Op.call { callee := Callee.value (Operand.func 55), args := #[Operand.tmp 44, Operand.const (Value.int IntKind.i64 1)], argTypes := #[56, 3] }) 56 (some 45) 55 (#[.int .u64 (x.toNat : Int), .int .i64 1]) (by kernel_rfl) (by kernel_rfl) (by kernel_rfl) ?_
      refine (ht _).mono ?_
      rintro e w' ⟨rfl, hw'⟩
      obtain rfl : X = w' := hw'.symm
      refine ⟨_, rfl, hSX, ?_⟩
      simp only [Act.put, arr9, hd9, tl9]
      refine hdv 14 46 (.int .u64 (y.toNat : Int)) (by rfl) (fun w hS => by rw [hy.out]; exact run_xorL (p := x4) (q := x1) rfl (by kernel_rfl) (by kernel_rfl)) hSX ?_
      refine hdv 15 47 (.int .u64 (z.toNat : Int)) (by rfl) (fun w hS => by rw [hz.out]; exact run_xorL (p := v) (q := y) rfl (by kernel_rfl) (by kernel_rfl)) hSX ?_
      refine hdv 16 48 (.pointer (some ⟨N, k, none⟩)) (by rfl) (fun w hS => run_index25 N k hlt rfl (by kernel_rfl) (by kernel_rfl) w) hSX ?_
      refine held_one 17 (by kernel_rfl) ?_
      refine step_store1 17 (Op.store 56 (Operand.tmp 48) (Operand.tmp 47)) (by kernel_rfl) (by kernel_rfl) (X.setCell ⟨N, k, none⟩ (.int .u64 (z.toNat : Int))) (run_store64 z N k rfl (by kernel_rfl) (by kernel_rfl) hca hfa) ⟨⟨(hrs2.cell r4).trans hl4, (hrs2.cell r1).trans hl1⟩, ?_⟩
      refine wpAnyH_done (by kernel_rfl) ?_ _
      clear hSX hca hfa hc4 hc1
      generalize X.setCell ⟨N, k, none⟩ (.int .u64 (z.toNat : Int)) = Y at *
      go_wp2
      go_roundw
      case rel => exact ⟨k + 1, by omega, by go_num, by rw [HS.out]; exact hra2, hrr2, hrs2, hbel2⟩
      case measure => simp [intOf]; omega
     ·refine step_call 13 (Op.call { callee := Callee.value (Operand.func 55), args := #[Operand.tmp 44, Operand.const (Value.int IntKind.i64 1)], argTypes := #[56, 3] }) 56 (some 45) 55 (#[.int .u64 (x.toNat : Int), .int .i64 1]) (by kernel_rfl) (by kernel_rfl) (by kernel_rfl) ?_
      refine (ht _).mono ?_
      rintro e w' ⟨rfl, hw'⟩
      obtain rfl : X = w' := hw'.symm
      refine ⟨_, rfl, hSX, ?_⟩
      simp only [Act.put, arr9, hd9, tl9]
      refine hdv 14 46 (.int .u64 (y.toNat : Int)) (by rfl) (fun w hS => by rw [hy.out]; exact run_xorL (p := x4) (q := x1) rfl (by kernel_rfl) (by kernel_rfl)) hSX ?_
      refine held_one 2 (by kernel_rfl) ?_
      refine step_value 2 (Op.load 56 (Operand.tmp 33)) 56 (some 34) (.int .u64 (v.toNat : Int)) _ (by kernel_rfl) (by kernel_rfl) (run_load1 rfl Tryd.underlying56 (by kernel_rfl) hca) hSX ?_
      simp only [Act.put, arr9, hd9, tl9]
      refine hdv 15 47 (.int .u64 (z.toNat : Int)) (by rfl) (fun w hS => by rw [hz.out]; exact run_xorL (p := v) (q := y) rfl (by kernel_rfl) (by kernel_rfl)) hSX ?_
      refine hdv 16 48 (.pointer (some ⟨N, k, none⟩)) (by rfl) (fun w hS => run_index25 N k hlt rfl (by kernel_rfl) (by kernel_rfl) w) hSX ?_
      refine held_one 17 (by kernel_rfl) ?_
      refine step_store1 17 (Op.store 56 (Operand.tmp 48) (Operand.tmp 47)) (by kernel_rfl) (by kernel_rfl) (X.setCell ⟨N, k, none⟩ (.int .u64 (z.toNat : Int))) (run_store64 z N k rfl (by kernel_rfl) (by kernel_rfl) hca hfa) ⟨⟨(hrs2.cell r4).trans hl4, (hrs2.cell r1).trans hl1⟩, ?_⟩
      refine wpAnyH_done (by kernel_rfl) ?_ _
      clear hSX hca hfa hc4 hc1
      generalize X.setCell ⟨N, k, none⟩ (.int .u64 (z.toNat : Int)) = Y at *
      go_wp2
      go_roundw
      case rel => exact ⟨k + 1, by omega, by go_num, by rw [HS.out]; exact hra2, hrr2, hrs2, hbel2⟩
      case measure => simp [intOf]; omega
    ·have HKb : Hid (k = 25) := Lib.hid (by omega)
     have htl := thetaL_length l s k
     obtain ⟨t, HTE⟩ : ∃ t, Hid (t = thetaL l s k) := ⟨_, Lib.hid rfl⟩
     rw [← HTE.out] at hra htl
     have ht25 : t.length = 25 := htl.trans hl
     have hwz := hbel.size
     have hca0 := (hra.cell 0).trans (laneCells_lane t 0 (by omega))
     have hNs := hrs.lt
     obtain ⟨N8, hN8⟩ : ∃ N8, N8 = wr.heap.size := ⟨_, rfl⟩
     have hrb2 : Row (wr.alloc (.cells (laneCells ((List.replicate 25 0).set 0 (lane t 0))).toArray 57)) N8 57 (laneCells ((List.replicate 25 0).set 0 (lane t 0))) := Row.new_ hN8 rfl
     have hra2 := hra.alloc (.cells (laneCells ((List.replicate 25 0).set 0 (lane t 0))).toArray 57)
     have hrr2 := hrr.alloc (.cells (laneCells ((List.replicate 25 0).set 0 (lane t 0))).toArray 57)
     have hbel2 := hbel.alloc (by omega) (.cells (laneCells ((List.replicate 25 0).set 0 (lane t 0))).toArray 57)
     have hcb1 : (wr.alloc (.cells (laneCells (List.replicate 25 0)).toArray 57)).cell? ⟨N, 0, none⟩ = some (.int .u64 ((lane t 0).toNat : Int)) := ((hra.alloc _).cell 0).trans (laneCells_lane t 0 (by omega))
     have hN8N : N + 1 + 1 < N8 := by omega
     have HR0 : Hid (rhoL t 0 = (List.replicate 25 0).set 0 (lane t 0)) := Lib.hid rfl
     replace hN8 := hN8.symm
     clear hra hrr hrs hbel hwz hNs
     rw [← zero25] at hcb1
     have hEQ : (laneCells ((List.replicate 25 0).set 0 (lane t 0))).toArray = #[.int .u64 ((lane t 0).toNat : Int), .int .u64 0, .int .u64 0, .int .u64 0, .int .u64 0, .int .u64 0, .int .u64 0, .int .u64 0, .int .u64 0, .int .u64 0, .int .u64 0, .int .u64 0, .int .u64 0, .int .u64 0, .int .u64 0, .int .u64 0, .int .u64 0, .int .u64 0, .int .u64 0, .int .u64 0, .int .u64 0, .int .u64 0, .int .u64 0, .int .u64 0, .int .u64 0] := by rfl
     rw [hEQ] at hra2 hrr2 hrb2 hbel2
     clear hEQ
     generalize lane t 0 = t0 at *
     go_wp2
     go_loopw [9, 10, 11, 12, 13, 53] (fun x y _ _ _ i wr => ∃ k : Nat, k ≤ 24 ∧ i = .int .i64 (k : Int) ∧ x = .int .i64 ((xyN k).1 : Int) ∧ y = .int .i64 ((xyN k).2 : Int) ∧ Row wr N 57 (laneCells t) ∧ Row wr (N + 1) 57 (laneCells (List.replicate 25 0)) ∧ Row wr N8 57 (laneCells (rhoL t k)) ∧ Below N w wr) (fun _ _ _ _ _ i _ => 24 - (intOf i).toNat)
     case atStart => exact ⟨0, Nat.zero_le _, rfl, rfl, rfl, hra2, hrr2, by rw [HR0.out]; exact hrb2, hbel2⟩
     case round =>
      clear hra2 hrr2 hrb2 hbel2 hca0 hcb1 hN8
      obtain ⟨k, hk, rfl, rfl, rfl, hra, hrr, hrb, hbel⟩ := hrel
      by_cases hlt : k < 24
      ·have hbl := rhoL_length t k
       have hxy := xyN_lt k
       have hxy1 := xyN_lt (k + 1)
       have HX1 : Hid ((xyN (k + 1)).1 = (xyN k).2) := Lib.hid rfl
       have HX2 : Hid ((xyN (k + 1)).2 = (2 * (xyN k).1 + 3 * (xyN k).2) % 5) := Lib.hid rfl
       have HRS : Hid (rhoL t (k + 1) = (rhoL t k).set (5 * (xyN (k + 1)).2 + (xyN (k + 1)).1) (trn (lane t (5 * (xyN k).2 + (xyN k).1)) ((k + 1) * (k + 2) / 2 % 64))) := Lib.hid rfl
       generalize hx : (xyN k).1 = x at *
       generalize hy : (xyN k).2 = y at *
       generalize hnx : (xyN (k + 1)).1 = nx at *
       generalize hny : (xyN (k + 1)).2 = ny at *
       obtain rfl : nx = y := HX1.out
       obtain ⟨hx5, hy5⟩ := hxy
       have hny5 := hxy1.2
       obtain ⟨m2, e2⟩ : ∃ m, m = 2 * x := ⟨_, rfl⟩
       obtain ⟨m3, e3⟩ : ∃ m, m = 3 * nx := ⟨_, rfl⟩
       obtain ⟨m, em⟩ : ∃ m', m' = m2 + m3 := ⟨_, rfl⟩
       obtain ⟨f1, ef1⟩ : ∃ m', m' = 5 * ny := ⟨_, rfl⟩
       obtain ⟨d, ed⟩ : ∃ m', m' = f1 + nx := ⟨_, rfl⟩
       obtain ⟨f2, ef2⟩ : ∃ m', m' = 5 * nx := ⟨_, rfl⟩
       obtain ⟨sr, es⟩ : ∃ m', m' = f2 + x := ⟨_, rfl⟩
       obtain ⟨k1, ek1⟩ : ∃ m', m' = k + 1 := ⟨_, rfl⟩
       obtain ⟨k2, ek2⟩ : ∃ m', m' = k + 2 := ⟨_, rfl⟩
       obtain ⟨pr, epr⟩ : ∃ m', m' = k1 * k2 := ⟨_, rfl⟩
       obtain ⟨hf, ehf⟩ : ∃ m', m' = pr / 2 := ⟨_, rfl⟩
       obtain ⟨rt, ert⟩ : ∃ m', m' = hf % 64 := ⟨_, rfl⟩
       have hprb : pr ≤ 625 := by rw [epr]; exact Nat.mul_le_mul (show k1 ≤ 25 by omega) (show k2 ≤ 25 by omega)
       have hny2 : ny = m % 5 := by rw [em, e2, e3]; exact HX2.out
       rw [← ef1, ← ef2, ← ek1, ← ek2, ← epr, ← ehf, ← ert, ← ed, ← es] at HRS
       have q2 : (2 : Int) * (x : Int) = (m2 : Int) := by omega
       have q3 : (3 : Int) * (nx : Int) = (m3 : Int) := by omega
       have qm : (m2 : Int) + (m3 : Int) = (m : Int) := by omega
       have qn : (m : Int).tmod 5 = (ny : Int) := by rw [rem5, hny2]
       have qn' : (m : Int) % 5 = (ny : Int) := by omega
       have qf1 : (5 : Int) * (ny : Int) = (f1 : Int) := by omega
       have qd : (f1 : Int) + (nx : Int) = (d : Int) := by omega
       have qf2 : (5 : Int) * (nx : Int) = (f2 : Int) := by omega
       have qs : (f2 : Int) + (x : Int) = (sr : Int) := by omega
       have qk1 : (k : Int) + 1 = (k1 : Int) := by omega
       have qk2 : (k : Int) + 2 = (k2 : Int) := by omega
       have qpr : (k1 : Int) * (k2 : Int) = (pr : Int) := by rw [epr]; simp
       have qhf : (pr : Int).tdiv 2 = (hf : Int) := (show (pr : Int).tdiv 2 = ((pr / 2 : Nat) : Int) from rfl).trans (by rw [ehf])
       have qhf' : (pr : Int) / 2 = (hf : Int) := by omega
       have qrt : (hf : Int).tmod 64 = (rt : Int) := (show (hf : Int).tmod 64 = ((hf % 64 : Nat) : Int) from rfl).trans (by rw [ert])
       have qrt' : (hf : Int) % 64 = (rt : Int) := by omega
       have w_m2 : IntKind.i64.wrap (m2 : Int) = (m2 : Int) := by rw [IntKind.wrap_i64]; omega
       have w_m3 : IntKind.i64.wrap (m3 : Int) = (m3 : Int) := by rw [IntKind.wrap_i64]; omega
       have w_m : IntKind.i64.wrap (m : Int) = (m : Int) := by rw [IntKind.wrap_i64]; omega
       have w_f1 : IntKind.i64.wrap (f1 : Int) = (f1 : Int) := by rw [IntKind.wrap_i64]; omega
       have w_d : IntKind.i64.wrap (d : Int) = (d : Int) := by rw [IntKind.wrap_i64]; omega
       have w_f2 : IntKind.i64.wrap (f2 : Int) = (f2 : Int) := by rw [IntKind.wrap_i64]; omega
       have w_sr : IntKind.i64.wrap (sr : Int) = (sr : Int) := by rw [IntKind.wrap_i64]; omega
       have w_k1 : IntKind.i64.wrap (k1 : Int) = (k1 : Int) := by rw [IntKind.wrap_i64]; omega
       have w_k2 : IntKind.i64.wrap (k2 : Int) = (k2 : Int) := by rw [IntKind.wrap_i64]; omega
       have w_pr : IntKind.i64.wrap (pr : Int) = (pr : Int) := by rw [IntKind.wrap_i64]; omega
       have w_hf : IntKind.i64.wrap (hf : Int) = (hf : Int) := by rw [IntKind.wrap_i64]; omega
       have hd25 : d < 25 := by omega
       have hs25 : sr < 25 := by omega
       have hrt : rt ≤ 63 := by omega
       have HK := Lib.hid ek1
       have id1 : (0 : Int) ≤ (d : Int) := by omega
       have id2 : (d : Int) < 25 := by omega
       have is1 : (0 : Int) ≤ (sr : Int) := by omega
       have is2 : (sr : Int) < 25 := by omega
       clear e2 e3 em ef1 ed ef2 es ek1 ek2 epr ehf ert hny2 hprb hxy1 HX2 HX1
       have hcs := (hra.cell sr).trans (laneCells_lane t sr (by omega))
       generalize rhoL t k = bb at *
       have hcd := (hrb.cell d).trans (laneCells_lane bb d (by omega))
       have hfd := hrb.free d
       obtain ⟨z, hz⟩ : ∃ z, z = trn (lane t sr) rt := ⟨_, rfl⟩
       have ht := turn_any (lane t sr) rt hrt
       rw [← hz] at ht HRS
       generalize lane t sr = ls at *
       generalize lane bb d = lb at *
       have hrb2 := hrb.set_ d (.int .u64 (z.toNat : Int))
       rw [laneCells_set] at hrb2
       have hra2 := hra.other ⟨N8, d, none⟩ (.int .u64 (z.toNat : Int)) (by show N ≠ N8; omega)
       have hrr2 := hrr.other ⟨N8, d, none⟩ (.int .u64 (z.toNat : Int)) (by show N + 1 ≠ N8; omega)
       have hbel2 := hbel.setCell (p := ⟨N8, d, none⟩) (show N ≤ N8 by omega) (.int .u64 (z.toNat : Int))
       clear hra hrr hrb hbel hz
       go_wp2_with (go_at_call 55; refine (ht _).mono ?_)
       rintro e wK ⟨rfl, rfl⟩
       go_wp2
       go_roundw
       case rel => exact ⟨k + 1, by omega, by rw [HK.out], by rw [hnx], by rw [hny], hra2, hrr2, by rw [← HK.out, HRS.out]; exact hrb2, hbel2⟩
       case measure => simp [intOf]; omega
      ·have HKc : Hid (k = 24) := Lib.hid (by omega)
       have hbl := rhoL_length t k
       obtain ⟨bb, HBE⟩ : ∃ bb, Hid (bb = rhoL t k) := ⟨_, Lib.hid rfl⟩
       rw [← HBE.out] at hrb hbl
       go_wp2
       go_loopw [14, 15, 85] (fun _ _ i wr => ∃ k : Nat, k ≤ 25 ∧ i = .int .i64 (k : Int) ∧ Row wr N 57 (laneCells (chiR t bb k)) ∧ Row wr (N + 1) 57 (laneCells (List.replicate 25 0)) ∧ Row wr N8 57 (laneCells bb) ∧ Below N w wr) (fun _ _ i _ => 25 - (intOf i).toNat)
       case atStart => exact ⟨0, Nat.zero_le _, rfl, hra, hrr, hrb, hbel⟩
       case round =>
        clear hra hrr hrb hbel
        obtain ⟨k, hk, rfl, hra, hrr, hrb, hbel⟩ := hrel
        by_cases hlt : k < 25
        ·have hcl := chiR_length t bb k
         have HS : Hid (chiR t bb (k + 1) = (chiR t bb k).set k (lane bb k ^^^ andn (lane bb (k / 5 * 5 + (k + 2) % 5)) (lane bb (k / 5 * 5 + (k + 1) % 5)))) := Lib.hid rfl
         generalize chiR t bb k = cc at *
         obtain ⟨qu, equ⟩ : ∃ m', m' = k / 5 := ⟨_, rfl⟩
         obtain ⟨row, er⟩ : ∃ m', m' = qu * 5 := ⟨_, rfl⟩
         obtain ⟨k1, ek1⟩ : ∃ m', m' = k + 1 := ⟨_, rfl⟩
         obtain ⟨k2, ek2⟩ : ∃ m', m' = k + 2 := ⟨_, rfl⟩
         obtain ⟨m1, em1⟩ : ∃ m', m' = k1 % 5 := ⟨_, rfl⟩
         obtain ⟨m2, em2⟩ : ∃ m', m' = k2 % 5 := ⟨_, rfl⟩
         obtain ⟨j1, ej1⟩ : ∃ m', m' = row + m1 := ⟨_, rfl⟩
         obtain ⟨j2, ej2⟩ : ∃ m', m' = row + m2 := ⟨_, rfl⟩
         rw [← equ, ← ek1, ← ek2, ← em1, ← em2, ← er, ← ej1, ← ej2] at HS
         have qqu : (k : Int).tdiv 5 = (qu : Int) := (show (k : Int).tdiv 5 = ((k / 5 : Nat) : Int) from rfl).trans (by rw [equ])
         have qqu' : (k : Int) / 5 = (qu : Int) := by omega
         have qrow : (qu : Int) * 5 = (row : Int) := by omega
         have qk1 : (k : Int) + 1 = (k1 : Int) := by omega
         have qk2 : (k : Int) + 2 = (k2 : Int) := by omega
         have qm1 : (k1 : Int).tmod 5 = (m1 : Int) := by rw [rem5, em1]
         have qm1' : (k1 : Int) % 5 = (m1 : Int) := by omega
         have qm2 : (k2 : Int).tmod 5 = (m2 : Int) := by rw [rem5, em2]
         have qm2' : (k2 : Int) % 5 = (m2 : Int) := by omega
         have qj1 : (row : Int) + (m1 : Int) = (j1 : Int) := by omega
         have qj2 : (row : Int) + (m2 : Int) = (j2 : Int) := by omega
         have w_qu : IntKind.i64.wrap (qu : Int) = (qu : Int) := by rw [IntKind.wrap_i64]; omega
         have w_row : IntKind.i64.wrap (row : Int) = (row : Int) := by rw [IntKind.wrap_i64]; omega
         have w_k1 : IntKind.i64.wrap (k1 : Int) = (k1 : Int) := by rw [IntKind.wrap_i64]; omega
         have w_k2 : IntKind.i64.wrap (k2 : Int) = (k2 : Int) := by rw [IntKind.wrap_i64]; omega
         have w_j1 : IntKind.i64.wrap (j1 : Int) = (j1 : Int) := by rw [IntKind.wrap_i64]; omega
         have w_j2 : IntKind.i64.wrap (j2 : Int) = (j2 : Int) := by rw [IntKind.wrap_i64]; omega
         have hj1 : j1 < 25 := by omega
         have hj2 : j2 < 25 := by omega
         have HK := Lib.hid ek1
         clear equ er ek1 ek2 em1 em2 ej1 ej2
         replace hra := hra.drew
         replace hrr := hrr.drew
         replace hrb := hrb.drew
         replace hbel := hbel.drew
         have hl0 : (laneCells bb)[k]? = some (.int .u64 ((lane bb k).toNat : Int)) := laneCells_lane _ _ (by omega)
         have hl1 : (laneCells bb)[j1]? = some (.int .u64 ((lane bb j1).toNat : Int)) := laneCells_lane _ _ (by omega)
         have hl2 : (laneCells bb)[j2]? = some (.int .u64 ((lane bb j2).toNat : Int)) := laneCells_lane _ _ (by omega)
         generalize lane bb k = b0 at *
         generalize lane bb j1 = b1 at *
         generalize lane bb j2 = b2 at *
         obtain ⟨nb1, hn1⟩ : ∃ y, Hid (y = ~~~b1) := ⟨_, Lib.hid rfl⟩
         obtain ⟨an, han⟩ : ∃ y, Hid (y = andn b2 b1) := ⟨_, Lib.hid rfl⟩
         obtain ⟨z, hz⟩ : ∃ z, Hid (z = b0 ^^^ an) := ⟨_, Lib.hid rfl⟩
         rw [← han.out, ← hz.out] at HS
         have hca := (hra.cell k).trans (laneCells_lane cc _ (by omega))
         have hfa := hra.free k
         have hra2 := hra.set_ k (.int .u64 (z.toNat : Int))
         rw [laneCells_set] at hra2
         have hrb2 := hrb.other ⟨N, k, none⟩ (.int .u64 (z.toNat : Int)) (by show N8 ≠ N; omega)
         have hrr2 := hrr.other ⟨N, k, none⟩ (.int .u64 (z.toNat : Int)) (by show N + 1 ≠ N; omega)
         have hbel2 := hbel.setCell (p := ⟨N, k, none⟩) (show N ≤ N by omega) (.int .u64 (z.toNat : Int))
         go_wp2
         refine wp_region_held_drew (S := fun w' => w'.cell? ⟨N8, k, none⟩ = some (.int .u64 (b0.toNat : Int)) ∧ w'.cell? ⟨N8, j1, none⟩ = some (.int .u64 (b1.toNat : Int)) ∧ w'.cell? ⟨N8, j2, none⟩ = some (.int .u64 (b2.toNat : Int))) (by kernel_rfl) ⟨(hrb.cell k).trans hl0, (hrb.cell j1).trans hl1, (hrb.cell j2).trans hl2⟩ (fun hSX => ?_)
         generalize wr.drew = X at *
         refine hdv 0 91 (.int .i64 (k : Int)) (by rfl) (fun w hS => by kernel_rfl) hSX ?_
         refine hdv 1 92 (.int .i64 (k : Int)) (by rfl) (fun w hS => by kernel_rfl) hSX ?_
         refine hdv 2 93 (.pointer (some ⟨N8, k, none⟩)) (by rfl) (fun w hS => run_index25 N8 k hlt rfl (by kernel_rfl) (by kernel_rfl) w) hSX ?_
         refine hdv 3 94 (.int .u64 (b0.toNat : Int)) (by rfl) (fun w hS => run_load1 rfl Tryd.underlying56 (by kernel_rfl) hS.1) hSX ?_
         refine hdv 4 95 (.int .i64 (row : Int)) (by rfl) (fun w hS => by kernel_rfl) hSX ?_
         refine hdv 5 96 (.int .i64 (k : Int)) (by rfl) (fun w hS => by kernel_rfl) hSX ?_
         refine hdv 6 97 (.int .i64 (k1 : Int)) (by rfl) (fun w hS => by go_simp) hSX ?_
         refine hdv 7 98 (.int .i64 (m1 : Int)) (by rfl) (fun w hS => by go_simp) hSX ?_
         refine hdv 8 99 (.int .i64 (j1 : Int)) (by rfl) (fun w hS => by go_simp) hSX ?_
         refine hdv 9 100 (.pointer (some ⟨N8, j1, none⟩)) (by rfl) (fun w hS => run_index25 N8 j1 hj1 rfl (by kernel_rfl) (by kernel_rfl) w) hSX ?_
         refine hdv 10 101 (.int .u64 (b1.toNat : Int)) (by rfl) (fun w hS => run_load1 rfl Tryd.underlying56 (by kernel_rfl) hS.2.1) hSX ?_
         refine hdv 11 102 (.int .u64 (nb1.toNat : Int)) (by rfl) (fun w hS => by rw [hn1.out]; exact run_notL (p := b1) rfl (by kernel_rfl)) hSX ?_
         refine hdv 12 103 (.int .i64 (row : Int)) (by rfl) (fun w hS => by kernel_rfl) hSX ?_
         refine hdv 13 104 (.int .i64 (k : Int)) (by rfl) (fun w hS => by kernel_rfl) hSX ?_
         refine hdv 14 105 (.int .i64 (k2 : Int)) (by rfl) (fun w hS => by go_simp) hSX ?_
         refine hdv 15 106 (.int .i64 (m2 : Int)) (by rfl) (fun w hS => by go_simp) hSX ?_
         refine hdv 16 107 (.int .i64 (j2 : Int)) (by rfl) (fun w hS => by go_simp) hSX ?_
         refine hdv 17 108 (.pointer (some ⟨N8, j2, none⟩)) (by rfl) (fun w hS => run_index25 N8 j2 hj2 rfl (by kernel_rfl) (by kernel_rfl) w) hSX ?_
         refine hdv 18 109 (.int .u64 (b2.toNat : Int)) (by rfl) (fun w hS => run_load1 rfl Tryd.underlying56 (by kernel_rfl) hS.2.2) hSX ?_
         refine hdv 19 110 (.int .u64 (an.toNat : Int)) (by rfl) (fun w hS => by rw [han.out, hn1.out]; exact run_andL (p := b1) (q := b2) rfl (by kernel_rfl) (by kernel_rfl)) hSX ?_
         refine hdv 20 111 (.int .u64 (z.toNat : Int)) (by rfl) (fun w hS => by rw [hz.out]; exact run_xorL (p := b0) (q := an) rfl (by kernel_rfl) (by kernel_rfl)) hSX ?_
         refine hdv 21 112 (.pointer (some ⟨N, k, none⟩)) (by rfl) (fun w hS => run_index25 N k hlt rfl (by kernel_rfl) (by kernel_rfl) w) hSX ?_
         refine held_one 22 (by kernel_rfl) ?_
         refine step_store1 22 (Op.store 56 (Operand.tmp 112) (Operand.tmp 111)) (by kernel_rfl) (by kernel_rfl) (X.setCell ⟨N, k, none⟩ (.int .u64 (z.toNat : Int))) (run_store64 z N k rfl (by kernel_rfl) (by kernel_rfl) hca hfa) ⟨⟨(hrb2.cell k).trans hl0, (hrb2.cell j1).trans hl1, (hrb2.cell j2).trans hl2⟩, ?_⟩
         refine wpAnyH_done (by kernel_rfl) ?_ _
         clear hSX hca hfa
         generalize X.setCell ⟨N, k, none⟩ (.int .u64 (z.toNat : Int)) = Y at *
         go_wp2
         go_roundw
         case rel => exact ⟨k + 1, by omega, by rw [HK.out], by rw [← HK.out, HS.out]; exact hra2, hrr2, hrb2, hbel2⟩
         case measure => simp [intOf]; omega
        ·have HKd : Hid (k = 25) := Lib.hid (by omega)
         have hcl := chiR_length t bb k
         obtain ⟨cc, HCE⟩ : ∃ cc, Hid (cc = chiR t bb k) := ⟨_, Lib.hid rfl⟩
         rw [← HCE.out] at hra hcl
         have hc25 : cc.length = 25 := hcl.trans ht25
         have HR : Hid (roundL l c = cc.set 0 (lane cc 0 ^^^ c)) := Lib.hid (by rw [HCE.out, HKd.out, HBE.out, HKc.out, HTE.out, HKb.out, HSE.out, HKa.out]; rfl)
         obtain ⟨z, hz⟩ : ∃ z, z = lane cc 0 ^^^ c := ⟨_, rfl⟩
         have hx : bits .xor .u64 ((lane cc 0).toNat : Int) (c.toNat : Int) = (z.toNat : Int) := by rw [hz]; exact u64_xor _ _
         rw [← hz] at HR
         have hca := (hra.cell 0).trans (laneCells_lane cc 0 (by omega))
         have hfa := hra.free 0
         have hNlt := hra.lt
         have hra2 := hra.set_ 0 (.int .u64 (z.toNat : Int))
         rw [laneCells_set, ← HR.out] at hra2
         have hrr2 := hrr.other ⟨N, 0, none⟩ (.int .u64 (z.toNat : Int)) (by show N + 1 ≠ N; omega)
         have hbel2 := hbel.setCell (p := ⟨N, 0, none⟩) (show N ≤ N by omega) (.int .u64 (z.toNat : Int))
         have hrl : (roundL l c).length = 25 := by rw [HR.out, List.length_set, hc25]
         generalize lane cc 0 = c0 at *
         clear hra hrr hrb hbel hz
         obtain ⟨res, HRes⟩ : ∃ res, Hid (res = roundL l c) := ⟨_, Lib.hid rfl⟩
         rw [← HRes.out] at hra2 hrl
         generalize hY : wr.setCell ⟨N, 0, none⟩ (.int .u64 (z.toNat : Int)) = Y at *
         have hNlt2 := hra2.lt
         clear hNlt
         clear HR
         go_wp2_with (first
          | refine wpList_load_any rfl 57 (.tmp 2) rfl N rfl 57 (laneCells res) (.array 25 56) hra2 Tryd.underlying57 rfl (info_l25.trans (size_lanes _ _ hrl)) ?_
          | refine wpList_store_any rfl 57 (.tmp 4) (.tmp 119) rfl (N + 1) rfl (laneCells res) rfl 57 _ hrr2 (info_l25.trans (size_lanes _ _ hrl)) (by rw [laneCells_length, laneCells_length, hrl]; rfl) (cell_oneLane _) ?_)
         intro w9 hr9 b9 _
         have hb9 := hbel2.trans (b9.under (Nat.le_of_lt hNlt2) (Nat.le_succ _))
         go_wp2
         exact ret_row Tryd.results52 rfl rfl hr9 Tryd.underlying57 rfl (info_l25.trans (size_lanes _ _ hrl)) ⟨by rw [HRes.out], hb9⟩
end Go.Proofs.YtapjiknedghhfaaDoor
