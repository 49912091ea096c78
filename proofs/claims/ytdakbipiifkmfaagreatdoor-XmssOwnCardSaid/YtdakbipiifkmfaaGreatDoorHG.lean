import Derived.Deep.MidRow
import Derived.Deep.WholeRow
import Derived.BigRegion
import Derived.BigQuiet
import Derived.Deep.RegionHeld3
import Derived.Deep.QuietTactic
import Derived.Test.YtdakbipiifkmfaaGreatDoorRows
import Derived.ProofKit
import Derived.OpenShut
import Derived.JoinedCond
import Derived.SizedLaws
import Derived.Carry
import Derived.Deep.Grids
import Derived.StillTailTactics
import Derived.Lib.ConvBytes
import Derived.Lib.AtoiErrMem
import Derived.Laws.AppendOwn
import Derived.RegionTactic
import Derived.Deep.RegionLaw
import Derived.Laws.CopyOwn
import Derived.DeepKeys
import Derived.Lib.SmallJoins
import Derived.WalkKit
import Derived.Test.YtdakbipiifkmfaaGreatDoorProg
import Derived.WalkSpells
import Derived.WalkLawsBesides
import Derived.Lib.UnsafeStr
import Derived.Lib.Hide
import Derived.Laws.BytesArg
import Derived.Deep.Draws
import Derived.ChangeAlike
import Derived.Laws.AppendOwnNone
import Derived.Test.YtdakbipiifkmfaaGreatDoorHF
namespace Go.Proofs.YtdakbipiifkmfaaGreatDoor
open Go.RowKit
set_option maxRecDepth 100000
theorem xL_eq (f : Nat) (_hf : f <= 3) : (if hN f = 24 then (51 : Int) else 67) = 2 * hN f + 3 := by
 unfold hN
 by_cases h : f = 1 ∨ f = 3
 ·rw [if_pos h]; rfl
 ·rw [if_neg h]; rfl
theorem below1P (w : World) (o : Obj) : Below w.heap.size w (w.alloc o) := Below.alloc (Below.refl _ _) (Nat.le_refl _) _
section
variable {a : Act} {x y : Operand} {op : Oper} {w : World}
theorem sub_32c {c d : Nat} {k : Int} (h : IntKind.u32.wrap ((c : Int) - k) = (d : Int)) (ho : op.op = .binOp .sub 22 x (.const (.int .u32 k)) 22) (hx : a.eval x = .int .u32 (c : Int)) : (execOp a.eval op).run Tryz.prog w = .ok (.value (.int .u32 (d : Int))) w := by
 have hc : a.eval (.const (.int .u32 k)) = .int .u32 k := rfl;unfold execOp;simp only [ho, hx, hc]
 go_simp
theorem conv_ui {d : Nat} (h : IntKind.i64.wrap (d : Int) = (d : Int)) (ho : op.op = .convert 22 3 x) (hx : a.eval x = .int .u32 (d : Int)) : (execOp a.eval op).run Tryz.prog w = .ok (.value (.int .i64 (d : Int))) w := by
 unfold execOp;simp only [ho, hx]
 go_simp
theorem quo_3 {d q : Nat} (h : q = d / 3 /\ d <= 1000) (ho : op.op = .binOp .quo 3 x (.const (.int .i64 3)) 3) (hx : a.eval x = .int .i64 (d : Int)) : (execOp a.eval op).run Tryz.prog w = .ok (.value (.int .i64 (q : Int))) w := by
 have hc : a.eval (.const (.int .i64 3)) = .int .i64 3 := rfl;have e : (d : Int).tdiv 3 = (q : Int) := by rw [Int.tdiv_eq_ediv_of_nonneg (by omega)]; omega
 have e2 : (d : Int) / 3 = (q : Int) := by omega
 have hw : IntKind.i64.wrap (q : Int) = (q : Int) := by rw [IntKind.wrap_i64]; omega
 clear h;unfold execOp;simp only [ho, hx, hc]
 go_simp
theorem rem_3 {d r : Nat} (h : r = d % 3 /\ d <= 1000) (ho : op.op = .binOp .rem 22 x (.const (.int .u32 3)) 22) (hx : a.eval x = .int .u32 (d : Int)) : (execOp a.eval op).run Tryz.prog w = .ok (.value (.int .u32 (r : Int))) w := by
 have hc : a.eval (.const (.int .u32 3)) = .int .u32 3 := rfl;have e : (d : Int).tmod 3 = (r : Int) := by rw [Int.tmod_eq_emod_of_nonneg (by omega)]; omega
 have e2 : (d : Int) % 3 = (r : Int) := by omega
 have hw : IntKind.u32.wrap (r : Int) = (r : Int) := by rw [IntKind.wrap_u32]; omega
 have hm : (r : Int) % 4294967296 = (r : Int) := by omega
 clear h;unfold execOp;simp only [ho, hx, hc]
 go_simp
theorem one_plus {f q : Nat} (h : f = 1 + q /\ q <= 1000) (ho : op.op = .binOp .add 3 (.const (.int .i64 1)) y 3) (hy : a.eval y = .int .i64 (q : Int)) : (execOp a.eval op).run Tryz.prog w = .ok (.value (.int .i64 (f : Int))) w := by
 have hc : a.eval (.const (.int .i64 1)) = .int .i64 1 := rfl;have hw : IntKind.i64.wrap (1 + (q : Int)) = (f : Int) := by rw [IntKind.wrap_i64]; omega
 clear h;unfold execOp;simp only [ho, hy, hc]
 go_simp
theorem load_i8 {p : Addr} {n : Int} (ho : op.op = .load 3 x) (hc : w.cell? p = some (.int .i64 n)) (hx : a.eval x = .pointer (some p)) : (execOp a.eval op).run Tryz.prog w = .ok (.value (.int .i64 n)) w := by
 unfold execOp;simp only [ho, hx]
 go_simp
theorem at_3 {b r : Nat} (h : r < 3) (ho : op.op = .indexAddr 91 x y) (hx : a.eval x = .slice (some ⟨b, 0, none⟩) 3 3) (hy : a.eval y = .int .u32 (r : Int)) : (execOp a.eval op).run Tryz.prog w = .ok (.value (.pointer (some ⟨b, r, none⟩))) w := by
 unfold execOp;simp only [ho, hx, hy]
 rcases (by omega : r = 0 ∨ r = 1 ∨ r = 2) with rfl | rfl | rfl <;> go_simp
end
set_option maxHeartbeats 1000000 in
theorem refXmss_A (c r : Nat) (h : Int) (hcs : 1 <= c /\ c <= 3 /\ r = c - 1) (hh : ([.int .i64 10, .int .i64 16, .int .i64 20] : List Value)[r]? = some (.int .i64 h)) (w : World) : Calls Tryz.prog 42 #[.int .u32 (c : Int)] w (OldIs (.tuple #[.agg #[.int .u32 (c : Int), .bool false, .int .i64 32, .int .i64 h, .int .i64 67], .int .i64 0]) w) := by
 unfold OldIs;have hown : ∀ W, Calls Tryz.prog 84 #[.int .u32 (c : Int), .int .u32 4043309056] W (StayIs (.tuple #[.int .i64 (rF c xB : Int), .int .i64 (rH c xB : Int), .bool (rOk c xB)]) W) := fun W => refOwn_any c 4043309056 (by omega) (by omega) W
 have hbytes : ∀ W, Calls Tryz.prog 85 #[.int .i64 0] W (StayIs (.int .i64 32) W) := fun W => bytes6_any 0 (by omega) W
 obtain ⟨ok, hok⟩ : ∃ ok, ok = rOk c xB := ⟨_, rfl⟩;obtain ⟨o1, ho1⟩ : ∃ o, o = rF c xB := ⟨_, rfl⟩;obtain ⟨o2, ho2⟩ : ∃ o, o = rH c xB := ⟨_, rfl⟩;rw [<- hok, <- ho1, <- ho2] at hown;have i0 : (1 : Int) <= (c : Int) := by omega
 have i1 : (c : Int) <= 3 := by omega
 have i2 : ¬ (13 : Int) <= (c : Int) := by omega
 have hr3 : r < 3 := by omega
 have e1 : IntKind.u32.wrap ((c : Int) - 1) = (r : Int) := by rw [IntKind.wrap_u32]; omega
 clear hok ho1 ho2 hcs;obtain ⟨W, hW⟩ : ∃ W, W = (w.alloc (.cells #[.int .u32 0, .bool false, .int .i64 0, .int .i64 0, .int .i64 0] 27)).alloc (.cells #[.int .i64 10, .int .i64 16, .int .i64 20] 3) := ⟨_, rfl⟩;obtain ⟨N, hNN⟩ : ∃ N, w.heap.size = N := ⟨_, rfl⟩;have HW : Shh (Row W N 27 [.int .u32 0, .bool false, .int .i64 0, .int .i64 0, .int .i64 0] /\ Row W (N + 1) 3 [.int .i64 10, .int .i64 16, .int .i64 20] /\ Below w.heap.size w W) := by
  refine ⟨by rw [hW]; exact (Row.new_ hNN.symm rfl).alloc _, by rw [hW]; exact Row.new_ (by rw [asz, hNN]) rfl, by rw [hW]; exact Below.chain (below1P _ _) (below1P _ _)⟩
 have HN : Shh (N <= w.heap.size /\ w.heap.size <= N) := ⟨by omega, by omega⟩;go_enter Tryz.func42, Tryz.ntmps42
 go_wp2_with (go_at_call 84; refine (hown _).mono ?_)
 unfold StayIs;rintro e w2 ⟨rfl, rfl⟩;go_wp2
 try rw [<- hW]
 refine wp_region_held_drew (S := fun w' => Row w' (N + 1) 3 [.int .i64 10, .int .i64 16, .int .i64 20]) (by kernel_rfl) HW.out.2.1.drew (fun hS => ?_);clear hS;obtain ⟨V, hV⟩ : ∃ V, V = World.drew W := ⟨_, rfl⟩;rw [<- hV];have HV : Shh (Row V N 27 [.int .u32 0, .bool false, .int .i64 0, .int .i64 0, .int .i64 0] /\ Row V (N + 1) 3 [.int .i64 10, .int .i64 16, .int .i64 20] /\ Below w.heap.size w V) := by rw [hV]; exact ⟨HW.out.1.drew, HW.out.2.1.drew, HW.out.2.2.drew⟩
 clear hV HW hW;have rW := HV.out.2.1;refine hdv0 0 22 (.slice (some ⟨N + 1, 0, none⟩) 3 3) (by rfl) (rW) ?_;refine hdv0 1 23 (.int .u32 (c : Int)) (by rfl) (rW) ?_;refine hdv 2 24 (.int .u32 (r : Int)) (by rfl) (fun w hS => sub_32c e1 rfl (by kernel_rfl)) (rW) ?_;refine hdv 3 25 (.pointer (some ⟨N + 1, r, none⟩)) (by rfl) (fun w hS => at_3 hr3 rfl (by kernel_rfl) (by kernel_rfl)) (rW) ?_;refine hdv 4 26 (.int .i64 h) (by rfl) (fun w hS => load_i8 rfl ((hS.cell r).trans hh) (by kernel_rfl)) (rW) ?_;refine hdv0 5 4 (.int .i64 0) (by rfl) (rW) ?_;refine hdv0 6 5 (.int .i64 h) (by rfl) (rW) ?_;refine hdv0 7 6 (.bool true) (by rfl) (rW) ?_;refine wpAnyH_done (by kernel_rfl) ?_ _
 go_wp2_with (go_at_call 85; refine (hbytes _).mono ?_)
 unfold StayIs;rintro e w3 ⟨rfl, rfl⟩
 go_wp2_with (refine wpList_store_any rfl 27 (.tmp 2) (.tmp 57) rfl N rfl [.int .u32 (c : Int), .bool false, .int .i64 32, .int .i64 h, .int .i64 67] rfl 27 _ HV.out.1 info_xms rfl oneCell5 ?_)
 intro Z hr bt _;have F : Shh (Row Z N 27 [.int .u32 (c : Int), .bool false, .int .i64 32, .int .i64 h, .int .i64 67] /\ Below w.heap.size w Z) := ⟨hr, HV.out.2.2.trans (bt.under (by have := HV.out.2.2.size; omega) (by have := HN.out; omega))⟩;clear hr bt HV;go_wp2;exact ret_rs Tryz.results42 rfl rfl rfl F.out.1 Tryz.underlying27 rfl info_xms ⟨rfl, F.out.2⟩
set_option maxHeartbeats 1000000 in
theorem refXmss_B (c d q f r : Nat) (h n l : Int) (s : Bool) (hcs : 13 <= c /\ c <= 21 /\ d = c - 13 /\ q = d / 3 /\ f = 1 + q /\ r = d % 3) (hn : hN f = n) (hl : l = 2 * n + 3) (hs : decide ((2 : Int) <= (f : Int)) = s) (hh : ([.int .i64 10, .int .i64 16, .int .i64 20] : List Value)[r]? = some (.int .i64 h)) (w : World) : Calls Tryz.prog 42 #[.int .u32 (c : Int)] w (OldIs (.tuple #[.agg #[.int .u32 (c : Int), .bool s, .int .i64 n, .int .i64 h, .int .i64 l], .int .i64 0]) w) := by
 unfold OldIs;have hown : ∀ W, Calls Tryz.prog 84 #[.int .u32 (c : Int), .int .u32 4043309056] W (StayIs (.tuple #[.int .i64 (rF c xB : Int), .int .i64 (rH c xB : Int), .bool (rOk c xB)]) W) := fun W => refOwn_any c 4043309056 (by omega) (by omega) W
 have hbytes : ∀ W, Calls Tryz.prog 85 #[.int .i64 (f : Int)] W (StayIs (.int .i64 n) W) := fun W => by rw [<- hn]; exact bytes6_any f (by omega) W
 obtain ⟨ok, hok⟩ : ∃ ok, ok = rOk c xB := ⟨_, rfl⟩;obtain ⟨o1, ho1⟩ : ∃ o, o = rF c xB := ⟨_, rfl⟩;obtain ⟨o2, ho2⟩ : ∃ o, o = rH c xB := ⟨_, rfl⟩;rw [<- hok, <- ho1, <- ho2] at hown;have hn2 : 0 <= n /\ n <= 32 := by rw [<- hn]; unfold hN; split <;> omega
 have i0 : (1 : Int) <= (c : Int) := by omega
 have i1 : ¬ (c : Int) <= 3 := by omega
 have i2 : (13 : Int) <= (c : Int) := by omega
 have i3 : (c : Int) <= 21 := by omega
 have hr3 : r < 3 := by omega
 have e1 : IntKind.u32.wrap ((c : Int) - 13) = (d : Int) := by rw [IntKind.wrap_u32]; omega
 have e2 : IntKind.i64.wrap (d : Int) = (d : Int) := by rw [IntKind.wrap_i64]; omega
 have e3 : Shh (q = d / 3 /\ d <= 1000) := ⟨by omega, by omega⟩;have e4 : Shh (f = 1 + q /\ q <= 1000) := ⟨by omega, by omega⟩;have e5 : Shh (r = d % 3 /\ d <= 1000) := ⟨by omega, by omega⟩;have w1 : IntKind.i64.wrap (2 * n) = 2 * n := by rw [IntKind.wrap_i64]; omega
 have w2 : IntKind.i64.wrap (2 * n + 3) = l := by rw [IntKind.wrap_i64]; omega
 clear hn hl hn2;clear hok ho1 ho2 hcs;obtain ⟨W, hW⟩ : ∃ W, W = (w.alloc (.cells #[.int .u32 0, .bool false, .int .i64 0, .int .i64 0, .int .i64 0] 27)).alloc (.cells #[.int .i64 10, .int .i64 16, .int .i64 20] 3) := ⟨_, rfl⟩;obtain ⟨N, hNN⟩ : ∃ N, w.heap.size = N := ⟨_, rfl⟩;have HW : Shh (Row W N 27 [.int .u32 0, .bool false, .int .i64 0, .int .i64 0, .int .i64 0] /\ Row W (N + 1) 3 [.int .i64 10, .int .i64 16, .int .i64 20] /\ Below w.heap.size w W) := by
  refine ⟨by rw [hW]; exact (Row.new_ hNN.symm rfl).alloc _, by rw [hW]; exact Row.new_ (by rw [asz, hNN]) rfl, by rw [hW]; exact Below.chain (below1P _ _) (below1P _ _)⟩
 have HN : Shh (N <= w.heap.size /\ w.heap.size <= N) := ⟨by omega, by omega⟩;go_enter Tryz.func42, Tryz.ntmps42
 go_wp2_with (go_at_call 84; refine (hown _).mono ?_)
 unfold StayIs;rintro e w2 ⟨rfl, rfl⟩;go_wp2
 try rw [<- hW]
 refine wp_region_held_drew (S := fun w' => Row w' (N + 1) 3 [.int .i64 10, .int .i64 16, .int .i64 20]) (by kernel_rfl) HW.out.2.1.drew (fun hS => ?_);clear hS;obtain ⟨V, hV⟩ : ∃ V, V = World.drew W := ⟨_, rfl⟩;rw [<- hV];have HV : Shh (Row V N 27 [.int .u32 0, .bool false, .int .i64 0, .int .i64 0, .int .i64 0] /\ Row V (N + 1) 3 [.int .i64 10, .int .i64 16, .int .i64 20] /\ Below w.heap.size w V) := by rw [hV]; exact ⟨HW.out.1.drew, HW.out.2.1.drew, HW.out.2.2.drew⟩
 clear hV HW hW;have rW := HV.out.2.1;refine hdv0 0 33 (.int .u32 (c : Int)) (by rfl) (rW) ?_;refine hdv 1 34 (.int .u32 (d : Int)) (by rfl) (fun w hS => sub_32c e1 rfl (by kernel_rfl)) (rW) ?_;refine hdv 2 35 (.int .i64 (d : Int)) (by rfl) (fun w hS => conv_ui e2 rfl (by kernel_rfl)) (rW) ?_;refine hdv 3 36 (.int .i64 (q : Int)) (by rfl) (fun w hS => quo_3 e3.out rfl (by kernel_rfl)) (rW) ?_;refine hdv 4 37 (.int .i64 (f : Int)) (by rfl) (fun w hS => one_plus e4.out rfl (by kernel_rfl)) (rW) ?_;refine hdv0 5 38 (.slice (some ⟨N + 1, 0, none⟩) 3 3) (by rfl) (rW) ?_;refine hdv0 6 39 (.int .u32 (c : Int)) (by rfl) (rW) ?_;refine hdv 7 40 (.int .u32 (d : Int)) (by rfl) (fun w hS => sub_32c e1 rfl (by kernel_rfl)) (rW) ?_;refine hdv 8 41 (.int .u32 (r : Int)) (by rfl) (fun w hS => rem_3 e5.out rfl (by kernel_rfl)) (rW) ?_;refine hdv 9 42 (.pointer (some ⟨N + 1, r, none⟩)) (by rfl) (fun w hS => at_3 hr3 rfl (by kernel_rfl) (by kernel_rfl)) (rW) ?_;refine hdv 10 43 (.int .i64 h) (by rfl) (fun w hS => load_i8 rfl ((hS.cell r).trans hh) (by kernel_rfl)) (rW) ?_;refine hdv0 11 4 (.int .i64 (f : Int)) (by rfl) (rW) ?_;refine hdv0 12 5 (.int .i64 h) (by rfl) (rW) ?_;refine hdv0 13 6 (.bool true) (by rfl) (rW) ?_;refine wpAnyH_done (by kernel_rfl) ?_ _
 go_wp2_with (go_at_call 85; refine (hbytes _).mono ?_)
 unfold StayIs;rintro e w3 ⟨rfl, rfl⟩
 go_wp2_with (refine wpList_store_any rfl 27 (.tmp 2) (.tmp 57) rfl N rfl [.int .u32 (c : Int), .bool s, .int .i64 n, .int .i64 h, .int .i64 l] rfl 27 _ HV.out.1 info_xms rfl oneCell5 ?_)
 intro Z hr bt _;have F : Shh (Row Z N 27 [.int .u32 (c : Int), .bool s, .int .i64 n, .int .i64 h, .int .i64 l] /\ Below w.heap.size w Z) := ⟨hr, HV.out.2.2.trans (bt.under (by have := HV.out.2.2.size; omega) (by have := HN.out; omega))⟩;clear hr bt HV;go_wp2;exact ret_rs Tryz.results42 rfl rfl rfl F.out.1 Tryz.underlying27 rfl info_xms ⟨rfl, F.out.2⟩
set_option maxHeartbeats 4000000 in
theorem refXmss_any (c : Nat) (hc : c < 4294967296) (w : World) : Calls Tryz.prog 42 #[.int .u32 (c : Int)] w (OldIs (.tuple #[xmsV c, .int .i64 (xE c)]) w) := by
 by_cases hi : 1 <= c /\ c <= 3
 ·have : c = 1 ∨ c = 2 ∨ c = 3 := by omega
  rcases this with rfl | rfl | rfl
  ·exact refXmss_A 1 0 10 (by decide) rfl w
  ·exact refXmss_A 2 1 16 (by decide) rfl w
  ·exact refXmss_A 3 2 20 (by decide) rfl w
 by_cases hi2 : 13 <= c /\ c <= 21
 ·have : c = 13 ∨ c = 14 ∨ c = 15 ∨ c = 16 ∨ c = 17 ∨ c = 18 ∨ c = 19 ∨ c = 20 ∨ c = 21 := by omega
  rcases this with rfl | rfl | rfl | rfl | rfl | rfl | rfl | rfl | rfl
  ·exact refXmss_B 13 0 0 1 0 10 24 51 false (by decide) rfl rfl rfl rfl w
  ·exact refXmss_B 14 1 0 1 1 16 24 51 false (by decide) rfl rfl rfl rfl w
  ·exact refXmss_B 15 2 0 1 2 20 24 51 false (by decide) rfl rfl rfl rfl w
  ·exact refXmss_B 16 3 1 2 0 10 32 67 true (by decide) rfl rfl rfl rfl w
  ·exact refXmss_B 17 4 1 2 1 16 32 67 true (by decide) rfl rfl rfl rfl w
  ·exact refXmss_B 18 5 1 2 2 20 32 67 true (by decide) rfl rfl rfl rfl w
  ·exact refXmss_B 19 6 2 3 0 10 24 51 true (by decide) rfl rfl rfl rfl w
  ·exact refXmss_B 20 7 2 3 1 16 24 51 true (by decide) rfl rfl rfl rfl w
  ·exact refXmss_B 21 8 2 3 2 20 24 51 true (by decide) rfl rfl rfl rfl w
 unfold OldIs xmsV;obtain ⟨W, hW⟩ : ∃ W, W = (w.alloc (.cells #[.int .u32 0, .bool false, .int .i64 0, .int .i64 0, .int .i64 0] 27)).alloc (.cells #[.int .i64 10, .int .i64 16, .int .i64 20] 3) := ⟨_, rfl⟩;obtain ⟨N, hNN⟩ : ∃ N, w.heap.size = N := ⟨_, rfl⟩;have HW : Shh (Row W N 27 [.int .u32 0, .bool false, .int .i64 0, .int .i64 0, .int .i64 0] /\ Row W (N + 1) 3 [.int .i64 10, .int .i64 16, .int .i64 20] /\ Below w.heap.size w W) := by
  have b1 : Below w.heap.size w (w.alloc (.cells #[.int .u32 0, .bool false, .int .i64 0, .int .i64 0, .int .i64 0] 27)) := below1P _ _;have b2 : Below (w.alloc (.cells #[.int .u32 0, .bool false, .int .i64 0, .int .i64 0, .int .i64 0] 27)).heap.size (w.alloc (.cells #[.int .u32 0, .bool false, .int .i64 0, .int .i64 0, .int .i64 0] 27)) W := by rw [hW]; exact below1P _ _
  exact ⟨by rw [hW]; exact (Row.new_ hNN.symm rfl).alloc _, by rw [hW]; exact Row.new_ (by rw [asz, hNN]) rfl, Below.chain b1 b2⟩
 rw [hW] at HW;clear hW;have hown : ∀ W, Calls Tryz.prog 84 #[.int .u32 (c : Int), .int .u32 4043309056] W (StayIs (.tuple #[.int .i64 (rF c xB : Int), .int .i64 (rH c xB : Int), .bool (rOk c xB)]) W) := fun W => refOwn_any c 4043309056 hc (by omega) W
 have hy := rOk_yes (c := c) (b := xB);have hn := rOk_no (c := c) (b := xB);obtain ⟨ok, hok⟩ : ∃ ok, ok = rOk c xB := ⟨_, rfl⟩;rw [<- hok] at hown hy hn;clear hok;obtain ⟨h, hh⟩ : ∃ h, h = xH c := ⟨_, rfl⟩;obtain ⟨f, hf⟩ : ∃ f, f = xF c := ⟨_, rfl⟩;have hfl : f <= 3 := by rw [hf]; exact xF_le c
 have hhl : h <= 20 := by rw [hh]; exact xH_le c
 have eF : f = ownF c xB := by rw [hf]; unfold xF; rw [if_neg hi, if_neg hi2]
 have eH : h = ownH c xB := by rw [hh]; unfold xH; rw [if_neg hi, if_neg hi2]
 cases ok with
 | true =>
  obtain ⟨y1, y2, y3⟩ := hy rfl;rw [y1, y2, <- eF, <- eH] at hown;have e1 : xC c = (c : Int) := by unfold xC; rw [if_neg (by omega)]
  have e2 : xSh c = hS f := by unfold xSh; rw [if_neg (by omega), hf]
  have e3 : xN c = hN f := by unfold xN; rw [if_neg (by omega), hf]
  have e4 : xE c = 0 := by unfold xE; rw [if_neg (by omega)]
  have e5 : xL c = 2 * hN f + 3 := by unfold xL; rw [if_neg (by omega), <- hf, xL_eq f hfl]
  rw [e1, e2, e3, e4, e5, <- hh, hS_dec hfl];clear hh hf e1 e2 e3 e4 e5 hy hn y1 y2 y3 eF eH;have hnl : 0 <= hN f /\ hN f <= 32 := by unfold hN; split <;> omega
  have hbytes : ∀ W, Calls Tryz.prog 85 #[.int .i64 (f : Int)] W (StayIs (.int .i64 (hN f)) W) := fun W => bytes6_any f hfl W
  obtain ⟨nn, hnn⟩ : ∃ nn, nn = hN f := ⟨_, rfl⟩;rw [<- hnn] at hbytes hnl ⊢;clear hnn;have w1 : IntKind.i64.wrap (2 * nn) = 2 * nn := by rw [IntKind.wrap_i64]; omega
  have w2 : IntKind.i64.wrap (2 * nn + 3) = 2 * nn + 3 := by rw [IntKind.wrap_i64]; omega
  by_cases hq : c < 1
  ·skip
   have i0 : ¬ (1 : Int) <= (c : Int) := by omega
   have i1 : ¬ (13 : Int) <= (c : Int) := by omega
   clear hi hi2;go_enter Tryz.func42, Tryz.ntmps42
   go_wp2_with (go_at_call 84; refine (hown _).mono ?_)
   unfold StayIs;rintro e w2 ⟨rfl, rfl⟩
   go_wp2_with (go_at_call 85; refine (hbytes _).mono ?_)
   unfold StayIs;rintro e w3 ⟨rfl, rfl⟩
   go_wp2_with (refine wpList_store_any rfl 27 (.tmp 2) (.tmp 57) rfl N rfl [.int .u32 (c : Int), .bool (decide ((2 : Int) <= (f : Int))), .int .i64 nn, .int .i64 (h : Int), .int .i64 (2 * nn + 3)] rfl 27 _ HW.out.1 info_xms rfl oneCell5 ?_)
   intro Z hr bt _;have F : Shh (Row Z N 27 [.int .u32 (c : Int), .bool (decide ((2 : Int) <= (f : Int))), .int .i64 nn, .int .i64 (h : Int), .int .i64 (2 * nn + 3)] /\ Below w.heap.size w Z) := ⟨hr, HW.out.2.2.trans (bt.under (by omega) (by omega))⟩;clear hr bt HW;go_wp2;exact ret_rs Tryz.results42 rfl rfl rfl F.out.1 Tryz.underlying27 rfl info_xms ⟨rfl, F.out.2⟩
  by_cases hq : c < 13
  ·skip
   have i0 : (1 : Int) <= (c : Int) := by omega
   have i1 : ¬ (c : Int) <= 3 := by omega
   have i2 : ¬ (13 : Int) <= (c : Int) := by omega
   clear hi hi2;go_enter Tryz.func42, Tryz.ntmps42
   go_wp2_with (go_at_call 84; refine (hown _).mono ?_)
   unfold StayIs;rintro e w2 ⟨rfl, rfl⟩
   go_wp2_with (go_at_call 85; refine (hbytes _).mono ?_)
   unfold StayIs;rintro e w3 ⟨rfl, rfl⟩
   go_wp2_with (refine wpList_store_any rfl 27 (.tmp 2) (.tmp 57) rfl N rfl [.int .u32 (c : Int), .bool (decide ((2 : Int) <= (f : Int))), .int .i64 nn, .int .i64 (h : Int), .int .i64 (2 * nn + 3)] rfl 27 _ HW.out.1 info_xms rfl oneCell5 ?_)
   intro Z hr bt _;have F : Shh (Row Z N 27 [.int .u32 (c : Int), .bool (decide ((2 : Int) <= (f : Int))), .int .i64 nn, .int .i64 (h : Int), .int .i64 (2 * nn + 3)] /\ Below w.heap.size w Z) := ⟨hr, HW.out.2.2.trans (bt.under (by omega) (by omega))⟩;clear hr bt HW;go_wp2;exact ret_rs Tryz.results42 rfl rfl rfl F.out.1 Tryz.underlying27 rfl info_xms ⟨rfl, F.out.2⟩
  have i0 : (1 : Int) <= (c : Int) := by omega
  have i1 : ¬ (c : Int) <= 3 := by omega
  have i2 : (13 : Int) <= (c : Int) := by omega
  have i3 : ¬ (c : Int) <= 21 := by omega
  clear hi hi2;go_enter Tryz.func42, Tryz.ntmps42
  go_wp2_with (go_at_call 84; refine (hown _).mono ?_)
  unfold StayIs;rintro e w2 ⟨rfl, rfl⟩
  go_wp2_with (go_at_call 85; refine (hbytes _).mono ?_)
  unfold StayIs;rintro e w3 ⟨rfl, rfl⟩
  go_wp2_with (refine wpList_store_any rfl 27 (.tmp 2) (.tmp 57) rfl N rfl [.int .u32 (c : Int), .bool (decide ((2 : Int) <= (f : Int))), .int .i64 nn, .int .i64 (h : Int), .int .i64 (2 * nn + 3)] rfl 27 _ HW.out.1 info_xms rfl oneCell5 ?_)
  intro Z hr bt _;have F : Shh (Row Z N 27 [.int .u32 (c : Int), .bool (decide ((2 : Int) <= (f : Int))), .int .i64 nn, .int .i64 (h : Int), .int .i64 (2 * nn + 3)] /\ Below w.heap.size w Z) := ⟨hr, HW.out.2.2.trans (bt.under (by omega) (by omega))⟩;clear hr bt HW;go_wp2;exact ret_rs Tryz.results42 rfl rfl rfl F.out.1 Tryz.underlying27 rfl info_xms ⟨rfl, F.out.2⟩
 | false =>
  have y3 := hn rfl;have e1 : xC c = 0 := by unfold xC; rw [if_pos (by omega)]
  have e2 : xSh c = false := by unfold xSh; rw [if_pos (by omega)]
  have e3 : xN c = 0 := by unfold xN; rw [if_pos (by omega)]
  have e4 : xE c = 60 := by unfold xE; rw [if_pos (by omega)]
  have e6 : xL c = 0 := by unfold xL; rw [if_pos (by omega)]
  have e5 : xH c = 0 := by omega
  rw [e1, e2, e3, e4, e5, e6];clear hh hf e1 e2 e3 e4 e5 e6 hy hn y3 eF eH
  by_cases hq : c < 1
  ·skip
   have i0 : ¬ (1 : Int) <= (c : Int) := by omega
   have i1 : ¬ (13 : Int) <= (c : Int) := by omega
   clear hi hi2;go_enter Tryz.func42, Tryz.ntmps42
   go_wp2_with (go_at_call 84; refine (hown _).mono ?_)
   unfold StayIs;rintro e w2 ⟨rfl, rfl⟩
   go_wp2_with (refine wpList_store_any rfl 27 (.tmp 2) (.tmp 46) rfl N rfl [.int .u32 0, .bool false, .int .i64 0, .int .i64 0, .int .i64 0] rfl 27 _ HW.out.1 info_xms rfl oneCell5 ?_)
   intro Z hr bt _;have F : Shh (Row Z N 27 [.int .u32 0, .bool false, .int .i64 0, .int .i64 0, .int .i64 0] /\ Below w.heap.size w Z) := ⟨hr, HW.out.2.2.trans (bt.under (by omega) (by omega))⟩;clear hr bt HW;go_wp2;exact ret_rs Tryz.results42 rfl rfl rfl F.out.1 Tryz.underlying27 rfl info_xms ⟨rfl, F.out.2⟩
  by_cases hq : c < 13
  ·skip
   have i0 : (1 : Int) <= (c : Int) := by omega
   have i1 : ¬ (c : Int) <= 3 := by omega
   have i2 : ¬ (13 : Int) <= (c : Int) := by omega
   clear hi hi2;go_enter Tryz.func42, Tryz.ntmps42
   go_wp2_with (go_at_call 84; refine (hown _).mono ?_)
   unfold StayIs;rintro e w2 ⟨rfl, rfl⟩
   go_wp2_with (refine wpList_store_any rfl 27 (.tmp 2) (.tmp 46) rfl N rfl [.int .u32 0, .bool false, .int .i64 0, .int .i64 0, .int .i64 0] rfl 27 _ HW.out.1 info_xms rfl oneCell5 ?_)
   intro Z hr bt _;have F : Shh (Row Z N 27 [.int .u32 0, .bool false, .int .i64 0, .int .i64 0, .int .i64 0] /\ Below w.heap.size w Z) := ⟨hr, HW.out.2.2.trans (bt.under (by omega) (by omega))⟩;clear hr bt HW;go_wp2;exact ret_rs Tryz.results42 rfl rfl rfl F.out.1 Tryz.underlying27 rfl info_xms ⟨rfl, F.out.2⟩
  have i0 : (1 : Int) <= (c : Int) := by omega
  have i1 : ¬ (c : Int) <= 3 := by omega
  have i2 : (13 : Int) <= (c : Int) := by omega
  have i3 : ¬ (c : Int) <= 21 := by omega
  clear hi hi2;go_enter Tryz.func42, Tryz.ntmps42
  go_wp2_with (go_at_call 84; refine (hown _).mono ?_)
  unfold StayIs;rintro e w2 ⟨rfl, rfl⟩
  go_wp2_with (refine wpList_store_any rfl 27 (.tmp 2) (.tmp 46) rfl N rfl [.int .u32 0, .bool false, .int .i64 0, .int .i64 0, .int .i64 0] rfl 27 _ HW.out.1 info_xms rfl oneCell5 ?_)
  intro Z hr bt _;have F : Shh (Row Z N 27 [.int .u32 0, .bool false, .int .i64 0, .int .i64 0, .int .i64 0] /\ Below w.heap.size w Z) := ⟨hr, HW.out.2.2.trans (bt.under (by omega) (by omega))⟩;clear hr bt HW;go_wp2;exact ret_rs Tryz.results42 rfl rfl rfl F.out.1 Tryz.underlying27 rfl info_xms ⟨rfl, F.out.2⟩
theorem wl_wanted {P : Program} {ops : Array Oper} {rest : List Oper} {o : Oper} {a : Act} {w : World} {Q : Exit -> Act -> World -> Prop} (hw : Region.wanted o (yielded ops a.tmps) = true)
  (h : ∀ K : Act -> World -> Prop, (∀ a w, wpList P ops Q rest a w -> K a w) -> o.wp P a w K Q) : wpList P ops Q (o :: rest) a w :=
 wpList_step fun K hK => by rw [if_pos hw]; exact h K hK
theorem wl_loadW {P : Program} {ops : Array Oper} {rest : List Oper} {o : Oper} {a : Act} {w : World} {Q : Exit -> Act -> World -> Prop} (ty : TypeId) (x : Operand) (ho : o.op = .load ty x)
  (g : Nat) (hx : a.eval x = .pointer (some ⟨g, 0, none⟩)) (t : TypeId) (cs : List Value) (d : TypeDesc) (hw : Region.wanted o (yielded ops a.tmps) = true) (hr : Row w g t cs)
  (hu : P.underlying ty = some d) (hd : (match d with | .struct _ | .array _ _ => true | _ => false) = true) (hi : (P.info? ty).map (·.size) = some cs.length)
  (h : wpList P ops Q rest (a.put o.dst (.agg cs.toArray)) w) : wpList P ops Q (o :: rest) a w :=
 wl_wanted hw fun _ hK => wp_load_row ty x ho g hx t cs.toArray (0, 0) d hr hu hd (by simpa using hi) (hK _ _ h)
theorem wl_eqlW {P : Program} {ops : Array Oper} {rest : List Oper} {o : Oper} {a : Act} {w : World} {Q : Exit -> Act -> World -> Prop} (T U : TypeId) (x y : Operand) (ho : o.op = .binOp .eql T x y U)
  (p q : Array Value) (hx : a.eval x = .agg p) (hy : a.eval y = .agg q) (hw : Region.wanted o (yielded ops a.tmps) = true) (hg : P.eqGuardType P.depth T = false) (r : Bool) (heq : (Op.equalIn 10000 T (.agg p) (.agg q)).run P w = .ok r w)
  (h : wpList P ops Q rest (a.put o.dst (.bool r)) w) : wpList P ops Q (o :: rest) a w := by
 refine wl_wanted hw fun K hK => ?_
 obtain ⟨dst, op, ty, pos, after, guard⟩ := o;obtain rfl := ho;have hrun := run_eql_agg (P := P) (w := w) (x := x) (y := y) (ρ := a.eval) (p := p) (q := q) (T := T) (U := U) (ty := ty) (d := dst) (r := r) hg heq hx hy;have hrun' : (execOp a.eval ⟨dst, .binOp .eql T x y U, ty, pos, after, guard⟩).run P w = .ok (.value (.bool r)) w := by
  rw [<- hrun];unfold execOp;rfl
 unfold Oper.wp;rw [hrun', Oper.upon_value];exact hK _ _ h
theorem wf32 {x : Int} (h0 : 0 <= x) (h1 : x <= 4294967295) : (Lit.int .u32 x).wf = true := by
 simp [Lit.wf, IntKind.min, IntKind.max, IntKind.signed, IntKind.bits];omega
theorem wf64 {x : Int} (h0 : -9223372036854775808 <= x) (h1 : x <= 9223372036854775807) : (Lit.int .i64 x).wf = true := by
 simp [Lit.wf, IntKind.min, IntKind.max, IntKind.signed, IntKind.bits];omega
theorem cells_u32' : Tryz.prog.cellsOf 22 = 1 := by kernel_rfl
theorem cells_bool' : Tryz.prog.cellsOf 4 = 1 := by kernel_rfl
theorem cells_int' : Tryz.prog.cellsOf 3 = 1 := by kernel_rfl
theorem key_xms (xc : Int) (xs : Bool) (xn xh xl : Int) (hxc : (Lit.int .u32 xc).wf = true) (hxn : (Lit.int .i64 xn).wf = true) (hxh : (Lit.int .i64 xh).wf = true) (hxl : (Lit.int .i64 xl).wf = true) :
  Tryz.prog.keyLits 3 27 [.int .u32 xc, .bool xs, .int .i64 xn, .int .i64 xh, .int .i64 xl] = some [.int .u32 xc, .bool xs, .int .i64 xn, .int .i64 xh, .int .i64 xl] := by
 have hz : Tryz.prog.cellsOf 27 = 5 := by kernel_rfl
 unfold Program.keyLits;simp only [Tryz.underlying27, hz];simp [cells_u32', cells_bool', cells_int', Program.keyLits, Tryz.underlying22, Tryz.underlying4, Tryz.underlying3, hxc, hxn, hxh, hxl]
theorem eq_xms (xc : Int) (xs : Bool) (xn xh xl : Int) (yc : Int) (ys : Bool) (yn yh yl : Int) (hxc : (Lit.int .u32 xc).wf = true) (hxn : (Lit.int .i64 xn).wf = true) (hxh : (Lit.int .i64 xh).wf = true) (hxl : (Lit.int .i64 xl).wf = true) (hyc : (Lit.int .u32 yc).wf = true) (hyn : (Lit.int .i64 yn).wf = true) (hyh : (Lit.int .i64 yh).wf = true) (hyl : (Lit.int .i64 yl).wf = true) (w : World) :
  (Op.equalIn 10000 27 (.agg #[.int .u32 xc, .bool xs, .int .i64 xn, .int .i64 xh, .int .i64 xl]) (.agg #[.int .u32 yc, .bool ys, .int .i64 yn, .int .i64 yh, .int .i64 yl])).run Tryz.prog w = .ok (decide (xc = yc /\ xs = ys /\ xn = yn /\ xh = yh /\ xl = yl)) w := by
 obtain ⟨r, hr, hi⟩ := run_equalIn_deep 9998 2 27 (by kernel_rfl) w 3 3 (.agg #[.int .u32 xc, .bool xs, .int .i64 xn, .int .i64 xh, .int .i64 xl]) (.agg #[.int .u32 yc, .bool ys, .int .i64 yn, .int .i64 yh, .int .i64 yl]) _ _ (by kernel_rfl) (by kernel_rfl) (key_xms xc xs xn xh xl hxc hxn hxh hxl) (key_xms yc ys yn yh yl hyc hyn hyh hyl);have hb : r = decide (xc = yc /\ xs = ys /\ xn = yn /\ xh = yh /\ xl = yl) := by
  by_cases h : xc = yc /\ xs = ys /\ xn = yn /\ xh = yh /\ xl = yl
  ·rw [decide_eq_true h];refine hi.2 ?_;obtain ⟨rfl, rfl, rfl, rfl, rfl⟩ := h;rfl
  ·rw [decide_eq_false h];cases r with
   | false => rfl
   | true =>
    refine absurd ?_ h;have h2 := hi.1 rfl
    simpa using h2
 rw [<- hb];exact hr
theorem MayXmss_of (xc : Int) (xs : Bool) (xn xh xl : Int) (yc : Int) (ys : Bool) (yn yh yl : Int) (ee : Int) (hxc : (Lit.int .u32 xc).wf = true) (hxn : (Lit.int .i64 xn).wf = true) (hxh : (Lit.int .i64 xh).wf = true) (hxl : (Lit.int .i64 xl).wf = true) (hyc : (Lit.int .u32 yc).wf = true) (hyn : (Lit.int .i64 yn).wf = true) (hyh : (Lit.int .i64 yh).wf = true) (hyl : (Lit.int .i64 yl).wf = true) (hset : ∀ W, Calls Tryz.prog 42 #[.int .u32 xc] W (OldIs (.tuple #[.agg #[.int .u32 yc, .bool ys, .int .i64 yn, .int .i64 yh, .int .i64 yl], .int .i64 ee]) W)) (w : World) :
  Calls Tryz.prog 48 #[.agg #[.int .u32 xc, .bool xs, .int .i64 xn, .int .i64 xh, .int .i64 xl]] w (OldIs (.bool (decide (ee = 0 /\ (xc = yc /\ xs = ys /\ xn = yn /\ xh = yh /\ xl = yl)))) w) := by
 unfold OldIs;have HW : Shh (Row (w.alloc (.cells #[.int .u32 xc, .bool xs, .int .i64 xn, .int .i64 xh, .int .i64 xl] 27)) w.heap.size 27 [.int .u32 xc, .bool xs, .int .i64 xn, .int .i64 xh, .int .i64 xl] /\ Below w.heap.size w (w.alloc (.cells #[.int .u32 xc, .bool xs, .int .i64 xn, .int .i64 xh, .int .i64 xl] 27))) := ⟨Row.new_ rfl rfl, Below.alloc (Below.refl _ _) (Nat.le_refl _) _⟩
 by_cases he : ee = 0
 ·subst he;have hres : decide ((0 : Int) = 0 /\ (xc = yc /\ xs = ys /\ xn = yn /\ xh = yh /\ xl = yl)) = decide (xc = yc /\ xs = ys /\ xn = yn /\ xh = yh /\ xl = yl) := by
   refine decide_eq_decide.2 ⟨fun h => ?_, fun h => ?_⟩
   ·obtain ⟨_, rfl, rfl, rfl, rfl, rfl⟩ := h;exact ⟨rfl, rfl, rfl, rfl, rfl⟩
   ·obtain ⟨rfl, rfl, rfl, rfl, rfl⟩ := h;exact ⟨rfl, rfl, rfl, rfl, rfl, rfl⟩
  have heq := fun W : World => eq_xms xc xs xn xh xl yc ys yn yh yl hxc hxn hxh hxl hyc hyn hyh hyl W
  rw [hres];generalize decide (xc = yc /\ xs = ys /\ xn = yn /\ xh = yh /\ xl = yl) = r at heq ⊢;clear hres;go_enter Tryz.func48, Tryz.ntmps48
  go_wp2_with (go_at_call 42; refine (hset _).mono ?_)
  unfold OldIs;rintro e w2 ⟨rfl, b2⟩;have F2 : Shh (Row w2 w.heap.size 27 [.int .u32 xc, .bool xs, .int .i64 xn, .int .i64 xh, .int .i64 xl] /\ Below w.heap.size w w2) := ⟨HW.out.1.go b2, Below.chain HW.out.2 b2⟩;clear HW b2 hset;obtain ⟨G, hG⟩ : ∃ G, Shh (G = w2.heap.size) := ⟨_, ⟨rfl⟩⟩
  go_wp2_with (refine wpList_store_any rfl 27 (.tmp 3) (.tmp 9) rfl G (by rw [hG.out]; rfl) [.int .u32 yc, .bool ys, .int .i64 yn, .int .i64 yh, .int .i64 yl] rfl 27 _ (Row.new_ hG.out rfl) info_xms rfl oneCell5 ?_)
  intro Z hr bt _;have F3 : Shh (Row Z w.heap.size 27 [.int .u32 xc, .bool xs, .int .i64 xn, .int .i64 xh, .int .i64 xl] /\ Row Z G 27 [.int .u32 yc, .bool ys, .int .i64 yn, .int .i64 yh, .int .i64 yl] /\ Below w.heap.size w Z) := by
   have hl := F2.out.1.lt;refine ⟨bt.row (F2.out.1.alloc _) (by first | omega | (simp only [asz]; omega)) (by have := hG.out; omega), hr, Below.chain F2.out.2 ?_⟩;exact (Below.alloc (Below.refl _ _) (Nat.le_refl _) _).trans (bt.under (by first | omega | (simp only [asz]; omega)) (by have := hG.out; omega))
  rw [<- hG.out];clear hr bt F2 hG
  go_wp2_with (first | refine wl_loadW 27 (.tmp 1) rfl w.heap.size rfl 27 [.int .u32 xc, .bool xs, .int .i64 xn, .int .i64 xh, .int .i64 xl] _ rfl F3.out.1 Tryz.underlying27 rfl info_xms ?_ | refine wl_loadW 27 (.tmp 3) rfl G rfl 27 [.int .u32 yc, .bool ys, .int .i64 yn, .int .i64 yh, .int .i64 yl] _ rfl F3.out.2.1 Tryz.underlying27 rfl info_xms ?_ | refine wl_eqlW 27 27 (.tmp 14) (.tmp 15) rfl #[.int .u32 xc, .bool xs, .int .i64 xn, .int .i64 xh, .int .i64 xl] #[.int .u32 yc, .bool ys, .int .i64 yn, .int .i64 yh, .int .i64 yl] rfl rfl rfl (by kernel_rfl) r (heq _) ?_)
  go_ret;exact ⟨rfl, F3.out.2.2⟩
 ·have hres : (decide (ee = 0 /\ (xc = yc /\ xs = ys /\ xn = yn /\ xh = yh /\ xl = yl))) = false := decide_eq_false fun h => he h.1
  rw [hres];clear hres;go_enter Tryz.func48, Tryz.ntmps48
  go_wp2_with (go_at_call 42; refine (hset _).mono ?_)
  unfold OldIs;rintro e w2 ⟨rfl, b2⟩;have F2 : Shh (Row w2 w.heap.size 27 [.int .u32 xc, .bool xs, .int .i64 xn, .int .i64 xh, .int .i64 xl] /\ Below w.heap.size w w2) := ⟨HW.out.1.go b2, Below.chain HW.out.2 b2⟩;clear HW b2 hset;obtain ⟨G, hG⟩ : ∃ G, Shh (G = w2.heap.size) := ⟨_, ⟨rfl⟩⟩
  go_wp2_with (refine wpList_store_any rfl 27 (.tmp 3) (.tmp 9) rfl G (by rw [hG.out]; rfl) [.int .u32 yc, .bool ys, .int .i64 yn, .int .i64 yh, .int .i64 yl] rfl 27 _ (Row.new_ hG.out rfl) info_xms rfl oneCell5 ?_)
  intro Z hr bt _;have F3 : Shh (True /\ Below w.heap.size w Z) := by
   refine ⟨trivial, Below.chain F2.out.2 ?_⟩;exact (Below.alloc (Below.refl _ _) (Nat.le_refl _) _).trans (bt.under (by first | omega | (simp only [asz]; omega)) (by have := hG.out; omega))
  clear hr bt F2 hG;go_wp2;go_ret;exact ⟨rfl, F3.out.2⟩
end Go.Proofs.YtdakbipiifkmfaaGreatDoor
