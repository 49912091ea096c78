import Derived.WalkKit
import Derived.Test.YtdakbipiifkmfaaGreatDoorProg
import Derived.WalkSpells
import Derived.WalkLawsBesides
import Derived.Lib.UnsafeStr
import Derived.Lib.Hide
import Derived.Laws.BytesArg
import Derived.Deep.Draws
import Derived.RegionTactic
import Derived.ChangeAlike
import Derived.Laws.AppendOwnNone
import Derived.BigQuiet
import Derived.Deep.QuietTactic
import Derived.Lib.ConvBytes
import Derived.Lib.AtoiErrMem
import Derived.Laws.AppendOwn
import Derived.Test.YtdakbipiifkmfaaGreatDoorRows
import Derived.ProofKit
import Derived.OpenShut
import Derived.JoinedCond
import Derived.SizedLaws
import Derived.Carry
import Derived.Deep.Grids
import Derived.Deep.RegionHeld3
import Derived.Laws.CopyOwn
import Derived.Deep.RegionLaw
import Derived.DeepKeys
import Derived.Lib.SmallJoins
import Derived.StillTailTactics
import Derived.BigRegion
import Derived.Deep.RegionWith
import Derived.Deep.RegionHeld
import Derived.Laws.Cover3
import Derived.Deep.MidRow
import Derived.Deep.WholeRow
import Derived.RangeFuncNested
import Derived.RangeFuncBound
import Derived.RangeFuncCalls
import Derived.RangeFuncLeaves
import Derived.OwnWalkIn
import Derived.TacticsInMore
import Derived.LoopNIn
import Derived.LoopIn
import Derived.RangeFuncBox
import Derived.RangeFuncWrites
import Derived.Maps.AppendAt
import Derived.Laws.EntriesVeiled
import Derived.Lib.SliceRun
import Derived.Test.YtdakbipiifkmfaaGreatDoorGP13
import Derived.Test.YtdakbipiifkmfaaGreatDoorGSbx
namespace Go.Proofs.YtdakbipiifkmfaaGreatDoor
open Go.RowKit
set_option maxRecDepth 100000
theorem rowB_node (s : Bool) (n : Int) (L H : Nat) (sd pb : List UInt8) : ∀ h, h <= H -> ∀ i, i < 2 ^ (H - h) -> (rowB s n L H sd pb h)[i]? = some (nodeV s n L sd pb h i)
 | 0, _, i, hi => by
  rw [rowB_zero, List.getElem?_map, List.getElem?_range (by simpa using hi)];rfl
 | h + 1, hh, i, hi => by
  have e : H - h = (H - (h + 1)) + 1 := by omega
  have hl := rowB_length s n L H sd pb h (by omega);have ih := rowB_node s n L H sd pb h (by omega);rw [e, Nat.pow_succ] at hl ih;show (pairs (rwF s n pb h) 0 (rowB s n L H sd pb h))[i]? = _;rw [pairs_get _ i 0 _ (by omega), Nat.zero_add, List.getD_eq_getElem?_getD, ih (2 * i) (by omega), List.getD_eq_getElem?_getD, ih (2 * i + 1) (by omega)];rfl
theorem rootB_node (s : Bool) (n : Int) (L H : Nat) (sd pb : List UInt8) : rootB s n L H sd pb = nodeV s n L sd pb H 0 := by
 have h := rowB_node s n L H sd pb H (Nat.le_refl _) 0 (Nat.two_pow_pos _);rw [rowB_root] at h;exact Option.some.inj h
theorem nodeV_length {x : S5} (hx : x.ok = true) (sd pb : List UInt8) (h i : Nat) : (nodeV x.s x.n x.l.toNat sd pb h i).length = x.n.toNat := by
 cases h with
 | zero => exact leafB_length hx sd pb i
 | succ h => exact nodeB_length hx _ _ _ _
section
variable {V : Nat -> Nat -> List UInt8} {o : Nat -> Nat}
theorem stk_high : ∀ f h q, ∀ e ∈ stkL V o f h q, h <= e.1
 | 0, _, _, e, he => by cases he
 | f + 1, h, q, e, he => by
  rcases List.mem_append.1 (show e ∈ stkL V o f (h + 1) (q / 2) ++ _ from he) with h1 | h1
  ·have := stk_high f (h + 1) (q / 2) e h1;omega
  ·split at h1
   ·rw [List.mem_singleton.1 h1]; exact Nat.le_refl _
   ·cases h1
theorem stk_low : ∀ d f h q, stkL V o (d + f) h (2 ^ d * q) = stkL V o f (h + d) q
 | 0, f, h, q => by rw [Nat.pow_zero, Nat.one_mul, Nat.zero_add, Nat.add_zero]
 | d + 1, f, h, q => by
  have e : d + 1 + f = (d + f) + 1 := by omega
  have e2 : 2 ^ (d + 1) * q = 2 * (2 ^ d * q) := by rw [Nat.pow_succ, Nat.mul_comm (2 ^ d) 2, Nat.mul_assoc]
  rw [e, e2, stk_even _ _ _ (by omega), Nat.mul_div_cancel_left _ (by decide), stk_low d f (h + 1) q]
  congr 1
  omega
theorem stk_put (f h q : Nat) (hq : q % 2 = 0) : stkL V o (f + 1) h (q + 1) = stkL V o (f + 1) h q ++ [(h, V h (o h + q))] := by
 rw [stk_odd f h (q + 1) (by omega), stk_even f h q hq];have e : (q + 1) / 2 = q / 2 := by omega
 rw [e];rfl
end
theorem offK_two (K i h : Nat) (hh : h < K) : offK K i h = 2 * offK K i (h + 1) := by
 unfold offK;have e : K - h = (K - (h + 1)) + 1 := by omega
 rw [e, Nat.pow_succ, <- Nat.mul_assoc, Nat.mul_comm]
def stkH (s : Bool) (n : Int) (L : Nat) (sd pb : List UInt8) (K i h q : Nat) : List (Nat × List UInt8) := stkL (nodeV s n L sd pb) (offK K i) (K + 1 - h) h q
theorem two_pow_lt {h K : Nat} (hlt : 2 ^ h * 2 <= 2 ^ K) : h < K := by
 refine Classical.byContradiction fun hn => ?_
 have h1 : 2 ^ K <= 2 ^ h := Nat.pow_le_pow_right (by decide) (by omega);have h2 : 0 < 2 ^ h := Nat.two_pow_pos h;omega
theorem stk_step (s : Bool) (n : Int) (L : Nat) (sd pb : List UInt8) (K i m h q : Nat) (hm : m < 2 ^ K) (he : m + 1 = 2 ^ h * (q + 1)) (hq : q % 2 = 1) :
  h < K /\ m + 1 = 2 ^ (h + 1) * (q / 2 + 1) /\ (i * 2 ^ K + m) / 2 ^ (h + 1) = offK K i (h + 1) + q / 2 /\
  stkH s n L sd pb K i h q = stkH s n L sd pb K i (h + 1) (q / 2) ++ [(h, nodeV s n L sd pb h (offK K i h + q - 1))] /\
  rwF s n pb h (offK K i (h + 1) + q / 2) (nodeV s n L sd pb h (offK K i h + q - 1)) (nodeV s n L sd pb h (offK K i h + q)) = nodeV s n L sd pb (h + 1) (offK K i (h + 1) + q / 2) := by
 obtain ⟨p, rfl⟩ : ∃ p, q = 2 * p + 1 := ⟨q / 2, by omega⟩;have hp2 : (2 * p + 1) / 2 = p := by omega
 rw [hp2];have e1 : m + 1 = 2 ^ (h + 1) * (p + 1) := by
  rw [he, Nat.pow_succ, Nat.mul_assoc]
  congr 1
 have hK : h < K := two_pow_lt (by
  have h1 : 2 ^ (h + 1) * 1 <= 2 ^ (h + 1) * (p + 1) := Nat.mul_le_mul_left _ (by omega);rw [Nat.pow_succ] at h1 e1
  omega)
 refine ⟨hK, e1, ?_, ?_, ?_⟩
 ·have ek : 2 ^ K = 2 ^ (h + 1) * 2 ^ (K - (h + 1)) := by rw [<- Nat.pow_add]; congr 1; omega
  have ei : i * 2 ^ K = 2 ^ (h + 1) * offK K i (h + 1) := by unfold offK; rw [ek, Nat.mul_left_comm]
  have hpos : 0 < 2 ^ (h + 1) := Nat.two_pow_pos _;generalize 2 ^ (h + 1) = T at e1 ei hpos;generalize offK K i (h + 1) = O at ei;rw [ei, show T * O + m = T * (O + p) + (T - 1) by rw [Nat.mul_add]; rw [Nat.mul_add] at e1; omega, Nat.mul_add_div hpos, Nat.div_eq_of_lt (by omega), Nat.add_zero]
 ·unfold stkH;have e : K + 1 - h = (K + 1 - (h + 1)) + 1 := by omega
  rw [e, stk_odd _ _ _ (by omega), hp2]
 ·rw [offK_two K i h hK];have e2 : 2 * offK K i (h + 1) + (2 * p + 1) - 1 = 2 * (offK K i (h + 1) + p) := by omega
  have e3 : 2 * offK K i (h + 1) + (2 * p + 1) = 2 * (offK K i (h + 1) + p) + 1 := by omega
  rw [e2, e3];rfl
theorem stk_end (s : Bool) (n : Int) (L : Nat) (sd pb : List UInt8) (K i m h q : Nat) (hm : m < 2 ^ K) (he : m + 1 = 2 ^ h * (q + 1)) (hq : q % 2 = 0) :
  stkH s n L sd pb K i h q ++ [(h, nodeV s n L sd pb h (offK K i h + q))] = stkA s n L sd pb K i (m + 1) /\ ∀ e ∈ stkH s n L sd pb K i h q, e.1 ≠ h := by
 have hK : h <= K := by
  refine Classical.byContradiction fun hn => ?_
  have h1 : 2 ^ (K + 1) <= 2 ^ h := Nat.pow_le_pow_right (by decide) (by omega);have h2 : 2 ^ h * 1 <= 2 ^ h * (q + 1) := Nat.mul_le_mul_left _ (by omega);have h3 : 0 < 2 ^ K := Nat.two_pow_pos K;rw [Nat.pow_succ] at h1;omega
 have e : K + 1 - h = (K - h) + 1 := by omega
 unfold stkH stkA;rw [e];refine ⟨?_, ?_⟩
 ·rw [<- stk_put _ _ _ hq, he, show K + 1 = h + (K - h + 1) by omega, stk_low h (K - h + 1) 0 (q + 1), Nat.zero_add]
 ·rw [stk_even _ _ _ hq];intro x hx;have := stk_high _ _ _ x hx;omega
theorem stk_full (s : Bool) (n : Int) (L : Nat) (sd pb : List UInt8) (K i : Nat) : stkA s n L sd pb K i (2 ^ K) = [(K, nodeV s n L sd pb K i)] := by
 unfold stkA;rw [show 2 ^ K = 2 ^ K * 1 by omega, stk_low K 1 0 1, Nat.zero_add, stk_odd 0 K 1 rfl];unfold offK;rw [Nat.sub_self, Nat.pow_zero, Nat.mul_one];rfl
theorem stk_start (s : Bool) (n : Int) (L : Nat) (sd pb : List UInt8) (K i : Nat) : stkA s n L sd pb K i 0 = [] := stk_zero _ _
theorem stk_count (s : Bool) (n : Int) (L : Nat) (sd pb : List UInt8) (K i : Nat) (h q : Nat) : (stkH s n L sd pb K i h q).length <= K + 1 - h := by
 unfold stkH;generalize K + 1 - h = f
 induction f generalizing h q with
 | zero => exact Nat.le_refl _
 | succ f ih =>
  show (stkL _ _ f (h + 1) (q / 2) ++ _).length <= _;rw [List.length_append];have := ih (h + 1) (q / 2)
  split
  ·rw [List.length_singleton]; omega
  ·simp; omega
end Go.Proofs.YtdakbipiifkmfaaGreatDoor
namespace Go.Proofs.YtdakbipiifkmfaaGreatDoor
open Go.RowKit
set_option maxRecDepth 100000
theorem info_src : (Tryz.prog.info? 70).map (·.size) = some 8 := by kernel_rfl
theorem info_key3 : (Tryz.prog.info? 25).map (·.size) = some 3 := by kernel_rfl
theorem oneSrc {a : Int} {b : Bool} {c d e : Int} {A B C : Option Addr} {k l m n o p : Nat} : ∀ u ∈ [Value.int .u32 a, .bool b, .int .i64 c, .int .i64 d, .int .i64 e, .slice A k l, .slice B m n, .slice C o p], u.oneCell' = true := by
 intro u hu;simp only [List.mem_cons, List.not_mem_nil, or_false] at hu
 rcases hu with rfl | rfl | rfl | rfl | rfl | rfl | rfl | rfl <;> rfl
def srcZ : List Value := [.int .u32 0, .bool false, .int .i64 0, .int .i64 0, .int .i64 0, .slice none 0 0, .slice none 0 0, .slice none 0 0]
set_option maxHeartbeats 2000000 in
theorem sourceOf_any (x : S5) (vs vp vb : Value) (sd pf pb : List UInt8) (w : World) (hw : x.wf) (hs : Sl w w.heap.size vs sd) (hp : Sl w w.heap.size vp pf) (hb : Sl w w.heap.size vb pb) :
  Calls Tryz.prog 49 #[x.v, keyV vs vp vb] w (OldIs (.tuple #[.agg (if badE x [sd, pf, pb] = 0 then srcL x vs vp vb else srcZ).toArray, .int .i64 (badE x [sd, pf, pb])]) w) := by
 unfold OldIs;obtain ⟨As, cs, rfl, _, _⟩ := hs.form;obtain ⟨Ap, cp, rfl, _, _⟩ := hp.form;obtain ⟨Ab, cb, rfl, _, _⟩ := hb.form;have HC : Shh (∀ (v : Value) (B : Nat) W, PartsO W B B v [sd, pf, pb] -> B <= W.heap.size -> Calls Tryz.prog 82 #[x.v, v] W (OldIs (.int .i64 (badE x [sd, pf, pb])) W)) := ⟨fun v B W h hB => check11_any x hw v [sd, pf, pb] B B W h hB (by simp)⟩;generalize badE x [sd, pf, pb] = er at HC ⊢;obtain ⟨SV, hSV⟩ : ∃ SV : List Value, SV = if er = 0 then srcL x (.slice As sd.length cs) (.slice Ap pf.length cp) (.slice Ab pb.length cb) else srcZ := ⟨_, rfl⟩;rw [<- hSV];have HSV : Shh ((er = 0 -> SV = [.int .u32 x.c, .bool x.s, .int .i64 x.n, .int .i64 x.h, .int .i64 x.l, .slice As sd.length cs, .slice Ap pf.length cp, .slice Ab pb.length cb]) /\ (¬ er = 0 -> SV = [.int .u32 0, .bool false, .int .i64 0, .int .i64 0, .int .i64 0, .slice none 0 0, .slice none 0 0, .slice none 0 0])) := ⟨fun h => by rw [hSV, if_pos h]; rfl, fun h => by rw [hSV, if_neg h]; rfl⟩;clear hSV;unfold keyV;obtain ⟨W0, hW0⟩ : ∃ W0, W0 = ((w.alloc (.cells #[.int .u32 x.c, .bool x.s, .int .i64 x.n, .int .i64 x.h, .int .i64 x.l] 27)).alloc (.cells #[.slice As sd.length cs, .slice Ap pf.length cp, .slice Ab pb.length cb] 25)).alloc (.cells #[.int .u32 0, .bool false, .int .i64 0, .int .i64 0, .int .i64 0, .slice none 0 0, .slice none 0 0, .slice none 0 0] 70) := ⟨_, rfl⟩;have HW0 : Shh (Row W0 w.heap.size 27 [.int .u32 x.c, .bool x.s, .int .i64 x.n, .int .i64 x.h, .int .i64 x.l] /\ Row W0 (w.heap.size + 1) 25 [.slice As sd.length cs, .slice Ap pf.length cp, .slice Ab pb.length cb] /\ Row W0 (w.heap.size + 2) 70 [.int .u32 0, .bool false, .int .i64 0, .int .i64 0, .int .i64 0, .slice none 0 0, .slice none 0 0, .slice none 0 0] /\ W0.heap.size = w.heap.size + 3 /\ Below w.heap.size w W0) := by
  rw [hW0];exact ⟨((Row.new_ rfl rfl).alloc _).alloc _, (Row.new_ (by rw [asz]) rfl).alloc _, Row.new_ (by rw [asz, asz]) rfl, by rw [asz, asz, asz], Below.chain (Below.chain (below1 _ _) (below1 _ _)) (below1 _ _)⟩
 obtain ⟨W, hW⟩ : ∃ W, W = W0.alloc (.cells #[.slice As sd.length cs, .slice Ap pf.length cp, .slice Ab pb.length cb] 23) := ⟨_, rfl⟩;have HW : Shh (Row W w.heap.size 27 [.int .u32 x.c, .bool x.s, .int .i64 x.n, .int .i64 x.h, .int .i64 x.l] /\ Row W (w.heap.size + 1) 25 [.slice As sd.length cs, .slice Ap pf.length cp, .slice Ab pb.length cb] /\ Row W (w.heap.size + 2) 70 [.int .u32 0, .bool false, .int .i64 0, .int .i64 0, .int .i64 0, .slice none 0 0, .slice none 0 0, .slice none 0 0] /\ PartsO W (w.heap.size + 4) (w.heap.size + 4) (.slice (some ⟨w.heap.size + 3, 0, none⟩) 3 3) [sd, pf, pb] /\ w.heap.size + 4 <= W.heap.size /\ Below w.heap.size w W) := by
  have b0 : Below w.heap.size w W := by rw [hW]; exact Below.chain HW0.out.2.2.2.2 (below1 _ _)
  refine ⟨by rw [hW]; exact HW0.out.1.alloc _, by rw [hW]; exact HW0.out.2.1.alloc _, by rw [hW]; exact HW0.out.2.2.1.alloc _, ?_, by rw [hW, asz, HW0.out.2.2.2.1]; exact Nat.le_refl _, b0⟩;exact PartsO.three (by omega) (by omega) (by rw [hW]; exact Row.new_ HW0.out.2.2.2.1.symm rfl) ((hs.below b0).more (by omega)) (hs.off (by omega)) ((hp.below b0).more (by omega)) (hp.off (by omega)) ((hb.below b0).more (by omega)) (hb.off (by omega))
 clear hs hp hb hw;unfold S5.v at HC ⊢;generalize x.c = xc at *;generalize x.s = xs at *;generalize x.n = xn at *;generalize x.h = xh at *;generalize x.l = xl at *;go_enter Tryz.func49, Tryz.ntmps49
 go_wp2_with (go_at_call 82; rw [<- hW0, <- hW]; refine (HC.out _ _ _ HW.out.2.2.2.1 HW.out.2.2.2.2.1).mono ?_)
 unfold OldIs;rintro e w2 ⟨rfl, b2⟩;obtain ⟨M, hM⟩ : ∃ M, Shh (M = w.heap.size + 2) := ⟨_, ⟨rfl⟩⟩;have H2 : Shh (Row w2 w.heap.size 27 [.int .u32 xc, .bool xs, .int .i64 xn, .int .i64 xh, .int .i64 xl] /\ Row w2 (w.heap.size + 1) 25 [.slice As sd.length cs, .slice Ap pf.length cp, .slice Ab pb.length cb] /\ Row w2 M 70 [.int .u32 0, .bool false, .int .i64 0, .int .i64 0, .int .i64 0, .slice none 0 0, .slice none 0 0, .slice none 0 0] /\ Below w.heap.size w w2 /\ M + 2 <= w2.heap.size /\ w.heap.size + 2 = M) := ⟨HW.out.1.go b2, HW.out.2.1.go b2, by rw [hM.out]; exact HW.out.2.2.1.go b2, Below.chain HW.out.2.2.2.2.2 b2, by rw [hM.out]; have := b2.size; have := HW.out.2.2.2.2.1; omega, hM.out.symm⟩;clear HW hW b2 HC HW0 hW0 hM;rw [show w.heap.size + 1 + 1 = M by have := H2.out.2.2.2.2.2; omega]
 by_cases her : er = 0
 ·have HS1 := Shh.mk (HSV.out.1 her);subst her;clear HSV
  go_wp2_with (first | refine wpList_load_any rfl 27 (.tmp 2) rfl w.heap.size rfl 27 [.int .u32 xc, .bool xs, .int .i64 xn, .int .i64 xh, .int .i64 xl] _ H2.out.1 Tryz.underlying27 rfl info_xms ?_ | refine wpList_load_any rfl 25 (.tmp 3) rfl (w.heap.size + 1) rfl 25 [.slice As sd.length cs, .slice Ap pf.length cp, .slice Ab pb.length cb] _ H2.out.2.1 Tryz.underlying25 rfl info_key3 ?_ | refine wpList_store_any rfl 70 (.tmp 4) (.tmp 22) rfl M rfl [.int .u32 xc, .bool xs, .int .i64 xn, .int .i64 xh, .int .i64 xl, .slice As sd.length cs, .slice Ap pf.length cp, .slice Ab pb.length cb] rfl 70 [.int .u32 0, .bool false, .int .i64 0, .int .i64 0, .int .i64 0, .slice none 0 0, .slice none 0 0, .slice none 0 0] H2.out.2.2.1 info_src rfl oneSrc ?_)
  intro Z hr bt hsz;have HR : Shh (Row Z M 70 [.int .u32 xc, .bool xs, .int .i64 xn, .int .i64 xh, .int .i64 xl, .slice As sd.length cs, .slice Ap pf.length cp, .slice Ab pb.length cb] /\ Below w.heap.size w Z) := ⟨hr, H2.out.2.2.2.1.trans (bt.under (by have := H2.out.2.2.2.1.size; omega) (by have := H2.out.2.2.2.2.2; omega))⟩;clear hr bt hsz H2;go_wp2;exact ret_rs Tryz.results49 rfl rfl rfl HR.out.1 Tryz.underlying70 rfl info_src ⟨by rw [HS1.out]; rfl, HR.out.2⟩
 ·have hne : (er != 0) = true := by simp [her]
  have HS1 := Shh.mk (HSV.out.2 her);clear her HSV
  go_wp2_with (refine wpList_store_any rfl 70 (.tmp 4) (.tmp 18) rfl M rfl [.int .u32 0, .bool false, .int .i64 0, .int .i64 0, .int .i64 0, .slice none 0 0, .slice none 0 0, .slice none 0 0] rfl 70 [.int .u32 0, .bool false, .int .i64 0, .int .i64 0, .int .i64 0, .slice none 0 0, .slice none 0 0, .slice none 0 0] H2.out.2.2.1 info_src rfl oneSrc ?_)
  intro Z hr bt hsz;have HR : Shh (Row Z M 70 [.int .u32 0, .bool false, .int .i64 0, .int .i64 0, .int .i64 0, .slice none 0 0, .slice none 0 0, .slice none 0 0] /\ Below w.heap.size w Z) := ⟨hr, H2.out.2.2.2.1.trans (bt.under (by have := H2.out.2.2.2.1.size; omega) (by have := H2.out.2.2.2.2.2; omega))⟩;clear hr bt hsz H2;go_wp2;exact ret_rs Tryz.results49 rfl rfl rfl HR.out.1 Tryz.underlying70 rfl info_src ⟨by rw [HS1.out]; rfl, HR.out.2⟩
set_option maxHeartbeats 2000000 in
theorem leaf_any (x : S5) (hw : x.wf) (hx : x.ok = true) (vs vp vb : Value) (sd pf pb : List UInt8) (i : Nat) (hi : i < 4294967296) (w : World) (hs : Sl w w.heap.size vs sd) (hp : Sl w w.heap.size vp pf) (hb : Sl w w.heap.size vb pb) (hsl : (sd.length : Int) = x.n) (hbl : (pb.length : Int) = x.n) (ht : Tabs w) :
  Calls Tryz.prog 44 #[.agg (srcL x vs vp vb).toArray, .int .u32 (i : Int)] w (NewSl w (leafB x.s x.n x.l.toNat sd pb i)) := by
 unfold NewSl;obtain ⟨As, cs, rfl, _, _⟩ := hs.form;obtain ⟨Ap, cp, rfl, _, _⟩ := hp.form;obtain ⟨Ab, cb, rfl, _, _⟩ := hb.form;obtain ⟨en, hen⟩ : ∃ en, en = endsB x.s x.n sd pb (adr11 0 i 0 0) (dOf []) x.l.toNat := ⟨_, rfl⟩;obtain ⟨out, hout⟩ : ∃ out, out = leafB x.s x.n x.l.toNat sd pb i := ⟨_, rfl⟩;rw [<- hout];have hn := S5.ok_is hx;have hbad : badE x [sd, pb] = 0 := by
  unfold badE;rw [hx];simp [hsl, hbl]
 have HEN : Shh (∀ W, Sl W W.heap.size (.slice As sd.length cs) sd -> Sl W W.heap.size (.slice Ab pb.length cb) pb -> Tabs W -> Calls Tryz.prog 86 #[x.v, .slice As sd.length cs, .slice Ab pb.length cb, adrV (adr11 0 i 0 0)] W (ResIs W 0 en)) := ⟨fun W h1 h2 h3 => by
  have h := Public_any x hw _ _ sd pb (adr11 0 i 0 0) rfl W h1 h2 h3;rw [hbad] at h;have e : pubB x sd pb (adr11 0 i 0 0) = en := by unfold pubB; rw [if_pos hbad, hen]
  rw [e] at h
  exact h⟩
 have HLT : Shh (∀ ve W, Sl W W.heap.size (.slice Ab pb.length cb) pb -> Sl W W.heap.size ve en -> Tabs W -> Calls Tryz.prog 75 #[x.v, .slice Ab pb.length cb, ve, .int .u32 (i : Int)] W (NewSl W out)) := ⟨fun ve W h1 h2 h3 => by
  have e : out = ltreeB x.s x.n x.l.toNat pb en i := by rw [hout, hen]; rfl
  rw [e]
  exact ltree_any x hw hx _ ve pb en i hi x.l.toNat x.n.toNat (by omega) (by omega) (by rw [hen, endsB_len hx, Nat.mul_comm]) (by omega) W h1 h2 h3⟩
 have HI := Shh.mk hi;unfold srcL;obtain ⟨W, hW⟩ : ∃ W, W = w.alloc (.cells #[.int .u32 x.c, .bool x.s, .int .i64 x.n, .int .i64 x.h, .int .i64 x.l, .slice As sd.length cs, .slice Ap pf.length cp, .slice Ab pb.length cb] 70) := ⟨_, rfl⟩;have HW : Shh (Row W w.heap.size 70 [.int .u32 x.c, .bool x.s, .int .i64 x.n, .int .i64 x.h, .int .i64 x.l, .slice As sd.length cs, .slice Ap pf.length cp, .slice Ab pb.length cb] /\ Sl W W.heap.size (.slice As sd.length cs) sd /\ Sl W W.heap.size (.slice Ab pb.length cb) pb /\ Tabs W /\ Below w.heap.size w W) := by
  rw [hW];exact ⟨Row.new_ rfl rfl, hs.go (below1 _ _), hb.go (below1 _ _), ht.go (below1 _ _), below1 _ _⟩
 clear hen hout hs hp hb ht hsl hbl hn hbad hi hw hx;unfold adrV at HEN;unfold S5.v at HEN HLT;generalize x.c = xc at *;generalize x.s = xs at *;generalize x.n = xn at *;generalize x.h = xh at *;generalize x.l = xl at *;go_enter Tryz.func44, Tryz.ntmps44
 go_wp2_with fail
 rw [<- hW];clear hW;refine wp_region_held_drew (S := fun w' => Row w' w.heap.size 70 [.int .u32 xc, .bool xs, .int .i64 xn, .int .i64 xh, .int .i64 xl, .slice As sd.length cs, .slice Ap pf.length cp, .slice Ab pb.length cb]) (by kernel_rfl) HW.out.1.drew (fun hS => ?_);clear hS;obtain ⟨V, hV⟩ : ∃ V, V = World.drew W := ⟨_, rfl⟩;rw [<- hV];have rX : Row V w.heap.size 70 [.int .u32 xc, .bool xs, .int .i64 xn, .int .i64 xh, .int .i64 xl, .slice As sd.length cs, .slice Ap pf.length cp, .slice Ab pb.length cb] := by rw [hV]; exact HW.out.1.drew
 have sS : Sl V V.heap.size (.slice As sd.length cs) sd := by rw [hV]; exact HW.out.2.1.drew
 have sB : Sl V V.heap.size (.slice Ab pb.length cb) pb := by rw [hV]; exact HW.out.2.2.1.drew
 have rT : Tabs V := HW.out.2.2.2.1.go (by rw [hV]; exact (Below.refl _ _).drew);have HBV : Below w.heap.size w V := by rw [hV]; exact HW.out.2.2.2.2.drew
 clear hV HW;refine hdv0 0 8 (.pointer (some ⟨w.heap.size, 0, none⟩)) (by rfl) (rX) ?_;refine hdv0 2 10 (.pointer (some ⟨w.heap.size, 5, none⟩)) (by rfl) (rX) ?_;refine hdv0 3 11 (.pointer (some ⟨w.heap.size, 5, none⟩)) (by rfl) (rX) ?_;refine hdv 4 12 (.slice As sd.length cs) (by rfl) (fun w hS => load_p rfl (hS.cell 5) (by kernel_rfl)) (rX) ?_;refine hdv0 5 13 (.pointer (some ⟨w.heap.size, 5, none⟩)) (by rfl) (rX) ?_;refine hdv0 6 14 (.pointer (some ⟨w.heap.size, 7, none⟩)) (by rfl) (rX) ?_;refine hdv 7 15 (.slice Ab pb.length cb) (by rfl) (fun w hS => load_p rfl (hS.cell 7) (by kernel_rfl)) (rX) ?_;refine hdv0 8 16 (.int .u32 (i : Int)) (by rfl) (rX) ?_;refine held_load 1 27 (.tmp 8) (some 9) (by kernel_rfl) (by rfl) (by kernel_rfl) w.heap.size 0 (by kernel_rfl) ([.int .u32 xc, .bool xs, .int .i64 xn, .int .i64 xh, .int .i64 xl]) _ (fun w h => Row.mid h 0 5) Tryz.underlying27 rfl (info_xms) (fun _ _ _ _ h => h) (rX) ?_;simp only [Act.put, arr9, hd9, tl9];refine held_one 9 (by kernel_rfl) ?_;refine step_call 9 _ _ (some 17) 62 #[.int .u32 (i : Int)] (by rfl) (by kernel_rfl) (by first | kernel_rfl | go_simp) ?_;refine (otsAdrs_any i HI.out V).mono ?_;unfold OldIs adrV; rintro e Y1 ⟨rfl, b4⟩;have bx : Below V.heap.size V Y1 := b4;clear b4;have b_V := bx;have m_Y1 : V.heap.size <= Y1.heap.size := bx.size;clear bx;refine ⟨_, rfl, (rX.go b_V), ?_⟩;simp only [Act.put, arr9, hd9, tl9];refine held_one 10 (by kernel_rfl) ?_;refine step_call 10 _ _ (some 18) 86 #[.agg ([.int .u32 xc, .bool xs, .int .i64 xn, .int .i64 xh, .int .i64 xl]).toArray, .slice As sd.length cs, .slice Ab pb.length cb, .agg (wordCells (adr11 0 i 0 0)).toArray] (by rfl) (by kernel_rfl) (by first | kernel_rfl | go_simp) ?_;refine (HEN.out Y1 ((sS.go b_V)) ((sB.go b_V)) ((rT.go b_V))).mono ?_;unfold ResIs; rintro e Y2 ⟨v, rfl, gv, bv⟩;have bx : Below Y1.heap.size Y1 Y2 := bv;obtain ⟨Ae, ce, vEq, _, _⟩ := gv.form;subst vEq;have sE := gv;clear gv;replace b_V := Below.chain b_V bx;have b_Y1 := bx;have m_Y2 : Y1.heap.size <= Y2.heap.size := bx.size;clear bx;refine ⟨_, rfl, (rX.go b_V), ?_⟩;simp only [Act.put, arr9, hd9, tl9];refine hdv0 11 7 (.tuple #[.slice Ae en.length ce, .int .i64 0]) (by rfl) ((rX.go b_V)) ?_;refine hdv0 12 19 (.slice Ae en.length ce) (by rfl) ((rX.go b_V)) ?_;refine hdv0 13 20 (.int .i64 0) (by rfl) ((rX.go b_V)) ?_;refine hdv0 14 5 (.slice Ae en.length ce) (by rfl) ((rX.go b_V)) ?_;refine hdv0 15 6 (.int .i64 0) (by rfl) ((rX.go b_V)) ?_;refine wpAnyH_done (by kernel_rfl) ?_ _;have H2 : Shh (Row Y2 w.heap.size 70 [.int .u32 xc, .bool xs, .int .i64 xn, .int .i64 xh, .int .i64 xl, .slice As sd.length cs, .slice Ap pf.length cp, .slice Ab pb.length cb] /\ Sl Y2 Y2.heap.size (.slice Ab pb.length cb) pb /\ Sl Y2 Y2.heap.size (.slice Ae en.length ce) en /\ Tabs Y2 /\ Below w.heap.size w Y2) := ⟨(rX.go b_V), (sB.go b_V), sE, (rT.go b_V), Below.chain HBV b_V⟩;clear m_Y2 b_Y1 sE m_Y1 b_V HBV rX sS sB rT HEN;generalize hq9 : Y2 = W9 at H2 ⊢;clear hq9;have e7 := H2.out.1.cell 7;simp only [List.getElem?_cons_succ, List.getElem?_cons_zero] at e7
 go_wp2_with (first | refine wpList_load_mid rfl 27 (.tmp 21) rfl w.heap.size 0 rfl [.int .u32 xc, .bool xs, .int .i64 xn, .int .i64 xh, .int .i64 xl] _ (Row.mid H2.out.1 0 5) Tryz.underlying27 rfl info_xms ?_ | (go_at_call 75; refine (HLT.out _ _ H2.out.2.1 H2.out.2.2.1 H2.out.2.2.2.1).mono ?_))
 unfold NewSl;rintro e w3 ⟨v3, rfl, s3, b3, o3⟩;have HR : Shh (Sl w3 w3.heap.size v3 out /\ Below w.heap.size w w3 /\ ∀ g, g < w.heap.size -> Off g v3) := ⟨s3, Below.chain H2.out.2.2.2.2 b3, fun g hg => o3 g (Nat.lt_of_lt_of_le hg H2.out.2.2.2.2.size)⟩;clear H2 s3 b3 o3 HLT HI e7;go_wp2;go_ret;exact ⟨_, rfl, HR.out⟩
end Go.Proofs.YtdakbipiifkmfaaGreatDoor
namespace Go.Proofs.YtdakbipiifkmfaaGreatDoor
open Go.RowKit
set_option maxRecDepth 100000
theorem ndL_snoc {ns : List (Nat × List UInt8 × Value)} {l : List (Nat × List UInt8)} {hb : Nat × List UInt8} (h : ndL ns = l ++ [hb]) : ∃ ns' u, ns = ns' ++ [(hb.1, hb.2, u)] /\ ndL ns' = l := by
 unfold ndL at h;obtain ⟨a, b, rfl, h1, h2⟩ := List.map_eq_append_iff.1 h;obtain ⟨⟨c, d, u⟩, rfl, h3⟩ := List.map_eq_singleton_iff.1 h2;obtain ⟨rfl, rfl⟩ : c = hb.1 /\ d = hb.2 := ⟨congrArg Prod.fst h3, congrArg Prod.snd h3⟩;exact ⟨a, u, rfl, h1⟩
section
variable {w w' : World} {base g : Nat} {T : TypeId} {pre : List Value} {r : Option Nat} {l : List (Nat × List UInt8)} {hh : Nat} {b : List UInt8} {P : Value -> Prop}
theorem StkP.base_le (h : StkP P w base g T pre r l) : g < base /\ base <= w.heap.size := by
 obtain ⟨v, ns, hr, ho, hl, hg, hb, _⟩ := h;exact ⟨hg, hb⟩
theorem StkP.r_le (h : StkP P w base g T pre r l) : ∀ k, r = some k -> base <= k /\ k < w.heap.size := by
 obtain ⟨v, ns, hr, ho, hl, hg, hb, hw, hs⟩ := h;intro k hk;exact hw.lt k (ho.trans hk)
theorem StkP.last (h : StkP P w base g T pre r (l ++ [(hh, b)])) : ∃ rb cap u, r = some rb /\ base <= rb /\ rb < w.heap.size /\ Row w g T (pre ++ [.slice (some ⟨rb, 0, none⟩) (l.length + 1) cap]) /\ l.length + 1 <= cap /\ cap <= maxLen /\ w.rangeAt rb (l.length * 2) [.int .i64 (hh : Int), u] /\ w.frozen? ⟨rb, l.length * 2, none⟩ = false /\ w.frozen? ⟨rb, l.length * 2 + 1, none⟩ = false /\ Sl w w.heap.size u b /\ Off g u /\ Off rb u := by
 obtain ⟨v, ns, hr, ho, hl, hg, hb, hw, hs⟩ := h;obtain ⟨ns', u, rfl, hl'⟩ := ndL_snoc hl;have hn : ns'.length = l.length := by rw [<- hl']; simp [ndL]
 rcases hw.2 with ⟨rfl, h0⟩ | ⟨gb, cap, cur, rfl, hgb, hrow, hc1, hc2, hsz, ht⟩
 ·rw [List.length_append, List.length_singleton] at h0; omega
 ·have he := hs (hh, b, u) (by simp);have hrr : r = some gb := ho.symm;rw [List.length_append, List.length_singleton, hn] at hr hc1;have hw1 : Row w gb 108 cur.toList := by unfold Row; rw [Array.toArray_toList]; exact hrow
  refine ⟨gb, cap, u, hrr, hgb, hw1.lt, hr, hc1, hc2, ?_, hw1.free _, hw1.free _, he.1, he.2.1, he.2.2.1 gb hrr⟩;intro j v hj;have hlen := ndC_length ns';rw [List.length_append, List.length_singleton, ndC_snoc] at ht;have hj2 : j < 2 := by
   have := (List.getElem?_eq_some_iff.1 hj).1
   simpa using this
  show w.cell? ⟨gb, l.length * 2 + j, none⟩ = some v;rw [hw1.cell];have e : (cur.toList.take ((ns'.length + 1) * 2))[l.length * 2 + j]? = some v := by
   rw [ht, List.getElem?_append_right (by omega), <- hj]
   congr 1
   omega
  rwa [List.getElem?_take_of_lt (by omega)] at e
theorem StkP.pop {rb cap : Nat} {z0 z1 : Value} (h : StkP P w base g T pre r (l ++ [(hh, b)])) (hrb : r = some rb) (hrow : Row w g T (pre ++ [.slice (some ⟨rb, 0, none⟩) (l.length + 1) cap])) :
  StkP P ((w.setCells rb (l.length * 2) [z0, z1]).setCell ⟨g, pre.length, none⟩ (.slice (some ⟨rb, 0, none⟩) l.length cap)) base g T pre r l /\ Stir g r w ((w.setCells rb (l.length * 2) [z0, z1]).setCell ⟨g, pre.length, none⟩ (.slice (some ⟨rb, 0, none⟩) l.length cap)) := by
 obtain ⟨v, ns, hr, ho, hl, hg, hb, hw, hs⟩ := h;obtain ⟨ns', u, rfl, hl'⟩ := ndL_snoc hl;have hn : ns'.length = l.length := by rw [<- hl']; simp [ndL]
 rcases hw.2 with ⟨rfl, h0⟩ | ⟨gb, cap', cur, rfl, hgb, hrw, hc1, hc2, hsz, ht⟩
 ·rw [List.length_append, List.length_singleton] at h0; omega
 ·have hrr : r = some gb := ho.symm;rw [hrr] at hrb;injection hrb with hrb;subst hrb;have hcap : cap' = cap := by
   have e := hr.symm.trans hrow;injection e with e;injection e with e;have e2 := congrArg Array.toList e;rw [List.toList_toArray, List.toList_toArray] at e2;have e3 := List.append_cancel_left e2;injection e3 with e3;injection e3
  subst hcap;have hne : gb ≠ g := by omega
  have hw1 : Row w gb 108 cur.toList := by unfold Row; rw [Array.toArray_toList]; exact hrw
  have hb1 : But w.heap.size gb w (w.setCells gb (l.length * 2) [z0, z1]) := But.setCells [z0, z1] (l.length * 2) (But.refl _ _ _);obtain ⟨W, hW⟩ : ∃ W, W = w.setCells gb (l.length * 2) [z0, z1] := ⟨_, rfl⟩;have hw2 := hw1.setCells [z0, z1] (l.length * 2);rw [<- hW] at hb1 hw2 ⊢;have hr2 : Row W g T (pre ++ [.slice (some ⟨gb, 0, none⟩) (l.length + 1) cap']) := (hb1.block g hr.lt (Ne.symm hne)).trans hrow;have hb2 : But W.heap.size g W (W.setCell ⟨g, pre.length, none⟩ (.slice (some ⟨gb, 0, none⟩) l.length cap')) := (But.refl _ _ _).setCell _ _;have hr3 := hr2.set_ pre.length (.slice (some ⟨gb, 0, none⟩) l.length cap');rw [List.set_append_right _ _ (Nat.le_refl _), Nat.sub_self] at hr3;have hst : Stir g r w (W.setCell ⟨g, pre.length, none⟩ (.slice (some ⟨gb, 0, none⟩) l.length cap')) := by
   refine ⟨hb2.os.trans hb1.os, hb2.tape.trans hb1.tape, hb2.output.trans hb1.output, Nat.le_trans hb1.size hb2.size, fun k hk h1 h2 => ?_⟩;exact (hb2.block k (Nat.lt_of_lt_of_le hk hb1.size) h1).trans (hb1.block k hk (fun e => h2 (by rw [e, hrr])))
  have hw3 : Row (W.setCell ⟨g, pre.length, none⟩ (.slice (some ⟨gb, 0, none⟩) l.length cap')) gb 108 (over cur.toList (l.length * 2) [z0, z1]) := (hb2.block gb hw2.lt hne).trans hw2;refine ⟨⟨.slice (some ⟨gb, 0, none⟩) l.length cap', ns', hr3, ho, hl', hg, Nat.le_trans hb hst.size, ?_, fun e he => ?_⟩, hst⟩
  ·rw [List.length_append, List.length_singleton, ndC_snoc] at ht;rw [List.length_append, List.length_singleton] at hc1;have hlen := ndC_length ns';have hcl : cur.toList.length = cap' * 2 := by rw [Array.length_toList]; exact hsz
   have hov := over_eq [z0, z1] cur.toList (l.length * 2) (by simp only [List.length_cons, List.length_nil]; omega);rw [hov] at hw3;refine ⟨hlen, .inr ⟨gb, cap', (cur.toList.take (l.length * 2) ++ [z0, z1] ++ cur.toList.drop (l.length * 2 + [z0, z1].length)).toArray, by rw [hn], hgb, hw3, by omega, hc2, ?_, ?_⟩⟩
   ·simp only [List.size_toArray, List.length_append, List.length_take, List.length_drop, List.length_cons, List.length_nil];omega
   ·rw [List.toList_toArray, List.append_assoc, List.take_append_of_le_length (by rw [List.length_take]; omega), List.take_take, hn, Nat.min_self];have e : (cur.toList.take ((ns'.length + 1) * 2)).take (l.length * 2) = ndC ns' := by rw [ht, List.take_append_of_le_length (by omega), List.take_of_length_le (by omega)]
    rw [List.take_take, Nat.min_eq_left (by omega)] at e;exact e
  ·have h1 := hs e (by simp [he]);exact ⟨h1.1.stir h1.2.1 h1.2.2.1 hst, h1.2⟩
theorem StkP.offK {k : Nat} (h : StkP P w base g T pre r l) (hk : w.heap.size <= k) : StkP (Off k) w base g T pre r l := by
 obtain ⟨v, ns, hr, ho, hl, hg, hb, hw, hs⟩ := h;exact ⟨v, ns, hr, ho, hl, hg, hb, hw, fun e he => ⟨(hs e he).1, (hs e he).2.1, (hs e he).2.2.1, (hs e he).1.off hk⟩⟩
end
theorem run_clear_node {P : Program} (w : World) (t e ty : TypeId) (z0 z1 : Value) (ht : P.underlying t = some (.slice e)) (hv : ∀ w, (zeroValue e).run P w = .ok (.agg #[z0, z1]) w) (h0 : z0.oneCell' = true) (h1 : z1.oneCell' = true) (hz : (Value.agg #[z0, z1]).cells = #[z0, z1]) (b o c : Nat)
  (hc : ∀ j, j < 2 -> (w.cell? ⟨b, o + j, none⟩).isSome = true) (hf : ∀ j, j < 2 -> w.frozen? ⟨b, o + j, none⟩ = false) :
  (Builtin.clear_ #[t] ty #[.slice (some ⟨b, o, none⟩) 1 c]).run P w = .ok (.tuple #[]) (w.setCells b o [z0, z1]) := by
 have hzc : (Builtin.zeroCells (Value.agg #[z0, z1]).cells 1).toList = [z0, z1] := by
  rw [hz];apply List.ext_getElem
  ·simp [Builtin.zeroCells]
  ·intro i h1 h2;have h3 : i = 0 ∨ i = 1 := by simp at h2; omega
   rcases h3 with rfl | rfl <;> simp [Builtin.zeroCells]
 have hst := run_storeCells_cells (P := P) b o [z0, z1] 0 w (by simpa using hc) (by simpa using hf) (by intro v hv'; simp at hv'; rcases hv' with rfl | rfl <;> assumption);simp only [Nat.add_zero] at hst;simp [Builtin.clear_, run_underlying ht, hv, hzc, hst]
end Go.Proofs.YtdakbipiifkmfaaGreatDoor
namespace Go.Proofs.YtdakbipiifkmfaaGreatDoor
open Go.RowKit
set_option maxRecDepth 100000
theorem info_node : (Tryz.prog.info? 108).map (·.size) = some 2 := by kernel_rfl
theorem info_node3 : (Tryz.prog.info? 108).map (fun i => (i.zero, i.size, i.bytes)) = some (some (.agg #[.int .i64 0, .slice none 0 0]), 2, 32) := by kernel_rfl
theorem oneNode {h : Int} {A : Option Addr} {n c : Nat} : ∀ u ∈ [Value.int .i64 h, .slice A n c], u.oneCell' = true := by
 intro u hu;simp only [List.mem_cons, List.not_mem_nil, or_false] at hu
 rcases hu with rfl | rfl <;> rfl
theorem sliceN : Tryz.prog.underlying 102 = some (.slice (Tryz.prog.elem 102)) := by kernel_rfl
theorem elemN : Tryz.prog.elem 102 = 108 := by kernel_rfl
theorem run_sizeN (w : World) : (sizeOf 108).run Tryz.prog w = .ok 2 w := by kernel_rfl
theorem zero_node (w : World) : (zeroValue 108).run Tryz.prog w = .ok (.agg #[.int .i64 0, .slice none 0 0]) w := by kernel_rfl
theorem headN (g n c j : Nat) (hj : j <= c) (w : World) : (Instr.sliceAt 102 (.slice (some ⟨g, 0, none⟩) n c) none (some (.int .i64 (j : Int))) none).run Tryz.prog w = .ok (.slice (some ⟨g, 0, none⟩) j c) w := by
 have h : (Instr.sliceAt 102 (.slice (some ⟨g, 0, none⟩) n c) none (some (.int .i64 (j : Int))) none).run Tryz.prog w = .ok (sliced (some ⟨g, 0, none⟩) 0 j c 2) w := by
  rw [run_sliceAt_slice _ _ _ _ _ _ sliceN, run_slice_h w 102 (some ⟨g, 0, none⟩) n c sliceN .i64 (j : Int) (by omega) (by omega), elemN, run_sizeN, Result.andThen_ok, Int.toNat_natCast]
 rw [h];unfold sliced;simp [Addr.add]
theorem tailN (g n c : Nat) (hc : n + 1 <= c) (w : World) : (Instr.sliceAt 102 (.slice (some ⟨g, 0, none⟩) (n + 1) c) (some (.int .i64 (n : Int))) none none).run Tryz.prog w = .ok (.slice (some ⟨g, n * 2, none⟩) 1 (c - n)) w := by
 have h : (Instr.sliceAt 102 (.slice (some ⟨g, 0, none⟩) (n + 1) c) (some (.int .i64 (n : Int))) none none).run Tryz.prog w = .ok (sliced (some ⟨g, 0, none⟩) n (n + 1) c 2) w := by
  rw [run_sliceAt_slice _ _ _ _ _ _ sliceN, run_slice_l w 102 (some ⟨g, 0, none⟩) (n + 1) c sliceN .i64 (n : Int) (by omega) (by omega), elemN, run_sizeN, Result.andThen_ok, Int.toNat_natCast]
 rw [h];unfold sliced;rw [if_neg (by omega), Nat.add_sub_cancel_left];show Result.ok (Value.slice (some (Addr.add ⟨g, 0, none⟩ (n * 2))) 1 (c - n)) w = _;rw [addr_add, Nat.zero_add]
section
variable {a : Act} {x y : Operand} {op : Oper} {w : World}
theorem load_n {p : Addr} {A : Option Addr} {n c : Nat} (ho : op.op = .load 102 x) (hc : w.cell? p = some (.slice A n c)) (hx : a.eval x = .pointer (some p)) : (execOp a.eval op).run Tryz.prog w = .ok (.value (.slice A n c)) w := by
 unfold execOp;simp only [ho, hx]
 go_simp
theorem sub_oneN {n : Nat} (h : n <= 1000000) (ho : op.op = .binOp .sub 3 x (.const (.int .i64 1)) 3) (hx : a.eval x = .int .i64 ((n + 1 : Nat) : Int)) : (execOp a.eval op).run Tryz.prog w = .ok (.value (.int .i64 (n : Int))) w := by
 have hc : a.eval (.const (.int .i64 1)) = .int .i64 1 := rfl;have hw : IntKind.i64.wrap (((n + 1 : Nat) : Int) - 1) = (n : Int) := by rw [IntKind.wrap_i64]; omega
 obtain ⟨m, hm⟩ : ∃ m : Int, m = ((n + 1 : Nat) : Int) := ⟨_, rfl⟩;have hw2 : IntKind.i64.wrap (n : Int) = (n : Int) := by rw [IntKind.wrap_i64]; omega
 have hm1 : m - 1 = (n : Int) := by omega
 rw [<- hm] at hx hw;clear hm;unfold execOp;simp only [ho, hx, hc]
 go_simp
theorem index_n (b k n c : Nat) (hk : k < n) (ho : op.op = .indexAddr 102 x y) (hx : a.eval x = .slice (some ⟨b, 0, none⟩) n c) (hy : a.eval y = .int .i64 (k : Int)) (w : World) : (execOp a.eval op).run Tryz.prog w = .ok (.value (.pointer (some ⟨b, k * 2, none⟩))) w := by
 have h0 : (0 : Int) <= (k : Int) := by omega
 have h1 : (k : Int) < (n : Int) := by omega
 unfold execOp;simp only [ho, hx, hy]
 go_simp
theorem store_n {p : Addr} {v : Value} {A : Option Addr} {n c : Nat} (ho : op.op = .store 102 x y) (hx : a.eval x = .pointer (some p)) (hy : a.eval y = .slice A n c) (hc : w.cell? p = some v) (hf : w.frozen? p = false) : (execOp a.eval op).run Tryz.prog w = .ok .skip (w.setCell p (.slice A n c)) := by
 unfold execOp;simp only [ho, hx, hy]
 go_simp
theorem clear_n {b o c : Nat} (ho : op.op = .call { callee := .builtin .clear, args := #[x], argTypes := #[102] }) (hx : a.eval x = .slice (some ⟨b, o, none⟩) 1 c) (hc : ∀ j, j < 2 -> (w.cell? ⟨b, o + j, none⟩).isSome = true) (hf : ∀ j, j < 2 -> w.frozen? ⟨b, o + j, none⟩ = false) :
  (execOp a.eval op).run Tryz.prog w = .ok (.value (.tuple #[])) (w.setCells b o [.int .i64 0, .slice none 0 0]) := by
 have h := run_clear_node (P := Tryz.prog) w 102 108 op.type (.int .i64 0) (.slice none 0 0) Tryz.underlying102 zero_node rfl rfl rfl b o c hc hf;unfold execOp;simp only [ho, resolve, invoke, builtin, Sem.run_bind, Sem.run_pure, Result.andThen_ok, List.map_toArray, List.map_cons, List.map_nil, hx, h]
end
theorem step_appendO {P : Program} {md : Region.Mode} {ops : Array Oper} {Q : Exit -> Act -> World -> Prop} {S : World -> Prop} {fuel : Nat} {listed : Array Bool} {a : Act} (w : World) (i : Nat) (ty : TypeId) (dst : Option Tmp) (t : TypeId) (e : TypeId) (i0 : TypeInfo) (z : Value) (size bytes : Nat) (ht : P.underlying t = some (.slice e)) (hi : P.info? e = some i0) (hz : i0.zero = some z) (hsz : i0.size = size) (hby : i0.bytes = bytes) (hzc : z.cells.size = size) (hs0 : 0 < size)
 (s x : Operand) (hop : (ops[i]?).map (fun o => (o.op, o.type, o.dst)) = some (.call { callee := .builtin .append, args := #[s, x], argTypes := #[t, t] }, ty, dst)) (hw : (ops[i]?).map (fun o => Region.wanted o (yielded ops a.tmps)) = some true)
 {base n m c : Nat} {v : Value} {xs news : List Value} {ad : Addr} (hown : w.ownsRow base e size v n xs) (hs : a.eval s = v) (hx : a.eval x = .slice (some ad) m c) (hl : news.length = m * size) (hnews : ∀ j u, news[j]? = some u -> w.cell? (ad.add j) = some u) (h1 : ∀ u ∈ news, u.oneCell' = true)
 (h63 : n + m <= maxLen) (hbytes : (n + m) * bytes <= 140737488355328) (hbase : base <= w.heap.size)
 (h : ∀ v' w', w'.ownsRow base e size v' (n + m) (xs ++ news) -> w.grownBy w' v.ownBlock -> (v'.ownBlock = v.ownBlock ∨ v'.ownBlock = some w.heap.size) -> S w' /\ wpAnyH P md ops Q S fuel (listed.setIfInBounds i true) (a.put dst v') w') : HStep P md ops Q S fuel listed a w i := by
 unfold HStep;cases hoo : ops[i]? with
 | none => rw [hoo] at hop; cases hop
 | some op =>
  rw [hoo] at hop hw;simp only [Option.map_some, Option.some.injEq, Prod.mk.injEq] at hop hw;obtain ⟨hop1, _, hop3⟩ := hop;refine wpOp_step hoo fun K' hK => ?_
  rw [if_pos hw];obtain ⟨v', w', hr, ho', hg, _, hat⟩ := run_append_own_at (P := P) w base t op.type e i0 z size bytes ht hi hz hsz hby hzc hs0 v n xs hown ad m c news hl hnews h1 h63 hbytes hbase;unfold Oper.wp execOp;simp only [hop1, resolve, invoke, builtin, Sem.run_bind, Sem.run_pure, Result.andThen_ok, List.map_toArray, List.map_cons, List.map_nil, hs, hx, hr];rw [<- hop3] at h;exact hK _ _ (h v' w' ho' hg hat)
def LastIs (w : World) (g : Nat) (r : Option Nat) (hh : Nat) (b : List UInt8) (e : Ending) (w' : World) : Prop := ∃ u, e = .returned (.tuple #[.agg #[.int .i64 (hh : Int), u], .bool true]) /\ Sl w' w'.heap.size u b /\ Off g u /\ (∀ k, r = some k -> Off k u) /\ Below w.heap.size w w'
theorem last_nil {P : Value -> Prop} (w : World) (base g : Nat) (T : TypeId) (pre : List Value) (r : Option Nat) (h : StkP P w base g T pre r []) : Calls Tryz.prog 80 #[.pointer (some ⟨g, pre.length, none⟩)] w (OldIs (.tuple #[.agg #[.int .i64 0, .slice none 0 0], .bool false]) w) := by
 unfold OldIs;obtain ⟨_, A, c, hr⟩ | ⟨_, _, _, h0, _⟩ := h.form
 ·have hc := (hr.alloc (.cells #[.int .i64 0, .slice none 0 0] 108)).cell pre.length;rw [List.getElem?_append_right (Nat.le_refl _), Nat.sub_self] at hc;simp only [List.getElem?_cons_zero] at hc;generalize pre.length = o at hc ⊢;clear hr h;have HB : Shh (Below w.heap.size w (w.alloc (.cells #[.int .i64 0, .slice none 0 0] 108)) /\ Row (w.alloc (.cells #[.int .i64 0, .slice none 0 0] 108)) w.heap.size 108 [.int .i64 0, .slice none 0 0]) := ⟨below1 _ _, Row.new_ rfl rfl⟩;go_enter Tryz.func80, Tryz.ntmps80;go_wp2;exact ret_rs Tryz.results80 rfl rfl rfl HB.out.2 Tryz.underlying108 rfl info_node ⟨rfl, HB.out.1⟩
 ·cases h0
set_option maxHeartbeats 2000000 in
theorem last_any {P : Value -> Prop} (w : World) (base g : Nat) (T : TypeId) (pre : List Value) (r : Option Nat) (l : List (Nat × List UInt8)) (hh : Nat) (b : List UInt8) (hl : l.length <= 1000) (h : StkP P w base g T pre r (l ++ [(hh, b)])) : Calls Tryz.prog 80 #[.pointer (some ⟨g, pre.length, none⟩)] w (LastIs w g r hh b) := by
 unfold LastIs;obtain ⟨rb, cap, u, hrb, hbb, hlt, hr, hc1, hc2, hrg, _, _, hs, hog, hor⟩ := h.last;obtain ⟨Au, cu, rfl, _, _⟩ := hs.form;obtain ⟨n, hn⟩ : ∃ n, n = l.length := ⟨_, rfl⟩;rw [<- hn] at hr hrg hl hc1;have hg1 := hr.lt;have hc := hr.cell pre.length;rw [List.getElem?_append_right (Nat.le_refl _), Nat.sub_self] at hc;simp only [List.getElem?_cons_zero] at hc;generalize pre.length = o at hc ⊢;have HS : Shh (Sl w w.heap.size (.slice Au b.length cu) b /\ Off g (.slice Au b.length cu) /\ (∀ k, r = some k -> Off k (.slice Au b.length cu)) /\ n <= 1000) := ⟨hs, hog, fun k hk => by rw [hrb] at hk; injection hk with hk; rw [<- hk]; exact hor, hl⟩;obtain ⟨W, hW⟩ : ∃ W, W = w.alloc (.cells #[.int .i64 0, .slice none 0 0] 108) := ⟨_, rfl⟩;have bW : Below w.heap.size w W := by rw [hW]; exact below1 _ _
 have HW : Shh (Row W w.heap.size 108 [.int .i64 0, .slice none 0 0] /\ W.cell? ⟨g, o, none⟩ = some (.slice (some ⟨rb, 0, none⟩) (n + 1) cap) /\ W.rangeAt rb (n * 2) [.int .i64 (hh : Int), .slice Au b.length cu] /\ Below w.heap.size w W) := ⟨by rw [hW]; exact Row.new_ rfl rfl, (bW.cell (p := ⟨g, o, none⟩) hg1).trans hc, fun j v hj => (bW.cell (p := ⟨rb, n * 2 + j, none⟩) hlt).trans (hrg j v hj), bW⟩;have HLT : Shh (g < w.heap.size /\ rb < w.heap.size) := ⟨hg1, hlt⟩;have hcW : W.cell? ⟨g, o, none⟩ = some (.slice (some ⟨rb, 0, none⟩) (n + 1) cap) := HW.out.2.1;rw [hW] at hcW;have hz : ¬ (n : Int) + 1 = 0 := by omega
 clear hr hrg hs hog hor hrb hbb hlt hg1 hc hl h hn bW;go_enter Tryz.func80, Tryz.ntmps80
 go_wp2_with fail
 rw [<- hW];clear hW hcW hz;refine wp_region_held_drew (S := fun w' => w'.cell? ⟨g, o, none⟩ = some (.slice (some ⟨rb, 0, none⟩) (n + 1) cap) /\ w'.rangeAt rb (n * 2) [.int .i64 (hh : Int), .slice Au b.length cu]) (by kernel_rfl) ⟨HW.out.2.1, HW.out.2.2.1⟩ (fun hS => ?_);obtain ⟨V, hV⟩ : ∃ V, V = World.drew W := ⟨_, rfl⟩;rw [<- hV] at hS ⊢;have rN : Row V w.heap.size 108 [.int .i64 0, .slice none 0 0] := by rw [hV]; exact HW.out.1.drew
 have HBV : Below w.heap.size w V := by rw [hV]; exact HW.out.2.2.2.drew
 clear hV HW;refine hdv0 0 11 (.pointer (some ⟨g, o, none⟩)) (by rfl) (hS) ?_;refine hdv0 1 12 (.pointer (some ⟨g, o, none⟩)) (by rfl) (hS) ?_;refine hdv0 2 13 (.pointer (some ⟨g, o, none⟩)) (by rfl) (hS) ?_;refine hdv 3 14 (.slice (some ⟨rb, 0, none⟩) (n + 1) cap) (by rfl) (fun w hS => load_n rfl hS.1 (by kernel_rfl)) (hS) ?_;refine hdv0 4 15 (.pointer (some ⟨g, o, none⟩)) (by rfl) (hS) ?_;refine hdv0 5 16 (.pointer (some ⟨g, o, none⟩)) (by rfl) (hS) ?_;refine hdv0 6 17 (.pointer (some ⟨g, o, none⟩)) (by rfl) (hS) ?_;refine hdv 7 18 (.slice (some ⟨rb, 0, none⟩) (n + 1) cap) (by rfl) (fun w hS => load_n rfl hS.1 (by kernel_rfl)) (hS) ?_;refine hdv0 8 19 (.int .i64 ((n + 1 : Nat) : Int)) (by rfl) (hS) ?_;refine hdv 9 20 (.int .i64 (n : Int)) (by rfl) (fun w hS => sub_oneN (by have := HS.out.2.2.2; omega) rfl (by kernel_rfl)) (hS) ?_;refine hdv 10 21 (.pointer (some ⟨rb, n * 2, none⟩)) (by rfl) (fun w hS => index_n rb n (n + 1) cap (Nat.lt_succ_self n) rfl (by kernel_rfl) (by kernel_rfl) _) (hS) ?_;refine held_load 11 108 (.tmp 21) (some 22) (by kernel_rfl) (by rfl) (by kernel_rfl) rb (n * 2) (by kernel_rfl) ([.int .i64 (hh : Int), .slice Au b.length cu]) _ (fun w h => h.2) Tryz.underlying108 rfl (info_node) (fun _ _ _ _ h => h) (hS) ?_;simp only [Act.put, arr9, hd9, tl9];refine held_one 12 (by kernel_rfl) ?_;refine step_storeRow 12 108 (.tmp 2) (.tmp 22) (by rfl) (by kernel_rfl) (w.heap.size) rfl ([.int .i64 (hh : Int), .slice Au b.length cu]) rfl 108 ([.int .i64 0, .slice none 0 0]) rN (info_node) (rfl) oneNode ?_;intro Y1 rN2 bt zt;replace hS : Y1.cell? ⟨g, o, none⟩ = some (.slice (some ⟨rb, 0, none⟩) (n + 1) cap) /\ Y1.rangeAt rb (n * 2) [.int .i64 (hh : Int), .slice Au b.length cu] := ⟨(bt.cell (p := ⟨g, o, none⟩) (Nat.lt_of_lt_of_le HLT.out.1 HBV.size) (Nat.ne_of_lt HLT.out.1)).trans hS.1, fun j v hj => (bt.cell (p := ⟨rb, n * 2 + j, none⟩) (Nat.lt_of_lt_of_le HLT.out.2 HBV.size) (Nat.ne_of_lt HLT.out.2)).trans (hS.2 j v hj)⟩;have nB : Below w.heap.size w Y1 := HBV.trans (bt.under HBV.size (Nat.le_refl _));refine ⟨hS, ?_⟩;refine hdv0 13 3 (.bool true) (by rfl) (hS) ?_;refine wpAnyH_done (by kernel_rfl) ?_ _;have HR : Shh (Row Y1 w.heap.size 108 [.int .i64 (hh : Int), .slice Au b.length cu] /\ Below w.heap.size w Y1) := ⟨rN2, nB⟩;clear hS nB HBV bt zt rN rN2 HLT;go_wp2;exact ret_rs Tryz.results80 rfl rfl rfl HR.out.1 Tryz.underlying108 rfl info_node ⟨_, rfl, HS.out.1.go HR.out.2, HS.out.2.1, HS.out.2.2.1, HR.out.2⟩
def StkIs (P : Value -> Prop) (w : World) (base g : Nat) (T : TypeId) (pre : List Value) (r : Option Nat) (l : List (Nat × List UInt8)) (e : Ending) (w' : World) : Prop := (∃ v, e = .returned v) /\ StkP P w' base g T pre r l /\ Stir g r w w'
set_option maxHeartbeats 2000000 in
theorem take_any {P : Value -> Prop} (w : World) (base g : Nat) (T : TypeId) (pre : List Value) (r : Option Nat) (l : List (Nat × List UInt8)) (hh : Nat) (b : List UInt8) (hl : l.length <= 1000) (h : StkP P w base g T pre r (l ++ [(hh, b)])) : Calls Tryz.prog 109 #[.pointer (some ⟨g, pre.length, none⟩)] w (StkIs P w base g T pre r l) := by
 unfold StkIs;obtain ⟨rb, cap, u, hrb, hbb, hlt, hr, hc1, hc2, hrg, hf0, hf1, _, _, _⟩ := h.last;have hpop := h.pop (z0 := .int .i64 0) (z1 := .slice none 0 0) hrb hr;have hgb := h.base_le;obtain ⟨n, hn⟩ : ∃ n, n = l.length := ⟨_, rfl⟩;rw [<- hn] at hr hrg hl hc1 hpop hf0 hf1;have hc := hr.cell pre.length;rw [List.getElem?_append_right (Nat.le_refl _), Nat.sub_self] at hc;simp only [List.getElem?_cons_zero] at hc;have hfr := hr.free pre.length;have hne : rb ≠ g := by omega
 obtain ⟨Z, hZ⟩ : ∃ Z, Z = w.setCells rb (n * 2) [.int .i64 0, .slice none 0 0] := ⟨_, rfl⟩;have hbz : But w.heap.size rb w Z := by rw [hZ]; exact But.setCells [.int .i64 0, .slice none 0 0] (n * 2) (But.refl _ _ _)
 have hrZ : Row Z g T (pre ++ [.slice (some ⟨rb, 0, none⟩) (n + 1) cap]) := (hbz.block g hr.lt (Ne.symm hne)).trans hr;have hcZ := hrZ.cell pre.length;rw [List.getElem?_append_right (Nat.le_refl _), Nat.sub_self] at hcZ;simp only [List.getElem?_cons_zero] at hcZ;have hfZ := hrZ.free pre.length;rw [<- hZ] at hpop;generalize pre.length = o at hc hfr hcZ hfZ hpop ⊢;have HP := Shh.mk hpop
 have HC : Shh ((∀ j, j < 2 -> (w.cell? ⟨rb, n * 2 + j, none⟩).isSome = true) /\ ∀ j, j < 2 -> w.frozen? ⟨rb, n * 2 + j, none⟩ = false) := ⟨fun j hj => by
  match j, hj with
  | 0, _ => rw [hrg 0 _ rfl]; rfl
  | 1, _ => rw [hrg 1 _ rfl]; rfl, fun j hj => by
  match j, hj with
  | 0, _ => exact hf0
  | 1, _ => exact hf1⟩
 have runC : ∀ u : World, (Instr.sliceAt 102 (.slice (some ⟨rb, 0, none⟩) (n + 1) cap) (some (.int .i64 (n : Int))) none none).run Tryz.prog u = .ok (.slice (some ⟨rb, n * 2, none⟩) 1 (cap - n)) u := fun u => tailN rb n cap hc1 u
 have runT : ∀ u : World, (Instr.sliceAt 102 (.slice (some ⟨rb, 0, none⟩) (n + 1) cap) none (some (.int .i64 (n : Int))) none).run Tryz.prog u = .ok (.slice (some ⟨rb, 0, none⟩) n cap) u := fun u => headN rb (n + 1) cap n (by omega) u
 have HN : Shh (n <= 1000) := ⟨hl⟩;have HZ := Shh.mk hZ;clear hZ hr hrg hf0 hf1 hc1 hc2 hgb hrb hbb hlt hl hn hbz hrZ hpop hne h;go_enter Tryz.func109, Tryz.ntmps109
 go_wp2_with (first | refine wl_value (.int .i64 (n : Int)) rfl (sub_oneN (by have := HN.out; omega) rfl rfl) ?_ | (refine wl_valueW (.tuple #[]) Z rfl (by rw [HZ.out]; exact clear_n rfl rfl HC.out.1 HC.out.2) ?_))
 clear HC HZ
 go_end0
 exact ⟨⟨_, rfl⟩, HP.out⟩
theorem own_form2 {w : World} {base : Nat} {e s : Nat} {v : Value} {n : Nat} {xs : List Value} (h : w.ownsRow base e s v n xs) : ∃ A c, v = .slice A n c := by
 rcases h.2 with ⟨rfl, rfl⟩ | ⟨g, cap, cur, rfl, _⟩
 ·exact ⟨_, _, rfl⟩
 ·exact ⟨_, _, rfl⟩
def PutS (w : World) (base g : Nat) (T : TypeId) (pre : List Value) (l : List (Nat × List UInt8)) (e : Ending) (w' : World) : Prop := (∃ v, e = .returned v) /\ (∃ r, StkAt w' base g T pre r l) /\ But base g w w'
theorem cell_last {w : World} {g : Nat} {T : TypeId} {pre : List Value} {v : Value} (h : Row w g T (pre ++ [v])) : w.cell? ⟨g, pre.length, none⟩ = some v := by
 rw [h.cell, List.getElem?_append_right (Nat.le_refl _), Nat.sub_self];rfl
set_option maxHeartbeats 2000000 in
theorem put_any (w : World) (base g : Nat) (T : TypeId) (pre : List Value) (r : Option Nat) (l : List (Nat × List UInt8)) (hh : Nat) (vu : Value) (b : List UInt8) (hl : l.length <= 1000) (h : StkAt w base g T pre r l) (hu : Sl w w.heap.size vu b) (hug : Off g vu) (hur : ∀ k, r = some k -> Off k vu) : Calls Tryz.prog 110 #[.pointer (some ⟨g, pre.length, none⟩), .agg #[.int .i64 (hh : Int), vu]] w (PutS w base g T pre (l ++ [(hh, b)])) := by
 unfold PutS;obtain ⟨Au, cu, rfl, _, _⟩ := hu.form;obtain ⟨v, ns, hr, ho, hl', hg, hb, hw, hs⟩ := h;replace hs : ∀ e ∈ ns, Sl w w.heap.size e.2.2 e.2.1 /\ Off g e.2.2 /\ ∀ b, r = some b -> Off b e.2.2 := fun e he => ⟨(hs e he).1, (hs e he).2.1, (hs e he).2.2.1⟩
 obtain ⟨Av, cv, rfl⟩ := own_form2 hw;have hn : ns.length <= 1000 := by rw [<- hl'] at hl; simpa [ndL] using hl
 obtain ⟨i0, hi0, hz0, hsz0, hby0⟩ := info_parts info_node3;obtain ⟨W, hW⟩ : ∃ W, W = w.alloc (.cells #[.int .i64 (hh : Int), .slice Au b.length cu] 108) := ⟨_, rfl⟩;have bW : Below w.heap.size w W := by rw [hW]; exact below1 _ _
 have HW : Shh (Row W w.heap.size 108 [.int .i64 (hh : Int), .slice Au b.length cu] /\ Row W g T (pre ++ [.slice Av ns.length cv]) /\ W.ownsRow base 108 2 (.slice Av ns.length cv) ns.length (ndC ns) /\ (∀ e ∈ ns, Sl W W.heap.size e.2.2 e.2.1 /\ Off g e.2.2 /\ ∀ k, (Value.slice Av ns.length cv).ownBlock = some k -> Off k e.2.2) /\ Sl W W.heap.size (.slice Au b.length cu) b /\ Below w.heap.size w W) := ⟨by rw [hW]; exact Row.new_ rfl rfl, hr.go bW, own_step2 hw bW, fun e he => ⟨(hs e he).1.go bW, (hs e he).2.1, fun k hk => (hs e he).2.2 k (by rw [<- ho]; exact hk)⟩, hu.go bW, bW⟩;have HX : Shh (ndL ns = l /\ g < base /\ base <= w.heap.size /\ Off g (.slice Au b.length cu) /\ (∀ k, (Value.slice Av ns.length cv).ownBlock = some k -> Off k (.slice Au b.length cu)) /\ ns.length <= 1000 /\ (∀ k, (.slice Av ns.length cv : Value).ownBlock = some k -> k < w.heap.size)) := ⟨hl', hg, hb, hug, fun k hk => hur k (by rw [<- ho]; exact hk), hn, fun k hk => (hw.lt k hk).2⟩;clear hr ho hl' hg hb hw hs hu hug hur hn bW hl;go_enter Tryz.func110, Tryz.ntmps110
 go_wp2_with fail
 rw [<- hW];clear hW;refine wp_region_held_drew (S := fun w' => Row w' w.heap.size 108 [.int .i64 (hh : Int), .slice Au b.length cu]) (by kernel_rfl) HW.out.1.drew (fun hS => ?_);clear hS;obtain ⟨V, hV⟩ : ∃ V, V = World.drew W := ⟨_, rfl⟩;rw [<- hV];have bV : Below W.heap.size W V := by rw [hV]; exact (Below.refl _ _).drew
 have rB : Row V w.heap.size 108 [.int .i64 (hh : Int), .slice Au b.length cu] := HW.out.1.go bV;have rG : Row V g T (pre ++ [.slice Av ns.length cv]) := HW.out.2.1.go bV;have HV : Shh (V.ownsRow base 108 2 (.slice Av ns.length cv) ns.length (ndC ns) /\ (∀ e ∈ ns, Sl V V.heap.size e.2.2 e.2.1 /\ Off g e.2.2 /\ ∀ k, (Value.slice Av ns.length cv).ownBlock = some k -> Off k e.2.2) /\ Sl V V.heap.size (.slice Au b.length cu) b /\ Below w.heap.size w V) := ⟨own_step2 HW.out.2.2.1 bV, fun e he => ⟨(HW.out.2.2.2.1 e he).1.go bV, (HW.out.2.2.2.1 e he).2⟩, HW.out.2.2.2.2.1.go bV, Below.chain HW.out.2.2.2.2.2 bV⟩;clear hV HW bV;refine hdv0 0 4 (.pointer (some ⟨g, pre.length, none⟩)) (by rfl) (rB) ?_;refine hdv0 1 5 (.pointer (some ⟨g, pre.length, none⟩)) (by rfl) (rB) ?_;refine hdv0 2 6 (.pointer (some ⟨g, pre.length, none⟩)) (by rfl) (rB) ?_;refine hdv0 3 7 (.pointer (some ⟨g, pre.length, none⟩)) (by rfl) (rB) ?_;refine held_load 5 108 (.tmp 3) (some 9) (by kernel_rfl) (by rfl) (by kernel_rfl) w.heap.size 0 (by kernel_rfl) ([.int .i64 (hh : Int), .slice Au b.length cu]) _ (fun w h => h.range) Tryz.underlying108 rfl (info_node) (fun _ _ _ _ h => h) (rB) ?_;simp only [Act.put, arr9, hd9, tl9];refine held_two 4 6 (by kernel_rfl) ?_ ?_
 ·refine step_value 4 _ _ (some 8) (.slice Av ns.length cv) V (by rfl) (by kernel_rfl) (load_n rfl (cell_last rG) (by kernel_rfl)) (rB) ?_;simp only [Act.put, arr9, hd9, tl9];refine held_one 6 (by kernel_rfl) ?_;refine step_value 6 _ _ (some 10) (.slice (some ⟨V.heap.size, 0, none⟩) 1 1) (V.alloc (.cells #[.int .i64 (hh : Int), .slice Au b.length cu] 108)) (by rfl) (by kernel_rfl) (by first | kernel_rfl | go_simp) ((rB).alloc _) ?_;simp only [Act.put, arr9, hd9, tl9];have bx : Below V.heap.size V (V.alloc (.cells #[.int .i64 (hh : Int), .slice Au b.length cu] 108)) := Below.alloc (Below.refl _ _) (Nat.le_refl _) _;have rP : Row (V.alloc (.cells #[.int .i64 (hh : Int), .slice Au b.length cu] 108)) V.heap.size 108 [.int .i64 (hh : Int), .slice Au b.length cu] := Row.new_ rfl rfl;have z_rP := asz V (.cells #[.int .i64 (hh : Int), .slice Au b.length cu] 108);generalize V.alloc (.cells #[.int .i64 (hh : Int), .slice Au b.length cu] 108) = Y2 at *;have b_V := bx;have m_Y2 : V.heap.size <= Y2.heap.size := bx.size;clear bx;refine held_one 7 (by kernel_rfl) ?_;have hbx := HX.out.2.2.1;have hbs : w.heap.size <= Y2.heap.size := (Below.chain HV.out.2.2.2 b_V).size;have how := own_step2 HV.out.1 b_V;refine step_appendO Y2 7 _ (some 11) 102 108 i0 (.agg #[.int .i64 0, .slice none 0 0]) 2 32 Tryz.underlying102 hi0 hz0 hsz0 hby0 rfl (by decide) (.tmp 8) (.tmp 10) (by rfl) (by kernel_rfl) (m := 1) (c := 1) (news := [.int .i64 (hh : Int), .slice Au b.length cu]) how (by kernel_rfl) (by kernel_rfl) rfl (fun j y hj => by rw [addr_add, (rP).cell, Nat.zero_add]; exact hj) oneNode (by have := HX.out.2.2.2.2.2.1; unfold maxLen; omega) (by have := HX.out.2.2.2.2.2.1; omega) (by omega) ?_;intro v2 Y3 ho2 hg2 hat2;have hgX : Row Y2 g T (pre ++ [.slice Av ns.length cv]) := (rG.go b_V);have hrX : Row Y2 w.heap.size 108 [.int .i64 (hh : Int), .slice Au b.length cu] := (rB.go b_V);have hsX : ∀ e ∈ ns, Sl Y2 Y2.heap.size e.2.2 e.2.1 /\ Off g e.2.2 /\ ∀ k, (Value.slice Av ns.length cv).ownBlock = some k -> Off k e.2.2 := fun e he => ⟨(HV.out.2.1 e he).1.go b_V, (HV.out.2.1 e he).2⟩
  have huX : Sl Y2 Y2.heap.size (.slice Au b.length cu) b := HV.out.2.2.1.go b_V;have bwX : Below w.heap.size w Y2 := Below.chain HV.out.2.2.2 b_V;have hne1 : some w.heap.size ≠ (.slice Av ns.length cv : Value).ownBlock := fun e => Nat.lt_irrefl _ (HX.out.2.2.2.2.2.2 _ e.symm)
  have hne2 : some g ≠ (.slice Av ns.length cv : Value).ownBlock := fun e => by have h1 := (how.lt g e.symm).1; have h2 := HX.out.2.1; omega
  have rB2 : Row Y3 w.heap.size 108 [.int .i64 (hh : Int), .slice Au b.length cu] := (hg2.block w.heap.size hrX.lt hne1).trans hrX;have rG2 : Row Y3 g T (pre ++ [.slice Av ns.length cv]) := (hg2.block g hgX.lt hne2).trans hgX;have hat3 : ∀ k, v2.ownBlock = some k -> (.slice Av ns.length cv : Value).ownBlock = some k ∨ Y2.heap.size <= k := fun k hk => by
   rcases hat2 with h1 | h1
   ·exact .inl (h1.symm.trans hk)
   ·rw [h1] at hk;injection hk with hk;exact .inr (by omega)
  obtain ⟨rr, hk1, hk2⟩ := StkAt.push hgX HX.out.1 HX.out.2.1 (Nat.le_trans hbx hbs) hsX huX HX.out.2.2.2.1 HX.out.2.2.2.2.1 how ho2 hg2 hat3;obtain ⟨A2, c2, rfl⟩ := own_form2 ho2;have HP : Shh (StkAt (Y3.setCell ⟨g, pre.length, none⟩ (.slice A2 (ns.length + 1) c2)) base g T pre rr (l ++ [(hh, b)]) /\ But base g w (Y3.setCell ⟨g, pre.length, none⟩ (.slice A2 (ns.length + 1) c2)) /\ Row (Y3.setCell ⟨g, pre.length, none⟩ (.slice A2 (ns.length + 1) c2)) w.heap.size 108 [.int .i64 (hh : Int), .slice Au b.length cu]) := ⟨hk1, ((But.of bwX g).mono hbx).trans hk2, (((But.refl Y3.heap.size g Y3).setCell _ _).row rB2 (Nat.lt_of_lt_of_le hrX.lt hg2.size) (fun e => by have h1 := HX.out.2.1; omega))⟩;clear hk1 hk2 hat3 hne1 hne2 hsX huX bwX hgX hrX how ho2 hg2 hat2 hbx hbs;replace rB := rB2;replace rG := rG2;clear rB2 rG2;refine ⟨rB, ?_⟩;simp only [Act.put, arr9, hd9, tl9];refine hdv0 8 12 (.pointer (some ⟨g, pre.length, none⟩)) (by rfl) (rB) ?_;refine hdv0 9 13 (.pointer (some ⟨g, pre.length, none⟩)) (by rfl) (rB) ?_;refine held_one 10 (by kernel_rfl) ?_;refine step_store1 10 _ (by rfl) (by kernel_rfl) (Y3.setCell ⟨g, pre.length, none⟩ (.slice A2 (ns.length + 1) c2)) (store_n rfl (by kernel_rfl) (by kernel_rfl) (cell_last rG) ((rG).free _)) ⟨HP.out.2.2, ?_⟩;refine wpAnyH_done (by kernel_rfl) ?_ _;go_wp2
  go_end0
  exact ⟨⟨_, rfl⟩, ⟨_, HP.out.1⟩, HP.out.2.1⟩
 ·refine step_value 6 _ _ (some 10) (.slice (some ⟨V.heap.size, 0, none⟩) 1 1) (V.alloc (.cells #[.int .i64 (hh : Int), .slice Au b.length cu] 108)) (by rfl) (by kernel_rfl) (by first | kernel_rfl | go_simp) ((rB).alloc _) ?_;simp only [Act.put, arr9, hd9, tl9];have bx : Below V.heap.size V (V.alloc (.cells #[.int .i64 (hh : Int), .slice Au b.length cu] 108)) := Below.alloc (Below.refl _ _) (Nat.le_refl _) _;have rP : Row (V.alloc (.cells #[.int .i64 (hh : Int), .slice Au b.length cu] 108)) V.heap.size 108 [.int .i64 (hh : Int), .slice Au b.length cu] := Row.new_ rfl rfl;have z_rP := asz V (.cells #[.int .i64 (hh : Int), .slice Au b.length cu] 108);generalize V.alloc (.cells #[.int .i64 (hh : Int), .slice Au b.length cu] 108) = Y1 at *;have b_V := bx;have m_Y1 : V.heap.size <= Y1.heap.size := bx.size;clear bx;refine held_one 4 (by kernel_rfl) ?_;refine step_value 4 _ _ (some 8) (.slice Av ns.length cv) Y1 (by rfl) (by kernel_rfl) (load_n rfl (cell_last (rG.go b_V)) (by kernel_rfl)) ((rB.go b_V)) ?_;simp only [Act.put, arr9, hd9, tl9];refine held_one 7 (by kernel_rfl) ?_;have hbx := HX.out.2.2.1;have hbs : w.heap.size <= Y1.heap.size := (Below.chain HV.out.2.2.2 b_V).size;have how := own_step2 HV.out.1 b_V;refine step_appendO Y1 7 _ (some 11) 102 108 i0 (.agg #[.int .i64 0, .slice none 0 0]) 2 32 Tryz.underlying102 hi0 hz0 hsz0 hby0 rfl (by decide) (.tmp 8) (.tmp 10) (by rfl) (by kernel_rfl) (m := 1) (c := 1) (news := [.int .i64 (hh : Int), .slice Au b.length cu]) how (by kernel_rfl) (by kernel_rfl) rfl (fun j y hj => by rw [addr_add, (rP).cell, Nat.zero_add]; exact hj) oneNode (by have := HX.out.2.2.2.2.2.1; unfold maxLen; omega) (by have := HX.out.2.2.2.2.2.1; omega) (by omega) ?_;intro v2 Y3 ho2 hg2 hat2;have hgX : Row Y1 g T (pre ++ [.slice Av ns.length cv]) := (rG.go b_V);have hrX : Row Y1 w.heap.size 108 [.int .i64 (hh : Int), .slice Au b.length cu] := (rB.go b_V);have hsX : ∀ e ∈ ns, Sl Y1 Y1.heap.size e.2.2 e.2.1 /\ Off g e.2.2 /\ ∀ k, (Value.slice Av ns.length cv).ownBlock = some k -> Off k e.2.2 := fun e he => ⟨(HV.out.2.1 e he).1.go b_V, (HV.out.2.1 e he).2⟩
  have huX : Sl Y1 Y1.heap.size (.slice Au b.length cu) b := HV.out.2.2.1.go b_V;have bwX : Below w.heap.size w Y1 := Below.chain HV.out.2.2.2 b_V;have hne1 : some w.heap.size ≠ (.slice Av ns.length cv : Value).ownBlock := fun e => Nat.lt_irrefl _ (HX.out.2.2.2.2.2.2 _ e.symm)
  have hne2 : some g ≠ (.slice Av ns.length cv : Value).ownBlock := fun e => by have h1 := (how.lt g e.symm).1; have h2 := HX.out.2.1; omega
  have rB2 : Row Y3 w.heap.size 108 [.int .i64 (hh : Int), .slice Au b.length cu] := (hg2.block w.heap.size hrX.lt hne1).trans hrX;have rG2 : Row Y3 g T (pre ++ [.slice Av ns.length cv]) := (hg2.block g hgX.lt hne2).trans hgX;have hat3 : ∀ k, v2.ownBlock = some k -> (.slice Av ns.length cv : Value).ownBlock = some k ∨ Y1.heap.size <= k := fun k hk => by
   rcases hat2 with h1 | h1
   ·exact .inl (h1.symm.trans hk)
   ·rw [h1] at hk;injection hk with hk;exact .inr (by omega)
  obtain ⟨rr, hk1, hk2⟩ := StkAt.push hgX HX.out.1 HX.out.2.1 (Nat.le_trans hbx hbs) hsX huX HX.out.2.2.2.1 HX.out.2.2.2.2.1 how ho2 hg2 hat3;obtain ⟨A2, c2, rfl⟩ := own_form2 ho2;have HP : Shh (StkAt (Y3.setCell ⟨g, pre.length, none⟩ (.slice A2 (ns.length + 1) c2)) base g T pre rr (l ++ [(hh, b)]) /\ But base g w (Y3.setCell ⟨g, pre.length, none⟩ (.slice A2 (ns.length + 1) c2)) /\ Row (Y3.setCell ⟨g, pre.length, none⟩ (.slice A2 (ns.length + 1) c2)) w.heap.size 108 [.int .i64 (hh : Int), .slice Au b.length cu]) := ⟨hk1, ((But.of bwX g).mono hbx).trans hk2, (((But.refl Y3.heap.size g Y3).setCell _ _).row rB2 (Nat.lt_of_lt_of_le hrX.lt hg2.size) (fun e => by have h1 := HX.out.2.1; omega))⟩;clear hk1 hk2 hat3 hne1 hne2 hsX huX bwX hgX hrX how ho2 hg2 hat2 hbx hbs;replace rB := rB2;replace rG := rG2;clear rB2 rG2;refine ⟨rB, ?_⟩;simp only [Act.put, arr9, hd9, tl9];refine hdv0 8 12 (.pointer (some ⟨g, pre.length, none⟩)) (by rfl) (rB) ?_;refine hdv0 9 13 (.pointer (some ⟨g, pre.length, none⟩)) (by rfl) (rB) ?_;refine held_one 10 (by kernel_rfl) ?_;refine step_store1 10 _ (by rfl) (by kernel_rfl) (Y3.setCell ⟨g, pre.length, none⟩ (.slice A2 (ns.length + 1) c2)) (store_n rfl (by kernel_rfl) (by kernel_rfl) (cell_last rG) ((rG).free _)) ⟨HP.out.2.2, ?_⟩;refine wpAnyH_done (by kernel_rfl) ?_ _;go_wp2
  go_end0
  exact ⟨⟨_, rfl⟩, ⟨_, HP.out.1⟩, HP.out.2.1⟩
end Go.Proofs.YtdakbipiifkmfaaGreatDoor
namespace Go.Proofs.YtdakbipiifkmfaaGreatDoor
open Go.RowKit
set_option maxRecDepth 100000
theorem StkP.lenV {P : Value -> Prop} {w : World} {base g : Nat} {T : TypeId} {pre : List Value} {r : Option Nat} {l : List (Nat × List UInt8)} (h : StkP P w base g T pre r l) : Go.Proofs.YtdakbipiifkmfaaGreatDoor.lenV ((w.cell? ⟨g, pre.length, none⟩).getD (.int .i64 0)) = l.length := by
 obtain ⟨rfl, A, c, hr⟩ | ⟨rb, cap, _, _, hr⟩ := h.form
 ·rw [cell_last hr]; rfl
 ·rw [cell_last hr]; rfl
theorem Stir.thenBut {g k : Nat} {r : Option Nat} {w X Y : World} (h : Stir g r w X) (bt : But X.heap.size k X Y) (hk : w.heap.size <= k) : Stir g r w Y :=
 ⟨bt.os.trans h.os, bt.tape.trans h.tape, bt.output.trans h.output, Nat.le_trans h.size bt.size, fun i hi h1 h2 => (bt.block i (Nat.lt_of_lt_of_le hi h.size) (by omega)).trans (h.block i hi h1 h2)⟩
set_option maxHeartbeats 4000000 in
theorem store_any (x : S5) (hw : x.wf) (hx : x.ok = true) (vs vp vb : Value) (sd pf pb : List UInt8) (w0 : World) (hs : Sl w0 w0.heap.size vs sd) (hp : Sl w0 w0.heap.size vp pf) (hb : Sl w0 w0.heap.size vb pb) (hsl : (sd.length : Int) = x.n) (hbl : (pb.length : Int) = x.n) (ht : Tabs w0)
  (w : World) (base g : Nat) (T : TypeId) (pre : List Value) (r : Option Nat) (K j m : Nat) (hm : m < 2 ^ K) (hK : K <= 30) (hi : j * 2 ^ K + m < 4294967296) (hB : Below w0.heap.size w0 w) (hg0 : w0.heap.size <= g) (h : StkAt w base g T pre r (stkA x.s x.n x.l.toNat sd pb K j m)) :
  Calls Tryz.prog 81 #[.agg (srcL x vs vp vb).toArray, .pointer (some ⟨g, pre.length, none⟩), .int .u32 ((j * 2 ^ K + m : Nat) : Int)] w (PutS w base g T pre (stkA x.s x.n x.l.toNat sd pb K j (m + 1))) := by
 unfold PutS;obtain ⟨As, cs, rfl, _, _⟩ := hs.form;obtain ⟨Ap, cp, rfl, _, _⟩ := hp.form;obtain ⟨Ab, cb, rfl, _, _⟩ := hb.form;obtain ⟨I, hI⟩ : ∃ I, I = j * 2 ^ K + m := ⟨_, rfl⟩;obtain ⟨N, hN⟩ : ∃ N, N = nodeV x.s x.n x.l.toNat sd pb := ⟨_, rfl⟩;obtain ⟨S, hS⟩ : ∃ S, S = stkH x.s x.n x.l.toNat sd pb K j := ⟨_, rfl⟩;obtain ⟨R, hR⟩ : ∃ R, R = stkA x.s x.n x.l.toNat sd pb K j (m + 1) := ⟨_, rfl⟩;have hn := S5.ok_is hx;have HI : Shh (I < 4294967296 /\ K <= 30) := ⟨by omega, hK⟩
 have HLF : Shh (∀ W, Below w0.heap.size w0 W -> Calls Tryz.prog 44 #[.agg ([.int .u32 x.c, .bool x.s, .int .i64 x.n, .int .i64 x.h, .int .i64 x.l, .slice As sd.length cs, .slice Ap pf.length cp, .slice Ab pb.length cb] : List Value).toArray, .int .u32 (I : Int)] W (NewSl W (N 0 (offK K j 0 + m)))) := ⟨fun W b => by
  have h1 := leaf_any x hw hx _ _ _ sd pf pb I (by omega) W (hs.go b) (hp.go b) (hb.go b) hsl hbl (ht.go b);have e : offK K j 0 + m = I := by unfold offK; rw [Nat.sub_zero, hI]
  rw [e, hN]
  exact h1⟩
 have HST : Shh (∀ h q, m + 1 = 2 ^ h * (q + 1) -> q % 2 = 1 -> h < K /\ m + 1 = 2 ^ (h + 1) * (q / 2 + 1) /\ S h q = S (h + 1) (q / 2) ++ [(h, N h (offK K j h + q - 1))]) := ⟨fun h q h1 h2 => by
  have h3 := stk_step x.s x.n x.l.toNat sd pb K j m h q hm h1 h2;rw [hS, hN]
  exact ⟨h3.1, h3.2.1, h3.2.2.2.1⟩⟩
 have HEN : Shh (∀ h q, m + 1 = 2 ^ h * (q + 1) -> q % 2 = 0 -> S h q ++ [(h, N h (offK K j h + q))] = R /\ ∀ e ∈ S h q, e.1 ≠ h) := ⟨fun h q h1 h2 => by
  have h3 := stk_end x.s x.n x.l.toNat sd pb K j m h q hm h1 h2;rw [hS, hN, hR]
  exact h3⟩
 have HLN : Shh (∀ h q, (S h q).length <= 100) := ⟨fun h q => by
  have h3 := stk_count x.s x.n x.l.toNat sd pb K j h q;rw [hS]
  omega⟩
 have HIN : Shh (∀ h q vl vr W, m + 1 = 2 ^ h * (q + 1) -> q % 2 = 1 -> Below w0.heap.size w0 W -> Sl W W.heap.size vl (N h (offK K j h + q - 1)) -> Sl W W.heap.size vr (N h (offK K j h + q)) -> Calls Tryz.prog 93 #[x.v, .slice Ab pb.length cb, .int .i64 ((h + 1 : Nat) : Int), .int .u32 ((I / 2 ^ (h + 1) : Nat) : Int), vl, vr] W (NewSl W (N (h + 1) (offK K j (h + 1) + q / 2)))) := ⟨fun h q vl vr W h1 h2 b hl hr => by
  have h3 := stk_step x.s x.n x.l.toNat sd pb K j m h q hm h1 h2;have hd : I / 2 ^ (h + 1) <= I := Nat.div_le_self _ _;rw [hN] at hl hr ⊢;have h4 := inner_any x hw hx _ vl vr pb _ _ h (I / 2 ^ (h + 1)) (by have := h3.1; omega) (by omega) W (hb.go b) hl hr (by omega) (nodeV_length hx _ _ _ _) (nodeV_length hx _ _ _ _) (ht.go b);rw [hI, h3.2.2.1, h3.2.2.2.2] at h4;rw [hI, h3.2.2.1]
  exact h4⟩
 have hh0 : StkAt w base g T pre r (S 0 m) := by
  rw [hS];exact h
 have HG : Shh (g < base /\ base <= w.heap.size /\ (∀ k, r = some k -> base <= k /\ k < w.heap.size) /\ w0.heap.size <= g /\ Below w0.heap.size w0 w /\ (∀ W, Stir g r w W -> Below w0.heap.size w0 W)) := ⟨h.base_le.1, h.base_le.2, h.r_le, hg0, hB, fun W s => s.low hB hg0 h.base_le.1 (fun k hk => (h.r_le k hk).1)⟩;rw [<- hI, <- hR];obtain ⟨W, hW⟩ : ∃ W, W = w.alloc (.cells #[.int .u32 x.c, .bool x.s, .int .i64 x.n, .int .i64 x.h, .int .i64 x.l, .slice As sd.length cs, .slice Ap pf.length cp, .slice Ab pb.length cb] 70) := ⟨_, rfl⟩;have HW : Shh (Row W w.heap.size 70 [.int .u32 x.c, .bool x.s, .int .i64 x.n, .int .i64 x.h, .int .i64 x.l, .slice As sd.length cs, .slice Ap pf.length cp, .slice Ab pb.length cb] /\ StkAt W base g T pre r (S 0 m) /\ Below w.heap.size w W /\ W.heap.size = w.heap.size + 1) := by
  rw [hW];exact ⟨Row.new_ rfl rfl, hh0.go (below1 _ _), below1 _ _, asz _ _⟩
 have he0 : m + 1 = 2 ^ 0 * (m + 1) := by rw [Nat.pow_zero, Nat.one_mul]
 clear h hh0 hs hp hb ht hsl hbl hn hm hK hi hB hg0 hw hx hN hS hR hI;unfold srcL;unfold S5.v at HIN;generalize x.c = xc at *;generalize x.s = xs at *;generalize x.n = xn at *;generalize x.h = xh at *;generalize x.l = xl at *;obtain ⟨op, HOP⟩ : ∃ op, Shh (op = pre.length) := ⟨_, ⟨rfl⟩⟩;rw [<- HOP.out];go_enter Tryz.func81, Tryz.ntmps81
 go_wp2_with (go_at_call 44; rw [<- hW]; refine (HLF.out W (HG.out.2.2.2.2.1.trans (HW.out.2.2.1.mono HG.out.2.2.2.2.1.size))).mono ?_)
 unfold NewSl;rintro e w2 ⟨u, rfl, su, b2, ou⟩;obtain ⟨nb, hnb⟩ : ∃ nb, nb = N 0 (offK K j 0 + m) := ⟨_, rfl⟩;rw [<- hnb] at su;have HNB := Shh.mk hnb;clear hnb;obtain ⟨Au, cu, rfl, _, _⟩ := su.form;obtain ⟨kr, HKR⟩ : ∃ kr, Shh (kr = w2.heap.size) := ⟨_, ⟨rfl⟩⟩;have HK : Shh (w.heap.size < kr) := ⟨by have := b2.size; have := HW.out.2.2.2; have := HKR.out; omega⟩
 go_wp2_with (refine wpList_store_any rfl 108 (.tmp 6) (.tmp 13) rfl w2.heap.size rfl [.int .i64 0, .slice Au nb.length cu] rfl 108 [.int .i64 0, .slice none 0 0] (Row.new_ rfl rfl) info_node rfl oneNode ?_)
 intro Z hr bt hsz;have HL : Shh (StkP (Off kr) Z base g T pre r (S 0 m) /\ Row Z w.heap.size 70 [.int .u32 xc, .bool xs, .int .i64 xn, .int .i64 xh, .int .i64 xl, .slice As sd.length cs, .slice Ap pf.length cp, .slice Ab pb.length cb] /\ Row Z kr 108 [.int .i64 ((0 : Nat) : Int), .slice Au nb.length cu] /\ Sl Z Z.heap.size (.slice Au nb.length cu) (N 0 (offK K j 0 + m)) /\ (Off g (.slice Au nb.length cu) /\ ∀ k, r = some k -> Off k (.slice Au nb.length cu)) /\ Stir g r w Z) := by
  have bz : Below w2.heap.size w2 Z := (below1 _ _).trans (bt.under (by omega) (Nat.le_refl _));have bw : Below w.heap.size w Z := Below.chain (Below.chain HW.out.2.2.1 b2) bz;refine ⟨((HW.out.2.1.go b2).offK (Nat.le_of_eq HKR.out.symm)).go bz, HW.out.1.go (Below.chain b2 bz), by rw [HKR.out]; exact hr, by rw [<- HNB.out]; exact su.go bz, ⟨ou g (by have := HG.out; have := HW.out.2.2.2; omega), fun k hk => ou k (by have := HG.out.2.2.1 k hk; have := HW.out.2.2.2; omega)⟩, Stir.of bw⟩
 rw [<- HKR.out];clear hr bt hsz HKR su b2 ou HNB HW hW HLF;go_wp2;go_loopw [8] (fun ok wr => ∃ (h q : Nat) (u : Value), m + 1 = 2 ^ h * (q + 1) /\ Shh (StkP (Off kr) wr base g T pre r (S h q) /\ Row wr w.heap.size 70 [.int .u32 xc, .bool xs, .int .i64 xn, .int .i64 xh, .int .i64 xl, .slice As sd.length cs, .slice Ap pf.length cp, .slice Ab pb.length cb] /\ Row wr kr 108 [.int .i64 ((h : Nat) : Int), u] /\ Sl wr wr.heap.size (u) (N h (offK K j h + q)) /\ (Off g (u) /\ ∀ k, r = some k -> Off k (u)) /\ Stir g r w wr)) (fun ok wr => lenV ((wr.cell? ⟨g, op, none⟩).getD (.int .i64 0)))
 case atStart => exact ⟨0, m, _, he0, HL⟩
 case round =>
  clear HL he0;obtain ⟨h, q, u, he, HL⟩ := hrel;obtain ⟨nb, HNB⟩ : ∃ nb, Shh (nb = N h (offK K j h + q)) := ⟨_, ⟨rfl⟩⟩;rw [<- HNB.out] at HL;obtain ⟨Au, cu, rfl, _, _⟩ := HL.out.2.2.2.1.form
  by_cases hq : q % 2 = 1
  ·obtain ⟨lb, HLB⟩ : ∃ lb, Shh (lb = N h (offK K j h + q - 1)) := ⟨_, ⟨rfl⟩⟩;have HQ : Shh (h < K /\ m + 1 = 2 ^ (h + 1) * (q / 2 + 1) /\ S h q = S (h + 1) (q / 2) ++ [(h, lb)]) := ⟨by rw [HLB.out]; exact HST.out h q he hq⟩;have HIQ : Shh (∀ vl vr W, Below w0.heap.size w0 W -> Sl W W.heap.size vl lb -> Sl W W.heap.size vr nb -> Calls Tryz.prog 93 #[.agg ([.int .u32 xc, .bool xs, .int .i64 xn, .int .i64 xh, .int .i64 xl] : List Value).toArray, .slice Ab pb.length cb, .int .i64 ((h + 1 : Nat) : Int), .int .u32 ((I / 2 ^ (h + 1) : Nat) : Int), vl, vr] W (NewSl W (N (h + 1) (offK K j (h + 1) + q / 2)))) := ⟨fun vl vr W b hl hr => HIN.out h q vl vr W he hq b (by rw [<- HLB.out]; exact hl) (by rw [<- HNB.out]; exact hr)⟩;have HS2 : StkP (Off kr) wr base g T pre r (S (h + 1) (q / 2) ++ [(h, lb)]) := by rw [<- HQ.out.2.2]; exact HL.out.1
   have HMU : Shh (lenV ((wr.cell? ⟨g, op, none⟩).getD (.int .i64 0)) = (S (h + 1) (q / 2)).length + 1) := ⟨by rw [HOP.out]; rw [HS2.lenV, List.length_append, List.length_singleton]⟩;have HLA := Shh.mk (last_any wr base g T pre r _ h lb (by have := HLN.out (h + 1) (q / 2); omega) HS2);rw [<- HOP.out] at HLA;have HSL := Shh.mk HS2;clear HST HEN HIN he HS2 HLB HNB hq
   go_wp2_with (go_at_call 80; refine HLA.out.mono ?_)
   unfold LastIs;rintro e w2 ⟨ul, rfl, sl, ogl, orl, b2⟩;clear HLA;obtain ⟨Al, cl, rfl, _, _⟩ := sl.form;obtain ⟨kl, HKL⟩ : ∃ kl, Shh (kl = w2.heap.size) := ⟨_, ⟨rfl⟩⟩
   go_wp2_with (refine wpList_store_any rfl 108 (.tmp 7) (.tmp 17) rfl w2.heap.size rfl [.int .i64 (h : Int), .slice Al lb.length cl] rfl 108 [.int .i64 0, .slice none 0 0] (Row.new_ rfl rfl) info_node rfl oneNode ?_)
   intro Z hr bt hsz;have bz : Below w2.heap.size w2 Z := (below1 _ _).trans (bt.under (by omega) (Nat.le_refl _));have bw : Below wr.heap.size wr Z := Below.chain b2 bz;have HZ : Shh (StkP (Off kr) Z base g T pre r (S (h + 1) (q / 2) ++ [(h, lb)]) /\ Row Z w.heap.size 70 [.int .u32 xc, .bool xs, .int .i64 xn, .int .i64 xh, .int .i64 xl, .slice As sd.length cs, .slice Ap pf.length cp, .slice Ab pb.length cb] /\ Row Z kr 108 [.int .i64 (h : Int), .slice Au nb.length cu] /\ Row Z kl 108 [.int .i64 (h : Int), .slice Al lb.length cl] /\ Sl Z Z.heap.size (.slice Au nb.length cu) nb /\ Sl Z Z.heap.size (.slice Al lb.length cl) lb /\ Stir g r w Z /\ kr < kl /\ (Off g (.slice Al lb.length cl) /\ ∀ k, r = some k -> Off k (.slice Al lb.length cl))) := ⟨HSL.out.go bw, HL.out.2.1.go bw, HL.out.2.2.1.go bw, by rw [HKL.out]; exact hr, HL.out.2.2.2.1.go bw, sl.go bz, HL.out.2.2.2.2.2.trans (Stir.of bw), by rw [HKL.out]; exact Nat.lt_of_lt_of_le HL.out.2.2.1.lt b2.size, ogl, orl⟩;have HOU := Shh.mk HL.out.2.2.2.2.1;rw [<- HKL.out];clear hr bt hsz HKL sl ogl orl b2 bz bw HSL HL;have cr := HZ.out.2.2.1.cell 0;have cl0 := HZ.out.2.2.2.1.cell 0;simp only [List.getElem?_cons_zero] at cr cl0;have HTA := Shh.mk (take_any Z base g T pre r _ h lb (by have := HLN.out (h + 1) (q / 2); omega) HZ.out.1);rw [<- HOP.out] at HTA
   go_wp2_with (first | refine wl_value (.bool false) rfl (neq_same rfl rfl rfl) ?_ | (go_at_call 109; refine HTA.out.mono ?_))
   unfold StkIs;rintro e w4 ⟨⟨v4, rfl⟩, s4, t4⟩;have hkg : ∀ k, w.heap.size <= k -> k ≠ g /\ some k ≠ r := fun k hk => ⟨by have := HG.out; omega, fun e => by have := HG.out.2.2.1 k e.symm; omega⟩
   have h1 := (hkg w.heap.size (Nat.le_refl _));have h2 := (hkg kr (Nat.le_of_lt HK.out));have h3 := (hkg kl (by have := HK.out; have := HZ.out.2.2.2.2.2.2.2.1; omega));have H4 : Shh (StkP (Off kr) w4 base g T pre r (S (h + 1) (q / 2)) /\ Row w4 w.heap.size 70 [.int .u32 xc, .bool xs, .int .i64 xn, .int .i64 xh, .int .i64 xl, .slice As sd.length cs, .slice Ap pf.length cp, .slice Ab pb.length cb] /\ Row w4 kr 108 [.int .i64 (h : Int), .slice Au nb.length cu] /\ Row w4 kl 108 [.int .i64 (h : Int), .slice Al lb.length cl] /\ Sl w4 w4.heap.size (.slice Au nb.length cu) nb /\ Sl w4 w4.heap.size (.slice Al lb.length cl) lb /\ Stir g r w w4 /\ kr < kl) := ⟨s4, HZ.out.2.1.stir h1.1 h1.2 t4, HZ.out.2.2.1.stir h2.1 h2.2 t4, HZ.out.2.2.2.1.stir h3.1 h3.2 t4, HZ.out.2.2.2.2.1.stir HOU.out.1 HOU.out.2 t4, HZ.out.2.2.2.2.2.1.stir HZ.out.2.2.2.2.2.2.2.2.1 HZ.out.2.2.2.2.2.2.2.2.2 t4, HZ.out.2.2.2.2.2.2.1.trans t4, HZ.out.2.2.2.2.2.2.2.1⟩;have H2K := Shh.mk h2;clear HZ HTA s4 t4 h1 h2 h3 hkg cr cl0 HOU;have cr := H4.out.2.2.1.cell 0;simp only [List.getElem?_cons_zero] at cr
   go_wp2_with (refine wl_value (.int .i64 ((h + 1 : Nat) : Int)) rfl (add_one (by have := HQ.out.1; have := HI.out.2; omega) rfl rfl) ?_)
   clear cr;refine wp_region_held_drew (S := fun w' => Row w' w.heap.size 70 [.int .u32 xc, .bool xs, .int .i64 xn, .int .i64 xh, .int .i64 xl, .slice As sd.length cs, .slice Ap pf.length cp, .slice Ab pb.length cb] /\ Row w' kl 108 [.int .i64 (h : Int), .slice Al lb.length cl]) (by kernel_rfl) ⟨H4.out.2.1.drew, H4.out.2.2.2.1.drew⟩ (fun hS => ?_);clear hS;obtain ⟨V, hV⟩ : ∃ V, V = World.drew w4 := ⟨_, rfl⟩;rw [<- hV];have bV : Below w4.heap.size w4 V := by rw [hV]; exact (Below.refl _ _).drew
   have rB : Row V w.heap.size 70 [.int .u32 xc, .bool xs, .int .i64 xn, .int .i64 xh, .int .i64 xl, .slice As sd.length cs, .slice Ap pf.length cp, .slice Ab pb.length cb] := H4.out.2.1.go bV;have rL : Row V kl 108 [.int .i64 (h : Int), .slice Al lb.length cl] := H4.out.2.2.2.1.go bV;have rR : Row V kr 108 [.int .i64 (h : Int), .slice Au nb.length cu] := H4.out.2.2.1.go bV;have sK : StkP (Off kr) V base g T pre r (S (h + 1) (q / 2)) := H4.out.1.go bV;have sU : Sl V V.heap.size (.slice Au nb.length cu) nb := H4.out.2.2.2.2.1.go bV;have sL : Sl V V.heap.size (.slice Al lb.length cl) lb := H4.out.2.2.2.2.2.1.go bV;have HVS : Shh (Stir g r w V /\ kr < kl) := ⟨H4.out.2.2.2.2.2.2.1.trans (Stir.of bV), H4.out.2.2.2.2.2.2.2⟩;clear hV bV H4;refine hdv0 0 33 (.int .i64 ((h + 1 : Nat) : Int)) (by rfl) (⟨rB, rL⟩) ?_;refine hdv0 1 34 (.pointer (some ⟨w.heap.size, 0, none⟩)) (by rfl) (⟨rB, rL⟩) ?_;refine hdv0 3 36 (.pointer (some ⟨w.heap.size, 5, none⟩)) (by rfl) (⟨rB, rL⟩) ?_;refine hdv0 4 37 (.pointer (some ⟨w.heap.size, 7, none⟩)) (by rfl) (⟨rB, rL⟩) ?_;refine hdv 5 38 (.slice Ab pb.length cb) (by rfl) (fun w hS => load_p rfl (hS.1.cell 7) (by kernel_rfl)) (⟨rB, rL⟩) ?_;refine hdv0 6 39 (.int .i64 ((h + 1 : Nat) : Int)) (by rfl) (⟨rB, rL⟩) ?_;refine hdv0 7 40 (.int .u32 (I : Int)) (by rfl) (⟨rB, rL⟩) ?_;refine hdv0 8 41 (.int .i64 ((h + 1 : Nat) : Int)) (by rfl) (⟨rB, rL⟩) ?_;refine hdv 9 42 (.int .u32 ((I / 2 ^ (h + 1) : Nat) : Int)) (by rfl) (fun w hS => shr_32 rfl (by have := HQ.out.1; have := HI.out.2; omega) rfl (by kernel_rfl) (by kernel_rfl)) (⟨rB, rL⟩) ?_;refine hdv0 10 43 (.pointer (some ⟨kl, 1, none⟩)) (by rfl) (⟨rB, rL⟩) ?_;refine hdv 11 44 (.slice Al lb.length cl) (by rfl) (fun w hS => load_p rfl (hS.2.cell 1) (by kernel_rfl)) (⟨rB, rL⟩) ?_;refine hdv0 12 45 (.pointer (some ⟨kr, 1, none⟩)) (by rfl) (⟨rB, rL⟩) ?_;refine held_load 2 27 (.tmp 34) (some 35) (by kernel_rfl) (by rfl) (by kernel_rfl) w.heap.size 0 (by kernel_rfl) ([.int .u32 xc, .bool xs, .int .i64 xn, .int .i64 xh, .int .i64 xl]) _ (fun w h => Row.mid h.1 0 5) Tryz.underlying27 rfl (info_xms) (fun _ _ _ _ h => h) (⟨rB, rL⟩) ?_;simp only [Act.put, arr9, hd9, tl9];refine held_one 13 (by kernel_rfl) ?_;refine step_value 13 _ _ (some 46) (.slice Au nb.length cu) V (by rfl) (by kernel_rfl) (load_p rfl ((rR).cell 1) (by kernel_rfl)) (⟨rB, rL⟩) ?_;simp only [Act.put, arr9, hd9, tl9];refine held_one 14 (by kernel_rfl) ?_;refine step_call 14 _ _ (some 47) 93 #[.agg ([.int .u32 xc, .bool xs, .int .i64 xn, .int .i64 xh, .int .i64 xl]).toArray, .slice Ab pb.length cb, .int .i64 ((h + 1 : Nat) : Int), .int .u32 ((I / 2 ^ (h + 1) : Nat) : Int), .slice Al lb.length cl, .slice Au nb.length cu] (by rfl) (by kernel_rfl) (by first | kernel_rfl | go_simp) ?_;refine (HIQ.out _ _ V (HG.out.2.2.2.2.2 _ (HVS.out.1.trans (Stir.of (Below.refl _ _)))) (sL) (sU)).mono ?_;unfold NewSl; rintro e Y2 ⟨vn, rfl, sn, bn, on⟩;have bx : Below V.heap.size V Y2 := bn;obtain ⟨nn, HNN⟩ : ∃ nn, Shh (nn = N (h + 1) (offK K j (h + 1) + q / 2)) := ⟨_, ⟨rfl⟩⟩;rw [<- HNN.out] at sn;obtain ⟨An, cn, vEq, _, _⟩ := sn.form;subst vEq;have HON : Shh (Off g (.slice An nn.length cn) /\ (∀ k, r = some k -> Off k (.slice An nn.length cn)) /\ Off kr (.slice An nn.length cn)) := ⟨on g (by have := (rR).lt; have := HG.out; have := HK.out; omega), fun k hk => on k (by have := (rR).lt; have := HG.out.2.2.1 k hk; have := HK.out; omega), on kr (rR).lt⟩;have sN := sn;clear on sn;have b_V := bx;have m_Y2 : V.heap.size <= Y2.heap.size := bx.size;clear bx;refine ⟨_, rfl, ⟨(rB.go b_V), (rL.go b_V)⟩, ?_⟩;simp only [Act.put, arr9, hd9, tl9];refine hdv0 15 48 (.agg ([.int .i64 ((h + 1 : Nat) : Int), .slice An nn.length cn]).toArray) (by rfl) (⟨(rB.go b_V), (rL.go b_V)⟩) ?_;refine held_one 16 (by kernel_rfl) ?_;refine step_storeRow 16 108 (.tmp 6) (.tmp 48) (by rfl) (by kernel_rfl) (kr) rfl ([.int .i64 ((h + 1 : Nat) : Int), .slice An nn.length cn]) rfl 108 ([.int .i64 (h : Int), .slice Au nb.length cu]) (rR.go b_V) (info_node) (rfl) oneNode ?_;intro Y3 rR2 bt zt;have rB2 : Row Y3 w.heap.size 70 [.int .u32 xc, .bool xs, .int .i64 xn, .int .i64 xh, .int .i64 xl, .slice As sd.length cs, .slice Ap pf.length cp, .slice Ab pb.length cb] := bt.row (rB.go b_V) (rB.go b_V).lt (Nat.ne_of_lt HK.out);have rL2 : Row Y3 kl 108 [.int .i64 (h : Int), .slice Al lb.length cl] := bt.row (rL.go b_V) (rL.go b_V).lt (Nat.ne_of_gt HVS.out.2);have sK2 : StkP (Off kr) Y3 base g T pre r (S (h + 1) (q / 2)) := (sK.go b_V).other bt H2K.out.1 (fun e => H2K.out.2 e.symm);have sN2 : Sl Y3 Y3.heap.size (.slice An nn.length cn) nn := (sN.but HON.out.2.2 bt).more bt.size;have HT2 : Stir g r w Y3 := (HVS.out.1.trans (Stir.of b_V)).thenBut bt (Nat.le_of_lt HK.out);refine ⟨⟨rB2, rL2⟩, ?_⟩;refine wpAnyH_done (by kernel_rfl) ?_ _;have HR : Shh (StkP (Off kr) Y3 base g T pre r (S (h + 1) (q / 2)) /\ Row Y3 w.heap.size 70 [.int .u32 xc, .bool xs, .int .i64 xn, .int .i64 xh, .int .i64 xl, .slice As sd.length cs, .slice Ap pf.length cp, .slice Ab pb.length cb] /\ Row Y3 kr 108 [.int .i64 ((h + 1 : Nat) : Int), .slice An nn.length cn] /\ Sl Y3 Y3.heap.size (.slice An nn.length cn) (N (h + 1) (offK K j (h + 1) + q / 2)) /\ (Off g (.slice An nn.length cn) /\ ∀ k, r = some k -> Off k (.slice An nn.length cn)) /\ Stir g r w Y3) := ⟨sK2, rB2, rR2, by rw [<- HNN.out]; exact sN2, ⟨HON.out.1, HON.out.2.1⟩, HT2⟩;clear HT2 sN2 sK2 rL2 rB2 zt bt rR2 m_Y2 b_V sN HON rB rL rR sK sU sL HVS HNN H2K HIQ;go_wp2
   go_roundw
   case rel => exact ⟨h + 1, q / 2, _, HQ.out.2.1, HR⟩
   case measure => rw [HMU.out, HOP.out, HR.out.1.lenV]; omega
  ·have HE2 : Shh (S h q ++ [(h, nb)] = R) := ⟨by rw [HNB.out]; exact (HEN.out h q he (by omega)).1⟩;have hne := (HEN.out h q he (by omega)).2
   rcases List.eq_nil_or_concat (S h q) with h0 | ⟨l2, tb, h0⟩
   ·have HLA := Shh.mk (last_nil wr base g T pre r (by rw [<- h0]; exact HL.out.1));rw [<- HOP.out] at HLA;clear HST HEN HIN he HNB hq h0 hne
    go_wp2_with (go_at_call 80; refine HLA.out.mono ?_)
    unfold OldIs;rintro e w2 ⟨rfl, b2⟩;clear HLA;obtain ⟨kl, HKL⟩ : ∃ kl, Shh (kl = w2.heap.size) := ⟨_, ⟨rfl⟩⟩
    go_wp2_with (refine wpList_store_any rfl 108 (.tmp 7) (.tmp 17) rfl w2.heap.size rfl [.int .i64 0, .slice none 0 0] rfl 108 [.int .i64 0, .slice none 0 0] (Row.new_ rfl rfl) info_node rfl oneNode ?_)
    intro Z hr bt hsz;have bz : Below w2.heap.size w2 Z := (below1 _ _).trans (bt.under (by omega) (Nat.le_refl _));have bw : Below wr.heap.size wr Z := Below.chain b2 bz;have HZ : Shh (Row Z kr 108 [.int .i64 (h : Int), .slice Au nb.length cu] /\ Row Z kl 108 [.int .i64 0, .slice none 0 0] /\ Stir g r w Z) := ⟨HL.out.2.2.1.go bw, by rw [HKL.out]; exact hr, HL.out.2.2.2.2.2.trans (Stir.of bw)⟩;have HPU := Shh.mk (put_any Z base g T pre r (S h q) h _ nb (by have := HLN.out h q; omega) ((HL.out.1.go bw).mono fun _ _ => trivial) (HL.out.2.2.2.1.go bw) HL.out.2.2.2.2.1.1 HL.out.2.2.2.2.1.2);rw [<- HOP.out] at HPU;rw [<- HKL.out];clear hr bt hsz HKL b2 bz bw HL;have cr := HZ.out.1.cell 0;have cl0 := HZ.out.2.1.cell 0;simp only [List.getElem?_cons_zero] at cr cl0
    go_wp2_with (first | refine wpList_load_any rfl 108 (.tmp 6) rfl kr rfl 108 [.int .i64 (h : Int), .slice Au nb.length cu] _ HZ.out.1 Tryz.underlying108 rfl info_node ?_ | (go_at_call 110; refine HPU.out.mono ?_))
    unfold PutS;rintro e w5 ⟨⟨v5, rfl⟩, ⟨r5, s5⟩, b5⟩;have HR : Shh ((∃ r, StkAt w5 base g T pre r R) /\ But base g w w5) := ⟨⟨r5, by rw [<- HE2.out]; exact s5⟩, (HZ.out.2.2.but HG.out.2.1 (fun k hk => (HG.out.2.2.1 k hk).1)).trans b5⟩;clear HZ HPU cr cl0 s5 b5;go_wp2
    go_end0
    exact ⟨⟨_, rfl⟩, HR.out⟩
   ·obtain ⟨th, tv⟩ := tb;rw [List.concat_eq_append] at h0;have hth : th ≠ h := hne (th, tv) (by rw [h0]; simp);have hti : ((th : Int) != (h : Int)) = true := by simp only [bne_iff_ne, ne_eq]; omega
    have htj : ¬ (th : Int) = (h : Int) := by omega
    clear hth;have HLA := Shh.mk (last_any wr base g T pre r l2 th tv (by have h1 := HLN.out h q; rw [h0, List.length_append] at h1; omega) (by rw [<- h0]; exact HL.out.1));rw [<- HOP.out] at HLA;clear HST HEN HIN he HNB hq h0 hne
    go_wp2_with (go_at_call 80; refine HLA.out.mono ?_)
    unfold LastIs;rintro e w2 ⟨ul, rfl, sl, ogl, orl, b2⟩;obtain ⟨Al, cl, rfl, _, _⟩ := sl.form;clear HLA sl ogl orl;obtain ⟨kl, HKL⟩ : ∃ kl, Shh (kl = w2.heap.size) := ⟨_, ⟨rfl⟩⟩
    go_wp2_with (refine wpList_store_any rfl 108 (.tmp 7) (.tmp 17) rfl w2.heap.size rfl [.int .i64 (th : Int), .slice Al tv.length cl] rfl 108 [.int .i64 0, .slice none 0 0] (Row.new_ rfl rfl) info_node rfl oneNode ?_)
    intro Z hr bt hsz;have bz : Below w2.heap.size w2 Z := (below1 _ _).trans (bt.under (by omega) (Nat.le_refl _));have bw : Below wr.heap.size wr Z := Below.chain b2 bz;have HZ : Shh (Row Z kr 108 [.int .i64 (h : Int), .slice Au nb.length cu] /\ Row Z kl 108 [.int .i64 (th : Int), .slice Al tv.length cl] /\ Stir g r w Z) := ⟨HL.out.2.2.1.go bw, by rw [HKL.out]; exact hr, HL.out.2.2.2.2.2.trans (Stir.of bw)⟩;have HPU := Shh.mk (put_any Z base g T pre r (S h q) h _ nb (by have := HLN.out h q; omega) ((HL.out.1.go bw).mono fun _ _ => trivial) (HL.out.2.2.2.1.go bw) HL.out.2.2.2.2.1.1 HL.out.2.2.2.2.1.2);rw [<- HOP.out] at HPU;rw [<- HKL.out];clear hr bt hsz HKL b2 bz bw HL;have cr := HZ.out.1.cell 0;have cl0 := HZ.out.2.1.cell 0;simp only [List.getElem?_cons_zero] at cr cl0
    go_wp2_with (first | refine wpList_load_any rfl 108 (.tmp 6) rfl kr rfl 108 [.int .i64 (h : Int), .slice Au nb.length cu] _ HZ.out.1 Tryz.underlying108 rfl info_node ?_ | (go_at_call 110; refine HPU.out.mono ?_))
    unfold PutS;rintro e w5 ⟨⟨v5, rfl⟩, ⟨r5, s5⟩, b5⟩;have HR : Shh ((∃ r, StkAt w5 base g T pre r R) /\ But base g w w5) := ⟨⟨r5, by rw [<- HE2.out]; exact s5⟩, (HZ.out.2.2.but HG.out.2.1 (fun k hk => (HG.out.2.2.1 k hk).1)).trans b5⟩;clear HZ HPU cr cl0 s5 b5;go_wp2
    go_end0
    exact ⟨⟨_, rfl⟩, HR.out⟩
end Go.Proofs.YtdakbipiifkmfaaGreatDoor
namespace Go.Proofs.YtdakbipiifkmfaaGreatDoor
open Go.RowKit
set_option maxRecDepth 100000
section
variable {a : Act} {x y : Operand} {op : Oper} {w : World}
theorem add_32 {n k m : Nat} (h : m = k + n) (hm : m < 4294967296) (ho : op.op = .binOp .add 22 x y 22) (hx : a.eval x = .int .u32 (k : Int)) (hy : a.eval y = .int .u32 (n : Int)) : (execOp a.eval op).run Tryz.prog w = .ok (.value (.int .u32 (m : Int))) w := by
 have hw : IntKind.u32.wrap ((k : Int) + (n : Int)) = (m : Int) := by rw [IntKind.wrap_u32]; omega
 clear h;unfold execOp;simp only [ho, hx, hy]
 go_simp
end
set_option maxHeartbeats 2000000 in
theorem value_any (x : S5) (hw : x.wf) (hx : x.ok = true) (vs vp vb : Value) (sd pf pb : List UInt8) (K j : Nat) (hK : K <= 30) (hj : (j + 1) * 2 ^ K <= 4294967296) (w : World) (hs : Sl w w.heap.size vs sd) (hp : Sl w w.heap.size vp pf) (hb : Sl w w.heap.size vb pb) (hsl : (sd.length : Int) = x.n) (hbl : (pb.length : Int) = x.n) (ht : Tabs w) :
  Calls Tryz.prog 50 #[.agg (srcL x vs vp vb).toArray, .int .i64 (K : Int), .int .u32 (j : Int)] w (SlIs w (nodeV x.s x.n x.l.toNat sd pb K j)) := by
 unfold SlIs;obtain ⟨As, cs, rfl, _, _⟩ := hs.form;obtain ⟨Ap, cp, rfl, _, _⟩ := hp.form;obtain ⟨Ab, cb, rfl, _, _⟩ := hb.form;obtain ⟨P, hP⟩ : ∃ P, P = 2 ^ K := ⟨_, rfl⟩;obtain ⟨J, hJ⟩ : ∃ J, J = j * 2 ^ K := ⟨_, rfl⟩;obtain ⟨A, hA⟩ : ∃ A, A = stkA x.s x.n x.l.toNat sd pb K j := ⟨_, rfl⟩;obtain ⟨out, hout⟩ : ∃ out, out = nodeV x.s x.n x.l.toNat sd pb K j := ⟨_, rfl⟩;have hPK : 2 ^ K <= 2 ^ 30 := Nat.pow_le_pow_right (by decide) hK;have hJP : J + P <= 4294967296 := by rw [hJ, hP]; rw [Nat.add_mul, Nat.one_mul] at hj; exact hj
 have hP0 : 0 < P := by rw [hP]; exact Nat.two_pow_pos K
 have HP : Shh (P = 1 * 2 ^ K /\ J = j * 2 ^ K /\ P < 4294967296 /\ K <= 32 /\ J < 4294967296 /\ J + P <= 4294967296) := ⟨by omega, hJ, by rw [hP]; exact Nat.lt_of_le_of_lt hPK (by decide), by omega, by omega, hJP⟩
 have HST : Shh (∀ m W r T g base, m < P -> Below w.heap.size w W -> w.heap.size <= g -> StkAt W base g T [] r (A m) -> Calls Tryz.prog 81 #[.agg ([.int .u32 x.c, .bool x.s, .int .i64 x.n, .int .i64 x.h, .int .i64 x.l, .slice As sd.length cs, .slice Ap pf.length cp, .slice Ab pb.length cb] : List Value).toArray, .pointer (some ⟨g, 0, none⟩), .int .u32 ((J + m : Nat) : Int)] W (PutS W base g T [] (A (m + 1)))) := ⟨fun m W r T g base h1 h2 h3 h4 => by
  rw [hA] at h4 ⊢;rw [hJ]
  exact store_any x hw hx _ _ _ sd pf pb w hs hp hb hsl hbl ht W base g T [] r K j m (by rw [<- hP]; exact h1) hK (by rw [<- hJ]; omega) h2 h3 h4⟩
 have HA : Shh (A 0 = [] /\ A P = [] ++ [(K, out)]) := ⟨by rw [hA]; exact stk_start _ _ _ _ _ _ _, by rw [hA, hP, hout]; exact stk_full _ _ _ _ _ _ _⟩;rw [<- hout];obtain ⟨W, hW⟩ : ∃ W, W = (w.alloc (.cells #[.int .u32 x.c, .bool x.s, .int .i64 x.n, .int .i64 x.h, .int .i64 x.l, .slice As sd.length cs, .slice Ap pf.length cp, .slice Ab pb.length cb] 70)).alloc (.cells #[.slice none 0 0] 104) := ⟨_, rfl⟩;have HW : Shh (Row W w.heap.size 70 [.int .u32 x.c, .bool x.s, .int .i64 x.n, .int .i64 x.h, .int .i64 x.l, .slice As sd.length cs, .slice Ap pf.length cp, .slice Ab pb.length cb] /\ StkAt W (w.heap.size + 2) (w.heap.size + 1) 104 [] none [] /\ Below w.heap.size w W /\ W.heap.size = w.heap.size + 2) := by
  have h1 := StkAt.made (w.alloc (.cells #[.int .u32 x.c, .bool x.s, .int .i64 x.n, .int .i64 x.h, .int .i64 x.l, .slice As sd.length cs, .slice Ap pf.length cp, .slice Ab pb.length cb] 70)) 104;rw [asz, asz] at h1;rw [hW];exact ⟨(Row.new_ rfl rfl).alloc _, h1, Below.chain (below1 _ _) (below1 _ _), by rw [asz, asz]⟩
 clear hs hp hb ht hsl hbl hK hj hw hx hP hJ hA hout hPK hJP hP0;unfold srcL;generalize x.c = xc at *;generalize x.s = xs at *;generalize x.n = xn at *;generalize x.h = xh at *;generalize x.l = xl at *;go_enter Tryz.func50, Tryz.ntmps50
 go_wp2_with (refine wl_value (.int .u32 (P : Int)) rfl (shl_32 HP.out.1 HP.out.2.2.2.1 HP.out.2.2.1 rfl rfl rfl) ?_)
 rw [<- hW];have HL : Shh ((∃ r, StkAt W (w.heap.size + 2) (w.heap.size + 1) 104 [] r (A 0)) /\ Row W w.heap.size 70 [.int .u32 xc, .bool xs, .int .i64 xn, .int .i64 xh, .int .i64 xl, .slice As sd.length cs, .slice Ap pf.length cp, .slice Ab pb.length cb] /\ But (w.heap.size + 2) (w.heap.size + 1) W W) := ⟨⟨none, by rw [HA.out.1]; exact HW.out.2.1⟩, HW.out.1, But.refl _ _ _⟩;clear hW;go_loopw [13] (fun v wr => ∃ m : Nat, m <= P /\ v = .int .u32 (m : Int) /\ Shh ((∃ r, StkAt wr (w.heap.size + 2) (w.heap.size + 1) 104 [] r (A m)) /\ Row wr w.heap.size 70 [.int .u32 xc, .bool xs, .int .i64 xn, .int .i64 xh, .int .i64 xl, .slice As sd.length cs, .slice Ap pf.length cp, .slice Ab pb.length cb] /\ But (w.heap.size + 2) (w.heap.size + 1) W wr)) (fun v _ => P - (intOf v).toNat)
 case atStart => exact ⟨0, Nat.zero_le _, rfl, HL⟩
 case round =>
  clear HL;obtain ⟨m, hm, rfl, HL⟩ := hrel
  by_cases hlt : m < P
  ·have hlti : (m : Int) < (P : Int) := by omega
   go_wp2;have HLT : Shh (m < P) := ⟨hlt⟩;clear hlti hlt hm;refine wp_region_held_drew (S := fun w' => Row w' w.heap.size 70 [.int .u32 xc, .bool xs, .int .i64 xn, .int .i64 xh, .int .i64 xl, .slice As sd.length cs, .slice Ap pf.length cp, .slice Ab pb.length cb]) (by kernel_rfl) HL.out.2.1.drew (fun hS => ?_);clear hS;obtain ⟨V, hV⟩ : ∃ V, V = World.drew wr := ⟨_, rfl⟩;rw [<- hV];have rB : Row V w.heap.size 70 [.int .u32 xc, .bool xs, .int .i64 xn, .int .i64 xh, .int .i64 xl, .slice As sd.length cs, .slice Ap pf.length cp, .slice Ab pb.length cb] := by rw [hV]; exact HL.out.2.1.drew
   have HVB : Shh ((∃ r, StkAt V (w.heap.size + 2) (w.heap.size + 1) 104 [] r (A m)) /\ But (w.heap.size + 2) (w.heap.size + 1) W V /\ Below w.heap.size w V) := by
    rw [hV];exact ⟨⟨HL.out.1.choose, HL.out.1.choose_spec.drew⟩, HL.out.2.2.drew, HW.out.2.2.1.trans (HL.out.2.2.drew.under (by omega) (by omega))⟩
   clear hV HL;obtain ⟨rr, hrr⟩ := HVB.out.1;have sK := Shh.mk hrr;clear hrr;refine hdv0 1 17 (.int .u32 (j : Int)) (by rfl) (rB) ?_;refine hdv0 2 18 (.int .i64 (K : Int)) (by rfl) (rB) ?_;refine hdv 3 19 (.int .u32 (J : Int)) (by rfl) (fun w hS => shl_32 HP.out.2.1 HP.out.2.2.2.1 HP.out.2.2.2.2.1 rfl (by kernel_rfl) (by kernel_rfl)) (rB) ?_;refine hdv0 4 20 (.int .u32 (m : Int)) (by rfl) (rB) ?_;refine hdv 5 21 (.int .u32 ((J + m : Nat) : Int)) (by rfl) (fun w hS => add_32 rfl (by have := HP.out.2.2.2.2.2; have := HLT.out; omega) rfl (by kernel_rfl) (by kernel_rfl)) (rB) ?_;refine held_load 0 70 (.tmp 3) (some 16) (by kernel_rfl) (by rfl) (by kernel_rfl) w.heap.size 0 (by kernel_rfl) ([.int .u32 xc, .bool xs, .int .i64 xn, .int .i64 xh, .int .i64 xl, .slice As sd.length cs, .slice Ap pf.length cp, .slice Ab pb.length cb]) _ (fun w h => h.range) Tryz.underlying70 rfl (info_src) (fun _ _ _ _ h => h) (rB) ?_;simp only [Act.put, arr9, hd9, tl9];refine held_one 6 (by kernel_rfl) ?_;refine step_call 6 _ _ (some 22) 81 #[.agg ([.int .u32 xc, .bool xs, .int .i64 xn, .int .i64 xh, .int .i64 xl, .slice As sd.length cs, .slice Ap pf.length cp, .slice Ab pb.length cb]).toArray, .pointer (some ⟨w.heap.size + 1, 0, none⟩), .int .u32 ((J + m : Nat) : Int)] (by rfl) (by kernel_rfl) (by first | kernel_rfl | go_simp) ?_;refine (HST.out m V rr _ _ _ HLT.out HVB.out.2.2 (by omega) sK.out).mono ?_;unfold PutS; rintro e Y1 ⟨⟨v5, rfl⟩, ⟨r5, s5⟩, b5⟩;have rB2 : Row Y1 w.heap.size 70 [.int .u32 xc, .bool xs, .int .i64 xn, .int .i64 xh, .int .i64 xl, .slice As sd.length cs, .slice Ap pf.length cp, .slice Ab pb.length cb] := b5.row rB (by omega) (by omega);replace rB := rB2;clear rB2;refine ⟨_, rfl, rB, ?_⟩;simp only [Act.put, arr9, hd9, tl9];refine wpAnyH_done (by kernel_rfl) ?_ _;have HR : Shh ((∃ r, StkAt Y1 (w.heap.size + 2) (w.heap.size + 1) 104 [] r (A (m + 1))) /\ Row Y1 w.heap.size 70 [.int .u32 xc, .bool xs, .int .i64 xn, .int .i64 xh, .int .i64 xl, .slice As sd.length cs, .slice Ap pf.length cp, .slice Ab pb.length cb] /\ But (w.heap.size + 2) (w.heap.size + 1) W Y1) := ⟨⟨r5, s5⟩, rB, HVB.out.2.1.trans b5⟩;clear s5 b5 rB HVB sK
   go_wp2_with (refine wl_value (.int .u32 ((m + 1 : Nat) : Int)) rfl (add_32 rfl (by have := HP.out.2.2.1; have := HLT.out; omega) rfl rfl rfl) ?_)
   go_roundw
   case rel => exact ⟨m + 1, HLT.out, rfl, HR⟩
   case measure => have := HLT.out; simp [intOf]; omega
  ·obtain rfl : m = P := by omega
   have hlti : ¬ (m : Int) < (m : Int) := by omega
   obtain ⟨rr, hrr⟩ := HL.out.1;rw [HA.out.2] at hrr;have HLA := Shh.mk (last_any wr _ _ _ [] rr [] K out (by simp) hrr);rw [List.length_nil] at HLA;have HB : Shh (Below w.heap.size w wr) := ⟨HW.out.2.2.1.trans (HL.out.2.2.under (by omega) (by omega))⟩;clear hrr HL HST HA HP HW hm hlt
   go_wp2_with (go_at_call 80; refine HLA.out.mono ?_)
   unfold LastIs;rintro e w2 ⟨ul, rfl, sl, ogl, orl, b2⟩;obtain ⟨Al, cl, rfl, _, _⟩ := sl.form;have HR : Shh (∀ o, Sl (w2.alloc o) (w2.alloc o).heap.size (.slice Al out.length cl) out /\ Below w.heap.size w (w2.alloc o)) := ⟨fun o => ⟨sl.go (below1 _ _), Below.chain (Below.chain HB.out b2) (below1 _ _)⟩⟩;clear HLA sl ogl orl b2 HB;go_wp2;go_ret;exact ⟨_, rfl, HR.out _⟩
end Go.Proofs.YtdakbipiifkmfaaGreatDoor
namespace Go.Proofs.YtdakbipiifkmfaaGreatDoor
open Go.RowKit
set_option maxRecDepth 100000
set_option maxHeartbeats 2000000 in
theorem Root_any (x : S5) (vs vp vb : Value) (sd pf pb : List UInt8) (w : World) (hw : x.wf) (ht : Tabs w) (hs : Sl w w.heap.size vs sd) (hp : Sl w w.heap.size vp pf) (hb : Sl w w.heap.size vb pb) :
  Calls Tryz.prog 18 #[x.v, keyV vs vp vb] w (ResIs w (badE x [sd, pf, pb]) (rootR x sd pf pb)) := by
 unfold ResIs;obtain ⟨As, cs, rfl, _, _⟩ := hs.form;obtain ⟨Ap, cp, rfl, _, _⟩ := hp.form;obtain ⟨Ab, cb, rfl, _, _⟩ := hb.form;have HSO : Shh ((badE x [sd, pf, pb] = 0 -> ∀ W, Sl W W.heap.size (.slice As sd.length cs) sd -> Sl W W.heap.size (.slice Ap pf.length cp) pf -> Sl W W.heap.size (.slice Ab pb.length cb) pb -> Calls Tryz.prog 49 #[x.v, .agg #[.slice As sd.length cs, .slice Ap pf.length cp, .slice Ab pb.length cb]] W (OldIs (.tuple #[.agg #[.int .u32 x.c, .bool x.s, .int .i64 x.n, .int .i64 x.h, .int .i64 x.l, .slice As sd.length cs, .slice Ap pf.length cp, .slice Ab pb.length cb], .int .i64 0]) W)) /\ (¬ badE x [sd, pf, pb] = 0 -> ∀ W, Sl W W.heap.size (.slice As sd.length cs) sd -> Sl W W.heap.size (.slice Ap pf.length cp) pf -> Sl W W.heap.size (.slice Ab pb.length cb) pb -> Calls Tryz.prog 49 #[x.v, .agg #[.slice As sd.length cs, .slice Ap pf.length cp, .slice Ab pb.length cb]] W (OldIs (.tuple #[.agg #[.int .u32 0, .bool false, .int .i64 0, .int .i64 0, .int .i64 0, .slice none 0 0, .slice none 0 0, .slice none 0 0], .int .i64 (badE x [sd, pf, pb])]) W))) := by
  refine ⟨fun h0 W h1 h2 h3 => ?_, fun h0 W h1 h2 h3 => ?_⟩
  ·have h := sourceOf_any x _ _ _ sd pf pb W hw h1 h2 h3;rw [if_pos h0, h0] at h;exact h
  ·have h := sourceOf_any x _ _ _ sd pf pb W hw h1 h2 h3;rw [if_neg h0] at h;exact h
 have HG : Shh (badE x [sd, pf, pb] = 0 -> ∀ W, Sl W W.heap.size (.slice As sd.length cs) sd -> Sl W W.heap.size (.slice Ap pf.length cp) pf -> Sl W W.heap.size (.slice Ab pb.length cb) pb -> Tabs W -> Calls Tryz.prog 50 #[.agg #[.int .u32 x.c, .bool x.s, .int .i64 x.n, .int .i64 x.h, .int .i64 x.l, .slice As sd.length cs, .slice Ap pf.length cp, .slice Ab pb.length cb], .int .i64 x.h, .int .u32 0] W (SlIs W (rootR x sd pf pb))) := ⟨fun h0 => by
  have hb0 := h0;have hk := badE_ok hb0;obtain ⟨H, hxh, h20⟩ := ok_h hk.1;have htn : x.h.toNat = H := by omega
  have e : rootR x sd pf pb = nodeV x.s x.n x.l.toNat sd pb H 0 := by unfold rootR; rw [if_pos h0, htn, rootB_node]
  rw [e];intro W h1 h2 h3 h4;have h5 := value_any x hw hk.1 _ _ _ sd pf pb H 0 (by omega) (by rw [Nat.zero_add, Nat.one_mul]; exact Nat.le_trans (Nat.pow_le_pow_right (by decide) h20) (by decide)) W h1 h2 h3 (hk.2 sd (by simp)) (hk.2 pb (by simp)) h4;rw [<- hxh] at h5
  exact h5⟩
 have HN : Shh (¬ badE x [sd, pf, pb] = 0 -> rootR x sd pf pb = []) := ⟨fun h => by unfold rootR; rw [if_neg h]⟩;generalize badE x [sd, pf, pb] = er at HSO HG HN ⊢;generalize rootR x sd pf pb = out at HG HN ⊢;obtain ⟨W, hW⟩ : ∃ W, W = (w.alloc (.cells #[.int .u32 x.c, .bool x.s, .int .i64 x.n, .int .i64 x.h, .int .i64 x.l] 27)).alloc (.cells #[.slice As sd.length cs, .slice Ap pf.length cp, .slice Ab pb.length cb] 25) := ⟨_, rfl⟩;have HW : Shh (Row W w.heap.size 27 [.int .u32 x.c, .bool x.s, .int .i64 x.n, .int .i64 x.h, .int .i64 x.l] /\ Row W (w.heap.size + 1) 25 [.slice As sd.length cs, .slice Ap pf.length cp, .slice Ab pb.length cb] /\ Sl W W.heap.size (.slice As sd.length cs) sd /\ Sl W W.heap.size (.slice Ap pf.length cp) pf /\ Sl W W.heap.size (.slice Ab pb.length cb) pb /\ Tabs W /\ Below w.heap.size w W /\ w.heap.size + 2 <= W.heap.size) := by
  have b0 : Below w.heap.size w W := by rw [hW]; exact Below.chain (below1 _ _) (below1 _ _)
  refine ⟨by rw [hW]; exact (Row.new_ rfl rfl).alloc _, by rw [hW]; exact Row.new_ (by rw [asz]) rfl, hs.go b0, hp.go b0, hb.go b0, ht.go b0, b0, by rw [hW, asz, asz]; omega⟩
 clear hs hp hb ht hw;unfold keyV;unfold S5.v at HSO ⊢
 try unfold S5.v at HG
 generalize x.c = xc at *;generalize x.s = xs at *;generalize x.n = xn at *;generalize x.h = xh at *;generalize x.l = xl at *;go_enter Tryz.func18, Tryz.ntmps18
 by_cases her : er = 0
 ·have HS := Shh.mk (HSO.out.1 her);have HG2 := Shh.mk (HG.out her);subst her;clear HSO HG HN
  go_wp2_with (go_at_call 49; rw [<- hW]; refine (HS.out _ HW.out.2.2.1 HW.out.2.2.2.1 HW.out.2.2.2.2.1).mono ?_)
  unfold OldIs;rintro e w2 ⟨rfl, b2⟩;obtain ⟨M, hM⟩ : ∃ M, Shh (M = w2.heap.size) := ⟨_, ⟨rfl⟩⟩
  go_wp2_with (refine wpList_store_any rfl 70 (.tmp 6) (.tmp 12) rfl M (by rw [hM.out]; rfl) [.int .u32 xc, .bool xs, .int .i64 xn, .int .i64 xh, .int .i64 xl, .slice As sd.length cs, .slice Ap pf.length cp, .slice Ab pb.length cb] rfl 70 [.int .u32 0, .bool false, .int .i64 0, .int .i64 0, .int .i64 0, .slice none 0 0, .slice none 0 0, .slice none 0 0] (Row.new_ hM.out rfl) info_src rfl oneSrc ?_)
  intro Z hr bt hsz;have H3 : Shh (Row Z M 70 [.int .u32 xc, .bool xs, .int .i64 xn, .int .i64 xh, .int .i64 xl, .slice As sd.length cs, .slice Ap pf.length cp, .slice Ab pb.length cb] /\ Row Z w.heap.size 27 [.int .u32 xc, .bool xs, .int .i64 xn, .int .i64 xh, .int .i64 xl] /\ Row Z (w.heap.size + 1) 25 [.slice As sd.length cs, .slice Ap pf.length cp, .slice Ab pb.length cb] /\ Sl Z Z.heap.size (.slice As sd.length cs) sd /\ Sl Z Z.heap.size (.slice Ap pf.length cp) pf /\ Sl Z Z.heap.size (.slice Ab pb.length cb) pb /\ Tabs Z /\ Below w.heap.size w Z /\ M < Z.heap.size /\ w.heap.size + 2 <= M) := by
   have hm := hM.out;have hq := b2.size;have bb : Below W.heap.size W Z := Below.chain b2 ((below1 _ _).trans (bt.under (by first | omega | (rw [asz]; omega)) (by omega)));exact ⟨hr, HW.out.1.go bb, HW.out.2.1.go bb, HW.out.2.2.1.go bb, HW.out.2.2.2.1.go bb, HW.out.2.2.2.2.1.go bb, HW.out.2.2.2.2.2.1.go bb, Below.chain HW.out.2.2.2.2.2.2.1 bb, hr.lt, by have := HW.out.2.2.2.2.2.2.2; omega⟩
  rw [<- hM.out];clear hr bt hsz b2 HW hW hM HS;have e3 := H3.out.2.1.cell 3;simp only [List.getElem?_cons_succ, List.getElem?_cons_zero] at e3
  go_wp2_with (first | refine wpList_load_any rfl 70 (.tmp 6) rfl M rfl 70 [.int .u32 xc, .bool xs, .int .i64 xn, .int .i64 xh, .int .i64 xl, .slice As sd.length cs, .slice Ap pf.length cp, .slice Ab pb.length cb] _ H3.out.1 Tryz.underlying70 rfl info_src ?_ | (go_at_call 50; refine (HG2.out _ H3.out.2.2.2.1 H3.out.2.2.2.2.1 H3.out.2.2.2.2.2.1 H3.out.2.2.2.2.2.2.1).mono ?_))
  unfold SlIs;rintro e w4 ⟨v4, rfl, s4, b4⟩;have HR : Shh (Sl w4 w4.heap.size v4 out /\ Below w.heap.size w w4) := ⟨s4, Below.chain H3.out.2.2.2.2.2.2.2.1 b4⟩;clear H3 s4 b4 HG2;go_wp2;go_ret2;exact ⟨_, rfl, HR.out⟩
 ·have HS := Shh.mk (HSO.out.2 her);have HN2 := Shh.mk (HN.out her);have hne : (er != 0) = true := by simp [her]
  clear HSO HG HN her
  go_wp2_with (go_at_call 49; rw [<- hW]; refine (HS.out _ HW.out.2.2.1 HW.out.2.2.2.1 HW.out.2.2.2.2.1).mono ?_)
  unfold OldIs;rintro e w2 ⟨rfl, b2⟩;obtain ⟨M, hM⟩ : ∃ M, Shh (M = w2.heap.size) := ⟨_, ⟨rfl⟩⟩
  go_wp2_with (refine wpList_store_any rfl 70 (.tmp 6) (.tmp 12) rfl M (by rw [hM.out]; rfl) [.int .u32 0, .bool false, .int .i64 0, .int .i64 0, .int .i64 0, .slice none 0 0, .slice none 0 0, .slice none 0 0] rfl 70 [.int .u32 0, .bool false, .int .i64 0, .int .i64 0, .int .i64 0, .slice none 0 0, .slice none 0 0, .slice none 0 0] (Row.new_ hM.out rfl) info_src rfl oneSrc ?_)
  intro Z hr bt hsz;have HR : Shh (Below w.heap.size w Z) := by
   have hm := hM.out;have hq := b2.size;have bb : Below W.heap.size W Z := Below.chain b2 ((below1 _ _).trans (bt.under (by first | omega | (rw [asz]; omega)) (by omega)));exact ⟨Below.chain HW.out.2.2.2.2.2.2.1 bb⟩
  clear hr bt hsz b2 HW hW hM HS;go_wp2;go_ret2;exact ⟨_, rfl, by rw [HN2.out]; exact Sl.nil_, HR.out⟩
end Go.Proofs.YtdakbipiifkmfaaGreatDoor
