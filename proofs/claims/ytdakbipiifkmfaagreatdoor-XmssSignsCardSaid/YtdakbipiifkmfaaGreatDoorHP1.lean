import Derived.BigRegion
import Derived.Deep.RegionWith
import Derived.Deep.RegionHeld
import Derived.BigQuiet
import Derived.Deep.QuietTactic
import Derived.StillTailTactics
import Derived.WalkKit
import Derived.Test.YtdakbipiifkmfaaGreatDoorProg
import Derived.WalkSpells
import Derived.WalkLawsBesides
import Derived.Lib.UnsafeStr
import Derived.Lib.Hide
import Derived.Laws.BytesArg
import Derived.Deep.Draws
import Derived.RegionTactic
import Derived.ChangeAlike
import Derived.Laws.AppendOwnNone
import Derived.Laws.Cover3
import Derived.Deep.MidRow
import Derived.Deep.WholeRow
import Derived.Deep.RegionHeld3
import Derived.Test.YtdakbipiifkmfaaGreatDoorRows
import Derived.ProofKit
import Derived.OpenShut
import Derived.JoinedCond
import Derived.SizedLaws
import Derived.Carry
import Derived.Deep.Grids
import Derived.Lib.ConvBytes
import Derived.Lib.AtoiErrMem
import Derived.Laws.AppendOwn
import Derived.Deep.RegionLaw
import Derived.Laws.CopyOwn
import Derived.DeepKeys
import Derived.Lib.SmallJoins
import Derived.Laws.EntriesVeiled
import Derived.Lib.SliceRun
import Derived.Test.YtdakbipiifkmfaaGreatDoorHK
import Derived.Test.YtdakbipiifkmfaaGreatDoorHZ
namespace Go.Proofs.YtdakbipiifkmfaaGreatDoor
open Go.RowKit
set_option maxRecDepth 100000
def nodeV (s : Bool) (n : Int) (L : Nat) (sd pb : List UInt8) : Nat -> Nat -> List UInt8
 | 0, i => leafB s n L sd pb i
 | h + 1, i => rwF s n pb h i (nodeV s n L sd pb h (2 * i)) (nodeV s n L sd pb h (2 * i + 1))
theorem rowB_node (s : Bool) (n : Int) (L H : Nat) (sd pb : List UInt8) : ∀ h, h <= H -> ∀ i, i < 2 ^ (H - h) -> (rowB s n L H sd pb h)[i]? = some (nodeV s n L sd pb h i)
 | 0, _, i, hi => by
  rw [rowB_zero, List.getElem?_map, List.getElem?_range (by simpa using hi)];rfl
 | h + 1, hh, i, hi => by
  have e : H - h = (H - (h + 1)) + 1 := by omega
  have hl := rowB_length s n L H sd pb h (by omega);have ih := rowB_node s n L H sd pb h (by omega);rw [e, Nat.pow_succ] at hl ih;show (pairs (rwF s n pb h) 0 (rowB s n L H sd pb h))[i]? = _;rw [pairs_get _ i 0 _ (by omega), Nat.zero_add, List.getD_eq_getElem?_getD, ih (2 * i) (by omega), List.getD_eq_getElem?_getD, ih (2 * i + 1) (by omega)];rfl
theorem rootB_node (s : Bool) (n : Int) (L H : Nat) (sd pb : List UInt8) : rootB s n L H sd pb = nodeV s n L sd pb H 0 := by
 have h := rowB_node s n L H sd pb H (Nat.le_refl _) 0 (Nat.two_pow_pos _);rw [rowB_root] at h;exact Option.some.inj h
theorem pathB_node (s : Bool) (n : Int) (L H : Nat) (sd pb : List UInt8) (i h : Nat) (hi : i < 2 ^ H) (hh : h < H) : (rowB s n L H sd pb h).getD (besd (i / 2 ^ h)) [] = nodeV s n L sd pb h (besd (i / 2 ^ h)) := by
 rw [List.getD_eq_getElem?_getD, rowB_node s n L H sd pb h (by omega) _ (besd_lt i h H hi hh)];rfl
theorem nodeV_length {x : S5} (hx : x.ok = true) (sd pb : List UInt8) (h i : Nat) : (nodeV x.s x.n x.l.toNat sd pb h i).length = x.n.toNat := by
 cases h with
 | zero => exact leafB_length hx sd pb i
 | succ h => exact nodeB_length hx _ _ _ _
def stkL (V : Nat -> Nat -> List UInt8) (o : Nat -> Nat) : Nat -> Nat -> Nat -> List (Nat × List UInt8)
 | 0, _, _ => []
 | f + 1, h, q => stkL V o f (h + 1) (q / 2) ++ if q % 2 = 1 then [(h, V h (o h + q - 1))] else []
section
variable {V : Nat -> Nat -> List UInt8} {o : Nat -> Nat}
theorem stk_zero : ∀ f h, stkL V o f h 0 = []
 | 0, _ => rfl
 | f + 1, h => by
  show stkL V o f (h + 1) (0 / 2) ++ _ = _;rw [Nat.zero_div, stk_zero f (h + 1)];rfl
theorem stk_even (f h q : Nat) (hq : q % 2 = 0) : stkL V o (f + 1) h q = stkL V o f (h + 1) (q / 2) := by
 show stkL V o f (h + 1) (q / 2) ++ _ = _;rw [if_neg (by omega), List.append_nil]
theorem stk_odd (f h q : Nat) (hq : q % 2 = 1) : stkL V o (f + 1) h q = stkL V o f (h + 1) (q / 2) ++ [(h, V h (o h + q - 1))] := by
 show stkL V o f (h + 1) (q / 2) ++ _ = _;rw [if_pos hq]
theorem stk_high : ∀ f h q, ∀ e ∈ stkL V o f h q, h <= e.1
 | 0, _, _, e, he => by cases he
 | f + 1, h, q, e, he => by
  rcases List.mem_append.1 (show e ∈ stkL V o f (h + 1) (q / 2) ++ _ from he) with h1 | h1
  ·have := stk_high f (h + 1) (q / 2) e h1;omega
  ·split at h1
   ·rw [List.mem_singleton.1 h1]; exact Nat.le_refl _
   ·cases h1
theorem stk_len : ∀ f h q, q < 2 ^ f -> (stkL V o f h q).length = bitN q
 | 0, _, q, hq => by
  obtain rfl : q = 0 := by simp at hq; exact hq
  rw [bitN_zero]; rfl
 | f + 1, h, q, hq => by
  rw [Nat.pow_succ] at hq
  by_cases h0 : q = 0
  ·subst h0;rw [stk_zero, bitN_zero]; rfl
  ·rw [bitN_pos (by omega)]
   by_cases hp : q % 2 = 1
   ·rw [stk_odd f h q hp, List.length_append, stk_len f (h + 1) (q / 2) (by omega), hp, List.length_singleton, Nat.add_comm]
   ·rw [stk_even f h q (by omega), stk_len f (h + 1) (q / 2) (by omega)]; omega
theorem stk_low : ∀ d f h q, stkL V o (d + f) h (2 ^ d * q) = stkL V o f (h + d) q
 | 0, f, h, q => by rw [Nat.pow_zero, Nat.one_mul, Nat.zero_add, Nat.add_zero]
 | d + 1, f, h, q => by
  have e : d + 1 + f = (d + f) + 1 := by omega
  have e2 : 2 ^ (d + 1) * q = 2 * (2 ^ d * q) := by rw [Nat.pow_succ, Nat.mul_comm (2 ^ d) 2, Nat.mul_assoc]
  rw [e, e2, stk_even _ _ _ (by omega), Nat.mul_div_cancel_left _ (by decide), stk_low d f (h + 1) q]
  congr 1
  omega
theorem stk_put (f h q : Nat) (hq : q % 2 = 0) : stkL V o (f + 1) h (q + 1) = stkL V o (f + 1) h q ++ [(h, V h (o h + q))] := by
 rw [stk_odd f h (q + 1) (by omega), stk_even f h q hq];have e : (q + 1) / 2 = q / 2 := by omega
 rw [e];rfl
end
def offK (K i h : Nat) : Nat := i * 2 ^ (K - h)
theorem offK_two (K i h : Nat) (hh : h < K) : offK K i h = 2 * offK K i (h + 1) := by
 unfold offK;have e : K - h = (K - (h + 1)) + 1 := by omega
 rw [e, Nat.pow_succ, <- Nat.mul_assoc, Nat.mul_comm]
def stkA (s : Bool) (n : Int) (L : Nat) (sd pb : List UInt8) (K i m : Nat) : List (Nat × List UInt8) := stkL (nodeV s n L sd pb) (offK K i) (K + 1) 0 m
def stkH (s : Bool) (n : Int) (L : Nat) (sd pb : List UInt8) (K i h q : Nat) : List (Nat × List UInt8) := stkL (nodeV s n L sd pb) (offK K i) (K + 1 - h) h q
theorem two_pow_lt {h K : Nat} (hlt : 2 ^ h * 2 <= 2 ^ K) : h < K := by
 refine Classical.byContradiction fun hn => ?_
 have h1 : 2 ^ K <= 2 ^ h := Nat.pow_le_pow_right (by decide) (by omega);have h2 : 0 < 2 ^ h := Nat.two_pow_pos h;omega
theorem stk_step (s : Bool) (n : Int) (L : Nat) (sd pb : List UInt8) (K i m h q : Nat) (hm : m < 2 ^ K) (he : m + 1 = 2 ^ h * (q + 1)) (hq : q % 2 = 1) :
  h < K /\ m + 1 = 2 ^ (h + 1) * (q / 2 + 1) /\ (i * 2 ^ K + m) / 2 ^ (h + 1) = offK K i (h + 1) + q / 2 /\
  stkH s n L sd pb K i h q = stkH s n L sd pb K i (h + 1) (q / 2) ++ [(h, nodeV s n L sd pb h (offK K i h + q - 1))] /\
  rwF s n pb h (offK K i (h + 1) + q / 2) (nodeV s n L sd pb h (offK K i h + q - 1)) (nodeV s n L sd pb h (offK K i h + q)) = nodeV s n L sd pb (h + 1) (offK K i (h + 1) + q / 2) := by
 obtain ⟨p, rfl⟩ : ∃ p, q = 2 * p + 1 := ⟨q / 2, by omega⟩;have hp2 : (2 * p + 1) / 2 = p := by omega
 rw [hp2];have e1 : m + 1 = 2 ^ (h + 1) * (p + 1) := by
  rw [he, Nat.pow_succ, Nat.mul_assoc]
  congr 1
 have hK : h < K := two_pow_lt (by
  have h1 : 2 ^ (h + 1) * 1 <= 2 ^ (h + 1) * (p + 1) := Nat.mul_le_mul_left _ (by omega);rw [Nat.pow_succ] at h1 e1
  omega)
 refine ⟨hK, e1, ?_, ?_, ?_⟩
 ·have ek : 2 ^ K = 2 ^ (h + 1) * 2 ^ (K - (h + 1)) := by rw [<- Nat.pow_add]; congr 1; omega
  have ei : i * 2 ^ K = 2 ^ (h + 1) * offK K i (h + 1) := by unfold offK; rw [ek, Nat.mul_left_comm]
  have hpos : 0 < 2 ^ (h + 1) := Nat.two_pow_pos _;generalize 2 ^ (h + 1) = T at e1 ei hpos;generalize offK K i (h + 1) = O at ei;rw [ei, show T * O + m = T * (O + p) + (T - 1) by rw [Nat.mul_add]; rw [Nat.mul_add] at e1; omega, Nat.mul_add_div hpos, Nat.div_eq_of_lt (by omega), Nat.add_zero]
 ·unfold stkH;have e : K + 1 - h = (K + 1 - (h + 1)) + 1 := by omega
  rw [e, stk_odd _ _ _ (by omega), hp2]
 ·rw [offK_two K i h hK];have e2 : 2 * offK K i (h + 1) + (2 * p + 1) - 1 = 2 * (offK K i (h + 1) + p) := by omega
  have e3 : 2 * offK K i (h + 1) + (2 * p + 1) = 2 * (offK K i (h + 1) + p) + 1 := by omega
  rw [e2, e3];rfl
theorem stk_end (s : Bool) (n : Int) (L : Nat) (sd pb : List UInt8) (K i m h q : Nat) (hm : m < 2 ^ K) (he : m + 1 = 2 ^ h * (q + 1)) (hq : q % 2 = 0) :
  stkH s n L sd pb K i h q ++ [(h, nodeV s n L sd pb h (offK K i h + q))] = stkA s n L sd pb K i (m + 1) /\ ∀ e ∈ stkH s n L sd pb K i h q, e.1 ≠ h := by
 have hK : h <= K := by
  refine Classical.byContradiction fun hn => ?_
  have h1 : 2 ^ (K + 1) <= 2 ^ h := Nat.pow_le_pow_right (by decide) (by omega);have h2 : 2 ^ h * 1 <= 2 ^ h * (q + 1) := Nat.mul_le_mul_left _ (by omega);have h3 : 0 < 2 ^ K := Nat.two_pow_pos K;rw [Nat.pow_succ] at h1;omega
 have e : K + 1 - h = (K - h) + 1 := by omega
 unfold stkH stkA;rw [e];refine ⟨?_, ?_⟩
 ·rw [<- stk_put _ _ _ hq, he, show K + 1 = h + (K - h + 1) by omega, stk_low h (K - h + 1) 0 (q + 1), Nat.zero_add]
 ·rw [stk_even _ _ _ hq];intro x hx;have := stk_high _ _ _ x hx;omega
theorem stk_full (s : Bool) (n : Int) (L : Nat) (sd pb : List UInt8) (K i : Nat) : stkA s n L sd pb K i (2 ^ K) = [(K, nodeV s n L sd pb K i)] := by
 unfold stkA;rw [show 2 ^ K = 2 ^ K * 1 by omega, stk_low K 1 0 1, Nat.zero_add, stk_odd 0 K 1 rfl];unfold offK;rw [Nat.sub_self, Nat.pow_zero, Nat.mul_one];rfl
theorem stk_start (s : Bool) (n : Int) (L : Nat) (sd pb : List UInt8) (K i : Nat) : stkA s n L sd pb K i 0 = [] := stk_zero _ _
theorem stk_bits (s : Bool) (n : Int) (L : Nat) (sd pb : List UInt8) (K i m : Nat) (hm : m <= 2 ^ K) : (stkA s n L sd pb K i m).length = bitN m := stk_len _ _ _ (by rw [Nat.pow_succ]; have := Nat.two_pow_pos K; omega)
theorem stk_count (s : Bool) (n : Int) (L : Nat) (sd pb : List UInt8) (K i : Nat) (h q : Nat) : (stkH s n L sd pb K i h q).length <= K + 1 - h := by
 unfold stkH;generalize K + 1 - h = f
 induction f generalizing h q with
 | zero => exact Nat.le_refl _
 | succ f ih =>
  show (stkL _ _ f (h + 1) (q / 2) ++ _).length <= _;rw [List.length_append];have := ih (h + 1) (q / 2)
  split
  ·rw [List.length_singleton]; omega
  ·simp; omega
theorem besd_xor (i : Nat) : i ^^^ 1 = besd i := by
 unfold besd;have e : i = 2 * (i / 2) + i % 2 := by omega
 rcases Nat.mod_two_eq_zero_or_one i with h | h
 ·rw [if_neg (by omega)];apply Nat.eq_of_testBit_eq;intro j;rw [Nat.testBit_xor];cases j with
  | zero => simp [Nat.testBit_zero, h]; omega
  | succ j =>
   rw [Nat.testBit_succ, Nat.testBit_succ, Nat.testBit_succ, show (i + 1) / 2 = i / 2 by omega];simp
 ·rw [if_pos h];apply Nat.eq_of_testBit_eq;intro j;rw [Nat.testBit_xor];cases j with
  | zero => simp [Nat.testBit_zero, h]; omega
  | succ j =>
   rw [Nat.testBit_succ, Nat.testBit_succ, Nat.testBit_succ, show (i - 1) / 2 = i / 2 by omega];simp
theorem isSet11_of (xc : Int) (xs : Bool) (xn xh xl : Int) (yc : Int) (ys : Bool) (yn yh yl : Int) (ee : Int) (hxc : (Lit.int .u32 xc).wf = true) (hxn : (Lit.int .i64 xn).wf = true) (hxh : (Lit.int .i64 xh).wf = true) (hxl : (Lit.int .i64 xl).wf = true) (hyc : (Lit.int .u32 yc).wf = true) (hyn : (Lit.int .i64 yn).wf = true) (hyh : (Lit.int .i64 yh).wf = true) (hyl : (Lit.int .i64 yl).wf = true) (hset : ∀ W, Calls Tryz.prog 101 #[.int .u32 xc] W (OldIs (.tuple #[.agg #[.int .u32 yc, .bool ys, .int .i64 yn, .int .i64 yh, .int .i64 yl], .int .i64 ee]) W)) (w : World) :
  Calls Tryz.prog 66 #[.agg #[.int .u32 xc, .bool xs, .int .i64 xn, .int .i64 xh, .int .i64 xl]] w (OldIs (.bool (decide (ee = 0 /\ (xc = yc /\ xs = ys /\ xn = yn /\ xh = yh /\ xl = yl)))) w) := by
 unfold OldIs;have HW : Shh (Row (w.alloc (.cells #[.int .u32 xc, .bool xs, .int .i64 xn, .int .i64 xh, .int .i64 xl] 27)) w.heap.size 27 [.int .u32 xc, .bool xs, .int .i64 xn, .int .i64 xh, .int .i64 xl] /\ Below w.heap.size w (w.alloc (.cells #[.int .u32 xc, .bool xs, .int .i64 xn, .int .i64 xh, .int .i64 xl] 27))) := ⟨Row.new_ rfl rfl, Below.alloc (Below.refl _ _) (Nat.le_refl _) _⟩
 by_cases he : ee = 0
 ·subst he;have hres : decide ((0 : Int) = 0 /\ (xc = yc /\ xs = ys /\ xn = yn /\ xh = yh /\ xl = yl)) = decide (xc = yc /\ xs = ys /\ xn = yn /\ xh = yh /\ xl = yl) := by
   refine decide_eq_decide.2 ⟨fun h => ?_, fun h => ?_⟩
   ·obtain ⟨_, rfl, rfl, rfl, rfl, rfl⟩ := h;exact ⟨rfl, rfl, rfl, rfl, rfl⟩
   ·obtain ⟨rfl, rfl, rfl, rfl, rfl⟩ := h;exact ⟨rfl, rfl, rfl, rfl, rfl, rfl⟩
  have heq := fun W : World => eq_xms xc xs xn xh xl yc ys yn yh yl hxc hxn hxh hxl hyc hyn hyh hyl W
  rw [hres];generalize decide (xc = yc /\ xs = ys /\ xn = yn /\ xh = yh /\ xl = yl) = r at heq ⊢;clear hres;go_enter Tryz.func66, Tryz.ntmps66
  go_wp2_with (go_at_call 101; refine (hset _).mono ?_)
  unfold OldIs;rintro e w2 ⟨rfl, b2⟩;have F2 : Shh (Row w2 w.heap.size 27 [.int .u32 xc, .bool xs, .int .i64 xn, .int .i64 xh, .int .i64 xl] /\ Below w.heap.size w w2) := ⟨HW.out.1.go b2, Below.chain HW.out.2 b2⟩;clear HW b2 hset;obtain ⟨G, hG⟩ : ∃ G, Shh (G = w2.heap.size) := ⟨_, ⟨rfl⟩⟩
  go_wp2_with (refine wpList_store_any rfl 27 (.tmp 3) (.tmp 9) rfl G (by rw [hG.out]; rfl) [.int .u32 yc, .bool ys, .int .i64 yn, .int .i64 yh, .int .i64 yl] rfl 27 _ (Row.new_ hG.out rfl) info_xms rfl oneCell5 ?_)
  intro Z hr bt _;have F3 : Shh (Row Z w.heap.size 27 [.int .u32 xc, .bool xs, .int .i64 xn, .int .i64 xh, .int .i64 xl] /\ Row Z G 27 [.int .u32 yc, .bool ys, .int .i64 yn, .int .i64 yh, .int .i64 yl] /\ Below w.heap.size w Z) := by
   have hl := F2.out.1.lt;refine ⟨bt.row (F2.out.1.alloc _) (by first | omega | (simp only [asz]; omega)) (by have := hG.out; omega), hr, Below.chain F2.out.2 ?_⟩;exact (Below.alloc (Below.refl _ _) (Nat.le_refl _) _).trans (bt.under (by first | omega | (simp only [asz]; omega)) (by have := hG.out; omega))
  rw [<- hG.out];clear hr bt F2 hG
  go_wp2_with (first | refine wl_loadW 27 (.tmp 1) rfl w.heap.size rfl 27 [.int .u32 xc, .bool xs, .int .i64 xn, .int .i64 xh, .int .i64 xl] _ rfl F3.out.1 Tryz.underlying27 rfl info_xms ?_ | refine wl_loadW 27 (.tmp 3) rfl G rfl 27 [.int .u32 yc, .bool ys, .int .i64 yn, .int .i64 yh, .int .i64 yl] _ rfl F3.out.2.1 Tryz.underlying27 rfl info_xms ?_ | refine wl_eqlW 27 27 (.tmp 14) (.tmp 15) rfl #[.int .u32 xc, .bool xs, .int .i64 xn, .int .i64 xh, .int .i64 xl] #[.int .u32 yc, .bool ys, .int .i64 yn, .int .i64 yh, .int .i64 yl] rfl rfl rfl (by kernel_rfl) r (heq _) ?_)
  go_ret;exact ⟨rfl, F3.out.2.2⟩
 ·have hres : (decide (ee = 0 /\ (xc = yc /\ xs = ys /\ xn = yn /\ xh = yh /\ xl = yl))) = false := decide_eq_false fun h => he h.1
  rw [hres];clear hres;go_enter Tryz.func66, Tryz.ntmps66
  go_wp2_with (go_at_call 101; refine (hset _).mono ?_)
  unfold OldIs;rintro e w2 ⟨rfl, b2⟩;have F2 : Shh (Row w2 w.heap.size 27 [.int .u32 xc, .bool xs, .int .i64 xn, .int .i64 xh, .int .i64 xl] /\ Below w.heap.size w w2) := ⟨HW.out.1.go b2, Below.chain HW.out.2 b2⟩;clear HW b2 hset;obtain ⟨G, hG⟩ : ∃ G, Shh (G = w2.heap.size) := ⟨_, ⟨rfl⟩⟩
  go_wp2_with (refine wpList_store_any rfl 27 (.tmp 3) (.tmp 9) rfl G (by rw [hG.out]; rfl) [.int .u32 yc, .bool ys, .int .i64 yn, .int .i64 yh, .int .i64 yl] rfl 27 _ (Row.new_ hG.out rfl) info_xms rfl oneCell5 ?_)
  intro Z hr bt _;have F3 : Shh (True /\ Below w.heap.size w Z) := by
   refine ⟨trivial, Below.chain F2.out.2 ?_⟩;exact (Below.alloc (Below.refl _ _) (Nat.le_refl _) _).trans (bt.under (by first | omega | (simp only [asz]; omega)) (by have := hG.out; omega))
  clear hr bt F2 hG;go_wp2;go_ret;exact ⟨rfl, F3.out.2⟩
theorem isSet11_any (x : S5) (h : x.wf) (w : World) : Calls Tryz.prog 66 #[x.v] w (OldIs (.bool x.ok) w) := by
 obtain ⟨xc, xs, xn, xh, xl⟩ := x;have hn := c5_nat h;simp only at hn;have hw := xms_wf xc.toNat hn.2;exact isSet11_of xc xs xn xh xl (xC xc.toNat) (xSh xc.toNat) (xN xc.toNat) (xH xc.toNat : Int) (xL xc.toNat) (xE xc.toNat) h.1 h.2.1 h.2.2.1 h.2.2.2 hw.1 hw.2.1 hw.2.2.1 hw.2.2.2 (fun W => by have := xmss_any xc.toNat hn.2 W; rw [hn.1] at this; exact this) w
set_option maxHeartbeats 1000000 in
theorem check11_any (x : S5) (hw : x.wf) (v : Value) (bss : List (List UInt8)) (B g : Nat) (w : World) (hp : PartsO w B g v bss) (hB : B <= w.heap.size) (hn : bss.length <= 1000000) :
  Calls Tryz.prog 82 #[x.v, v] w (OldIs (.int .i64 (badE x bss)) w) := by
 unfold OldIs;obtain ⟨A, c, rfl⟩ := hp.form;have HM : Shh (∀ W, Calls Tryz.prog 66 #[x.v] W (OldIs (.bool x.ok) W)) := ⟨fun W => isSet11_any x hw W⟩;unfold S5.v at HM ⊢;have HP := Shh.mk hp;clear hp;have HW : Shh (Row (w.alloc (.cells #[.int .u32 x.c, .bool x.s, .int .i64 x.n, .int .i64 x.h, .int .i64 x.l] 27)) w.heap.size 27 [.int .u32 x.c, .bool x.s, .int .i64 x.n, .int .i64 x.h, .int .i64 x.l] /\ Below w.heap.size w (w.alloc (.cells #[.int .u32 x.c, .bool x.s, .int .i64 x.n, .int .i64 x.h, .int .i64 x.l] 27))) := ⟨Row.new_ rfl rfl, below1 _ _⟩;cases hok : x.ok with
 | false =>
  have HE : Shh (badE x bss = 60) := ⟨by unfold badE; rw [hok]; rfl⟩;rw [HE.out];rw [hok] at HM;clear hok HE hw;generalize x.c = xc at *;generalize x.s = xs at *;generalize x.n = xn at *;generalize x.h = xh at *;generalize x.l = xl at *;go_enter Tryz.func82, Tryz.ntmps82
  go_wp2_with (go_at_call 66; refine (HM.out _).mono ?_)
  unfold OldIs;rintro e w2 ⟨rfl, b2⟩;have HB := Shh.mk (Below.chain HW.out.2 b2);clear b2 HW HM;go_wp2;go_ret;exact ⟨rfl, HB.out⟩
 | true =>
  obtain ⟨E, hE⟩ : ∃ E, E = badE x bss := ⟨_, rfl⟩;rw [<- hE];have HE : Shh (E = if bss.all (fun b => decide ((b.length : Int) = x.n)) then 0 else 1) := ⟨by rw [hE]; unfold badE; rw [hok]; rfl⟩;rw [hok] at HM;clear hok hE hw;generalize x.c = xc at *;generalize x.s = xs at *;generalize x.n = xn at *;generalize x.h = xh at *;generalize x.l = xl at *;go_enter Tryz.func82, Tryz.ntmps82
  go_wp2_with (go_at_call 66; refine (HM.out _).mono ?_)
  unfold OldIs;rintro e w2 ⟨rfl, b2⟩;have H2 : Shh (Row w2 w.heap.size 27 [.int .u32 xc, .bool xs, .int .i64 xn, .int .i64 xh, .int .i64 xl] /\ Below w.heap.size w w2) := ⟨HW.out.1.go b2, Below.chain HW.out.2 b2⟩;clear b2 HW HM;go_wp2;go_loopw [12] (fun i wr => ∃ k : Nat, k <= bss.length /\ i = .int .i64 (k : Int) /\ Shh (Row wr w.heap.size 27 [.int .u32 xc, .bool xs, .int .i64 xn, .int .i64 xh, .int .i64 xl] /\ Below w.heap.size w wr /\ ∀ j (h : j < bss.length), j < k -> (bss[j].length : Int) = xn)) (fun i _ => bss.length - (intOf i).toNat)
  case atStart => exact ⟨0, Nat.zero_le _, rfl, ⟨H2.out.1, H2.out.2, fun _ _ h => absurd h (Nat.not_lt_zero _)⟩⟩
  case round =>
   clear H2;obtain ⟨k, hk, rfl, HL⟩ := hrel
   by_cases hlt : k < bss.length
   ·obtain ⟨q, off, rfl, hq, hqg, hcc⟩ := HP.out.at_ (by omega);obtain ⟨u, hcu, hsu, _⟩ := hcc k hlt;obtain ⟨Au, cu, rfl, _, _⟩ := hsu.form;have hcx := (HL.out.2.1.cell (p := ⟨q, off + k, none⟩) (show q < w.heap.size by omega)).trans hcu;have e2 := HL.out.1.cell 2;simp only [List.getElem?_cons_succ, List.getElem?_cons_zero] at e2
    have HX : Shh (bss[k] ∈ bss /\ ∀ j (h : j < bss.length), j < k + 1 -> (bss[k].length : Int) = xn -> (bss[j].length : Int) = xn) := ⟨List.getElem_mem hlt, fun j hj hjk he => by
     by_cases e : j = k
     ·subst e; exact he
     ·exact HL.out.2.2 j hj (by omega)⟩
    clear hcu hsu hcc;obtain ⟨ln, hln⟩ : ∃ ln, ln = bss[k].length := ⟨_, rfl⟩;have HLN := Shh.mk hln;rw [<- hln] at hcx;clear hln
    by_cases heq : (ln : Int) = xn
    ·have hne : ((ln : Int) != xn) = false := by simp [heq]
     have HR : Shh (Row wr w.heap.size 27 [.int .u32 xc, .bool xs, .int .i64 xn, .int .i64 xh, .int .i64 xl] /\ Below w.heap.size w wr /\ ∀ j (h : j < bss.length), j < k + 1 -> (bss[j].length : Int) = xn) := ⟨HL.out.1, HL.out.2.1, fun j hj hjk => HX.out.2 j hj hjk (by rw [<- HLN.out]; exact heq)⟩;clear heq HL HX HLN;go_wp2
     go_round
     case rel => exact ⟨k + 1, by omega, by go_num, ⟨HR.out.1, HR.out.2.1, HR.out.2.2⟩⟩
     case measure => simp [intOf]; omega
    ·have hne : ((ln : Int) != xn) = true := by simp [heq]
     have HR : Shh (E = 1 /\ Below w.heap.size w wr) := ⟨by
      rw [HE.out, if_neg];intro hh
      exact heq (by rw [HLN.out]; exact of_decide_eq_true (List.all_eq_true.1 hh _ HX.out.1)), HL.out.2.1⟩
     clear heq HL HX HLN HE;go_wp2;go_ret;exact ⟨by rw [HR.out.1]; rfl, HR.out.2⟩
   ·obtain rfl : k = bss.length := by omega
    have HR : Shh (E = 0 /\ Below w.heap.size w wr) := ⟨by
     rw [HE.out, if_pos];rw [List.all_eq_true];intro b hb;obtain ⟨j, hj, rfl⟩ := List.getElem_of_mem hb
     exact decide_eq_true (HL.out.2.2 j hj hj), HL.out.2.1⟩
    clear HL HE;go_wp2;go_ret;exact ⟨by rw [HR.out.1]; rfl, HR.out.2⟩
theorem off_none {n : Nat} : ∀ g, g < n -> Off g (.slice none 0 0) := fun g _ x l c h hl => by cases h
theorem ksumN_any (x : S5) (hw : x.wf) (kind : Nat) (hk : kind <= 4) (vk vm : Value) (key m : List UInt8) (w : World) (hkey : Sl w w.heap.size vk key) (hm : Sl w w.heap.size vm m) (ht : Tabs w) (hl1 : key.length <= 100000) (hl2 : m.length <= 100000) :
  Calls Tryz.prog 94 #[x.v, .int .u8 (kind : Int), vk, vm] w (NewSl w (sumK x kind key m)) := by
 unfold NewSl;obtain ⟨A1, c1, rfl, _, _⟩ := hkey.form;obtain ⟨A2, c2, rfl, _, _⟩ := hm.form;have HM : Shh (∀ W, Calls Tryz.prog 120 #[x.v] W (OldIs (.bool x.ok) W)) := ⟨fun W => isSet_any x hw W⟩;obtain ⟨W, hW⟩ : ∃ W, W = w.alloc (.cells #[.int .u32 x.c, .bool x.s, .int .i64 x.n, .int .i64 x.h, .int .i64 x.l] 27) := ⟨_, rfl⟩;have HW : Shh (Row W w.heap.size 27 [.int .u32 x.c, .bool x.s, .int .i64 x.n, .int .i64 x.h, .int .i64 x.l] /\ Sl W W.heap.size (.slice A1 key.length c1) key /\ Sl W W.heap.size (.slice A2 m.length c2) m /\ Tabs W /\ Below w.heap.size w W) := by
  rw [hW];exact ⟨Row.new_ rfl rfl, hkey.go (below1 _ _), hm.go (below1 _ _), ht.go (below1 _ _), below1 _ _⟩
 clear hkey hm ht;unfold S5.v at HM ⊢;cases hok : x.ok with
 | false =>
  have HS : Shh (sumK x kind key m = []) := ⟨by unfold sumK; rw [hok]; rfl⟩;rw [HS.out];rw [hok] at HM;clear hok HS hw;generalize x.c = xc at *;generalize x.s = xs at *;generalize x.n = xn at *;generalize x.h = xh at *;generalize x.l = xl at *;go_enter Tryz.func94, Tryz.ntmps94
  go_wp2_with (first | (rw [<- hW]; refine wpList_load_any rfl 27 (.tmp 4) rfl w.heap.size rfl 27 [.int .u32 xc, .bool xs, .int .i64 xn, .int .i64 xh, .int .i64 xl] _ HW.out.1 Tryz.underlying27 rfl info_xms ?_) | (go_at_call 120; refine (HM.out _).mono ?_))
  rw [<- hW];unfold OldIs;rintro e w2 ⟨rfl, b2⟩;have HB : Shh (Below w.heap.size w w2) := ⟨Below.chain HW.out.2.2.2.2 b2⟩;clear b2 HW hW HM;go_wp2;go_ret;exact ⟨_, rfl, Sl.nil_, HB.out, off_none⟩
 | true =>
  have HK : Shh (∀ W, Sl W W.heap.size (.slice A1 key.length c1) key -> Tabs W -> w.heap.size < W.heap.size -> Calls Tryz.prog 121 #[x.v, .int .u8 (kind : Int), .slice A1 key.length c1] W (KeyIs W w.heap.size x.s x.n kind key)) := ⟨fun W h1 h2 h3 => keyed_any x hok kind hk _ key W h1 hl1 h2 w.heap.size h3⟩;have HS : Shh (sumK x kind key m = keyd x.s x.n kind key m) := ⟨by unfold sumK; rw [hok]; rfl⟩;rw [HS.out];unfold S5.v at HK;rw [hok] at HM;clear hok hw HS;generalize x.c = xc at *;generalize x.s = xs at *;generalize x.n = xn at *;generalize x.h = xh at *;generalize x.l = xl at *;go_enter Tryz.func94, Tryz.ntmps94
  go_wp2_with (first | (rw [<- hW]; refine wpList_load_any rfl 27 (.tmp 4) rfl w.heap.size rfl 27 [.int .u32 xc, .bool xs, .int .i64 xn, .int .i64 xh, .int .i64 xl] _ HW.out.1 Tryz.underlying27 rfl info_xms ?_) | (go_at_call 120; refine (HM.out _).mono ?_))
  rw [<- hW];unfold OldIs;rintro e w2 ⟨rfl, b2⟩;have H2 : Shh (Row w2 w.heap.size 27 [.int .u32 xc, .bool xs, .int .i64 xn, .int .i64 xh, .int .i64 xl] /\ Sl w2 w2.heap.size (.slice A1 key.length c1) key /\ Sl w2 w2.heap.size (.slice A2 m.length c2) m /\ Tabs w2 /\ Below w.heap.size w w2) := ⟨HW.out.1.go b2, HW.out.2.1.go b2, HW.out.2.2.1.go b2, HW.out.2.2.2.1.go b2, Below.chain HW.out.2.2.2.2 b2⟩;clear b2 HW hW HM
  go_wp2_with (first | refine wpList_load_any rfl 27 (.tmp 4) rfl w.heap.size rfl 27 [.int .u32 xc, .bool xs, .int .i64 xn, .int .i64 xh, .int .i64 xl] _ H2.out.1 Tryz.underlying27 rfl info_xms ?_ | (go_at_call 121; refine (HK.out _ H2.out.2.1 H2.out.2.2.2.1 H2.out.1.lt).mono ?_))
  unfold KeyIs;rintro e w3 ⟨v3, rfl, k3, b3⟩;obtain ⟨F, q1, q2, rfl, hcf, kf⟩ := k3;have KF := Shh.mk kf;have H3 : Shh (Sl w3 w3.heap.size (.slice A2 m.length c2) m /\ Tabs w3 /\ Below w.heap.size w w3) := ⟨H2.out.2.2.1.go b3, H2.out.2.2.2.1.go b3, Below.chain H2.out.2.2.2.2 b3⟩;clear H2 b3 HK kf
  go_wp2_with (with_reducible show Calls Tryz.prog F _ _ _; refine (KF.out w3 _ m (But.refl _ _ _) H3.out.2.1 H3.out.1 hl2).mono ?_)
  unfold NewSl;rintro e w4 ⟨v, rfl, s4, b4, o4⟩;have HR : Shh (Sl w4 w4.heap.size v (keyd xs xn kind key m) /\ Below w.heap.size w w4 /\ ∀ g, g < w.heap.size -> Off g v) := ⟨s4, Below.chain H3.out.2.2 b4, fun g hg => o4 g (Nat.lt_of_lt_of_le hg H3.out.2.2.size)⟩;clear H3 s4 b4 o4 KF hcf;go_wp2;go_ret;exact ⟨_, rfl, HR.out⟩
theorem HN_any (x : S5) (hw : x.wf) (vk vm : Value) (key m : List UInt8) (w : World) (hkey : Sl w w.heap.size vk key) (hm : Sl w w.heap.size vm m) (ht : Tabs w) (hl1 : key.length <= 100000) (hl2 : m.length <= 100000) :
  Calls Tryz.prog 113 #[x.v, vk, vm] w (NewSl w (sumK x 1 key m)) := by
 unfold NewSl;have HK : Shh (∀ W, Sl W W.heap.size vk key -> Sl W W.heap.size vm m -> Tabs W -> Calls Tryz.prog 94 #[x.v, .int .u8 (1 : Int), vk, vm] W (NewSl W (sumK x 1 key m))) := ⟨fun W h1 h2 h3 => ksumN_any x hw 1 (by decide) vk vm key m W h1 h2 h3 hl1 hl2⟩;obtain ⟨A1, c1, rfl, _, _⟩ := hkey.form;obtain ⟨A2, c2, rfl, _, _⟩ := hm.form;obtain ⟨W, hW⟩ : ∃ W, W = w.alloc (.cells #[.int .u32 x.c, .bool x.s, .int .i64 x.n, .int .i64 x.h, .int .i64 x.l] 27) := ⟨_, rfl⟩;have HW : Shh (Row W w.heap.size 27 [.int .u32 x.c, .bool x.s, .int .i64 x.n, .int .i64 x.h, .int .i64 x.l] /\ Sl W W.heap.size (.slice A1 key.length c1) key /\ Sl W W.heap.size (.slice A2 m.length c2) m /\ Tabs W /\ Below w.heap.size w W) := by
  rw [hW];exact ⟨Row.new_ rfl rfl, hkey.go (below1 _ _), hm.go (below1 _ _), ht.go (below1 _ _), below1 _ _⟩
 clear hkey hm ht;unfold S5.v at HK ⊢;generalize sumK x 1 key m = out at HK ⊢;clear hw;generalize x.c = xc at *;generalize x.s = xs at *;generalize x.n = xn at *;generalize x.h = xh at *;generalize x.l = xl at *;go_enter Tryz.func113, Tryz.ntmps113
 go_wp2_with (first | (rw [<- hW]; refine wpList_load_any rfl 27 (.tmp 3) rfl w.heap.size rfl 27 [.int .u32 xc, .bool xs, .int .i64 xn, .int .i64 xh, .int .i64 xl] _ HW.out.1 Tryz.underlying27 rfl info_xms ?_) | (go_at_call 94; rw [<- hW]; refine (HK.out _ HW.out.2.1 HW.out.2.2.1 HW.out.2.2.2.1).mono ?_))
 clear hW;unfold NewSl;rintro e w2 ⟨v, rfl, s2, b2, o2⟩;have HR : Shh (Sl w2 w2.heap.size v out /\ Below w.heap.size w w2 /\ ∀ g, g < w.heap.size -> Off g v) := ⟨s2, Below.chain HW.out.2.2.2.2 b2, fun g hg => o2 g (Nat.lt_of_lt_of_le hg HW.out.2.2.2.2.size)⟩;clear HW s2 b2 o2 HK;go_wp2;go_ret;exact ⟨_, rfl, HR.out⟩
theorem HMsgN_any (x : S5) (hw : x.wf) (vk vm : Value) (key m : List UInt8) (w : World) (hkey : Sl w w.heap.size vk key) (hm : Sl w w.heap.size vm m) (ht : Tabs w) (hl1 : key.length <= 100000) (hl2 : m.length <= 100000) :
  Calls Tryz.prog 98 #[x.v, vk, vm] w (NewSl w (sumK x 2 key m)) := by
 unfold NewSl;have HK : Shh (∀ W, Sl W W.heap.size vk key -> Sl W W.heap.size vm m -> Tabs W -> Calls Tryz.prog 94 #[x.v, .int .u8 (2 : Int), vk, vm] W (NewSl W (sumK x 2 key m))) := ⟨fun W h1 h2 h3 => ksumN_any x hw 2 (by decide) vk vm key m W h1 h2 h3 hl1 hl2⟩;obtain ⟨A1, c1, rfl, _, _⟩ := hkey.form;obtain ⟨A2, c2, rfl, _, _⟩ := hm.form;obtain ⟨W, hW⟩ : ∃ W, W = w.alloc (.cells #[.int .u32 x.c, .bool x.s, .int .i64 x.n, .int .i64 x.h, .int .i64 x.l] 27) := ⟨_, rfl⟩;have HW : Shh (Row W w.heap.size 27 [.int .u32 x.c, .bool x.s, .int .i64 x.n, .int .i64 x.h, .int .i64 x.l] /\ Sl W W.heap.size (.slice A1 key.length c1) key /\ Sl W W.heap.size (.slice A2 m.length c2) m /\ Tabs W /\ Below w.heap.size w W) := by
  rw [hW];exact ⟨Row.new_ rfl rfl, hkey.go (below1 _ _), hm.go (below1 _ _), ht.go (below1 _ _), below1 _ _⟩
 clear hkey hm ht;unfold S5.v at HK ⊢;generalize sumK x 2 key m = out at HK ⊢;clear hw;generalize x.c = xc at *;generalize x.s = xs at *;generalize x.n = xn at *;generalize x.h = xh at *;generalize x.l = xl at *;go_enter Tryz.func98, Tryz.ntmps98
 go_wp2_with (first | (rw [<- hW]; refine wpList_load_any rfl 27 (.tmp 3) rfl w.heap.size rfl 27 [.int .u32 xc, .bool xs, .int .i64 xn, .int .i64 xh, .int .i64 xl] _ HW.out.1 Tryz.underlying27 rfl info_xms ?_) | (go_at_call 94; rw [<- hW]; refine (HK.out _ HW.out.2.1 HW.out.2.2.1 HW.out.2.2.2.1).mono ?_))
 clear hW;unfold NewSl;rintro e w2 ⟨v, rfl, s2, b2, o2⟩;have HR : Shh (Sl w2 w2.heap.size v out /\ Below w.heap.size w w2 /\ ∀ g, g < w.heap.size -> Off g v) := ⟨s2, Below.chain HW.out.2.2.2.2 b2, fun g hg => o2 g (Nat.lt_of_lt_of_le hg HW.out.2.2.2.2.size)⟩;clear HW s2 b2 o2 HK;go_wp2;go_ret;exact ⟨_, rfl, HR.out⟩
theorem PrfN_any (x : S5) (hw : x.wf) (vk vm : Value) (key m : List UInt8) (w : World) (hkey : Sl w w.heap.size vk key) (hm : Sl w w.heap.size vm m) (ht : Tabs w) (hl1 : key.length <= 100000) (hl2 : m.length <= 100000) :
  Calls Tryz.prog 58 #[x.v, vk, vm] w (NewSl w (sumK x 3 key m)) := by
 unfold NewSl;have HK : Shh (∀ W, Sl W W.heap.size vk key -> Sl W W.heap.size vm m -> Tabs W -> Calls Tryz.prog 94 #[x.v, .int .u8 (3 : Int), vk, vm] W (NewSl W (sumK x 3 key m))) := ⟨fun W h1 h2 h3 => ksumN_any x hw 3 (by decide) vk vm key m W h1 h2 h3 hl1 hl2⟩;obtain ⟨A1, c1, rfl, _, _⟩ := hkey.form;obtain ⟨A2, c2, rfl, _, _⟩ := hm.form;obtain ⟨W, hW⟩ : ∃ W, W = w.alloc (.cells #[.int .u32 x.c, .bool x.s, .int .i64 x.n, .int .i64 x.h, .int .i64 x.l] 27) := ⟨_, rfl⟩;have HW : Shh (Row W w.heap.size 27 [.int .u32 x.c, .bool x.s, .int .i64 x.n, .int .i64 x.h, .int .i64 x.l] /\ Sl W W.heap.size (.slice A1 key.length c1) key /\ Sl W W.heap.size (.slice A2 m.length c2) m /\ Tabs W /\ Below w.heap.size w W) := by
  rw [hW];exact ⟨Row.new_ rfl rfl, hkey.go (below1 _ _), hm.go (below1 _ _), ht.go (below1 _ _), below1 _ _⟩
 clear hkey hm ht;unfold S5.v at HK ⊢;generalize sumK x 3 key m = out at HK ⊢;clear hw;generalize x.c = xc at *;generalize x.s = xs at *;generalize x.n = xn at *;generalize x.h = xh at *;generalize x.l = xl at *;go_enter Tryz.func58, Tryz.ntmps58
 go_wp2_with (first | (rw [<- hW]; refine wpList_load_any rfl 27 (.tmp 3) rfl w.heap.size rfl 27 [.int .u32 xc, .bool xs, .int .i64 xn, .int .i64 xh, .int .i64 xl] _ HW.out.1 Tryz.underlying27 rfl info_xms ?_) | (go_at_call 94; rw [<- hW]; refine (HK.out _ HW.out.2.1 HW.out.2.2.1 HW.out.2.2.2.1).mono ?_))
 clear hW;unfold NewSl;rintro e w2 ⟨v, rfl, s2, b2, o2⟩;have HR : Shh (Sl w2 w2.heap.size v out /\ Below w.heap.size w w2 /\ ∀ g, g < w.heap.size -> Off g v) := ⟨s2, Below.chain HW.out.2.2.2.2 b2, fun g hg => o2 g (Nat.lt_of_lt_of_le hg HW.out.2.2.2.2.size)⟩;clear HW s2 b2 o2 HK;go_wp2;go_ret;exact ⟨_, rfl, HR.out⟩
structure Stir (g : Nat) (r : Option Nat) (w w' : World) : Prop where
 os : w'.os = w.os
 tape : w'.tape = w.tape
 output : w'.output = w.output
 size : w.heap.size <= w'.heap.size
 block : ∀ k, k < w.heap.size -> k ≠ g -> some k ≠ r -> w'.heap[k]? = w.heap[k]?
section
variable {w w' : World} {g B : Nat} {r : Option Nat} {v : Value} {bs : List UInt8} {T : TypeId} {cs : List Value}
theorem Stir.but (h : Stir g r w w') (hB : B <= w.heap.size) (hr : ∀ k, r = some k -> B <= k) : But B g w w' := ⟨h.os, h.tape, h.output, h.size, fun k hk hne => h.block k (by omega) hne (fun e => by have := hr k e.symm; omega)⟩
theorem Stir.trans {a b c : World} (h : Stir g r a b) (k : Stir g r b c) : Stir g r a c := ⟨k.os.trans h.os, k.tape.trans h.tape, k.output.trans h.output, Nat.le_trans h.size k.size, fun i hi hne hr => (k.block i (Nat.lt_of_lt_of_le hi h.size) hne hr).trans (h.block i hi hne hr)⟩
theorem Stir.of (b : Below w.heap.size w w') : Stir g r w w' := ⟨b.os, b.tape, b.output, b.size, fun k hk _ _ => b.block k hk⟩
theorem Sl.stir (h : Sl w w.heap.size v bs) (hg : Off g v) (hr : ∀ b, r = some b -> Off b v) (s : Stir g r w w') : Sl w' w'.heap.size v bs := by
 obtain ⟨A, c, hv, h1, h2, hc⟩ := h;refine ⟨A, c, hv, h1, h2, fun hn => ?_⟩;obtain ⟨b, off, hA, hb, hk⟩ := hc hn;refine ⟨b, off, hA, Nat.lt_of_lt_of_le hb s.size, fun k h => ?_⟩;have e1 : b ≠ g := hg ⟨b, off, none⟩ bs.length c (hv.trans (by rw [hA])) hn;have e2 : some b ≠ r := fun e => hr b e.symm ⟨b, off, none⟩ bs.length c (hv.trans (by rw [hA])) hn rfl
 rw [World.cell?_of_block (w := w) (s.block b hb e1 e2)];exact hk k h
theorem Row.stir {b : Nat} (h : Row w b T cs) (h1 : b ≠ g) (h2 : some b ≠ r) (s : Stir g r w w') : Row w' b T cs := (s.block b h.lt h1 h2).trans h
end
def ndC (ns : List (Nat × List UInt8 × Value)) : List Value := ns.flatMap fun e => [.int .i64 (e.1 : Int), e.2.2]
def ndL (ns : List (Nat × List UInt8 × Value)) : List (Nat × List UInt8) := ns.map fun e => (e.1, e.2.1)
theorem ndC_snoc (ns : List (Nat × List UInt8 × Value)) (e : Nat × List UInt8 × Value) : ndC (ns ++ [e]) = ndC ns ++ [.int .i64 (e.1 : Int), e.2.2] := by simp [ndC]
theorem ndC_length (ns : List (Nat × List UInt8 × Value)) : (ndC ns).length = ns.length * 2 := by
 induction ns with
 | nil => rfl
 | cons e ns ih =>
  have h : ndC (e :: ns) = [.int .i64 (e.1 : Int), e.2.2] ++ ndC ns := rfl;rw [h, List.length_append, ih];simp only [List.length_cons, List.length_nil];omega
theorem ndL_snoc {ns : List (Nat × List UInt8 × Value)} {l : List (Nat × List UInt8)} {hb : Nat × List UInt8} (h : ndL ns = l ++ [hb]) : ∃ ns' u, ns = ns' ++ [(hb.1, hb.2, u)] /\ ndL ns' = l := by
 unfold ndL at h;obtain ⟨a, b, rfl, h1, h2⟩ := List.map_eq_append_iff.1 h;obtain ⟨⟨c, d, u⟩, rfl, h3⟩ := List.map_eq_singleton_iff.1 h2;obtain ⟨rfl, rfl⟩ : c = hb.1 /\ d = hb.2 := ⟨congrArg Prod.fst h3, congrArg Prod.snd h3⟩;exact ⟨a, u, rfl, h1⟩
def StkP (P : Value -> Prop) (w : World) (base g : Nat) (T : TypeId) (pre : List Value) (r : Option Nat) (l : List (Nat × List UInt8)) : Prop :=
 ∃ v ns, Row w g T (pre ++ [v]) /\ v.ownBlock = r /\ ndL ns = l /\ g < base /\ base <= w.heap.size /\ w.ownsRow base 108 2 v ns.length (ndC ns) /\ ∀ e ∈ ns, Sl w w.heap.size e.2.2 e.2.1 /\ Off g e.2.2 /\ (∀ b, r = some b -> Off b e.2.2) /\ P e.2.2
abbrev StkAt := StkP (fun _ => True)
theorem own_step2 {w w' : World} {base s : Nat} {e : TypeId} {v : Value} {n : Nat} {xs : List Value} (h : w.ownsRow base e s v n xs) (hb : Below w.heap.size w w') : w'.ownsRow base e s v n xs := by
 refine ⟨h.1, ?_⟩
 rcases h.2 with hn | ⟨g, cap, cur, rfl, h1, hgg, rest⟩
 ·exact .inl hn
 ·exact .inr ⟨g, cap, cur, rfl, h1, (hb.block g (Array.getElem?_eq_some_iff.1 hgg).1).trans hgg, rest⟩
section
variable {w w' : World} {base g : Nat} {T : TypeId} {pre : List Value} {r : Option Nat} {l : List (Nat × List UInt8)} {hh : Nat} {b : List UInt8} {P : Value -> Prop}
theorem StkP.go (h : StkP P w base g T pre r l) (bl : Below w.heap.size w w') : StkP P w' base g T pre r l := by
 obtain ⟨v, ns, hr, ho, hl, hg, hb, hw, hs⟩ := h;exact ⟨v, ns, hr.go bl, ho, hl, hg, Nat.le_trans hb bl.size, own_step2 hw bl, fun e he => ⟨(hs e he).1.go bl, (hs e he).2⟩⟩
theorem StkP.drew (h : StkP P w base g T pre r l) : StkP P w.drew base g T pre r l := h
theorem StkP.row (h : StkP P w base g T pre r l) : ∃ v, Row w g T (pre ++ [v]) := by
 obtain ⟨v, ns, hr, _⟩ := h;exact ⟨v, hr⟩
theorem StkP.base_le (h : StkP P w base g T pre r l) : g < base /\ base <= w.heap.size := by
 obtain ⟨v, ns, hr, ho, hl, hg, hb, _⟩ := h;exact ⟨hg, hb⟩
theorem StkP.r_le (h : StkP P w base g T pre r l) : ∀ k, r = some k -> base <= k /\ k < w.heap.size := by
 obtain ⟨v, ns, hr, ho, hl, hg, hb, hw, hs⟩ := h;intro k hk;exact hw.lt k (ho.trans hk)
theorem StkAt.made (w : World) (T : TypeId) : StkAt (w.alloc (.cells #[.slice none 0 0] T)) (w.alloc (.cells #[.slice none 0 0] T)).heap.size w.heap.size T [] none [] :=
 ⟨.slice none 0 0, [], Row.new_ rfl rfl, rfl, rfl, by rw [asz]; omega, Nat.le_refl _, World.ownsRow_nil _ _ _ _, fun e he => by cases he⟩
theorem StkP.form (h : StkP P w base g T pre r l) : (l = [] /\ ∃ A c, Row w g T (pre ++ [.slice A 0 c])) ∨ (∃ rb cap, r = some rb /\ 0 < l.length /\ Row w g T (pre ++ [.slice (some ⟨rb, 0, none⟩) l.length cap])) := by
 obtain ⟨v, ns, hr, ho, hl, hg, hb, hw, hs⟩ := h;have hn : ns.length = l.length := by rw [<- hl]; simp [ndL]
 rcases hw.2 with ⟨rfl, h0⟩ | ⟨gb, cap, cur, rfl, _⟩
 ·exact .inl ⟨List.eq_nil_of_length_eq_zero (by omega), _, _, hr⟩
 ·by_cases h0 : l.length = 0
  ·refine .inl ⟨List.eq_nil_of_length_eq_zero h0, some ⟨gb, 0, none⟩, cap, ?_⟩;rw [hn, h0] at hr;exact hr
  ·refine .inr ⟨gb, cap, ho.symm, by omega, ?_⟩;rw [<- hn]; exact hr
theorem StkP.last (h : StkP P w base g T pre r (l ++ [(hh, b)])) : ∃ rb cap u, r = some rb /\ base <= rb /\ rb < w.heap.size /\ Row w g T (pre ++ [.slice (some ⟨rb, 0, none⟩) (l.length + 1) cap]) /\ l.length + 1 <= cap /\ cap <= maxLen /\ w.rangeAt rb (l.length * 2) [.int .i64 (hh : Int), u] /\ w.frozen? ⟨rb, l.length * 2, none⟩ = false /\ w.frozen? ⟨rb, l.length * 2 + 1, none⟩ = false /\ Sl w w.heap.size u b /\ Off g u /\ Off rb u := by
 obtain ⟨v, ns, hr, ho, hl, hg, hb, hw, hs⟩ := h;obtain ⟨ns', u, rfl, hl'⟩ := ndL_snoc hl;have hn : ns'.length = l.length := by rw [<- hl']; simp [ndL]
 rcases hw.2 with ⟨rfl, h0⟩ | ⟨gb, cap, cur, rfl, hgb, hrow, hc1, hc2, hsz, ht⟩
 ·rw [List.length_append, List.length_singleton] at h0; omega
 ·have he := hs (hh, b, u) (by simp);have hrr : r = some gb := ho.symm;rw [List.length_append, List.length_singleton, hn] at hr hc1;have hw1 : Row w gb 108 cur.toList := by unfold Row; rw [Array.toArray_toList]; exact hrow
  refine ⟨gb, cap, u, hrr, hgb, hw1.lt, hr, hc1, hc2, ?_, hw1.free _, hw1.free _, he.1, he.2.1, he.2.2.1 gb hrr⟩;intro j v hj;have hlen := ndC_length ns';rw [List.length_append, List.length_singleton, ndC_snoc] at ht;have hj2 : j < 2 := by
   have := (List.getElem?_eq_some_iff.1 hj).1
   simpa using this
  show w.cell? ⟨gb, l.length * 2 + j, none⟩ = some v;rw [hw1.cell];have e : (cur.toList.take ((ns'.length + 1) * 2))[l.length * 2 + j]? = some v := by
   rw [ht, List.getElem?_append_right (by omega), <- hj]
   congr 1
   omega
  rwa [List.getElem?_take_of_lt (by omega)] at e
theorem StkP.pop {rb cap : Nat} {z0 z1 : Value} (h : StkP P w base g T pre r (l ++ [(hh, b)])) (hrb : r = some rb) (hrow : Row w g T (pre ++ [.slice (some ⟨rb, 0, none⟩) (l.length + 1) cap])) :
  StkP P ((w.setCells rb (l.length * 2) [z0, z1]).setCell ⟨g, pre.length, none⟩ (.slice (some ⟨rb, 0, none⟩) l.length cap)) base g T pre r l /\ Stir g r w ((w.setCells rb (l.length * 2) [z0, z1]).setCell ⟨g, pre.length, none⟩ (.slice (some ⟨rb, 0, none⟩) l.length cap)) := by
 obtain ⟨v, ns, hr, ho, hl, hg, hb, hw, hs⟩ := h;obtain ⟨ns', u, rfl, hl'⟩ := ndL_snoc hl;have hn : ns'.length = l.length := by rw [<- hl']; simp [ndL]
 rcases hw.2 with ⟨rfl, h0⟩ | ⟨gb, cap', cur, rfl, hgb, hrw, hc1, hc2, hsz, ht⟩
 ·rw [List.length_append, List.length_singleton] at h0; omega
 ·have hrr : r = some gb := ho.symm;rw [hrr] at hrb;injection hrb with hrb;subst hrb;have hcap : cap' = cap := by
   have e := hr.symm.trans hrow;injection e with e;injection e with e;have e2 := congrArg Array.toList e;rw [List.toList_toArray, List.toList_toArray] at e2;have e3 := List.append_cancel_left e2;injection e3 with e3;injection e3
  subst hcap;have hne : gb ≠ g := by omega
  have hw1 : Row w gb 108 cur.toList := by unfold Row; rw [Array.toArray_toList]; exact hrw
  have hb1 : But w.heap.size gb w (w.setCells gb (l.length * 2) [z0, z1]) := But.setCells [z0, z1] (l.length * 2) (But.refl _ _ _);obtain ⟨W, hW⟩ : ∃ W, W = w.setCells gb (l.length * 2) [z0, z1] := ⟨_, rfl⟩;have hw2 := hw1.setCells [z0, z1] (l.length * 2);rw [<- hW] at hb1 hw2 ⊢;have hr2 : Row W g T (pre ++ [.slice (some ⟨gb, 0, none⟩) (l.length + 1) cap']) := (hb1.block g hr.lt (Ne.symm hne)).trans hrow;have hb2 : But W.heap.size g W (W.setCell ⟨g, pre.length, none⟩ (.slice (some ⟨gb, 0, none⟩) l.length cap')) := (But.refl _ _ _).setCell _ _;have hr3 := hr2.set_ pre.length (.slice (some ⟨gb, 0, none⟩) l.length cap');rw [List.set_append_right _ _ (Nat.le_refl _), Nat.sub_self] at hr3;have hst : Stir g r w (W.setCell ⟨g, pre.length, none⟩ (.slice (some ⟨gb, 0, none⟩) l.length cap')) := by
   refine ⟨hb2.os.trans hb1.os, hb2.tape.trans hb1.tape, hb2.output.trans hb1.output, Nat.le_trans hb1.size hb2.size, fun k hk h1 h2 => ?_⟩;exact (hb2.block k (Nat.lt_of_lt_of_le hk hb1.size) h1).trans (hb1.block k hk (fun e => h2 (by rw [e, hrr])))
  have hw3 : Row (W.setCell ⟨g, pre.length, none⟩ (.slice (some ⟨gb, 0, none⟩) l.length cap')) gb 108 (over cur.toList (l.length * 2) [z0, z1]) := (hb2.block gb hw2.lt hne).trans hw2;refine ⟨⟨.slice (some ⟨gb, 0, none⟩) l.length cap', ns', hr3, ho, hl', hg, Nat.le_trans hb hst.size, ?_, fun e he => ?_⟩, hst⟩
  ·rw [List.length_append, List.length_singleton, ndC_snoc] at ht;rw [List.length_append, List.length_singleton] at hc1;have hlen := ndC_length ns';have hcl : cur.toList.length = cap' * 2 := by rw [Array.length_toList]; exact hsz
   have hov := over_eq [z0, z1] cur.toList (l.length * 2) (by simp only [List.length_cons, List.length_nil]; omega);rw [hov] at hw3;refine ⟨hlen, .inr ⟨gb, cap', (cur.toList.take (l.length * 2) ++ [z0, z1] ++ cur.toList.drop (l.length * 2 + [z0, z1].length)).toArray, by rw [hn], hgb, hw3, by omega, hc2, ?_, ?_⟩⟩
   ·simp only [List.size_toArray, List.length_append, List.length_take, List.length_drop, List.length_cons, List.length_nil];omega
   ·rw [List.toList_toArray, List.append_assoc, List.take_append_of_le_length (by rw [List.length_take]; omega), List.take_take, hn, Nat.min_self];have e : (cur.toList.take ((ns'.length + 1) * 2)).take (l.length * 2) = ndC ns' := by rw [ht, List.take_append_of_le_length (by omega), List.take_of_length_le (by omega)]
    rw [List.take_take, Nat.min_eq_left (by omega)] at e;exact e
  ·have h1 := hs e (by simp [he]);exact ⟨h1.1.stir h1.2.1 h1.2.2.1 hst, h1.2⟩
theorem StkAt.push {v' : Value} {w2 : World} {u : Value} {v : Value} {ns : List (Nat × List UInt8 × Value)} (hr : Row w g T (pre ++ [v])) (hl : ndL ns = l) (hg : g < base) (hb : base <= w.heap.size) (hs : ∀ e ∈ ns, Sl w w.heap.size e.2.2 e.2.1 /\ Off g e.2.2 /\ ∀ b, v.ownBlock = some b -> Off b e.2.2)
  (hu : Sl w w.heap.size u b) (hug : Off g u) (hur : ∀ k, v.ownBlock = some k -> Off k u) (how : w.ownsRow base 108 2 v ns.length (ndC ns)) (how2 : w2.ownsRow base 108 2 v' (ns.length + 1) (ndC ns ++ [.int .i64 (hh : Int), u])) (hgr : w.grownBy w2 v.ownBlock) (hnew : ∀ k, v'.ownBlock = some k -> v.ownBlock = some k ∨ w.heap.size <= k) :
  ∃ r', StkAt (w2.setCell ⟨g, pre.length, none⟩ v') base g T pre r' (l ++ [(hh, b)]) /\ But base g w (w2.setCell ⟨g, pre.length, none⟩ v') := by
 have hgv : ∀ k, v.ownBlock = some k -> base <= k := fun k hk => (how.lt k hk).1
 have hb2 : But w2.heap.size g w2 (w2.setCell ⟨g, pre.length, none⟩ v') := (But.refl _ _ _).setCell _ _;have hst : Stir g v.ownBlock w (w2.setCell ⟨g, pre.length, none⟩ v') := ⟨hb2.os.trans hgr.os, hb2.tape.trans hgr.tape, hb2.output.trans hgr.output, Nat.le_trans hgr.size hb2.size, fun k hk h1 h2 => (hb2.block k (Nat.lt_of_lt_of_le hk hgr.size) h1).trans (hgr.block k hk h2)⟩;have hr2 : Row w2 g T (pre ++ [v]) := (hgr.block g hr.lt (fun e => by have := hgv g e.symm; omega)).trans hr;have hr3 := hr2.set_ pre.length v';rw [List.set_append_right _ _ (Nat.le_refl _), Nat.sub_self] at hr3;have hoff : ∀ x : Value, ∀ bs, Sl w w.heap.size x bs -> (∀ k, v.ownBlock = some k -> Off k x) -> ∀ k, v'.ownBlock = some k -> Off k x := fun x bs hx h1 k hk => by
  rcases hnew k hk with h2 | h2
  ·exact h1 k h2
  ·exact hx.off h2
 refine ⟨v'.ownBlock, ⟨v', ns ++ [(hh, b, u)], hr3, rfl, by unfold ndL at hl ⊢; rw [List.map_append, hl]; rfl, hg, Nat.le_trans hb hst.size, ?_, fun e he => ?_⟩, hst.but hb hgv⟩
 ·rw [List.length_append, List.length_singleton, ndC_snoc];refine ⟨by rw [List.length_append, ndC_length]; simp only [List.length_cons, List.length_nil]; omega, ?_⟩
  rcases how2.2 with ⟨_, h0⟩ | ⟨gb, cap, cur, e, hgb, hrw, rest⟩
  ·omega
  ·refine .inr ⟨gb, cap, cur, e, hgb, (hb2.block gb (Array.getElem?_eq_some_iff.1 hrw).1 (by omega)).trans hrw, rest⟩
 ·rcases List.mem_append.1 he with h1 | h1
  ·have h2 := hs e h1;exact ⟨h2.1.stir h2.2.1 h2.2.2 hst, h2.2.1, hoff _ _ h2.1 h2.2.2, trivial⟩
  ·rw [List.mem_singleton.1 h1];exact ⟨hu.stir hug hur hst, hug, hoff _ _ hu hur, trivial⟩
theorem StkP.mono {Q : Value -> Prop} (h : StkP P w base g T pre r l) (hq : ∀ v, P v -> Q v) : StkP Q w base g T pre r l := by
 obtain ⟨v, ns, hr, ho, hl, hg, hb, hw, hs⟩ := h;exact ⟨v, ns, hr, ho, hl, hg, hb, hw, fun e he => ⟨(hs e he).1, (hs e he).2.1, (hs e he).2.2.1, hq _ (hs e he).2.2.2⟩⟩
theorem StkP.offK {k : Nat} (h : StkP P w base g T pre r l) (hk : w.heap.size <= k) : StkP (Off k) w base g T pre r l := by
 obtain ⟨v, ns, hr, ho, hl, hg, hb, hw, hs⟩ := h;exact ⟨v, ns, hr, ho, hl, hg, hb, hw, fun e he => ⟨(hs e he).1, (hs e he).2.1, (hs e he).2.2.1, (hs e he).1.off hk⟩⟩
theorem StkP.other {k : Nat} (h : StkP (Off k) w base g T pre r l) (hb : But w.heap.size k w w') (hkg : k ≠ g) (hkr : r ≠ some k) : StkP (Off k) w' base g T pre r l := by
 obtain ⟨v, ns, hr, ho, hl, hg, hbs, hw, hs⟩ := h;have hst : Stir k none w w' := ⟨hb.os, hb.tape, hb.output, hb.size, fun i hi h1 _ => hb.block i hi h1⟩;refine ⟨v, ns, (hb.block g hr.lt (Ne.symm hkg)).trans hr, ho, hl, hg, Nat.le_trans hbs hb.size, ⟨hw.1, ?_⟩, fun e he => ⟨(hs e he).1.stir (hs e he).2.2.2 (fun b h => by cases h) hst, (hs e he).2⟩⟩
 rcases hw.2 with h1 | ⟨gb, cap, cur, e, hgb, hrw, rest⟩
 ·exact .inl h1
 ·exact .inr ⟨gb, cap, cur, e, hgb, (hb.block gb (Array.getElem?_eq_some_iff.1 hrw).1 (fun e2 => hkr (by rw [<- ho, e, <- e2]; rfl))).trans hrw, rest⟩
end
theorem run_clear_node {P : Program} (w : World) (t e ty : TypeId) (z0 z1 : Value) (ht : P.underlying t = some (.slice e)) (hv : ∀ w, (zeroValue e).run P w = .ok (.agg #[z0, z1]) w) (h0 : z0.oneCell' = true) (h1 : z1.oneCell' = true) (hz : (Value.agg #[z0, z1]).cells = #[z0, z1]) (b o c : Nat)
  (hc : ∀ j, j < 2 -> (w.cell? ⟨b, o + j, none⟩).isSome = true) (hf : ∀ j, j < 2 -> w.frozen? ⟨b, o + j, none⟩ = false) :
  (Builtin.clear_ #[t] ty #[.slice (some ⟨b, o, none⟩) 1 c]).run P w = .ok (.tuple #[]) (w.setCells b o [z0, z1]) := by
 have hzc : (Builtin.zeroCells (Value.agg #[z0, z1]).cells 1).toList = [z0, z1] := by
  rw [hz];apply List.ext_getElem
  ·simp [Builtin.zeroCells]
  ·intro i h1 h2;have h3 : i = 0 ∨ i = 1 := by simp at h2; omega
   rcases h3 with rfl | rfl <;> simp [Builtin.zeroCells]
 have hst := run_storeCells_cells (P := P) b o [z0, z1] 0 w (by simpa using hc) (by simpa using hf) (by intro v hv'; simp at hv'; rcases hv' with rfl | rfl <;> assumption);simp only [Nat.add_zero] at hst;simp [Builtin.clear_, run_underlying ht, hv, hzc, hst]
end Go.Proofs.YtdakbipiifkmfaaGreatDoor
