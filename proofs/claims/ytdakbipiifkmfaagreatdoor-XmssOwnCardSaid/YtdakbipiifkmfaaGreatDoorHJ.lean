import Derived.Laws.Cover3
import Derived.StillTailTactics
import Derived.BigRegion
import Derived.Deep.RegionWith
import Derived.Deep.RegionHeld
import Derived.Deep.MidRow
import Derived.Deep.WholeRow
import Derived.BigQuiet
import Derived.Deep.RegionHeld3
import Derived.Deep.QuietTactic
import Derived.Test.YtdakbipiifkmfaaGreatDoorRows
import Derived.ProofKit
import Derived.OpenShut
import Derived.JoinedCond
import Derived.SizedLaws
import Derived.Carry
import Derived.Deep.Grids
import Derived.WalkKit
import Derived.Test.YtdakbipiifkmfaaGreatDoorProg
import Derived.WalkSpells
import Derived.WalkLawsBesides
import Derived.Lib.UnsafeStr
import Derived.Lib.Hide
import Derived.Laws.BytesArg
import Derived.Deep.Draws
import Derived.RegionTactic
import Derived.ChangeAlike
import Derived.Laws.AppendOwnNone
import Derived.Lib.ConvBytes
import Derived.Lib.AtoiErrMem
import Derived.Laws.AppendOwn
import Derived.Deep.RegionLaw
import Derived.Laws.CopyOwn
import Derived.DeepKeys
import Derived.Lib.SmallJoins
import Derived.Test.YtdakbipiifkmfaaGreatDoorHI
namespace Go.Proofs.YtdakbipiifkmfaaGreatDoor
open Go.RowKit
set_option maxRecDepth 100000
theorem isSet_of (xc : Int) (xs : Bool) (xn xh xl : Int) (yc : Int) (ys : Bool) (yn yh yl : Int) (ee : Int) (hxc : (Lit.int .u32 xc).wf = true) (hxn : (Lit.int .i64 xn).wf = true) (hxh : (Lit.int .i64 xh).wf = true) (hxl : (Lit.int .i64 xl).wf = true) (hyc : (Lit.int .u32 yc).wf = true) (hyn : (Lit.int .i64 yn).wf = true) (hyh : (Lit.int .i64 yh).wf = true) (hyl : (Lit.int .i64 yl).wf = true) (hset : ∀ W, Calls Tryz.prog 101 #[.int .u32 xc] W (OldIs (.tuple #[.agg #[.int .u32 yc, .bool ys, .int .i64 yn, .int .i64 yh, .int .i64 yl], .int .i64 ee]) W)) (w : World) :
  Calls Tryz.prog 120 #[.agg #[.int .u32 xc, .bool xs, .int .i64 xn, .int .i64 xh, .int .i64 xl]] w (OldIs (.bool (decide (ee = 0 /\ (xc = yc /\ xs = ys /\ xn = yn /\ xh = yh /\ xl = yl)))) w) := by
 unfold OldIs;have HW : Shh (Row (w.alloc (.cells #[.int .u32 xc, .bool xs, .int .i64 xn, .int .i64 xh, .int .i64 xl] 27)) w.heap.size 27 [.int .u32 xc, .bool xs, .int .i64 xn, .int .i64 xh, .int .i64 xl] /\ Below w.heap.size w (w.alloc (.cells #[.int .u32 xc, .bool xs, .int .i64 xn, .int .i64 xh, .int .i64 xl] 27))) := ⟨Row.new_ rfl rfl, Below.alloc (Below.refl _ _) (Nat.le_refl _) _⟩
 by_cases he : ee = 0
 ·subst he;have hres : decide ((0 : Int) = 0 /\ (xc = yc /\ xs = ys /\ xn = yn /\ xh = yh /\ xl = yl)) = decide (xc = yc /\ xs = ys /\ xn = yn /\ xh = yh /\ xl = yl) := by
   refine decide_eq_decide.2 ⟨fun h => ?_, fun h => ?_⟩
   ·obtain ⟨_, rfl, rfl, rfl, rfl, rfl⟩ := h;exact ⟨rfl, rfl, rfl, rfl, rfl⟩
   ·obtain ⟨rfl, rfl, rfl, rfl, rfl⟩ := h;exact ⟨rfl, rfl, rfl, rfl, rfl, rfl⟩
  have heq := fun W : World => eq_xms xc xs xn xh xl yc ys yn yh yl hxc hxn hxh hxl hyc hyn hyh hyl W
  rw [hres];generalize decide (xc = yc /\ xs = ys /\ xn = yn /\ xh = yh /\ xl = yl) = r at heq ⊢;clear hres;go_enter Tryz.func120, Tryz.ntmps120
  go_wp2_with (go_at_call 101; refine (hset _).mono ?_)
  unfold OldIs;rintro e w2 ⟨rfl, b2⟩;have F2 : Shh (Row w2 w.heap.size 27 [.int .u32 xc, .bool xs, .int .i64 xn, .int .i64 xh, .int .i64 xl] /\ Below w.heap.size w w2) := ⟨HW.out.1.go b2, Below.chain HW.out.2 b2⟩;clear HW b2 hset;obtain ⟨G, hG⟩ : ∃ G, Shh (G = w2.heap.size) := ⟨_, ⟨rfl⟩⟩
  go_wp2_with (refine wpList_store_any rfl 27 (.tmp 3) (.tmp 9) rfl G (by rw [hG.out]; rfl) [.int .u32 yc, .bool ys, .int .i64 yn, .int .i64 yh, .int .i64 yl] rfl 27 _ (Row.new_ hG.out rfl) info_xms rfl oneCell5 ?_)
  intro Z hr bt _;have F3 : Shh (Row Z w.heap.size 27 [.int .u32 xc, .bool xs, .int .i64 xn, .int .i64 xh, .int .i64 xl] /\ Row Z G 27 [.int .u32 yc, .bool ys, .int .i64 yn, .int .i64 yh, .int .i64 yl] /\ Below w.heap.size w Z) := by
   have hl := F2.out.1.lt;refine ⟨bt.row (F2.out.1.alloc _) (by first | omega | (simp only [asz]; omega)) (by have := hG.out; omega), hr, Below.chain F2.out.2 ?_⟩;exact (Below.alloc (Below.refl _ _) (Nat.le_refl _) _).trans (bt.under (by first | omega | (simp only [asz]; omega)) (by have := hG.out; omega))
  rw [<- hG.out];clear hr bt F2 hG
  go_wp2_with (first | refine wl_loadW 27 (.tmp 1) rfl w.heap.size rfl 27 [.int .u32 xc, .bool xs, .int .i64 xn, .int .i64 xh, .int .i64 xl] _ rfl F3.out.1 Tryz.underlying27 rfl info_xms ?_ | refine wl_loadW 27 (.tmp 3) rfl G rfl 27 [.int .u32 yc, .bool ys, .int .i64 yn, .int .i64 yh, .int .i64 yl] _ rfl F3.out.2.1 Tryz.underlying27 rfl info_xms ?_ | refine wl_eqlW 27 27 (.tmp 14) (.tmp 15) rfl #[.int .u32 xc, .bool xs, .int .i64 xn, .int .i64 xh, .int .i64 xl] #[.int .u32 yc, .bool ys, .int .i64 yn, .int .i64 yh, .int .i64 yl] rfl rfl rfl (by kernel_rfl) r (heq _) ?_)
  go_ret;exact ⟨rfl, F3.out.2.2⟩
 ·have hres : (decide (ee = 0 /\ (xc = yc /\ xs = ys /\ xn = yn /\ xh = yh /\ xl = yl))) = false := decide_eq_false fun h => he h.1
  rw [hres];clear hres;go_enter Tryz.func120, Tryz.ntmps120
  go_wp2_with (go_at_call 101; refine (hset _).mono ?_)
  unfold OldIs;rintro e w2 ⟨rfl, b2⟩;have F2 : Shh (Row w2 w.heap.size 27 [.int .u32 xc, .bool xs, .int .i64 xn, .int .i64 xh, .int .i64 xl] /\ Below w.heap.size w w2) := ⟨HW.out.1.go b2, Below.chain HW.out.2 b2⟩;clear HW b2 hset;obtain ⟨G, hG⟩ : ∃ G, Shh (G = w2.heap.size) := ⟨_, ⟨rfl⟩⟩
  go_wp2_with (refine wpList_store_any rfl 27 (.tmp 3) (.tmp 9) rfl G (by rw [hG.out]; rfl) [.int .u32 yc, .bool ys, .int .i64 yn, .int .i64 yh, .int .i64 yl] rfl 27 _ (Row.new_ hG.out rfl) info_xms rfl oneCell5 ?_)
  intro Z hr bt _;have F3 : Shh (True /\ Below w.heap.size w Z) := by
   refine ⟨trivial, Below.chain F2.out.2 ?_⟩;exact (Below.alloc (Below.refl _ _) (Nat.le_refl _) _).trans (bt.under (by first | omega | (simp only [asz]; omega)) (by have := hG.out; omega))
  clear hr bt F2 hG;go_wp2;go_ret;exact ⟨rfl, F3.out.2⟩
theorem isSet_any (x : S5) (h : x.wf) (w : World) : Calls Tryz.prog 120 #[x.v] w (OldIs (.bool x.ok) w) := by
 obtain ⟨xc, xs, xn, xh, xl⟩ := x;have hn := c5_nat h;simp only at hn;have hw := xms_wf xc.toNat hn.2;exact isSet_of xc xs xn xh xl (xC xc.toNat) (xSh xc.toNat) (xN xc.toNat) (xH xc.toNat : Int) (xL xc.toNat) (xE xc.toNat) h.1 h.2.1 h.2.2.1 h.2.2.2 hw.1 hw.2.1 hw.2.2.1 hw.2.2.2 (fun W => by have := xmss_any xc.toNat hn.2 W; rw [hn.1] at this; exact this) w
def NewSl (w : World) (bs : List UInt8) (e : Ending) (w' : World) : Prop := ∃ v, e = .returned v /\ Sl w' w'.heap.size v bs /\ Below w.heap.size w w' /\ ∀ g, g < w.heap.size -> Off g v
theorem gives_off {w w' : World} {v : Value} {bs : List UInt8} (h : Gives w bs v w') (g : Nat) (hg : g < w.heap.size) : Off g v := by
 intro x l c hv hl
 rcases h.1.2 with ⟨h0, _⟩ | ⟨gb, cap, cur, h0, hb, _⟩
 ·rw [hv] at h0; cases h0
 ·rw [hv] at h0;injection h0 with h1 h2 h3;injection h1 with h1;rw [h1];show gb ≠ g;omega
theorem byteCells_at (bs : List UInt8) (j : Nat) (u : Value) (h : (Lib.byteCells bs)[j]? = some u) : ∃ hj : j < bs.length, u = .int .u8 (bs[j].toNat : Int) := by
 unfold Lib.byteCells at h;rw [List.getElem?_map] at h;obtain ⟨y, hy, rfl⟩ := Option.map_eq_some_iff.1 h;obtain ⟨hj, rfl⟩ := List.getElem?_eq_some_iff.1 hy;exact ⟨hj, rfl⟩
theorem Sp.outs_take (rate : Nat) : ∀ (n N : Nat), n <= N -> ∀ s : Sp, (s.outs rate N).take n = s.outs rate n
 | 0, _, _, _ => rfl
 | n + 1, 0, h, _ => absurd h (by omega)
 | n + 1, N + 1, h, s => congrArg (byteL (s.next rate).l ((s.next rate).at_ - 1) :: ·) (Sp.outs_take rate n N (by omega) (s.next rate))
def ShCloneIs (w : World) (m : List UInt8) (e : Ending) (w' : World) : Prop := ∃ g, e = .returned (.pointer (some ⟨g, 0, none⟩)) /\ g = w.heap.size /\ HashAt w' g m /\ Below w.heap.size w w'
theorem shclone_any (g : Nat) (m : List UInt8) (w : World) (h : HashAt w g m) :
  Calls Tryz.prog 140 #[.pointer (some ⟨g, 0, none⟩)] w (ShCloneIs w m) := by
 unfold ShCloneIs;have hg := h.lt;obtain ⟨cs, hcv, hrow, hcl, hco⟩ := HashVal.of h;have hpos : 0 ≠ w.heap.size := by have := h.1; omega
 go_enter Tryz.func140, Tryz.ntmps140
 go_wp2_with (go_at_call 154; refine (isMade_yes g m _ h).mono ?_)
 rintro e w1 ⟨rfl, rfl⟩;have hz := zero59;have hc : (Value.agg hashZero.toArray).cells = hashZero.toArray := rfl;have hzl := hashZero_length;generalize hashZero = zs at *
 go_wp2_with (first | refine wpList_load_any rfl 179 (.tmp 8) rfl g rfl 179 cs _ hrow Tryz.underlying179 rfl (info_hash.trans (by rw [hcl])) ?_ | refine wpList_alloc_any rfl 179 rfl zs.toArray hz ?_ | refine wpList_store_any rfl 179 (.tmp 3) (.tmp 9) rfl w1.heap.size rfl cs rfl 179 zs (Row.new_ rfl rfl) (info_hash.trans (by rw [hcl])) (by omega) hco ?_)
 intro w2 hr2 b2 hs2;have hb2 : Below w1.heap.size w1 w2 := (Below.alloc (Below.refl _ _) (Nat.le_refl _) _).trans (b2.under (Nat.le_succ _) (Nat.le_refl _));go_wp2;go_ret;exact ⟨w1.heap.size, rfl, rfl, hcv.at_ hpos hr2, hb2⟩
section
variable {P : Program} {md : Region.Mode} {ops : Array Oper} {Q : Exit -> Act -> World -> Prop} {S : World -> Prop} {fuel : Nat} {listed : Array Bool} {a : Act}
theorem step_copyS (w : World) (i : Nat) (ty : TypeId) (dst : Option Tmp) (d s : Operand) (dT sT : TypeId)
  (hop : (ops[i]?).map (fun o => (o.op, o.type, o.dst)) = some (.call { callee := .builtin .copy, args := #[d, s], argTypes := #[dT, sT] }, ty, dst)) (hw : (ops[i]?).map (fun o => Region.wanted o (yielded ops a.tmps)) = some true)
  (elem : TypeId) (hu : P.underlying dT = some (.slice elem)) (hsz : (P.info? elem).map (·.size) = some 1)
  (dLen dCap sLen sCap : Nat) (ad : Addr) (g off : Nat) (hd : a.eval d = .slice (some ⟨g, off, none⟩) dLen dCap) (hs : a.eval s = .slice (some ad) sLen sCap)
  (cur : List Value) (t : TypeId) (hr : Row w g t cur) (cs : List Value) (hn : cs.length = Nat.min sLen dLen)
  (hsrc : ∀ j v, cs[j]? = some v -> w.cell? (ad.add j) = some v) (hfit : off + cs.length <= cur.length) (h1 : ∀ v ∈ cs, v.oneCell' = true)
  (h : ∀ w', Row w' g t (splice cur off cs) -> But w.heap.size g w w' -> w'.heap.size = w.heap.size -> S w' /\ wpAnyH P md ops Q S fuel (listed.setIfInBounds i true) (a.put dst (goInt cs.length)) w') : HStep P md ops Q S fuel listed a w i := by
 unfold HStep;cases ho : ops[i]? with
 | none => rw [ho] at hop; cases hop
 | some op =>
  rw [ho] at hop hw;simp only [Option.map_some, Option.some.injEq, Prod.mk.injEq] at hop hw;obtain ⟨hop1, hop2, hop3⟩ := hop;refine wpOp_step ho fun K' hK => ?_
  rw [if_pos hw];have hrun := run_copy_row (P := P) w dT sT op.type elem g off dLen dCap ad sLen sCap cur.toArray t cs hu hsz hr hn hsrc (by simpa using hfit) h1;unfold Oper.wp;simp [execOp, hop1, resolve, invoke, builtin, hd, hs, hrun, Result.andThen];subst hop3;exact hK _ _ (h _ (show _ = _ by simpa [splice] using setRow_heap w g _ _ t _ hr) ⟨rfl, rfl, rfl, Nat.le_of_eq (by simp), fun k _ hk => Go.setRow_other w g k _ hk⟩ (by simp))
end
theorem index_adr (l : List UInt32) (hl : l.length = 8) (j : Nat) (hj : j < 8) (w : World) : (Instr.index 64 (.agg (wordCells l).toArray) (.int .i64 (j : Int))).run Tryz.prog w = .ok (.int .u32 ((l[j]'(by omega)).toNat : Int)) w := by
 have hg := wordCells_arr_get l j (by omega);generalize (wordCells l).toArray = arr at *;simp [Instr.index, asIntOf, go_sem, hj, hg]
theorem arr32b : Tryz.prog.underlying 155 = some (.array (Tryz.prog.arrayLen 155) (Tryz.prog.elem 155)) := by kernel_rfl
theorem elem32b : Tryz.prog.elem 155 = 5 := by kernel_rfl
theorem len32b : Tryz.prog.arrayLen 155 = 32 := by kernel_rfl
theorem run_arr32_lt (g r : Nat) (h : r < 32) (w : World) : (Instr.sliceAt 155 (.pointer (some ⟨g, 0, none⟩)) (some (.int .i64 (r : Int))) none none).run Tryz.prog w = .ok (.slice (some ⟨g, r, none⟩) (32 - r) (32 - r)) w := by
 rw [run_sliceAt_array_l w 155 ⟨g, 0, none⟩ arr32b .i64 (r : Int) (by omega) (by rw [len32b]; omega), elem32b, run_sizeOf_u8, Result.andThen_ok, Int.toNat_natCast, len32b];unfold slicedAt;rw [if_neg (by omega), addr_add, Nat.mul_one, Nat.zero_add]
theorem splice_bytes (a b c d : List UInt8) (k : Nat) (hk : a.length = k) (h : b.length = c.length) : splice (Lib.byteCells (a ++ (b ++ d))) k (Lib.byteCells c) = Lib.byteCells (a ++ (c ++ d)) := by
 subst hk;have e : Lib.byteCells (a ++ (b ++ d)) = Lib.byteCells a ++ (Lib.byteCells b ++ Lib.byteCells d) := by simp [Lib.byteCells]
 have e2 : Lib.byteCells (a ++ (c ++ d)) = Lib.byteCells a ++ (Lib.byteCells c ++ Lib.byteCells d) := by simp [Lib.byteCells]
 have l1 : (Lib.byteCells a).length = a.length := Lib.byteCells_length a;have l2 : (Lib.byteCells b).length = (Lib.byteCells c).length := by rw [Lib.byteCells_length, Lib.byteCells_length, h]
 rw [e, e2];generalize Lib.byteCells a = A at *;generalize Lib.byteCells b = B at *;generalize Lib.byteCells c = C at *;generalize Lib.byteCells d = D at *;unfold splice;rw [<- l1, List.take_left' rfl, <- List.drop_drop, List.drop_left' rfl, List.drop_left' l2]
def adrZ (a : List UInt32) (k : Nat) : List UInt8 := adrB (a.take k) ++ List.replicate (32 - 4 * k) 0
theorem adrZ_step (a : List UInt32) (ha : a.length = 8) (k : Nat) (hk : k < 8) : splice (Lib.byteCells (adrZ a k)) (4 * k) (Lib.byteCells (bigB (a[k]'(by omega)).toNat 4)) = Lib.byteCells (adrZ a (k + 1)) := by
 unfold adrZ;rw [adrB_take a k (by omega), show 32 - 4 * k = 4 + (32 - 4 * (k + 1)) by omega, <- List.replicate_append_replicate, splice_bytes _ _ _ _ _ (by rw [adrB_length, List.length_take]; omega) (by rw [bigB_length]; simp), List.append_assoc]
theorem adrZ_length (a : List UInt32) (ha : a.length = 8) (k : Nat) (hk : k <= 8) : (adrZ a k).length = 32 := by
 unfold adrZ;rw [List.length_append, adrB_length, List.length_take, List.length_replicate];omega
theorem adrZ_all (a : List UInt32) (ha : a.length = 8) : adrZ a 8 = adrB a := by
 unfold adrZ;rw [List.take_of_length_le (by omega)];simp
set_option maxHeartbeats 2000000 in
theorem bytes_any (a : List UInt32) (ha : a.length = 8) (w : World) : Calls Tryz.prog 133 #[adrV a] w (SumIs w (adrB a)) := by
 unfold SumIs adrV;obtain ⟨zl, HZL0⟩ : ∃ zl : List UInt8, Shh (zl = List.replicate 32 0) := ⟨_, ⟨rfl⟩⟩;have hz0 : ∀ w : World, (zeroValue 155).run Tryz.prog w = .ok (.agg (Lib.byteCells zl).toArray) w := fun w => by rw [HZL0.out]; exact (zero_of_info (t := 155) (v := .agg (Lib.byteCells (List.replicate 32 0)).toArray) (n := 32) (by kernel_rfl)).1 w
 obtain ⟨W, hW⟩ : ∃ W, W = ((w.alloc (.cells (wordCells a).toArray 64)).alloc (.cells (Lib.byteCells zl).toArray 155)).alloc (.cells (Lib.byteCells zl).toArray 155) := ⟨_, rfl⟩;have HW : Shh (Row W w.heap.size 64 (wordCells a) /\ Row W (w.heap.size + 1) 155 (Lib.byteCells zl) /\ Row W (w.heap.size + 2) 155 (Lib.byteCells (adrZ a 0)) /\ Below w.heap.size w W) := by
  rw [hW];exact ⟨((Row.new_ rfl rfl).alloc _).alloc _, (Row.new_ (by rw [asz]) rfl).alloc _, Row.new_ (by rw [asz, asz]) (by rw [HZL0.out]; simp [adrZ, adrB]), Below.chain (Below.chain (below1 _ _) (below1 _ _)) (below1 _ _)⟩
 have HA : Shh ((wordCells a).length = 8) := ⟨by rw [wordCells_length]; exact ha⟩;have HIX : Shh (∀ (j : Nat) (hj : j < 8) (w : World), (Instr.index 64 (.agg (wordCells a).toArray) (.int .i64 (j : Int))).run Tryz.prog w = .ok (.int .u32 ((a[j]'(by omega)).toNat : Int)) w) := ⟨index_adr a ha⟩;have HST : Shh (∀ k (hk : k < 8), splice (Lib.byteCells (adrZ a k)) (4 * k) (Lib.byteCells (bigB (a[k]'(by omega)).toNat 4)) = Lib.byteCells (adrZ a (k + 1))) := ⟨adrZ_step a ha⟩;have HZL : Shh (∀ k, k <= 8 -> (adrZ a k).length = 32) := ⟨adrZ_length a ha⟩;have HZA : Shh (adrZ a 8 = adrB a /\ (adrB a).length = 32) := ⟨adrZ_all a ha, by rw [adrB_length, ha]⟩;generalize wordCells a = L at HW hW HA HIX ⊢;go_enter Tryz.func133, Tryz.ntmps133
 go_wp2_with (first | refine wpList_alloc_any rfl 155 rfl (Lib.byteCells zl).toArray hz0 ?_ | (rw [<- hW]; refine wpList_load_any rfl 64 (.tmp 1) rfl w.heap.size rfl 64 L _ HW.out.1 Tryz.underlying64 rfl (info_adr10 HA.out) ?_))
 rw [<- hW];clear hW hz0;go_loopw [7] (fun i wr => ∃ k : Nat, k <= 8 /\ i = .int .i64 (k : Int) /\ Shh (Row wr (w.heap.size + 1) 155 (Lib.byteCells zl) /\ Row wr (w.heap.size + 2) 155 (Lib.byteCells (adrZ a k)) /\ Below w.heap.size w wr)) (fun i _ => 8 - (intOf i).toNat)
 case atStart => exact ⟨0, Nat.zero_le _, rfl, ⟨HW.out.2⟩⟩
 case round =>
  clear HW;obtain ⟨k, hk, rfl, HL⟩ := hrel
  by_cases hlt : k < 8
  ·have hix := HIX.out k hlt;have HS := Shh.mk (HST.out k hlt);generalize a[k]'(by omega) = x at hix HS;have hxl := x.toNat_lt;have HZ : Shh ((adrZ a k).length = 32) := ⟨HZL.out k hk⟩;have HZ2 : Shh ((adrZ a (k + 1)).length = 32) := ⟨HZL.out (k + 1) (by omega)⟩;have hm4 : IntKind.i64.wrap ((4 : Int) * (k : Int)) = ((4 * k : Nat) : Int) := by rw [IntKind.wrap_i64]; omega
   go_wp2_with fail
   refine wp_region_held_drew (S := fun _ => True) (by kernel_rfl) trivial (fun hS => ?_);clear hS;obtain ⟨V, hV⟩ : ∃ V, V = World.drew wr := ⟨_, rfl⟩;rw [<- hV];have rZ : Row V (w.heap.size + 1) 155 (Lib.byteCells zl) := by rw [hV]; exact HL.out.1.drew
   have rA : Row V (w.heap.size + 2) 155 (Lib.byteCells (adrZ a k)) := by rw [hV]; exact HL.out.2.1.drew
   have HBV : Below w.heap.size w V := by rw [hV]; exact HL.out.2.2.drew
   clear hV HL hix;have runS : ∀ u, (Instr.sliceAt 155 (.pointer (some ⟨w.heap.size + 2, 0, none⟩)) (some (.int .i64 ((4 * k : Nat) : Int))) none none).run Tryz.prog u = .ok (.slice (some ⟨w.heap.size + 2, 4 * k, none⟩) (32 - 4 * k) (32 - 4 * k)) u := fun u => run_arr32_lt (w.heap.size + 2) (4 * k) (by omega) u
   refine hdv0 0 11 (.int .i64 (k : Int)) (by rfl) (trivial) ?_;refine hdv 1 12 (.int .i64 ((4 * k : Nat) : Int)) (by rfl) (fun w hS => by go_simp) (trivial) ?_;refine hdv 2 13 (.slice (some ⟨w.heap.size + 2, 4 * k, none⟩) (32 - 4 * k) (32 - 4 * k)) (by rfl) (fun w hS => run_slice_op_lo ⟨rfl, rfl⟩ (runS w)) (trivial) ?_;refine hdv0 3 14 (.int .u32 (x.toNat : Int)) (by rfl) (trivial) ?_;refine held_one 4 (by kernel_rfl) ?_;refine step_call 4 _ _ (some 15) 53 #[.int .u32 (x.toNat : Int)] (by rfl) (by kernel_rfl) (by first | kernel_rfl | go_simp) ?_;refine (u32_any x.toNat V (by omega)).mono ?_;rintro e Y1 ⟨v, rfl, gv⟩;have bx : Below V.heap.size V Y1 := gv.2;obtain ⟨Au, cu, vEq⟩ := own_form gv.1;subst vEq;have sU : Sl Y1 Y1.heap.size (.slice Au (bigB x.toNat 4).length cu) (bigB x.toNat 4) := gives_sl gv;clear gv;have b_V := bx;have m_Y1 : V.heap.size <= Y1.heap.size := bx.size;clear bx;refine ⟨_, rfl, trivial, ?_⟩;simp only [Act.put, arr9, hd9, tl9];refine held_one 5 (by kernel_rfl) ?_;have h4 : Shh ((bigB x.toNat 4).length = 4) := ⟨bigB_length _ _⟩;obtain ⟨gu, ou, hAu, _, hcu⟩ := (sU).at_ (by rw [h4.out]; decide);subst hAu;refine step_copyS Y1 5 _ (some 16) (.tmp 13) (.tmp 15) 23 23 (by rfl) (by kernel_rfl) 5 Tryz.underlying23 info_u8s (32 - 4 * k) (32 - 4 * k) (bigB x.toNat 4).length cu ⟨gu, ou, none⟩ (w.heap.size + 2) (4 * k) rfl rfl _ 155 ((rA.go b_V)) (Lib.byteCells (bigB x.toNat 4)) (by rw [Lib.byteCells_length, h4.out]; exact (Nat.min_eq_left (by omega)).symm) (fun j v hj => by obtain ⟨hjl, rfl⟩ := byteCells_at _ _ _ hj; rw [addr_add]; exact hcu j hjl) (by rw [Lib.byteCells_length, Lib.byteCells_length, h4.out, HZ.out]; omega) (cell_oneCell _) (fun Y9 r9 t9 z9 => ⟨trivial, ?_⟩);rw [HS.out] at r9;have q0 : Row Y9 (w.heap.size + 1) 155 (Lib.byteCells zl) := t9.row ((rZ.go b_V)) ((rZ.go b_V)).lt (by omega);have q1 : Below w.heap.size w Y9 := (Below.chain HBV b_V).trans (t9.under (by have := HBV.size; have := (b_V).size; omega) (by omega));simp only [Act.put, arr9, hd9, tl9];refine wpAnyH_done (by kernel_rfl) ?_ _;have H9 : Shh (Row Y9 (w.heap.size + 1) 155 (Lib.byteCells zl) /\ Row Y9 (w.heap.size + 2) 155 (Lib.byteCells (adrZ a (k + 1))) /\ Below w.heap.size w Y9) := ⟨q0, r9, q1⟩;clear q0 q1 r9 t9 z9 HBV rZ rA HS HZ HZ2 hm4;go_wp2
   go_roundw
   case rel => exact ⟨k + 1, by omega, by go_num, H9⟩
   case measure => simp [intOf]; omega
  ·obtain rfl : k = 8 := by omega
   rw [HZA.out.1] at HL;have HL2 := HL;clear HL HST HZL HIX
   go_wp2_with (first | refine wpList_load_any rfl 155 (.tmp 3) rfl (w.heap.size + 2) rfl 155 _ _ HL2.out.2.1 Tryz.underlying155 rfl (info_b32.trans (size_bytes _ _ HZA.out.2)) ?_ | refine wpList_store_any rfl 155 (.tmp 2) (.tmp 18) rfl (w.heap.size + 1) rfl (Lib.byteCells (adrB a)) rfl 155 _ HL2.out.1 (info_b32.trans (size_bytes _ _ HZA.out.2)) (by rw [Lib.byteCells_length, Lib.byteCells_length, HZA.out.2, HZL0.out]; rfl) (cell_oneCell _) ?_)
   intro w3 hr3 b3 z3;have hb3 : Below w.heap.size w w3 := HL2.out.2.2.trans (b3.under HL2.out.2.2.size (by omega));clear z3 b3 HL2;go_wp2;exact ret_row Tryz.results133 rfl rfl hr3 Tryz.underlying155 rfl (info_b32.trans (size_bytes _ _ HZA.out.2)) ⟨rfl, hb3⟩
def KeyAt (w : World) (g : Nat) (v : Value) (s : Bool) (n : Int) (kind : Nat) (key : List UInt8) : Prop :=
 ∃ F c1 c2, v = .func (.func F) #[] #[c1, c2] /\ (∀ (xs : Array Value) (W : World), (callFunc F xs).run Tryz.prog W = .ok (.enter F xs) W) /\ ∀ (W : World) (vm : Value) (m : List UInt8), But w.heap.size g w W -> Tabs W -> Sl W W.heap.size vm m -> m.length <= 100000 -> Calls Tryz.prog F #[vm, c1, c2] W (NewSl W (keyd s n kind key m))
theorem KeyAt.but {w w' : World} {g : Nat} {v : Value} {s : Bool} {n : Int} {kind : Nat} {key : List UInt8} (h : KeyAt w g v s n kind key) (b : But w.heap.size g w w') : KeyAt w' g v s n kind key := by
 obtain ⟨F, c1, c2, rfl, hf, h⟩ := h;exact ⟨F, c1, c2, rfl, hf, fun W vm m hb => h W vm m (b.chain hb)⟩
theorem KeyAt.go {w w' : World} {g : Nat} {v : Value} {s : Bool} {n : Int} {kind : Nat} {key : List UInt8} (h : KeyAt w g v s n kind key) (b : Below w.heap.size w w') : KeyAt w' g v s n kind key := h.but (But.of b g)
def KeyIs (w : World) (g : Nat) (s : Bool) (n : Int) (kind : Nat) (key : List UInt8) (e : Ending) (w' : World) : Prop := ∃ v, e = .returned v /\ KeyAt w' g v s n kind key /\ Below w.heap.size w w'
theorem bigB_small4 (kind : Nat) (h : kind <= 4) : bigB kind 4 = List.replicate 3 0 ++ [UInt8.ofNat kind] := by
 match kind, h with
 | 0, _ => decide
 | 1, _ => decide
 | 2, _ => decide
 | 3, _ => decide
 | 4, _ => decide
theorem bigB_small32 (kind : Nat) (h : kind <= 4) : bigB kind 32 = List.replicate 31 0 ++ [UInt8.ofNat kind] := by
 match kind, h with
 | 0, _ => decide
 | 1, _ => decide
 | 2, _ => decide
 | 3, _ => decide
 | 4, _ => decide
theorem two_flat10 (a b : List UInt8) : [a, b].flatten = a ++ b := by simp
theorem one_flat10 (a : List UInt8) : [a].flatten = a := by simp
theorem hsh_take (t : List UInt8) (N : Nat) (h : N <= 32) : spongeL 136 31 t N = (hsh true t).take N := (Sp.outs_take 136 N 32 h _).symm
set_option maxHeartbeats 1000000 in
theorem keyed1_24 (c h l : Int) (px ph : Nat) (vh vm : Value) (hd m : List UInt8) (w : World) (hx : Row w px 27 [.int .u32 c, .bool true, .int .i64 24, .int .i64 h, .int .i64 l]) (hh : Row w ph 23 [vh]) (hs : Sl w w.heap.size vh hd) (hm : Sl w w.heap.size vm m) (ht : Tabs w) :
  Calls Tryz.prog 135 #[vm, .pointer (some ⟨px, 0, none⟩), .pointer (some ⟨ph, 0, none⟩)] w (NewSl w ((hsh true (hd ++ m)).take 24)) := by
 unfold NewSl;obtain ⟨A1, c1, rfl, _, _⟩ := hs.form;obtain ⟨A2, c2, rfl, _, _⟩ := hm.form;have e2 := hx.cell 2;have eh := hh.cell 0;simp only [List.getElem?_cons_succ, List.getElem?_cons_zero] at e2 eh;have HS := Shh.mk (And.intro hs (And.intro hm ht));clear hs hm ht hx hh;have HO : Shh (spongeL 136 31 ([hd, m].flatten) 24 = (hsh true (hd ++ m)).take 24 /\ ((hsh true (hd ++ m)).take 24).length = 24) := ⟨by rw [two_flat10]; exact hsh_take _ 24 (by decide), by rw [List.length_take, hsh_length]; rfl⟩;generalize (hsh true (hd ++ m)).take 24 = out at HO ⊢;go_enter Tryz.func135, Tryz.ntmps135
 go_wp2_with (go_at_call 136; refine (shake_ok256 24 (by decide) [hd, m] (by simp) (w.heap.size + 1) _ _ (PartsO.two (Nat.lt_succ_self _) (by omega) (Row.new_ rfl rfl) ((HS.out.1.below (below1 _ _)).more (by omega)) (HS.out.1.off (by omega)) ((HS.out.2.1.below (below1 _ _)).more (by omega)) (HS.out.2.1.off (by omega))) (by rw [asz]; exact Nat.le_refl _) (HS.out.2.2.go (below1 _ _)).2).mono ?_)
 rintro e w2 ⟨q, rfl, hq, hr, b2⟩;rw [HO.out.1] at hr;have HR : Shh (Sl w2 w2.heap.size (.slice (some ⟨q, 0, none⟩) 24 24) out /\ Below w.heap.size w w2 /\ ∀ g, g < w.heap.size -> Off g (.slice (some ⟨q, 0, none⟩) 24 24)) := ⟨hr.sl HO.out.2 (by decide), Below.chain (below1 _ _) b2, fun g hg => Off.at_ (by rw [asz] at hq; omega)⟩;clear hq hr b2 HS e2 eh;go_wp2;go_ret;exact ⟨_, rfl, HR.out⟩
set_option maxHeartbeats 1000000 in
theorem keyed1_32 (c h l : Int) (px ph : Nat) (vh vm : Value) (hd m : List UInt8) (w : World) (hx : Row w px 27 [.int .u32 c, .bool true, .int .i64 32, .int .i64 h, .int .i64 l]) (hh : Row w ph 23 [vh]) (hs : Sl w w.heap.size vh hd) (hm : Sl w w.heap.size vm m) (ht : Tabs w) :
  Calls Tryz.prog 135 #[vm, .pointer (some ⟨px, 0, none⟩), .pointer (some ⟨ph, 0, none⟩)] w (NewSl w ((hsh true (hd ++ m)).take 32)) := by
 unfold NewSl;obtain ⟨A1, c1, rfl, _, _⟩ := hs.form;obtain ⟨A2, c2, rfl, _, _⟩ := hm.form;have e2 := hx.cell 2;have eh := hh.cell 0;simp only [List.getElem?_cons_succ, List.getElem?_cons_zero] at e2 eh;have HS := Shh.mk (And.intro hs (And.intro hm ht));clear hs hm ht hx hh;have HO : Shh (spongeL 136 31 ([hd, m].flatten) 32 = (hsh true (hd ++ m)).take 32 /\ ((hsh true (hd ++ m)).take 32).length = 32) := ⟨by rw [two_flat10]; exact hsh_take _ 32 (by decide), by rw [List.length_take, hsh_length]; rfl⟩;generalize (hsh true (hd ++ m)).take 32 = out at HO ⊢;go_enter Tryz.func135, Tryz.ntmps135
 go_wp2_with (go_at_call 136; refine (shake_ok256 32 (by decide) [hd, m] (by simp) (w.heap.size + 1) _ _ (PartsO.two (Nat.lt_succ_self _) (by omega) (Row.new_ rfl rfl) ((HS.out.1.below (below1 _ _)).more (by omega)) (HS.out.1.off (by omega)) ((HS.out.2.1.below (below1 _ _)).more (by omega)) (HS.out.2.1.off (by omega))) (by rw [asz]; exact Nat.le_refl _) (HS.out.2.2.go (below1 _ _)).2).mono ?_)
 rintro e w2 ⟨q, rfl, hq, hr, b2⟩;rw [HO.out.1] at hr;have HR : Shh (Sl w2 w2.heap.size (.slice (some ⟨q, 0, none⟩) 32 32) out /\ Below w.heap.size w w2 /\ ∀ g, g < w.heap.size -> Off g (.slice (some ⟨q, 0, none⟩) 32 32)) := ⟨hr.sl HO.out.2 (by decide), Below.chain (below1 _ _) b2, fun g hg => Off.at_ (by rw [asz] at hq; omega)⟩;clear hq hr b2 HS e2 eh;go_wp2;go_ret;exact ⟨_, rfl, HR.out⟩
set_option maxHeartbeats 1000000 in
theorem keyed2_24 (c h l : Int) (px pb g : Nat) (vm : Value) (hd m : List UInt8) (w : World) (hx : Row w px 27 [.int .u32 c, .bool false, .int .i64 24, .int .i64 h, .int .i64 l]) (hb : Row w pb 160 [.pointer (some ⟨g, 0, none⟩)]) (hg : HashAt w g hd) (hm : Sl w w.heap.size vm m) (ht : Tabs w) (hl1 : hd.length <= 200000) (hl2 : m.length <= 200000) :
  Calls Tryz.prog 139 #[vm, .pointer (some ⟨pb, 0, none⟩), .pointer (some ⟨px, 0, none⟩)] w (NewSl w ((hsh false (hd ++ m)).take 24)) := by
 unfold NewSl;obtain ⟨A2, c2, rfl, _, _⟩ := hm.form;have eb := hb.cell 0;simp only [List.getElem?_cons_zero] at eb;have HS := Shh.mk (And.intro hx (And.intro hm ht.1));have HG := Shh.mk hg;clear hm ht hx hb hg;have HO : Shh (sha (hd ++ m) = hsh false (hd ++ m) /\ (hsh false (hd ++ m)).length = 32) := ⟨rfl, hsh_length _ _⟩;generalize hsh false (hd ++ m) = out at HO ⊢;go_enter Tryz.func139, Tryz.ntmps139
 go_wp2_with (go_at_call 140; refine (shclone_any g hd _ HG.out).mono ?_)
 rintro e w1 ⟨g1, rfl, hg1, hh1, b1⟩;have H1 : Shh (Row w1 px 27 [.int .u32 c, .bool false, .int .i64 24, .int .i64 h, .int .i64 l] /\ Sl w1 w1.heap.size (.slice A2 m.length c2) m /\ Sl w1 w.heap.size (.slice A2 m.length c2) m /\ Vars w1 /\ HashAt w1 g1 hd /\ Below w.heap.size w w1 /\ g1 = w.heap.size /\ px < w.heap.size /\ g1 < w1.heap.size) := ⟨HS.out.1.go b1, HS.out.2.1.go b1, HS.out.2.1.below b1, HS.out.2.2.go b1, hh1, b1, hg1, HS.out.1.lt, hh1.lt⟩;clear HS HG hh1 b1 hg1 eb
 have hwp : PartsO (w1.alloc (.cells #[.slice A2 m.length c2] 23)) (w1.heap.size + 1) g1 (.slice (some ⟨w1.heap.size, 0, none⟩) 1 1) [m] :=
  PartsO.solo (Row.new_ rfl rfl) (Nat.lt_succ_self _) (by have := H1.out.2.2.2.2.2.2.2.2; omega) ((H1.out.2.1.below (below1 _ _)).more (by omega)) (H1.out.2.2.1.off (by have := H1.out.2.2.2.2.2.2.1; omega))
 have HWP := Shh.mk hwp;clear hwp
 go_wp2_with (go_at_call 138; refine (write_any g1 hd [m] (w1.heap.size + 1) _ _ (H1.out.2.2.2.2.1.step (below1 _ _)) HWP.out (by rw [asz]; exact Nat.le_refl _) (H1.out.2.2.2.1.go (below1 _ _)) (by rw [one_flat10]; omega) (by simp)).mono ?_)
 unfold WriteIs;rintro e w2 ⟨rfl, hh2, b2⟩;rw [one_flat10] at hh2;have H2 : Shh (Row w2 px 27 [.int .u32 c, .bool false, .int .i64 24, .int .i64 h, .int .i64 l] /\ Vars w2 /\ HashAt w2 g1 (hd ++ m) /\ Below w.heap.size w w2) := by
  have q1 := H1.out.2.2.2.2.2.1.size;have q2 := H1.out.2.2.2.2.2.2;refine ⟨b2.row (H1.out.1.alloc _) (by first | omega | (rw [asz]; omega)) (by omega), (H1.out.2.2.2.1.go (below1 _ _)).but b2 (H1.out.2.2.2.2.1).1, hh2, ?_⟩;exact (Below.chain H1.out.2.2.2.2.2.1 (below1 _ _)).trans (b2.under (by first | omega | (rw [asz]; omega)) (by omega))
 clear H1 HWP hh2 b2
 go_wp2_with (go_at_call 141; refine (sum_any g1 (hd ++ m) _ H2.out.2.2.1 H2.out.2.1 (by rw [List.length_append]; omega)).mono ?_)
 unfold SumIs;rintro e w3 ⟨rfl, b3⟩;rw [HO.out.1];have H3 : Shh (Row w3 px 27 [.int .u32 c, .bool false, .int .i64 24, .int .i64 h, .int .i64 l] /\ Below w.heap.size w w3) := ⟨H2.out.1.go b3, Below.chain H2.out.2.2.2 b3⟩;clear H2 b3;obtain ⟨G, hG⟩ : ∃ G, Shh (G = w3.heap.size) := ⟨_, ⟨rfl⟩⟩
 go_wp2_with (refine wpList_store_any rfl 155 (.tmp 6) (.tmp 14) rfl G (by rw [hG.out]; rfl) (Lib.byteCells out) rfl 155 _ (Row.new_ hG.out zero32b) (info_b32.trans (size_bytes _ _ HO.out.2)) (by rw [Lib.byteCells_length, Lib.byteCells_length, HO.out.2]; rfl) (cell_oneCell _) ?_)
 intro Z hr bt zt;have H4 : Shh (Row Z px 27 [.int .u32 c, .bool false, .int .i64 24, .int .i64 h, .int .i64 l] /\ Row Z G 155 (Lib.byteCells out) /\ Below w.heap.size w Z /\ w.heap.size <= G /\ G < Z.heap.size) := by
  have q1 := H3.out.2.size;have q2 := H3.out.1.lt;have q3 := hG.out;refine ⟨bt.row (H3.out.1.alloc _) (by first | omega | (rw [asz]; omega)) (by omega), hr, ?_, by omega, hr.lt⟩;exact (Below.chain H3.out.2 (below1 _ _)).trans (bt.under (by first | omega | (rw [asz]; omega)) (by omega))
 rw [<- hG.out];clear hr bt zt H3 hG;have e2 := H4.out.1.cell 2;simp only [List.getElem?_cons_succ, List.getElem?_cons_zero] at e2;have hsl : ∀ u : World, (Instr.sliceAt 155 (.pointer (some ⟨G, 0, none⟩)) none (some (.int .i64 24)) none).run Tryz.prog u = .ok (.slice (some ⟨G, 0, none⟩) 24 32) u := fun u => run_arr32_h G 24 (by decide) u
 have HR : Shh (Sl Z Z.heap.size (.slice (some ⟨G, 0, none⟩) 24 32) (out.take 24) /\ Below w.heap.size w Z /\ ∀ g, g < w.heap.size -> Off g (.slice (some ⟨G, 0, none⟩) 24 32)) := by
  have s0 := H4.out.2.1.sl HO.out.2 (by decide);have s1 := s0.cut 0 24 (Nat.zero_le _) (by decide) (by decide);rw [List.drop_zero] at s1;refine ⟨by simpa [sliced, Addr.add] using s1, H4.out.2.2.1, fun g hg => Off.at_ ?_⟩;have := H4.out.2.2.2.1;omega
 clear H4;go_wp2;go_ret;exact ⟨_, rfl, HR.out⟩
set_option maxHeartbeats 1000000 in
theorem keyed2_32 (c h l : Int) (px pb g : Nat) (vm : Value) (hd m : List UInt8) (w : World) (hx : Row w px 27 [.int .u32 c, .bool false, .int .i64 32, .int .i64 h, .int .i64 l]) (hb : Row w pb 160 [.pointer (some ⟨g, 0, none⟩)]) (hg : HashAt w g hd) (hm : Sl w w.heap.size vm m) (ht : Tabs w) (hl1 : hd.length <= 200000) (hl2 : m.length <= 200000) :
  Calls Tryz.prog 139 #[vm, .pointer (some ⟨pb, 0, none⟩), .pointer (some ⟨px, 0, none⟩)] w (NewSl w ((hsh false (hd ++ m)).take 32)) := by
 unfold NewSl;obtain ⟨A2, c2, rfl, _, _⟩ := hm.form;have eb := hb.cell 0;simp only [List.getElem?_cons_zero] at eb;have HS := Shh.mk (And.intro hx (And.intro hm ht.1));have HG := Shh.mk hg;clear hm ht hx hb hg;have HO : Shh (sha (hd ++ m) = hsh false (hd ++ m) /\ (hsh false (hd ++ m)).length = 32) := ⟨rfl, hsh_length _ _⟩;generalize hsh false (hd ++ m) = out at HO ⊢;go_enter Tryz.func139, Tryz.ntmps139
 go_wp2_with (go_at_call 140; refine (shclone_any g hd _ HG.out).mono ?_)
 rintro e w1 ⟨g1, rfl, hg1, hh1, b1⟩;have H1 : Shh (Row w1 px 27 [.int .u32 c, .bool false, .int .i64 32, .int .i64 h, .int .i64 l] /\ Sl w1 w1.heap.size (.slice A2 m.length c2) m /\ Sl w1 w.heap.size (.slice A2 m.length c2) m /\ Vars w1 /\ HashAt w1 g1 hd /\ Below w.heap.size w w1 /\ g1 = w.heap.size /\ px < w.heap.size /\ g1 < w1.heap.size) := ⟨HS.out.1.go b1, HS.out.2.1.go b1, HS.out.2.1.below b1, HS.out.2.2.go b1, hh1, b1, hg1, HS.out.1.lt, hh1.lt⟩;clear HS HG hh1 b1 hg1 eb
 have hwp : PartsO (w1.alloc (.cells #[.slice A2 m.length c2] 23)) (w1.heap.size + 1) g1 (.slice (some ⟨w1.heap.size, 0, none⟩) 1 1) [m] :=
  PartsO.solo (Row.new_ rfl rfl) (Nat.lt_succ_self _) (by have := H1.out.2.2.2.2.2.2.2.2; omega) ((H1.out.2.1.below (below1 _ _)).more (by omega)) (H1.out.2.2.1.off (by have := H1.out.2.2.2.2.2.2.1; omega))
 have HWP := Shh.mk hwp;clear hwp
 go_wp2_with (go_at_call 138; refine (write_any g1 hd [m] (w1.heap.size + 1) _ _ (H1.out.2.2.2.2.1.step (below1 _ _)) HWP.out (by rw [asz]; exact Nat.le_refl _) (H1.out.2.2.2.1.go (below1 _ _)) (by rw [one_flat10]; omega) (by simp)).mono ?_)
 unfold WriteIs;rintro e w2 ⟨rfl, hh2, b2⟩;rw [one_flat10] at hh2;have H2 : Shh (Row w2 px 27 [.int .u32 c, .bool false, .int .i64 32, .int .i64 h, .int .i64 l] /\ Vars w2 /\ HashAt w2 g1 (hd ++ m) /\ Below w.heap.size w w2) := by
  have q1 := H1.out.2.2.2.2.2.1.size;have q2 := H1.out.2.2.2.2.2.2;refine ⟨b2.row (H1.out.1.alloc _) (by first | omega | (rw [asz]; omega)) (by omega), (H1.out.2.2.2.1.go (below1 _ _)).but b2 (H1.out.2.2.2.2.1).1, hh2, ?_⟩;exact (Below.chain H1.out.2.2.2.2.2.1 (below1 _ _)).trans (b2.under (by first | omega | (rw [asz]; omega)) (by omega))
 clear H1 HWP hh2 b2
 go_wp2_with (go_at_call 141; refine (sum_any g1 (hd ++ m) _ H2.out.2.2.1 H2.out.2.1 (by rw [List.length_append]; omega)).mono ?_)
 unfold SumIs;rintro e w3 ⟨rfl, b3⟩;rw [HO.out.1];have H3 : Shh (Row w3 px 27 [.int .u32 c, .bool false, .int .i64 32, .int .i64 h, .int .i64 l] /\ Below w.heap.size w w3) := ⟨H2.out.1.go b3, Below.chain H2.out.2.2.2 b3⟩;clear H2 b3;obtain ⟨G, hG⟩ : ∃ G, Shh (G = w3.heap.size) := ⟨_, ⟨rfl⟩⟩
 go_wp2_with (refine wpList_store_any rfl 155 (.tmp 6) (.tmp 14) rfl G (by rw [hG.out]; rfl) (Lib.byteCells out) rfl 155 _ (Row.new_ hG.out zero32b) (info_b32.trans (size_bytes _ _ HO.out.2)) (by rw [Lib.byteCells_length, Lib.byteCells_length, HO.out.2]; rfl) (cell_oneCell _) ?_)
 intro Z hr bt zt;have H4 : Shh (Row Z px 27 [.int .u32 c, .bool false, .int .i64 32, .int .i64 h, .int .i64 l] /\ Row Z G 155 (Lib.byteCells out) /\ Below w.heap.size w Z /\ w.heap.size <= G /\ G < Z.heap.size) := by
  have q1 := H3.out.2.size;have q2 := H3.out.1.lt;have q3 := hG.out;refine ⟨bt.row (H3.out.1.alloc _) (by first | omega | (rw [asz]; omega)) (by omega), hr, ?_, by omega, hr.lt⟩;exact (Below.chain H3.out.2 (below1 _ _)).trans (bt.under (by first | omega | (rw [asz]; omega)) (by omega))
 rw [<- hG.out];clear hr bt zt H3 hG;have e2 := H4.out.1.cell 2;simp only [List.getElem?_cons_succ, List.getElem?_cons_zero] at e2;have hsl : ∀ u : World, (Instr.sliceAt 155 (.pointer (some ⟨G, 0, none⟩)) none (some (.int .i64 32)) none).run Tryz.prog u = .ok (.slice (some ⟨G, 0, none⟩) 32 32) u := fun u => run_arr32_h G 32 (by decide) u
 have HR : Shh (Sl Z Z.heap.size (.slice (some ⟨G, 0, none⟩) 32 32) (out.take 32) /\ Below w.heap.size w Z /\ ∀ g, g < w.heap.size -> Off g (.slice (some ⟨G, 0, none⟩) 32 32)) := by
  have s0 := H4.out.2.1.sl HO.out.2 (by decide);have s1 := s0.cut 0 32 (Nat.zero_le _) (by decide) (by decide);rw [List.drop_zero] at s1;refine ⟨by simpa [sliced, Addr.add] using s1, H4.out.2.2.1, fun g hg => Off.at_ ?_⟩;have := H4.out.2.2.2.1;omega
 clear H4;go_wp2;go_ret;exact ⟨_, rfl, HR.out⟩
set_option maxHeartbeats 1000000 in
theorem keyed_24_true (c h l : Int) (kind : Nat) (hk : kind <= 4) (vk : Value) (key : List UInt8) (w : World) (hkey : Sl w w.heap.size vk key) (hl1 : key.length <= 100000) (ht : Tabs w) (g0 : Nat) (hg0 : g0 < w.heap.size) :
  Calls Tryz.prog 121 #[.agg #[.int .u32 c, .bool true, .int .i64 24, .int .i64 h, .int .i64 l], .int .u8 (kind : Int), vk] w (KeyIs w g0 true 24 kind key) := by
 unfold KeyIs;obtain ⟨A1, c1, rfl, _, _⟩ := hkey.form;have hmf : ∀ (fn : Fn) (first cap : Array Value) (w : World), (Instr.makeFunc fn first cap).run Tryz.prog w = .ok (.func fn first cap) w := fun _ _ _ _ => rfl
 obtain ⟨zl, HZL⟩ : ∃ zl : List UInt8, Shh (zl = List.replicate 3 0) := ⟨_, ⟨rfl⟩⟩;have hmk : ∀ u : World, (Instr.makeSlice 23 (.int .i64 3) (.int .i64 3)).run Tryz.prog u = .ok (.slice (some ⟨u.heap.size, 0, none⟩) 3 3) (u.alloc (.cells (Lib.byteCells zl).toArray 5)) := fun u => by rw [HZL.out]; exact make_run 3 (by decide) u
 have hu8 : (kind : Int) % 256 = (kind : Int) := by omega
 obtain ⟨W, hW⟩ : ∃ W, W = ((w.alloc (.cells #[.int .u32 c, .bool true, .int .i64 24, .int .i64 h, .int .i64 l] 27)).alloc (.cells (Lib.byteCells zl).toArray 5)).alloc (.cells #[.int .u8 (kind : Int)] 5) := ⟨_, rfl⟩;have hkb : ((UInt8.ofNat kind).toNat : Int) = (kind : Int) := by simp; omega
 have HW : Shh (Row W w.heap.size 27 [.int .u32 c, .bool true, .int .i64 24, .int .i64 h, .int .i64 l] /\ Sl W W.heap.size (.slice (some ⟨w.heap.size + 1, 0, none⟩) 3 3) zl /\ Sl W W.heap.size (.slice (some ⟨w.heap.size + 1 + 1, 0, none⟩) 1 1) [UInt8.ofNat kind] /\ Sl W W.heap.size (.slice A1 key.length c1) key /\ Tabs W /\ Below w.heap.size w W /\ W.heap.size = w.heap.size + 3) := by
  have b1 := below1 w (.cells #[.int .u32 c, .bool true, .int .i64 24, .int .i64 h, .int .i64 l] 27);rw [hW];refine ⟨((Row.new_ rfl rfl).alloc _).alloc _, ?_, ?_, ((hkey.go (below1 _ _)).go (below1 _ _)).go (below1 _ _), ((ht.go (below1 _ _)).go (below1 _ _)).go (below1 _ _), Below.chain (Below.chain (below1 _ _) (below1 _ _)) (below1 _ _), by rw [asz, asz, asz]⟩
  ·exact Row.sl ((Row.new_ (T := 5) (by rw [asz]) rfl).alloc _) (by rw [HZL.out]; simp) (by decide)
  ·exact Row.sl (bs := [UInt8.ofNat kind]) (Row.new_ (T := 5) (by rw [asz, asz]) (by rw [<- hkb]; rfl)) rfl (by decide)
 clear hkey ht hkb;have HTX : Shh ([zl, [UInt8.ofNat kind], key].flatten = bigB kind 4 ++ key /\ (bigB kind 4 ++ key).length <= 200000) := by
  refine ⟨by rw [HZL.out, three_flat10, bigB_small4 kind hk, List.append_assoc], ?_⟩;rw [List.length_append, bigB_length]; omega
 have HKY : Shh (∀ m, keyd true 24 kind key m = (hsh true ((bigB kind 4 ++ key) ++ m)).take 24) := ⟨fun m => by unfold keyd ktxt; rw [List.append_assoc]; rfl⟩;generalize bigB kind 4 ++ key = hd at HTX HKY;go_enter Tryz.func121, Tryz.ntmps121
 go_wp2_with (go_at_call 52; go_loud (rw [<- hW]; refine (join_any (W.heap.size + 1) (W.heap.size + 1) _ [zl, [UInt8.ofNat kind], key] _ (PartsO.three (q := w.heap.size + 1 + 1 + 1) (by have := HW.out.2.2.2.2.2.2; omega) (by have := HW.out.2.2.2.2.2.2; omega) (Row.new_ (by have := HW.out.2.2.2.2.2.2; omega) rfl) ((HW.out.2.1.below (below1 _ _)).more (by omega)) (HW.out.2.1.off (by omega)) ((HW.out.2.2.1.below (below1 _ _)).more (by omega)) (HW.out.2.2.1.off (by omega)) ((HW.out.2.2.2.1.below (below1 _ _)).more (by omega)) (HW.out.2.2.2.1.off (by omega))) (by rw [asz]; exact Nat.le_refl _) (by rw [HTX.out.1]; have := HTX.out.2; omega) (by simp)).mono ?_))
 clear hW;rintro e w3 ⟨v3, rfl, g3⟩;rw [HTX.out.1] at g3;have HO3 : Shh (Off g0 v3) := ⟨gives_off g3 g0 (by rw [asz]; have := HW.out.2.2.2.2.2.2; omega)⟩;obtain ⟨At, ct, rfl⟩ := own_form g3.1;have H3 : Shh (Row w3 w.heap.size 27 [.int .u32 c, .bool true, .int .i64 24, .int .i64 h, .int .i64 l] /\ Sl w3 w3.heap.size (.slice At hd.length ct) hd /\ Tabs w3 /\ Below w.heap.size w w3) := by
  have b1 : Below W.heap.size W w3 := Below.chain (below1 _ _) g3.2;exact ⟨HW.out.1.go b1, gives_sl g3, HW.out.2.2.2.2.1.go b1, Below.chain HW.out.2.2.2.2.2.1 b1⟩
 have HTL : Shh (hd.length <= 200000) := ⟨HTX.out.2⟩;clear g3 HW HTX hmk HZL;have e1 : (w3.alloc (.cells #[.slice At hd.length ct] 23)).cell? ⟨w.heap.size, 1, none⟩ = some (.bool true) := (H3.out.1.alloc _).cell 1;obtain ⟨Z, hZ⟩ : ∃ Z, Z = w3.alloc (.cells #[.slice At hd.length ct] 23) := ⟨_, rfl⟩;have HR : Shh (KeyAt Z g0 (.func (.func 135) #[] #[.pointer (some ⟨w.heap.size, 0, none⟩), .pointer (some ⟨w3.heap.size, 0, none⟩)]) true 24 kind key /\ Below w.heap.size w Z) := by
  have rh : Row Z w3.heap.size 23 [.slice At hd.length ct] := by rw [hZ]; exact Row.new_ rfl rfl
  have bz : Below w3.heap.size w3 Z := by rw [hZ]; exact below1 _ _
  refine ⟨⟨_, _, _, rfl, fun _ _ => by kernel_rfl, fun V vm m hb hT hm hlm => ?_⟩, Below.chain H3.out.2.2.2 bz⟩;rw [HKY.out];have sb : Sl V V.heap.size (.slice At hd.length ct) hd := ((H3.out.2.1.go bz).but HO3.out hb).more hb.size;have q0 := H3.out.2.2.2.size;exact keyed1_24 c h l w.heap.size w3.heap.size _ vm hd m V (hb.row (H3.out.1.go bz) (H3.out.1.go bz).lt (by omega)) (hb.row rh rh.lt (by omega)) sb hm hT
 go_wp2;rw [<- hZ];go_ret;exact ⟨_, rfl, HR.out⟩
set_option maxHeartbeats 1000000 in
theorem keyed_24_false (c h l : Int) (kind : Nat) (hk : kind <= 4) (vk : Value) (key : List UInt8) (w : World) (hkey : Sl w w.heap.size vk key) (hl1 : key.length <= 100000) (ht : Tabs w) (g0 : Nat) (hg0 : g0 < w.heap.size) :
  Calls Tryz.prog 121 #[.agg #[.int .u32 c, .bool false, .int .i64 24, .int .i64 h, .int .i64 l], .int .u8 (kind : Int), vk] w (KeyIs w g0 false 24 kind key) := by
 unfold KeyIs;obtain ⟨A1, c1, rfl, _, _⟩ := hkey.form;have hmf : ∀ (fn : Fn) (first cap : Array Value) (w : World), (Instr.makeFunc fn first cap).run Tryz.prog w = .ok (.func fn first cap) w := fun _ _ _ _ => rfl
 obtain ⟨zl, HZL⟩ : ∃ zl : List UInt8, Shh (zl = List.replicate 3 0) := ⟨_, ⟨rfl⟩⟩;have hmk : ∀ u : World, (Instr.makeSlice 23 (.int .i64 3) (.int .i64 3)).run Tryz.prog u = .ok (.slice (some ⟨u.heap.size, 0, none⟩) 3 3) (u.alloc (.cells (Lib.byteCells zl).toArray 5)) := fun u => by rw [HZL.out]; exact make_run 3 (by decide) u
 have hu8 : (kind : Int) % 256 = (kind : Int) := by omega
 obtain ⟨W, hW⟩ : ∃ W, W = ((w.alloc (.cells #[.int .u32 c, .bool false, .int .i64 24, .int .i64 h, .int .i64 l] 27)).alloc (.cells (Lib.byteCells zl).toArray 5)).alloc (.cells #[.int .u8 (kind : Int)] 5) := ⟨_, rfl⟩;have hkb : ((UInt8.ofNat kind).toNat : Int) = (kind : Int) := by simp; omega
 have HW : Shh (Row W w.heap.size 27 [.int .u32 c, .bool false, .int .i64 24, .int .i64 h, .int .i64 l] /\ Sl W W.heap.size (.slice (some ⟨w.heap.size + 1, 0, none⟩) 3 3) zl /\ Sl W W.heap.size (.slice (some ⟨w.heap.size + 1 + 1, 0, none⟩) 1 1) [UInt8.ofNat kind] /\ Sl W W.heap.size (.slice A1 key.length c1) key /\ Tabs W /\ Below w.heap.size w W /\ W.heap.size = w.heap.size + 3) := by
  have b1 := below1 w (.cells #[.int .u32 c, .bool false, .int .i64 24, .int .i64 h, .int .i64 l] 27);rw [hW];refine ⟨((Row.new_ rfl rfl).alloc _).alloc _, ?_, ?_, ((hkey.go (below1 _ _)).go (below1 _ _)).go (below1 _ _), ((ht.go (below1 _ _)).go (below1 _ _)).go (below1 _ _), Below.chain (Below.chain (below1 _ _) (below1 _ _)) (below1 _ _), by rw [asz, asz, asz]⟩
  ·exact Row.sl ((Row.new_ (T := 5) (by rw [asz]) rfl).alloc _) (by rw [HZL.out]; simp) (by decide)
  ·exact Row.sl (bs := [UInt8.ofNat kind]) (Row.new_ (T := 5) (by rw [asz, asz]) (by rw [<- hkb]; rfl)) rfl (by decide)
 clear hkey ht hkb;have HTX : Shh ([zl, [UInt8.ofNat kind], key].flatten = bigB kind 4 ++ key /\ (bigB kind 4 ++ key).length <= 200000) := by
  refine ⟨by rw [HZL.out, three_flat10, bigB_small4 kind hk, List.append_assoc], ?_⟩;rw [List.length_append, bigB_length]; omega
 have HKY : Shh (∀ m, keyd false 24 kind key m = (hsh false ((bigB kind 4 ++ key) ++ m)).take 24) := ⟨fun m => by unfold keyd ktxt; rw [List.append_assoc]; rfl⟩;generalize bigB kind 4 ++ key = hd at HTX HKY;go_enter Tryz.func121, Tryz.ntmps121
 go_wp2_with (go_at_call 52; go_loud (rw [<- hW]; refine (join_any (W.heap.size + 1) (W.heap.size + 1) _ [zl, [UInt8.ofNat kind], key] _ (PartsO.three (q := w.heap.size + 1 + 1 + 1) (by have := HW.out.2.2.2.2.2.2; omega) (by have := HW.out.2.2.2.2.2.2; omega) (Row.new_ (by have := HW.out.2.2.2.2.2.2; omega) rfl) ((HW.out.2.1.below (below1 _ _)).more (by omega)) (HW.out.2.1.off (by omega)) ((HW.out.2.2.1.below (below1 _ _)).more (by omega)) (HW.out.2.2.1.off (by omega)) ((HW.out.2.2.2.1.below (below1 _ _)).more (by omega)) (HW.out.2.2.2.1.off (by omega))) (by rw [asz]; exact Nat.le_refl _) (by rw [HTX.out.1]; have := HTX.out.2; omega) (by simp)).mono ?_))
 clear hW;rintro e w3 ⟨v3, rfl, g3⟩;rw [HTX.out.1] at g3;have HO3 : Shh (Off g0 v3) := ⟨gives_off g3 g0 (by rw [asz]; have := HW.out.2.2.2.2.2.2; omega)⟩;obtain ⟨At, ct, rfl⟩ := own_form g3.1;have H3 : Shh (Row w3 w.heap.size 27 [.int .u32 c, .bool false, .int .i64 24, .int .i64 h, .int .i64 l] /\ Sl w3 w3.heap.size (.slice At hd.length ct) hd /\ Tabs w3 /\ Below w.heap.size w w3) := by
  have b1 : Below W.heap.size W w3 := Below.chain (below1 _ _) g3.2;exact ⟨HW.out.1.go b1, gives_sl g3, HW.out.2.2.2.2.1.go b1, Below.chain HW.out.2.2.2.2.2.1 b1⟩
 have HTL : Shh (hd.length <= 200000) := ⟨HTX.out.2⟩;clear g3 HW HTX hmk HZL;have e1 : (w3.alloc (.cells #[.slice At hd.length ct] 23)).cell? ⟨w.heap.size, 1, none⟩ = some (.bool false) := (H3.out.1.alloc _).cell 1;have HL := hd.length;obtain ⟨W4, hW4⟩ : ∃ W4, W4 = w3.alloc (.cells #[.slice At hd.length ct] 23) := ⟨_, rfl⟩;obtain ⟨gh, hgh⟩ : ∃ gh, Shh (gh = w3.heap.size) := ⟨_, ⟨rfl⟩⟩;have H4 : Shh (Row W4 w.heap.size 27 [.int .u32 c, .bool false, .int .i64 24, .int .i64 h, .int .i64 l] /\ Sl W4 W4.heap.size (.slice At hd.length ct) hd /\ Row W4 gh 23 [.slice At hd.length ct] /\ Tabs W4 /\ Below w.heap.size w W4) := by
  have bz : Below w3.heap.size w3 W4 := by rw [hW4]; exact below1 _ _
  exact ⟨H3.out.1.go bz, H3.out.2.1.go bz, by rw [hW4]; exact Row.new_ hgh.out rfl, H3.out.2.2.1.go bz, Below.chain H3.out.2.2.2 bz⟩
 clear HL
 go_wp2_with (go_at_call 137; rw [<- hW4]; refine (new_any _ H4.out.2.2.2.1.1).mono ?_)
 rw [<- hgh.out];clear hW4 H3 e1 hgh;unfold NewIs;rintro e w5 ⟨g, rfl, hg, hh5, b5⟩;have H5 : Shh (Row w5 w.heap.size 27 [.int .u32 c, .bool false, .int .i64 24, .int .i64 h, .int .i64 l] /\ Sl w5 w5.heap.size (.slice At hd.length ct) hd /\ Sl w5 g (.slice At hd.length ct) hd /\ Row w5 gh 23 [.slice At hd.length ct] /\ Tabs w5 /\ HashAt w5 g [] /\ Below w.heap.size w w5 /\ w.heap.size < g /\ g < w5.heap.size /\ gh < g) := by
  have q := hh5.lt;have q2 := H4.out.2.2.1.lt;have q3 := H4.out.1.lt;exact ⟨H4.out.1.go b5, H4.out.2.1.go b5, by rw [hg]; exact H4.out.2.1.below b5, H4.out.2.2.1.go b5, H4.out.2.2.2.1.go b5, hh5, Below.chain H4.out.2.2.2.2 b5, by omega, q, by omega⟩
 clear H4 hh5 b5 hg;obtain ⟨W6, hW6⟩ : ∃ W6, W6 = w5.alloc (.cells #[.pointer (some ⟨g, 0, none⟩)] 160) := ⟨_, rfl⟩;obtain ⟨gb, hgb⟩ : ∃ gb, Shh (gb = w5.heap.size) := ⟨_, ⟨rfl⟩⟩;have H6 : Shh (Row W6 w.heap.size 27 [.int .u32 c, .bool false, .int .i64 24, .int .i64 h, .int .i64 l] /\ Sl W6 W6.heap.size (.slice At hd.length ct) hd /\ Sl W6 g (.slice At hd.length ct) hd /\ Row W6 gh 23 [.slice At hd.length ct] /\ Row W6 gb 160 [.pointer (some ⟨g, 0, none⟩)] /\ Tabs W6 /\ HashAt W6 g [] /\ Below w.heap.size w W6 /\ w.heap.size < g /\ g < W6.heap.size /\ gh < g /\ g < gb) := by
  have bz : Below w5.heap.size w5 W6 := by rw [hW6]; exact below1 _ _
  have q := bz.size;have q1 := H5.out.2.2.2.2.2.2.2;refine ⟨H5.out.1.go bz, H5.out.2.1.go bz, H5.out.2.2.1.step (by omega) bz, H5.out.2.2.2.1.go bz, by rw [hW6]; exact Row.new_ hgb.out rfl, H5.out.2.2.2.2.1.go bz, H5.out.2.2.2.2.2.1.step bz, Below.chain H5.out.2.2.2.2.2.2.1 bz, by omega, by omega, by omega, by have := hgb.out; omega⟩
 have c1 : (w5.alloc (.cells #[.pointer (some ⟨g, 0, none⟩)] 160)).cell? ⟨gh, 0, none⟩ = some (.slice At hd.length ct) := (H5.out.2.2.2.1.alloc _).cell 0;obtain ⟨W7, hW7⟩ : ∃ W7, W7 = W6.alloc (.cells #[.slice At hd.length ct] 23) := ⟨_, rfl⟩;have hz6 : W6.heap.size = gb + 1 := by rw [hW6, asz, hgb.out]
 have HWP : Shh (PartsO W7 (gb + 2) g (.slice (some ⟨gb + 1, 0, none⟩) 1 1) [hd] /\ W7.heap.size = gb + 2 /\ Below W6.heap.size W6 W7) := by
  rw [hW7];exact ⟨PartsO.solo (Row.new_ hz6.symm rfl) (by omega) (by have := H6.out.2.2.2.2.2.2.2.2; omega) ((H6.out.2.1.below (below1 _ _)).more (by omega)) (H6.out.2.2.1.off (Nat.le_refl _)), by rw [asz, hz6], below1 _ _⟩
 clear hz6
 go_wp2_with (go_at_call 138; go_loud (rw [<- hgb.out, <- hW6, <- hW7]; refine (write_any g [] [hd] (gb + 2) _ _ (H6.out.2.2.2.2.2.2.1.step HWP.out.2.2) HWP.out.1 (by rw [HWP.out.2.1]; exact Nat.le_refl _) (H6.out.2.2.2.2.2.1.1.go HWP.out.2.2) (by rw [one_flat10]; have := HTL.out; simp; omega) (by simp)).mono ?_))
 clear hW6 hW7 H5 hgb;unfold WriteIs;rintro e w8 ⟨rfl, hh8, b8⟩;rw [one_flat10, List.nil_append] at hh8;have HR : Shh (KeyAt w8 g0 (.func (.func 139) #[] #[.pointer (some ⟨gb, 0, none⟩), .pointer (some ⟨w.heap.size, 0, none⟩)]) false 24 kind key /\ Below w.heap.size w w8) := by
  have q0 := HWP.out.2.1;have q1 := H6.out.2.2.2.2.2.2.2.2;have q2 := H6.out.2.2.2.2.1.lt;have rx : Row w8 w.heap.size 27 [.int .u32 c, .bool false, .int .i64 24, .int .i64 h, .int .i64 l] := b8.row (H6.out.1.go HWP.out.2.2) (by omega) (by omega);have rb : Row w8 gb 160 [.pointer (some ⟨g, 0, none⟩)] := b8.row (H6.out.2.2.2.2.1.go HWP.out.2.2) (by omega) (by omega);refine ⟨⟨_, _, _, rfl, fun _ _ => by kernel_rfl, fun V vm m hb hT hm hlm => ?_⟩, ?_⟩
  ·rw [HKY.out];exact keyed2_24 c h l w.heap.size gb g vm hd m V (hb.row rx rx.lt (by omega)) (hb.row rb rb.lt (by omega)) (hh8.but hb (by omega)) hm hT HTL.out (by omega)
  ·have q3 := H6.out.2.2.2.2.2.2.2.1.size;exact (Below.chain H6.out.2.2.2.2.2.2.2.1 HWP.out.2.2).trans (b8.under (by omega) (by omega))
 clear H6 HWP hh8 b8 c1;go_wp2;go_ret;exact ⟨_, rfl, HR.out⟩
set_option maxHeartbeats 1000000 in
theorem keyed_32_true (c h l : Int) (kind : Nat) (hk : kind <= 4) (vk : Value) (key : List UInt8) (w : World) (hkey : Sl w w.heap.size vk key) (hl1 : key.length <= 100000) (ht : Tabs w) (g0 : Nat) (hg0 : g0 < w.heap.size) :
  Calls Tryz.prog 121 #[.agg #[.int .u32 c, .bool true, .int .i64 32, .int .i64 h, .int .i64 l], .int .u8 (kind : Int), vk] w (KeyIs w g0 true 32 kind key) := by
 unfold KeyIs;obtain ⟨A1, c1, rfl, _, _⟩ := hkey.form;have hmf : ∀ (fn : Fn) (first cap : Array Value) (w : World), (Instr.makeFunc fn first cap).run Tryz.prog w = .ok (.func fn first cap) w := fun _ _ _ _ => rfl
 obtain ⟨zl, HZL⟩ : ∃ zl : List UInt8, Shh (zl = List.replicate 31 0) := ⟨_, ⟨rfl⟩⟩;have hmk : ∀ u : World, (Instr.makeSlice 23 (.int .i64 31) (.int .i64 31)).run Tryz.prog u = .ok (.slice (some ⟨u.heap.size, 0, none⟩) 31 31) (u.alloc (.cells (Lib.byteCells zl).toArray 5)) := fun u => by rw [HZL.out]; exact make_run 31 (by decide) u
 have hu8 : (kind : Int) % 256 = (kind : Int) := by omega
 obtain ⟨W, hW⟩ : ∃ W, W = ((w.alloc (.cells #[.int .u32 c, .bool true, .int .i64 32, .int .i64 h, .int .i64 l] 27)).alloc (.cells (Lib.byteCells zl).toArray 5)).alloc (.cells #[.int .u8 (kind : Int)] 5) := ⟨_, rfl⟩;have hkb : ((UInt8.ofNat kind).toNat : Int) = (kind : Int) := by simp; omega
 have HW : Shh (Row W w.heap.size 27 [.int .u32 c, .bool true, .int .i64 32, .int .i64 h, .int .i64 l] /\ Sl W W.heap.size (.slice (some ⟨w.heap.size + 1, 0, none⟩) 31 31) zl /\ Sl W W.heap.size (.slice (some ⟨w.heap.size + 1 + 1, 0, none⟩) 1 1) [UInt8.ofNat kind] /\ Sl W W.heap.size (.slice A1 key.length c1) key /\ Tabs W /\ Below w.heap.size w W /\ W.heap.size = w.heap.size + 3) := by
  have b1 := below1 w (.cells #[.int .u32 c, .bool true, .int .i64 32, .int .i64 h, .int .i64 l] 27);rw [hW];refine ⟨((Row.new_ rfl rfl).alloc _).alloc _, ?_, ?_, ((hkey.go (below1 _ _)).go (below1 _ _)).go (below1 _ _), ((ht.go (below1 _ _)).go (below1 _ _)).go (below1 _ _), Below.chain (Below.chain (below1 _ _) (below1 _ _)) (below1 _ _), by rw [asz, asz, asz]⟩
  ·exact Row.sl ((Row.new_ (T := 5) (by rw [asz]) rfl).alloc _) (by rw [HZL.out]; simp) (by decide)
  ·exact Row.sl (bs := [UInt8.ofNat kind]) (Row.new_ (T := 5) (by rw [asz, asz]) (by rw [<- hkb]; rfl)) rfl (by decide)
 clear hkey ht hkb;have HTX : Shh ([zl, [UInt8.ofNat kind], key].flatten = bigB kind 32 ++ key /\ (bigB kind 32 ++ key).length <= 200000) := by
  refine ⟨by rw [HZL.out, three_flat10, bigB_small32 kind hk, List.append_assoc], ?_⟩;rw [List.length_append, bigB_length]; omega
 have HKY : Shh (∀ m, keyd true 32 kind key m = (hsh true ((bigB kind 32 ++ key) ++ m)).take 32) := ⟨fun m => by unfold keyd ktxt; rw [List.append_assoc]; rfl⟩;generalize bigB kind 32 ++ key = hd at HTX HKY;go_enter Tryz.func121, Tryz.ntmps121
 go_wp2_with (go_at_call 52; go_loud (rw [<- hW]; refine (join_any (W.heap.size + 1) (W.heap.size + 1) _ [zl, [UInt8.ofNat kind], key] _ (PartsO.three (q := w.heap.size + 1 + 1 + 1) (by have := HW.out.2.2.2.2.2.2; omega) (by have := HW.out.2.2.2.2.2.2; omega) (Row.new_ (by have := HW.out.2.2.2.2.2.2; omega) rfl) ((HW.out.2.1.below (below1 _ _)).more (by omega)) (HW.out.2.1.off (by omega)) ((HW.out.2.2.1.below (below1 _ _)).more (by omega)) (HW.out.2.2.1.off (by omega)) ((HW.out.2.2.2.1.below (below1 _ _)).more (by omega)) (HW.out.2.2.2.1.off (by omega))) (by rw [asz]; exact Nat.le_refl _) (by rw [HTX.out.1]; have := HTX.out.2; omega) (by simp)).mono ?_))
 clear hW;rintro e w3 ⟨v3, rfl, g3⟩;rw [HTX.out.1] at g3;have HO3 : Shh (Off g0 v3) := ⟨gives_off g3 g0 (by rw [asz]; have := HW.out.2.2.2.2.2.2; omega)⟩;obtain ⟨At, ct, rfl⟩ := own_form g3.1;have H3 : Shh (Row w3 w.heap.size 27 [.int .u32 c, .bool true, .int .i64 32, .int .i64 h, .int .i64 l] /\ Sl w3 w3.heap.size (.slice At hd.length ct) hd /\ Tabs w3 /\ Below w.heap.size w w3) := by
  have b1 : Below W.heap.size W w3 := Below.chain (below1 _ _) g3.2;exact ⟨HW.out.1.go b1, gives_sl g3, HW.out.2.2.2.2.1.go b1, Below.chain HW.out.2.2.2.2.2.1 b1⟩
 have HTL : Shh (hd.length <= 200000) := ⟨HTX.out.2⟩;clear g3 HW HTX hmk HZL;have e1 : (w3.alloc (.cells #[.slice At hd.length ct] 23)).cell? ⟨w.heap.size, 1, none⟩ = some (.bool true) := (H3.out.1.alloc _).cell 1;obtain ⟨Z, hZ⟩ : ∃ Z, Z = w3.alloc (.cells #[.slice At hd.length ct] 23) := ⟨_, rfl⟩;have HR : Shh (KeyAt Z g0 (.func (.func 135) #[] #[.pointer (some ⟨w.heap.size, 0, none⟩), .pointer (some ⟨w3.heap.size, 0, none⟩)]) true 32 kind key /\ Below w.heap.size w Z) := by
  have rh : Row Z w3.heap.size 23 [.slice At hd.length ct] := by rw [hZ]; exact Row.new_ rfl rfl
  have bz : Below w3.heap.size w3 Z := by rw [hZ]; exact below1 _ _
  refine ⟨⟨_, _, _, rfl, fun _ _ => by kernel_rfl, fun V vm m hb hT hm hlm => ?_⟩, Below.chain H3.out.2.2.2 bz⟩;rw [HKY.out];have sb : Sl V V.heap.size (.slice At hd.length ct) hd := ((H3.out.2.1.go bz).but HO3.out hb).more hb.size;have q0 := H3.out.2.2.2.size;exact keyed1_32 c h l w.heap.size w3.heap.size _ vm hd m V (hb.row (H3.out.1.go bz) (H3.out.1.go bz).lt (by omega)) (hb.row rh rh.lt (by omega)) sb hm hT
 go_wp2;rw [<- hZ];go_ret;exact ⟨_, rfl, HR.out⟩
set_option maxHeartbeats 1000000 in
theorem keyed_32_false (c h l : Int) (kind : Nat) (hk : kind <= 4) (vk : Value) (key : List UInt8) (w : World) (hkey : Sl w w.heap.size vk key) (hl1 : key.length <= 100000) (ht : Tabs w) (g0 : Nat) (hg0 : g0 < w.heap.size) :
  Calls Tryz.prog 121 #[.agg #[.int .u32 c, .bool false, .int .i64 32, .int .i64 h, .int .i64 l], .int .u8 (kind : Int), vk] w (KeyIs w g0 false 32 kind key) := by
 unfold KeyIs;obtain ⟨A1, c1, rfl, _, _⟩ := hkey.form;have hmf : ∀ (fn : Fn) (first cap : Array Value) (w : World), (Instr.makeFunc fn first cap).run Tryz.prog w = .ok (.func fn first cap) w := fun _ _ _ _ => rfl
 obtain ⟨zl, HZL⟩ : ∃ zl : List UInt8, Shh (zl = List.replicate 31 0) := ⟨_, ⟨rfl⟩⟩;have hmk : ∀ u : World, (Instr.makeSlice 23 (.int .i64 31) (.int .i64 31)).run Tryz.prog u = .ok (.slice (some ⟨u.heap.size, 0, none⟩) 31 31) (u.alloc (.cells (Lib.byteCells zl).toArray 5)) := fun u => by rw [HZL.out]; exact make_run 31 (by decide) u
 have hu8 : (kind : Int) % 256 = (kind : Int) := by omega
 obtain ⟨W, hW⟩ : ∃ W, W = ((w.alloc (.cells #[.int .u32 c, .bool false, .int .i64 32, .int .i64 h, .int .i64 l] 27)).alloc (.cells (Lib.byteCells zl).toArray 5)).alloc (.cells #[.int .u8 (kind : Int)] 5) := ⟨_, rfl⟩;have hkb : ((UInt8.ofNat kind).toNat : Int) = (kind : Int) := by simp; omega
 have HW : Shh (Row W w.heap.size 27 [.int .u32 c, .bool false, .int .i64 32, .int .i64 h, .int .i64 l] /\ Sl W W.heap.size (.slice (some ⟨w.heap.size + 1, 0, none⟩) 31 31) zl /\ Sl W W.heap.size (.slice (some ⟨w.heap.size + 1 + 1, 0, none⟩) 1 1) [UInt8.ofNat kind] /\ Sl W W.heap.size (.slice A1 key.length c1) key /\ Tabs W /\ Below w.heap.size w W /\ W.heap.size = w.heap.size + 3) := by
  have b1 := below1 w (.cells #[.int .u32 c, .bool false, .int .i64 32, .int .i64 h, .int .i64 l] 27);rw [hW];refine ⟨((Row.new_ rfl rfl).alloc _).alloc _, ?_, ?_, ((hkey.go (below1 _ _)).go (below1 _ _)).go (below1 _ _), ((ht.go (below1 _ _)).go (below1 _ _)).go (below1 _ _), Below.chain (Below.chain (below1 _ _) (below1 _ _)) (below1 _ _), by rw [asz, asz, asz]⟩
  ·exact Row.sl ((Row.new_ (T := 5) (by rw [asz]) rfl).alloc _) (by rw [HZL.out]; simp) (by decide)
  ·exact Row.sl (bs := [UInt8.ofNat kind]) (Row.new_ (T := 5) (by rw [asz, asz]) (by rw [<- hkb]; rfl)) rfl (by decide)
 clear hkey ht hkb;have HTX : Shh ([zl, [UInt8.ofNat kind], key].flatten = bigB kind 32 ++ key /\ (bigB kind 32 ++ key).length <= 200000) := by
  refine ⟨by rw [HZL.out, three_flat10, bigB_small32 kind hk, List.append_assoc], ?_⟩;rw [List.length_append, bigB_length]; omega
 have HKY : Shh (∀ m, keyd false 32 kind key m = (hsh false ((bigB kind 32 ++ key) ++ m)).take 32) := ⟨fun m => by unfold keyd ktxt; rw [List.append_assoc]; rfl⟩;generalize bigB kind 32 ++ key = hd at HTX HKY;go_enter Tryz.func121, Tryz.ntmps121
 go_wp2_with (go_at_call 52; go_loud (rw [<- hW]; refine (join_any (W.heap.size + 1) (W.heap.size + 1) _ [zl, [UInt8.ofNat kind], key] _ (PartsO.three (q := w.heap.size + 1 + 1 + 1) (by have := HW.out.2.2.2.2.2.2; omega) (by have := HW.out.2.2.2.2.2.2; omega) (Row.new_ (by have := HW.out.2.2.2.2.2.2; omega) rfl) ((HW.out.2.1.below (below1 _ _)).more (by omega)) (HW.out.2.1.off (by omega)) ((HW.out.2.2.1.below (below1 _ _)).more (by omega)) (HW.out.2.2.1.off (by omega)) ((HW.out.2.2.2.1.below (below1 _ _)).more (by omega)) (HW.out.2.2.2.1.off (by omega))) (by rw [asz]; exact Nat.le_refl _) (by rw [HTX.out.1]; have := HTX.out.2; omega) (by simp)).mono ?_))
 clear hW;rintro e w3 ⟨v3, rfl, g3⟩;rw [HTX.out.1] at g3;have HO3 : Shh (Off g0 v3) := ⟨gives_off g3 g0 (by rw [asz]; have := HW.out.2.2.2.2.2.2; omega)⟩;obtain ⟨At, ct, rfl⟩ := own_form g3.1;have H3 : Shh (Row w3 w.heap.size 27 [.int .u32 c, .bool false, .int .i64 32, .int .i64 h, .int .i64 l] /\ Sl w3 w3.heap.size (.slice At hd.length ct) hd /\ Tabs w3 /\ Below w.heap.size w w3) := by
  have b1 : Below W.heap.size W w3 := Below.chain (below1 _ _) g3.2;exact ⟨HW.out.1.go b1, gives_sl g3, HW.out.2.2.2.2.1.go b1, Below.chain HW.out.2.2.2.2.2.1 b1⟩
 have HTL : Shh (hd.length <= 200000) := ⟨HTX.out.2⟩;clear g3 HW HTX hmk HZL;have e1 : (w3.alloc (.cells #[.slice At hd.length ct] 23)).cell? ⟨w.heap.size, 1, none⟩ = some (.bool false) := (H3.out.1.alloc _).cell 1;have HL := hd.length;obtain ⟨W4, hW4⟩ : ∃ W4, W4 = w3.alloc (.cells #[.slice At hd.length ct] 23) := ⟨_, rfl⟩;obtain ⟨gh, hgh⟩ : ∃ gh, Shh (gh = w3.heap.size) := ⟨_, ⟨rfl⟩⟩;have H4 : Shh (Row W4 w.heap.size 27 [.int .u32 c, .bool false, .int .i64 32, .int .i64 h, .int .i64 l] /\ Sl W4 W4.heap.size (.slice At hd.length ct) hd /\ Row W4 gh 23 [.slice At hd.length ct] /\ Tabs W4 /\ Below w.heap.size w W4) := by
  have bz : Below w3.heap.size w3 W4 := by rw [hW4]; exact below1 _ _
  exact ⟨H3.out.1.go bz, H3.out.2.1.go bz, by rw [hW4]; exact Row.new_ hgh.out rfl, H3.out.2.2.1.go bz, Below.chain H3.out.2.2.2 bz⟩
 clear HL
 go_wp2_with (go_at_call 137; rw [<- hW4]; refine (new_any _ H4.out.2.2.2.1.1).mono ?_)
 rw [<- hgh.out];clear hW4 H3 e1 hgh;unfold NewIs;rintro e w5 ⟨g, rfl, hg, hh5, b5⟩;have H5 : Shh (Row w5 w.heap.size 27 [.int .u32 c, .bool false, .int .i64 32, .int .i64 h, .int .i64 l] /\ Sl w5 w5.heap.size (.slice At hd.length ct) hd /\ Sl w5 g (.slice At hd.length ct) hd /\ Row w5 gh 23 [.slice At hd.length ct] /\ Tabs w5 /\ HashAt w5 g [] /\ Below w.heap.size w w5 /\ w.heap.size < g /\ g < w5.heap.size /\ gh < g) := by
  have q := hh5.lt;have q2 := H4.out.2.2.1.lt;have q3 := H4.out.1.lt;exact ⟨H4.out.1.go b5, H4.out.2.1.go b5, by rw [hg]; exact H4.out.2.1.below b5, H4.out.2.2.1.go b5, H4.out.2.2.2.1.go b5, hh5, Below.chain H4.out.2.2.2.2 b5, by omega, q, by omega⟩
 clear H4 hh5 b5 hg;obtain ⟨W6, hW6⟩ : ∃ W6, W6 = w5.alloc (.cells #[.pointer (some ⟨g, 0, none⟩)] 160) := ⟨_, rfl⟩;obtain ⟨gb, hgb⟩ : ∃ gb, Shh (gb = w5.heap.size) := ⟨_, ⟨rfl⟩⟩;have H6 : Shh (Row W6 w.heap.size 27 [.int .u32 c, .bool false, .int .i64 32, .int .i64 h, .int .i64 l] /\ Sl W6 W6.heap.size (.slice At hd.length ct) hd /\ Sl W6 g (.slice At hd.length ct) hd /\ Row W6 gh 23 [.slice At hd.length ct] /\ Row W6 gb 160 [.pointer (some ⟨g, 0, none⟩)] /\ Tabs W6 /\ HashAt W6 g [] /\ Below w.heap.size w W6 /\ w.heap.size < g /\ g < W6.heap.size /\ gh < g /\ g < gb) := by
  have bz : Below w5.heap.size w5 W6 := by rw [hW6]; exact below1 _ _
  have q := bz.size;have q1 := H5.out.2.2.2.2.2.2.2;refine ⟨H5.out.1.go bz, H5.out.2.1.go bz, H5.out.2.2.1.step (by omega) bz, H5.out.2.2.2.1.go bz, by rw [hW6]; exact Row.new_ hgb.out rfl, H5.out.2.2.2.2.1.go bz, H5.out.2.2.2.2.2.1.step bz, Below.chain H5.out.2.2.2.2.2.2.1 bz, by omega, by omega, by omega, by have := hgb.out; omega⟩
 have c1 : (w5.alloc (.cells #[.pointer (some ⟨g, 0, none⟩)] 160)).cell? ⟨gh, 0, none⟩ = some (.slice At hd.length ct) := (H5.out.2.2.2.1.alloc _).cell 0;obtain ⟨W7, hW7⟩ : ∃ W7, W7 = W6.alloc (.cells #[.slice At hd.length ct] 23) := ⟨_, rfl⟩;have hz6 : W6.heap.size = gb + 1 := by rw [hW6, asz, hgb.out]
 have HWP : Shh (PartsO W7 (gb + 2) g (.slice (some ⟨gb + 1, 0, none⟩) 1 1) [hd] /\ W7.heap.size = gb + 2 /\ Below W6.heap.size W6 W7) := by
  rw [hW7];exact ⟨PartsO.solo (Row.new_ hz6.symm rfl) (by omega) (by have := H6.out.2.2.2.2.2.2.2.2; omega) ((H6.out.2.1.below (below1 _ _)).more (by omega)) (H6.out.2.2.1.off (Nat.le_refl _)), by rw [asz, hz6], below1 _ _⟩
 clear hz6
 go_wp2_with (go_at_call 138; go_loud (rw [<- hgb.out, <- hW6, <- hW7]; refine (write_any g [] [hd] (gb + 2) _ _ (H6.out.2.2.2.2.2.2.1.step HWP.out.2.2) HWP.out.1 (by rw [HWP.out.2.1]; exact Nat.le_refl _) (H6.out.2.2.2.2.2.1.1.go HWP.out.2.2) (by rw [one_flat10]; have := HTL.out; simp; omega) (by simp)).mono ?_))
 clear hW6 hW7 H5 hgb;unfold WriteIs;rintro e w8 ⟨rfl, hh8, b8⟩;rw [one_flat10, List.nil_append] at hh8;have HR : Shh (KeyAt w8 g0 (.func (.func 139) #[] #[.pointer (some ⟨gb, 0, none⟩), .pointer (some ⟨w.heap.size, 0, none⟩)]) false 32 kind key /\ Below w.heap.size w w8) := by
  have q0 := HWP.out.2.1;have q1 := H6.out.2.2.2.2.2.2.2.2;have q2 := H6.out.2.2.2.2.1.lt;have rx : Row w8 w.heap.size 27 [.int .u32 c, .bool false, .int .i64 32, .int .i64 h, .int .i64 l] := b8.row (H6.out.1.go HWP.out.2.2) (by omega) (by omega);have rb : Row w8 gb 160 [.pointer (some ⟨g, 0, none⟩)] := b8.row (H6.out.2.2.2.2.1.go HWP.out.2.2) (by omega) (by omega);refine ⟨⟨_, _, _, rfl, fun _ _ => by kernel_rfl, fun V vm m hb hT hm hlm => ?_⟩, ?_⟩
  ·rw [HKY.out];exact keyed2_32 c h l w.heap.size gb g vm hd m V (hb.row rx rx.lt (by omega)) (hb.row rb rb.lt (by omega)) (hh8.but hb (by omega)) hm hT HTL.out (by omega)
  ·have q3 := H6.out.2.2.2.2.2.2.2.1.size;exact (Below.chain H6.out.2.2.2.2.2.2.2.1 HWP.out.2.2).trans (b8.under (by omega) (by omega))
 clear H6 HWP hh8 b8 c1;go_wp2;go_ret;exact ⟨_, rfl, HR.out⟩
theorem keyed_any (x : S5) (hx : x.ok = true) (kind : Nat) (hk : kind <= 4) (vk : Value) (key : List UInt8) (w : World) (hkey : Sl w w.heap.size vk key) (hl1 : key.length <= 100000) (ht : Tabs w) (g : Nat) (hg : g < w.heap.size) :
  Calls Tryz.prog 121 #[x.v, .int .u8 (kind : Int), vk] w (KeyIs w g x.s x.n kind key) := by
 have hn := S5.ok_is hx;obtain ⟨c, s, n, h, l⟩ := x;simp only at hn;clear hx
 rcases hn with ⟨rfl, rfl⟩ | ⟨rfl, rfl⟩ <;> cases s
 ·exact keyed_24_false c h _ kind hk vk key w hkey hl1 ht g hg
 ·exact keyed_24_true c h _ kind hk vk key w hkey hl1 ht g hg
 ·exact keyed_32_false c h _ kind hk vk key w hkey hl1 ht g hg
 ·exact keyed_32_true c h _ kind hk vk key w hkey hl1 ht g hg
set_option maxHeartbeats 1000000 in
theorem of_any (g : Nat) (v : Value) (s : Bool) (n : Int) (kind : Nat) (key : List UInt8) (a : List UInt32) (ha : a.length = 8) (w : World) (hk : KeyAt w g v s n kind key) (ht : Tabs w) :
  Calls Tryz.prog 130 #[v, adrV a] w (NewSl w (keyd s n kind key (adrB a))) := by
 unfold NewSl;obtain ⟨F, q1, q2, rfl, hcf, kf⟩ := hk;have KF := Shh.mk kf;have HB : Shh ((∀ W, Calls Tryz.prog 133 #[adrV a] W (SumIs W (adrB a))) /\ (adrB a).length = 32) := ⟨fun W => bytes_any a ha W, by rw [adrB_length, ha]⟩;have HA : Shh ((wordCells a).length = 8) := ⟨by rw [wordCells_length]; exact ha⟩;obtain ⟨W, hW⟩ : ∃ W, W = w.alloc (.cells (wordCells a).toArray 64) := ⟨_, rfl⟩;have HW : Shh (Row W w.heap.size 64 (wordCells a) /\ Tabs W /\ Below w.heap.size w W) := by
  rw [hW];exact ⟨Row.new_ rfl rfl, ht.go (below1 _ _), below1 _ _⟩
 clear kf ht;unfold adrV at HB ⊢;generalize wordCells a = L at HB HA HW hW ⊢;generalize adrB a = ob at HB KF ⊢;go_enter Tryz.func130, Tryz.ntmps130
 go_wp2_with (first | (rw [<- hW]; refine wpList_load_any rfl 64 (.tmp 3) rfl w.heap.size rfl 64 L _ HW.out.1 Tryz.underlying64 rfl (info_adr10 HA.out) ?_) | (go_at_call 133; rw [<- hW]; refine (HB.out.1 _).mono ?_))
 clear hW;unfold SumIs;rintro e w2 ⟨rfl, b2⟩;have H2 : Shh (Tabs w2 /\ Below w.heap.size w w2) := ⟨HW.out.2.1.go b2, Below.chain HW.out.2.2 b2⟩;clear HW b2;obtain ⟨G, hG⟩ : ∃ G, Shh (G = w2.heap.size) := ⟨_, ⟨rfl⟩⟩
 go_wp2_with (refine wpList_store_any rfl 155 (.tmp 5) (.tmp 7) rfl G (by rw [hG.out]; rfl) (Lib.byteCells ob) rfl 155 _ (Row.new_ hG.out zero32b) (info_b32.trans (size_bytes _ _ HB.out.2)) (by rw [Lib.byteCells_length, Lib.byteCells_length, HB.out.2]; rfl) (cell_oneCell _) ?_)
 intro Z hr bt zt;have H3 : Shh (Tabs Z /\ Row Z G 155 (Lib.byteCells ob) /\ Below w.heap.size w Z /\ ob.length = 32) := by
  have q1 := H2.out.2.size;have q3 := hG.out;have bz : Below w2.heap.size w2 Z := (below1 w2 _).trans (bt.under (by first | omega | (rw [asz]; omega)) (by omega));exact ⟨H2.out.1.go bz, hr, Below.chain H2.out.2 bz, HB.out.2⟩
 rw [<- hG.out];clear hr bt zt H2 hG HB
 go_wp2_with (with_reducible show Calls Tryz.prog F _ _ _; refine (KF.out Z _ ob (But.of H3.out.2.2.1 g) H3.out.1 (H3.out.2.1.sl H3.out.2.2.2 (by decide)) (by rw [H3.out.2.2.2]; decide)).mono ?_)
 unfold NewSl;rintro e w4 ⟨v, rfl, s4, b4, o4⟩;have HR : Shh (Sl w4 w4.heap.size v (keyd s n kind key ob) /\ Below w.heap.size w w4 /\ ∀ g, g < w.heap.size -> Off g v) := ⟨s4, Below.chain H3.out.2.2.1 b4, fun g hg => o4 g (Nat.lt_of_lt_of_le hg H3.out.2.2.1.size)⟩;clear H3 s4 b4 o4 KF hcf;go_wp2;go_ret;exact ⟨_, rfl, HR.out⟩
set_option maxHeartbeats 1000000 in
theorem check_any (x : S5) (hw : x.wf) (v : Value) (bss : List (List UInt8)) (B g : Nat) (w : World) (hp : PartsO w B g v bss) (hB : B <= w.heap.size) (hn : bss.length <= 1000000) :
  Calls Tryz.prog 95 #[x.v, v] w (OldIs (.int .i64 (badE x bss)) w) := by
 unfold OldIs;obtain ⟨A, c, rfl⟩ := hp.form;have HM : Shh (∀ W, Calls Tryz.prog 120 #[x.v] W (OldIs (.bool x.ok) W)) := ⟨fun W => isSet_any x hw W⟩;unfold S5.v at HM ⊢;have HP := Shh.mk hp;clear hp;have HW : Shh (Row (w.alloc (.cells #[.int .u32 x.c, .bool x.s, .int .i64 x.n, .int .i64 x.h, .int .i64 x.l] 27)) w.heap.size 27 [.int .u32 x.c, .bool x.s, .int .i64 x.n, .int .i64 x.h, .int .i64 x.l] /\ Below w.heap.size w (w.alloc (.cells #[.int .u32 x.c, .bool x.s, .int .i64 x.n, .int .i64 x.h, .int .i64 x.l] 27))) := ⟨Row.new_ rfl rfl, below1 _ _⟩;cases hok : x.ok with
 | false =>
  have HE : Shh (badE x bss = 60) := ⟨by unfold badE; rw [hok]; rfl⟩;rw [HE.out];rw [hok] at HM;clear hok HE hw;generalize x.c = xc at *;generalize x.s = xs at *;generalize x.n = xn at *;generalize x.h = xh at *;generalize x.l = xl at *;go_enter Tryz.func95, Tryz.ntmps95
  go_wp2_with (go_at_call 120; refine (HM.out _).mono ?_)
  unfold OldIs;rintro e w2 ⟨rfl, b2⟩;have HB := Shh.mk (Below.chain HW.out.2 b2);clear b2 HW HM;go_wp2;go_ret;exact ⟨rfl, HB.out⟩
 | true =>
  obtain ⟨E, hE⟩ : ∃ E, E = badE x bss := ⟨_, rfl⟩;rw [<- hE];have HE : Shh (E = if bss.all (fun b => decide ((b.length : Int) = x.n)) then 0 else 1) := ⟨by rw [hE]; unfold badE; rw [hok]; rfl⟩;rw [hok] at HM;clear hok hE hw;generalize x.c = xc at *;generalize x.s = xs at *;generalize x.n = xn at *;generalize x.h = xh at *;generalize x.l = xl at *;go_enter Tryz.func95, Tryz.ntmps95
  go_wp2_with (go_at_call 120; refine (HM.out _).mono ?_)
  unfold OldIs;rintro e w2 ⟨rfl, b2⟩;have H2 : Shh (Row w2 w.heap.size 27 [.int .u32 xc, .bool xs, .int .i64 xn, .int .i64 xh, .int .i64 xl] /\ Below w.heap.size w w2) := ⟨HW.out.1.go b2, Below.chain HW.out.2 b2⟩;clear b2 HW HM;go_wp2;go_loopw [12] (fun i wr => ∃ k : Nat, k <= bss.length /\ i = .int .i64 (k : Int) /\ Shh (Row wr w.heap.size 27 [.int .u32 xc, .bool xs, .int .i64 xn, .int .i64 xh, .int .i64 xl] /\ Below w.heap.size w wr /\ ∀ j (h : j < bss.length), j < k -> (bss[j].length : Int) = xn)) (fun i _ => bss.length - (intOf i).toNat)
  case atStart => exact ⟨0, Nat.zero_le _, rfl, ⟨H2.out.1, H2.out.2, fun _ _ h => absurd h (Nat.not_lt_zero _)⟩⟩
  case round =>
   clear H2;obtain ⟨k, hk, rfl, HL⟩ := hrel
   by_cases hlt : k < bss.length
   ·obtain ⟨q, off, rfl, hq, hqg, hcc⟩ := HP.out.at_ (by omega);obtain ⟨u, hcu, hsu, _⟩ := hcc k hlt;obtain ⟨Au, cu, rfl, _, _⟩ := hsu.form;have hcx := (HL.out.2.1.cell (p := ⟨q, off + k, none⟩) (show q < w.heap.size by omega)).trans hcu;have e2 := HL.out.1.cell 2;simp only [List.getElem?_cons_succ, List.getElem?_cons_zero] at e2
    have HX : Shh (bss[k] ∈ bss /\ ∀ j (h : j < bss.length), j < k + 1 -> (bss[k].length : Int) = xn -> (bss[j].length : Int) = xn) := ⟨List.getElem_mem hlt, fun j hj hjk he => by
     by_cases e : j = k
     ·subst e; exact he
     ·exact HL.out.2.2 j hj (by omega)⟩
    clear hcu hsu hcc;obtain ⟨ln, hln⟩ : ∃ ln, ln = bss[k].length := ⟨_, rfl⟩;have HLN := Shh.mk hln;rw [<- hln] at hcx;clear hln
    by_cases heq : (ln : Int) = xn
    ·have hne : ((ln : Int) != xn) = false := by simp [heq]
     have HR : Shh (Row wr w.heap.size 27 [.int .u32 xc, .bool xs, .int .i64 xn, .int .i64 xh, .int .i64 xl] /\ Below w.heap.size w wr /\ ∀ j (h : j < bss.length), j < k + 1 -> (bss[j].length : Int) = xn) := ⟨HL.out.1, HL.out.2.1, fun j hj hjk => HX.out.2 j hj hjk (by rw [<- HLN.out]; exact heq)⟩;clear heq HL HX HLN;go_wp2
     go_round
     case rel => exact ⟨k + 1, by omega, by go_num, ⟨HR.out.1, HR.out.2.1, HR.out.2.2⟩⟩
     case measure => simp [intOf]; omega
    ·have hne : ((ln : Int) != xn) = true := by simp [heq]
     have HR : Shh (E = 1 /\ Below w.heap.size w wr) := ⟨by
      rw [HE.out, if_neg];intro hh
      exact heq (by rw [HLN.out]; exact of_decide_eq_true (List.all_eq_true.1 hh _ HX.out.1)), HL.out.2.1⟩
     clear heq HL HX HLN HE;go_wp2;go_ret;exact ⟨by rw [HR.out.1]; rfl, HR.out.2⟩
   ·obtain rfl : k = bss.length := by omega
    have HR : Shh (E = 0 /\ Below w.heap.size w wr) := ⟨by
     rw [HE.out, if_pos];rw [List.all_eq_true];intro b hb;obtain ⟨j, hj, rfl⟩ := List.getElem_of_mem hb
     exact decide_eq_true (HL.out.2.2 j hj hj), HL.out.2.1⟩
    clear HL HE;go_wp2;go_ret;exact ⟨by rw [HR.out.1]; rfl, HR.out.2⟩
theorem digits_any (v : Value) (bs : List UInt8) (w : World) (hs : Sl w w.heap.size v bs) (hl : bs.length <= 100000) : Calls Tryz.prog 97 #[v] w (IntsIs w (dig10 bs)) := by
 unfold IntsIs;obtain ⟨i0, hi, hz0, hz1, hz2⟩ := info_parts info_int;obtain ⟨A, c, rfl, _, hcm⟩ := hs.form;have HS := Shh.mk hs;clear hs;have HW : Shh (OwnI w w.heap.size (.slice none 0 0) [] /\ Below w.heap.size w w) := ⟨OwnI.nil _ _, Below.refl _ _⟩;go_enter Tryz.func97, Tryz.ntmps97;go_wp2;go_loopw [3, 4, 11] (fun o s i wr => ∃ k q : Nat, k <= bs.length /\ q <= 30 * k /\ s = .int .i64 (q : Int) /\ i = .int .i64 (k : Int) /\ Shh (q = csL (bs.take k) /\ OwnI wr w.heap.size o (hxL (bs.take k)) /\ Below w.heap.size w wr)) (fun _ _ i _ => bs.length - (intOf i).toNat)
 case atStart => exact ⟨0, 0, Nat.zero_le _, Nat.zero_le _, rfl, rfl, ⟨rfl, HW.out⟩⟩
 case round =>
  clear HW;obtain ⟨k, q, hk, hq, rfl, rfl, HL⟩ := hrel
  by_cases hlt : k < bs.length
  ·obtain ⟨g, off, rfl, hg, hcc⟩ := HS.out.at_ (by omega);have hcx := (HL.out.2.2.cell (p := ⟨g, off + k, none⟩) hg).trans (hcc k hlt);clear hcc;have HX : Shh (hxL (bs.take (k + 1)) = hxL (bs.take k) ++ [bs[k].toNat / 16, bs[k].toNat % 16] /\ csL (bs.take (k + 1)) = q + (30 - bs[k].toNat / 16 - bs[k].toNat % 16)) := ⟨hxL_take bs k hlt, by rw [csL_take bs k hlt, HL.out.1]⟩;generalize bs[k] = x at hcx HX;have hx := x.toNat_lt;obtain ⟨h4, hh4⟩ : ∃ h4, h4 = x.toNat / 16 := ⟨_, rfl⟩;obtain ⟨l4, hl4⟩ : ∃ l4, l4 = x.toNat % 16 := ⟨_, rfl⟩;have eh : (x.toNat : Int) / 16 = (h4 : Int) := by omega
   have el : (x.toNat : Int) % 16 = (l4 : Int) := by omega
   have bh : h4 <= 15 /\ l4 <= 15 := by omega
   rw [<- hh4, <- hl4] at HX;clear hh4 hl4;have H2 : Shh (OwnI wr w.heap.size u3 (hxL (bs.take k)) /\ Below w.heap.size w wr) := ⟨HL.out.2.1, HL.out.2.2⟩;obtain ⟨W, hW⟩ : ∃ W, W = wr := ⟨_, rfl⟩;rw [<- hW] at H2;subst hW;clear HL;have H3 : Shh (OwnI (W.alloc (.cells #[.int .i64 (h4 : Int), .int .i64 (l4 : Int)] 3)) w.heap.size u3 (hxL (bs.take k)) /\ Below w.heap.size w (W.alloc (.cells #[.int .i64 (h4 : Int), .int .i64 (l4 : Int)] 3)) /\ Row (W.alloc (.cells #[.int .i64 (h4 : Int), .int .i64 (l4 : Int)] 3)) W.heap.size 3 (intCells [h4, l4]) /\ (hxL (bs.take k)).length <= 200000) := ⟨H2.out.1.go (below1 _ _), Below.chain H2.out.2 (below1 _ _), Row.new_ rfl rfl, by rw [hxL_length, List.length_take]; omega⟩
   go_wp2_with (at_builtin; refine wp_appendI _ 91 3 i0 (.int .i64 0) Tryz.underlying91 hi hz0 hz1 hz2 rfl rfl _ _ rfl (us := intCells [h4, l4]) H3.out.1 rfl rfl rfl (fun j u hu => (H3.out.2.2.1.cell j).trans hu) (intCells_one _) (by have := H3.out.2.2.2; omega) H3.out.2.1.size ?_)
   intro v' w1 hown' hbl;have H4 : Shh (OwnI w1 w.heap.size v' (hxL (bs.take (k + 1))) /\ Below w.heap.size w w1) := ⟨by rw [HX.out.1]; exact OwnI.join hown', H3.out.2.1.trans (hbl _ (Nat.le_refl _))⟩;have HQ : Shh (q + (30 - h4 - l4) = csL (bs.take (k + 1))) := ⟨HX.out.2.symm⟩;clear hown' hbl H3 H2 HX;go_wp2
   go_roundw
   case rel => exact ⟨k + 1, q + (30 - h4 - l4), by omega, by omega, by go_num, by go_num, HQ.out, H4.out⟩
   case measure => simp [intOf]; omega
  ·obtain rfl : k = bs.length := by omega
   have HQ : Shh (q = csL bs /\ OwnI wr w.heap.size u3 (hxL bs) /\ Below w.heap.size w wr) := by
    have h := HL.out;rw [List.take_length] at h;exact ⟨h⟩
   clear HL;obtain ⟨d1, hd1⟩ : ∃ d, d = q / 256 := ⟨_, rfl⟩;obtain ⟨d2, hd2⟩ : ∃ d, d = q / 16 % 16 := ⟨_, rfl⟩;obtain ⟨d3, hd3⟩ : ∃ d, d = q % 16 := ⟨_, rfl⟩;have HD : Shh (dig10 bs = hxL bs ++ [d1, d2, d3]) := ⟨by unfold dig10; rw [<- HQ.out.1, hd1, hd2, hd3]⟩;have e1 : (q : Int) / 16 / 16 = (d1 : Int) := by omega
   have e2 : (q : Int) / 16 % 16 = (d2 : Int) := by omega
   have e3 : (q : Int) % 16 = (d3 : Int) := by omega
   clear hd1 hd2 hd3;have H3 : Shh (OwnI (wr.alloc (.cells #[.int .i64 (d1 : Int), .int .i64 (d2 : Int), .int .i64 (d3 : Int)] 3)) w.heap.size u3 (hxL bs) /\ Below w.heap.size w (wr.alloc (.cells #[.int .i64 (d1 : Int), .int .i64 (d2 : Int), .int .i64 (d3 : Int)] 3)) /\ Row (wr.alloc (.cells #[.int .i64 (d1 : Int), .int .i64 (d2 : Int), .int .i64 (d3 : Int)] 3)) wr.heap.size 3 (intCells [d1, d2, d3]) /\ (hxL bs).length <= 200000) := ⟨HQ.out.2.1.go (below1 _ _), Below.chain HQ.out.2.2 (below1 _ _), Row.new_ rfl rfl, by rw [hxL_length]; omega⟩
   go_wp2_with (at_builtin; refine wp_appendI _ 91 3 i0 (.int .i64 0) Tryz.underlying91 hi hz0 hz1 hz2 rfl rfl _ _ rfl (us := intCells [d1, d2, d3]) H3.out.1 rfl rfl rfl (fun j u hu => (H3.out.2.2.1.cell j).trans hu) (intCells_one _) (by have := H3.out.2.2.2; omega) H3.out.2.1.size ?_)
   intro v' w1 hown' hbl;have H4 : Shh (OwnI w1 w.heap.size v' (dig10 bs) /\ Below w.heap.size w w1) := ⟨by rw [HD.out]; exact OwnI.join hown', H3.out.2.1.trans (hbl _ (Nat.le_refl _))⟩;clear hown' hbl H3 HQ;go_wp2;go_ret;exact ⟨_, rfl, H4.out⟩
end Go.Proofs.YtdakbipiifkmfaaGreatDoor
