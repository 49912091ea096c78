import Derived.BigRegion
import Derived.Deep.RegionWith
import Derived.Deep.RegionHeld
import Derived.BigQuiet
import Derived.Deep.QuietTactic
import Derived.StillTailTactics
import Derived.WalkKit
import Derived.Test.YtdakbipiifkmfaaGreatDoorProg
import Derived.WalkSpells
import Derived.WalkLawsBesides
import Derived.Lib.UnsafeStr
import Derived.Lib.Hide
import Derived.Laws.BytesArg
import Derived.Deep.Draws
import Derived.RegionTactic
import Derived.ChangeAlike
import Derived.Laws.AppendOwnNone
import Derived.Maps.AppendAt
import Derived.Laws.Cover3
import Derived.RangeFuncNested
import Derived.RangeFuncBound
import Derived.RangeFuncCalls
import Derived.RangeFuncLeaves
import Derived.OwnWalkIn
import Derived.TacticsInMore
import Derived.LoopNIn
import Derived.LoopIn
import Derived.RangeFuncBox
import Derived.RangeFuncWrites
import Derived.Deep.MidRow
import Derived.Deep.WholeRow
import Derived.Deep.RegionHeld3
import Derived.Test.YtdakbipiifkmfaaGreatDoorRows
import Derived.ProofKit
import Derived.OpenShut
import Derived.JoinedCond
import Derived.SizedLaws
import Derived.Carry
import Derived.Deep.Grids
import Derived.Lib.SliceRun
import Derived.Lib.ConvBytes
import Derived.Lib.AtoiErrMem
import Derived.Laws.AppendOwn
import Derived.Deep.RegionLaw
import Derived.Laws.CopyOwn
import Derived.DeepKeys
import Derived.Lib.SmallJoins
import Derived.Laws.EntriesVeiled
import Derived.Test.YtdakbipiifkmfaaGreatDoorHP13
namespace Go.Proofs.YtdakbipiifkmfaaGreatDoor
open Go.RowKit
set_option maxRecDepth 100000
section
variable {a : Act} {x y : Operand} {op : Oper} {w : World}
theorem add_32 {n k m : Nat} (h : m = k + n) (hm : m < 4294967296) (ho : op.op = .binOp .add 22 x y 22) (hx : a.eval x = .int .u32 (k : Int)) (hy : a.eval y = .int .u32 (n : Int)) : (execOp a.eval op).run Tryz.prog w = .ok (.value (.int .u32 (m : Int))) w := by
 have hw : IntKind.u32.wrap ((k : Int) + (n : Int)) = (m : Int) := by rw [IntKind.wrap_u32]; omega
 clear h;unfold execOp;simp only [ho, hx, hy]
 go_simp
end
set_option maxHeartbeats 2000000 in
theorem value_any (x : S5) (hw : x.wf) (hx : x.ok = true) (vs vp vb : Value) (sd pf pb : List UInt8) (K j : Nat) (hK : K <= 30) (hj : (j + 1) * 2 ^ K <= 4294967296) (w : World) (hs : Sl w w.heap.size vs sd) (hp : Sl w w.heap.size vp pf) (hb : Sl w w.heap.size vb pb) (hsl : (sd.length : Int) = x.n) (hbl : (pb.length : Int) = x.n) (ht : Tabs w) :
  Calls Tryz.prog 50 #[.agg (srcL x vs vp vb).toArray, .int .i64 (K : Int), .int .u32 (j : Int)] w (SlIs w (nodeV x.s x.n x.l.toNat sd pb K j)) := by
 unfold SlIs;obtain ⟨As, cs, rfl, _, _⟩ := hs.form;obtain ⟨Ap, cp, rfl, _, _⟩ := hp.form;obtain ⟨Ab, cb, rfl, _, _⟩ := hb.form;obtain ⟨P, hP⟩ : ∃ P, P = 2 ^ K := ⟨_, rfl⟩;obtain ⟨J, hJ⟩ : ∃ J, J = j * 2 ^ K := ⟨_, rfl⟩;obtain ⟨A, hA⟩ : ∃ A, A = stkA x.s x.n x.l.toNat sd pb K j := ⟨_, rfl⟩;obtain ⟨out, hout⟩ : ∃ out, out = nodeV x.s x.n x.l.toNat sd pb K j := ⟨_, rfl⟩;have hPK : 2 ^ K <= 2 ^ 30 := Nat.pow_le_pow_right (by decide) hK;have hJP : J + P <= 4294967296 := by rw [hJ, hP]; rw [Nat.add_mul, Nat.one_mul] at hj; exact hj
 have hP0 : 0 < P := by rw [hP]; exact Nat.two_pow_pos K
 have HP : Shh (P = 1 * 2 ^ K /\ J = j * 2 ^ K /\ P < 4294967296 /\ K <= 32 /\ J < 4294967296 /\ J + P <= 4294967296) := ⟨by omega, hJ, by rw [hP]; exact Nat.lt_of_le_of_lt hPK (by decide), by omega, by omega, hJP⟩
 have HST : Shh (∀ m W r T g base, m < P -> Below w.heap.size w W -> w.heap.size <= g -> StkAt W base g T [] r (A m) -> Calls Tryz.prog 81 #[.agg ([.int .u32 x.c, .bool x.s, .int .i64 x.n, .int .i64 x.h, .int .i64 x.l, .slice As sd.length cs, .slice Ap pf.length cp, .slice Ab pb.length cb] : List Value).toArray, .pointer (some ⟨g, 0, none⟩), .int .u32 ((J + m : Nat) : Int)] W (PutS W base g T [] (A (m + 1)))) := ⟨fun m W r T g base h1 h2 h3 h4 => by
  rw [hA] at h4 ⊢;rw [hJ]
  exact store_any x hw hx _ _ _ sd pf pb w hs hp hb hsl hbl ht W base g T [] r K j m (by rw [<- hP]; exact h1) hK (by rw [<- hJ]; omega) h2 h3 h4⟩
 have HA : Shh (A 0 = [] /\ A P = [] ++ [(K, out)]) := ⟨by rw [hA]; exact stk_start _ _ _ _ _ _ _, by rw [hA, hP, hout]; exact stk_full _ _ _ _ _ _ _⟩;rw [<- hout];obtain ⟨W, hW⟩ : ∃ W, W = (w.alloc (.cells #[.int .u32 x.c, .bool x.s, .int .i64 x.n, .int .i64 x.h, .int .i64 x.l, .slice As sd.length cs, .slice Ap pf.length cp, .slice Ab pb.length cb] 70)).alloc (.cells #[.slice none 0 0] 104) := ⟨_, rfl⟩;have HW : Shh (Row W w.heap.size 70 [.int .u32 x.c, .bool x.s, .int .i64 x.n, .int .i64 x.h, .int .i64 x.l, .slice As sd.length cs, .slice Ap pf.length cp, .slice Ab pb.length cb] /\ StkAt W (w.heap.size + 2) (w.heap.size + 1) 104 [] none [] /\ Below w.heap.size w W /\ W.heap.size = w.heap.size + 2) := by
  have h1 := StkAt.made (w.alloc (.cells #[.int .u32 x.c, .bool x.s, .int .i64 x.n, .int .i64 x.h, .int .i64 x.l, .slice As sd.length cs, .slice Ap pf.length cp, .slice Ab pb.length cb] 70)) 104;rw [asz, asz] at h1;rw [hW];exact ⟨(Row.new_ rfl rfl).alloc _, h1, Below.chain (below1 _ _) (below1 _ _), by rw [asz, asz]⟩
 clear hs hp hb ht hsl hbl hK hj hw hx hP hJ hA hout hPK hJP hP0;unfold srcL;generalize x.c = xc at *;generalize x.s = xs at *;generalize x.n = xn at *;generalize x.h = xh at *;generalize x.l = xl at *;go_enter Tryz.func50, Tryz.ntmps50
 go_wp2_with (refine wl_value (.int .u32 (P : Int)) rfl (shl_32 HP.out.1 HP.out.2.2.2.1 HP.out.2.2.1 rfl rfl rfl) ?_)
 rw [<- hW];have HL : Shh ((∃ r, StkAt W (w.heap.size + 2) (w.heap.size + 1) 104 [] r (A 0)) /\ Row W w.heap.size 70 [.int .u32 xc, .bool xs, .int .i64 xn, .int .i64 xh, .int .i64 xl, .slice As sd.length cs, .slice Ap pf.length cp, .slice Ab pb.length cb] /\ But (w.heap.size + 2) (w.heap.size + 1) W W) := ⟨⟨none, by rw [HA.out.1]; exact HW.out.2.1⟩, HW.out.1, But.refl _ _ _⟩;clear hW;go_loopw [13] (fun v wr => ∃ m : Nat, m <= P /\ v = .int .u32 (m : Int) /\ Shh ((∃ r, StkAt wr (w.heap.size + 2) (w.heap.size + 1) 104 [] r (A m)) /\ Row wr w.heap.size 70 [.int .u32 xc, .bool xs, .int .i64 xn, .int .i64 xh, .int .i64 xl, .slice As sd.length cs, .slice Ap pf.length cp, .slice Ab pb.length cb] /\ But (w.heap.size + 2) (w.heap.size + 1) W wr)) (fun v _ => P - (intOf v).toNat)
 case atStart => exact ⟨0, Nat.zero_le _, rfl, HL⟩
 case round =>
  clear HL;obtain ⟨m, hm, rfl, HL⟩ := hrel
  by_cases hlt : m < P
  ·have hlti : (m : Int) < (P : Int) := by omega
   go_wp2;have HLT : Shh (m < P) := ⟨hlt⟩;clear hlti hlt hm;refine wp_region_held_drew (S := fun w' => Row w' w.heap.size 70 [.int .u32 xc, .bool xs, .int .i64 xn, .int .i64 xh, .int .i64 xl, .slice As sd.length cs, .slice Ap pf.length cp, .slice Ab pb.length cb]) (by kernel_rfl) HL.out.2.1.drew (fun hS => ?_);clear hS;obtain ⟨V, hV⟩ : ∃ V, V = World.drew wr := ⟨_, rfl⟩;rw [<- hV];have rB : Row V w.heap.size 70 [.int .u32 xc, .bool xs, .int .i64 xn, .int .i64 xh, .int .i64 xl, .slice As sd.length cs, .slice Ap pf.length cp, .slice Ab pb.length cb] := by rw [hV]; exact HL.out.2.1.drew
   have HVB : Shh ((∃ r, StkAt V (w.heap.size + 2) (w.heap.size + 1) 104 [] r (A m)) /\ But (w.heap.size + 2) (w.heap.size + 1) W V /\ Below w.heap.size w V) := by
    rw [hV];exact ⟨⟨HL.out.1.choose, HL.out.1.choose_spec.drew⟩, HL.out.2.2.drew, HW.out.2.2.1.trans (HL.out.2.2.drew.under (by omega) (by omega))⟩
   clear hV HL;obtain ⟨rr, hrr⟩ := HVB.out.1;have sK := Shh.mk hrr;clear hrr;refine hdv0 1 17 (.int .u32 (j : Int)) (by rfl) (rB) ?_;refine hdv0 2 18 (.int .i64 (K : Int)) (by rfl) (rB) ?_;refine hdv 3 19 (.int .u32 (J : Int)) (by rfl) (fun w hS => shl_32 HP.out.2.1 HP.out.2.2.2.1 HP.out.2.2.2.2.1 rfl (by kernel_rfl) (by kernel_rfl)) (rB) ?_;refine hdv0 4 20 (.int .u32 (m : Int)) (by rfl) (rB) ?_;refine hdv 5 21 (.int .u32 ((J + m : Nat) : Int)) (by rfl) (fun w hS => add_32 rfl (by have := HP.out.2.2.2.2.2; have := HLT.out; omega) rfl (by kernel_rfl) (by kernel_rfl)) (rB) ?_;refine held_load 0 70 (.tmp 3) (some 16) (by kernel_rfl) (by rfl) (by kernel_rfl) w.heap.size 0 (by kernel_rfl) ([.int .u32 xc, .bool xs, .int .i64 xn, .int .i64 xh, .int .i64 xl, .slice As sd.length cs, .slice Ap pf.length cp, .slice Ab pb.length cb]) _ (fun w h => h.range) Tryz.underlying70 rfl (info_src) (fun _ _ _ _ h => h) (rB) ?_;simp only [Act.put, arr9, hd9, tl9];refine held_one 6 (by kernel_rfl) ?_;refine step_call 6 _ _ (some 22) 81 #[.agg ([.int .u32 xc, .bool xs, .int .i64 xn, .int .i64 xh, .int .i64 xl, .slice As sd.length cs, .slice Ap pf.length cp, .slice Ab pb.length cb]).toArray, .pointer (some ⟨w.heap.size + 1, 0, none⟩), .int .u32 ((J + m : Nat) : Int)] (by rfl) (by kernel_rfl) (by first | kernel_rfl | go_simp) ?_;refine (HST.out m V rr _ _ _ HLT.out HVB.out.2.2 (by omega) sK.out).mono ?_;unfold PutS; rintro e Y1 ⟨⟨v5, rfl⟩, ⟨r5, s5⟩, b5⟩;have rB2 : Row Y1 w.heap.size 70 [.int .u32 xc, .bool xs, .int .i64 xn, .int .i64 xh, .int .i64 xl, .slice As sd.length cs, .slice Ap pf.length cp, .slice Ab pb.length cb] := b5.row rB (by omega) (by omega);replace rB := rB2;clear rB2;refine ⟨_, rfl, rB, ?_⟩;simp only [Act.put, arr9, hd9, tl9];refine wpAnyH_done (by kernel_rfl) ?_ _;have HR : Shh ((∃ r, StkAt Y1 (w.heap.size + 2) (w.heap.size + 1) 104 [] r (A (m + 1))) /\ Row Y1 w.heap.size 70 [.int .u32 xc, .bool xs, .int .i64 xn, .int .i64 xh, .int .i64 xl, .slice As sd.length cs, .slice Ap pf.length cp, .slice Ab pb.length cb] /\ But (w.heap.size + 2) (w.heap.size + 1) W Y1) := ⟨⟨r5, s5⟩, rB, HVB.out.2.1.trans b5⟩;clear s5 b5 rB HVB sK
   go_wp2_with (refine wl_value (.int .u32 ((m + 1 : Nat) : Int)) rfl (add_32 rfl (by have := HP.out.2.2.1; have := HLT.out; omega) rfl rfl rfl) ?_)
   go_roundw
   case rel => exact ⟨m + 1, HLT.out, rfl, HR⟩
   case measure => have := HLT.out; simp [intOf]; omega
  ·obtain rfl : m = P := by omega
   have hlti : ¬ (m : Int) < (m : Int) := by omega
   obtain ⟨rr, hrr⟩ := HL.out.1;rw [HA.out.2] at hrr;have HLA := Shh.mk (last_any wr _ _ _ [] rr [] K out (by simp) hrr);rw [List.length_nil] at HLA;have HB : Shh (Below w.heap.size w wr) := ⟨HW.out.2.2.1.trans (HL.out.2.2.under (by omega) (by omega))⟩;clear hrr HL HST HA HP HW hm hlt
   go_wp2_with (go_at_call 80; refine HLA.out.mono ?_)
   unfold LastIs;rintro e w2 ⟨ul, rfl, sl, ogl, orl, b2⟩;obtain ⟨Al, cl, rfl, _, _⟩ := sl.form;have HR : Shh (∀ o, Sl (w2.alloc o) (w2.alloc o).heap.size (.slice Al out.length cl) out /\ Below w.heap.size w (w2.alloc o)) := ⟨fun o => ⟨sl.go (below1 _ _), Below.chain (Below.chain HB.out b2) (below1 _ _)⟩⟩;clear HLA sl ogl orl b2 HB;go_wp2;go_ret;exact ⟨_, rfl, HR.out _⟩
theorem bits_xor_one (n : Nat) (hn : n < 4294967296) : bits .xor .u32 (n : Int) 1 = ((besd n : Nat) : Int) := by
 have h := u32_xor (UInt32.ofNat n) 1;have e : (UInt32.ofNat n).toNat = n := ofNat32 hn;rw [UInt32.toNat_xor, e] at h;have h1 : (1 : UInt32).toNat = 1 := rfl;rw [h1, besd_xor] at h;exact h
theorem xor_one {a : Act} {x : Operand} {op : Oper} {w : World} {n m : Nat} (h : m = besd n) (hn : n < 4294967296) (ho : op.op = .binOp .xor 22 x (.const (.int .u32 1)) 22) (hx : a.eval x = .int .u32 (n : Int)) : (execOp a.eval op).run Tryz.prog w = .ok (.value (.int .u32 (m : Int))) w := by
 have hc : a.eval (.const (.int .u32 1)) = .int .u32 1 := rfl;have h1 := bits_xor_one n hn;rw [<- h] at h1;clear h;unfold execOp;simp only [ho, hx, hc];simp [go_sem, h1]
def pthB (V : Nat -> Nat -> List UInt8) (i : Nat) : Nat -> List UInt8
 | 0 => []
 | k + 1 => pthB V i k ++ V k (besd (i / 2 ^ k))
theorem pthB_eq (s : Bool) (n : Int) (L H : Nat) (sd pb : List UInt8) (i : Nat) (hi : i < 2 ^ H) : ∀ k, k <= H -> pthB (nodeV s n L sd pb) i k = pathB s n L H sd pb i k
 | 0, _ => rfl
 | k + 1, h => by
  show pthB _ i k ++ _ = _;rw [pthB_eq s n L H sd pb i hi k (by omega)];unfold pathB;rw [List.range_succ, List.flatMap_append, List.flatMap_singleton, pathB_node s n L H sd pb i k hi (by omega)]
theorem besd_lt2 (i h H : Nat) (hi : i < 2 ^ H) (hh : h < H) (h20 : H <= 30) : (besd (i / 2 ^ h) + 1) * 2 ^ h <= 4294967296 := by
 have h1 := besd_lt i h H hi hh;have h2 : (besd (i / 2 ^ h) + 1) * 2 ^ h <= 2 ^ (H - h) * 2 ^ h := Nat.mul_le_mul_right _ h1;rw [<- Nat.pow_add, Nat.sub_add_cancel (by omega)] at h2;have h3 : 2 ^ H <= 2 ^ 30 := Nat.pow_le_pow_right (by decide) h20;omega
set_option maxHeartbeats 2000000 in
theorem path_any (x : S5) (hw : x.wf) (hx : x.ok = true) (vs vp vb : Value) (sd pf pb : List UInt8) (i H : Nat) (hxH : x.h = (H : Int)) (hH : H <= 30) (hi : i < 2 ^ H) (w : World) (hs : Sl w w.heap.size vs sd) (hp : Sl w w.heap.size vp pf) (hb : Sl w w.heap.size vb pb) (hsl : (sd.length : Int) = x.n) (hbl : (pb.length : Int) = x.n) (ht : Tabs w) :
  Calls Tryz.prog 51 #[.agg (srcL x vs vp vb).toArray, .int .u32 (i : Int)] w (SlIs w (pathB x.s x.n x.l.toNat H sd pb i H)) := by
 unfold SlIs;obtain ⟨As, cs, rfl, _, _⟩ := hs.form;obtain ⟨Ap, cp, rfl, _, _⟩ := hp.form;obtain ⟨Ab, cb, rfl, _, _⟩ := hb.form;have hn := S5.ok_is hx;have hi32 : i < 4294967296 := Nat.lt_of_lt_of_le hi (Nat.le_trans (Nat.pow_le_pow_right (by decide) hH) (by decide));rw [<- pthB_eq x.s x.n x.l.toNat H sd pb i hi H (Nat.le_refl _)];obtain ⟨V, hVd⟩ : ∃ V, V = nodeV x.s x.n x.l.toNat sd pb := ⟨_, rfl⟩;obtain ⟨D, hD⟩ : ∃ D, D = pthB V i := ⟨_, rfl⟩
 have HV : Shh (∀ k W, k < H -> Below w.heap.size w W -> Calls Tryz.prog 50 #[.agg ([.int .u32 x.c, .bool x.s, .int .i64 x.n, .int .i64 x.h, .int .i64 x.l, .slice As sd.length cs, .slice Ap pf.length cp, .slice Ab pb.length cb] : List Value).toArray, .int .i64 (k : Int), .int .u32 ((besd (i / 2 ^ k) : Nat) : Int)] W (SlIs W (V k (besd (i / 2 ^ k))))) := ⟨fun k W h1 b => by
  rw [hVd]
  exact value_any x hw hx _ _ _ sd pf pb k (besd (i / 2 ^ k)) (by omega) (besd_lt2 i k H hi h1 hH) W (hs.go b) (hp.go b) (hb.go b) hsl hbl (ht.go b)⟩
 have HDL : Shh (D 0 = [] /\ (∀ k, D (k + 1) = D k ++ V k (besd (i / 2 ^ k))) /\ (∀ k j, 0 < (V k j).length /\ (V k j).length <= 64) /\ ∀ k, (D k).length <= 64 * k) := by
  have h1 : ∀ k j, (V k j).length <= 64 := fun k j => by rw [hVd, nodeV_length hx]; omega
  refine ⟨by rw [hD]; rfl, fun k => by rw [hD]; rfl, fun k j => ⟨by rw [hVd, nodeV_length hx]; omega, h1 k j⟩, fun k => ?_⟩;rw [hD]
  induction k with
  | zero => exact Nat.le_refl _
  | succ k ih =>
   show (pthB V i k ++ _).length <= _;rw [List.length_append];have := h1 k (besd (i / 2 ^ k));omega
 have HI : Shh (i < 4294967296 /\ H <= 30) := ⟨hi32, hH⟩;rw [<- hVd, <- hD];obtain ⟨W, hW⟩ : ∃ W, W = w.alloc (.cells #[.int .u32 x.c, .bool x.s, .int .i64 x.n, .int .i64 x.h, .int .i64 x.l, .slice As sd.length cs, .slice Ap pf.length cp, .slice Ab pb.length cb] 70) := ⟨_, rfl⟩;have HW : Shh (Row W w.heap.size 70 [.int .u32 x.c, .bool x.s, .int .i64 x.n, .int .i64 x.h, .int .i64 x.l, .slice As sd.length cs, .slice Ap pf.length cp, .slice Ab pb.length cb] /\ Below w.heap.size w W /\ W.heap.size = w.heap.size + 1) := by
  rw [hW];exact ⟨Row.new_ rfl rfl, below1 _ _, asz _ _⟩
 clear hs hp hb ht hsl hbl hH hi hw hx hVd hD hn hi32;unfold srcL at *;generalize x.c = xc at *;generalize x.s = xs at *;generalize x.n = xn at *;generalize x.h = xh at *;generalize x.l = xl at *;subst hxH;go_enter Tryz.func51, Tryz.ntmps51;go_wp2;rw [<- hW];have HL : Shh (Own W (w.heap.size + 1) (.slice none 0 0) (D 0) /\ Row W w.heap.size 70 [.int .u32 xc, .bool xs, .int .i64 xn, .int .i64 (H : Int), .int .i64 xl, .slice As sd.length cs, .slice Ap pf.length cp, .slice Ab pb.length cb] /\ Below w.heap.size w W /\ w.heap.size + 1 <= W.heap.size) := ⟨by rw [HDL.out.1]; exact World.ownsRow_nil _ _ _ _, HW.out.1, HW.out.2.1, by rw [HW.out.2.2]; exact Nat.le_refl _⟩;clear hW HW;go_loopw [5, 10] (fun v kv wr => ∃ k : Nat, k <= H /\ kv = .int .i64 (k : Int) /\ Shh (Own wr (w.heap.size + 1) v (D k) /\ Row wr w.heap.size 70 [.int .u32 xc, .bool xs, .int .i64 xn, .int .i64 (H : Int), .int .i64 xl, .slice As sd.length cs, .slice Ap pf.length cp, .slice Ab pb.length cb] /\ Below w.heap.size w wr /\ w.heap.size + 1 <= wr.heap.size)) (fun _ kv _ => H - (intOf kv).toNat)
 case atStart => exact ⟨0, Nat.zero_le _, rfl, HL⟩
 case round =>
  clear HL
  rename_i vv _
  obtain ⟨k, hk, rfl, HL⟩ := hrel;obtain ⟨Av, cv, rfl⟩ := own_form2 HL.out.1;have HKC : Shh (∀ W, Below w.heap.size w W -> k < H -> Calls Tryz.prog 50 #[.agg ([.int .u32 xc, .bool xs, .int .i64 xn, .int .i64 (H : Int), .int .i64 xl, .slice As sd.length cs, .slice Ap pf.length cp, .slice Ab pb.length cb] : List Value).toArray, .int .i64 (k : Int), .int .u32 ((besd (i / 2 ^ k) : Nat) : Int)] W (SlIs W (V k (besd (i / 2 ^ k))))) := ⟨fun W b h => HV.out k W h b⟩
  by_cases hlt : k < H
  ·have hlti : (k : Int) < (H : Int) := by omega
   obtain ⟨dk, HDK⟩ : ∃ dk, Shh (dk = D k) := ⟨_, ⟨rfl⟩⟩;rw [<- HDK.out] at HL ⊢;clear hk;go_wp2;have HLT : Shh (k < H) := ⟨hlt⟩;clear hlti hlt;refine wp_region_held_drew (S := fun w' => Row w' w.heap.size 70 [.int .u32 xc, .bool xs, .int .i64 xn, .int .i64 (H : Int), .int .i64 xl, .slice As sd.length cs, .slice Ap pf.length cp, .slice Ab pb.length cb]) (by kernel_rfl) HL.out.2.1.drew (fun hS => ?_);clear hS;obtain ⟨V9, hV⟩ : ∃ V9, V9 = World.drew wr := ⟨_, rfl⟩;rw [<- hV];have bV : Below wr.heap.size wr V9 := by rw [hV]; exact (Below.refl _ _).drew
   have rB : Row V9 w.heap.size 70 [.int .u32 xc, .bool xs, .int .i64 xn, .int .i64 (H : Int), .int .i64 xl, .slice As sd.length cs, .slice Ap pf.length cp, .slice Ab pb.length cb] := HL.out.2.1.go bV;have oD : Own V9 (w.heap.size + 1) (.slice Av dk.length cv) dk := HL.out.1.go bV;have HBV : Shh (Below w.heap.size w V9 /\ w.heap.size + 1 <= V9.heap.size) := ⟨Below.chain HL.out.2.2.1 bV, Nat.le_trans HL.out.2.2.2 bV.size⟩;clear hV bV HL;refine hdv0 0 13 (.slice Av dk.length cv) (by rfl) (rB) ?_;refine hdv0 2 15 (.int .i64 (k : Int)) (by rfl) (rB) ?_;refine hdv0 3 16 (.int .u32 (i : Int)) (by rfl) (rB) ?_;refine hdv0 4 17 (.int .i64 (k : Int)) (by rfl) (rB) ?_;refine hdv 5 18 (.int .u32 ((i / 2 ^ k : Nat) : Int)) (by rfl) (fun w hS => shr_32 rfl (by have := HLT.out; have := HI.out.2; omega) rfl (by kernel_rfl) (by kernel_rfl)) (rB) ?_;refine hdv 6 19 (.int .u32 ((besd (i / 2 ^ k) : Nat) : Int)) (by rfl) (fun w hS => xor_one rfl (by have h1 := HI.out.1; have h2 := Nat.div_le_self i (2 ^ k); omega) rfl (by kernel_rfl)) (rB) ?_;refine held_load 1 70 (.tmp 2) (some 14) (by kernel_rfl) (by rfl) (by kernel_rfl) w.heap.size 0 (by kernel_rfl) ([.int .u32 xc, .bool xs, .int .i64 xn, .int .i64 (H : Int), .int .i64 xl, .slice As sd.length cs, .slice Ap pf.length cp, .slice Ab pb.length cb]) _ (fun w h => h.range) Tryz.underlying70 rfl (info_src) (fun _ _ _ _ h => h) (rB) ?_;simp only [Act.put, arr9, hd9, tl9];refine held_one 7 (by kernel_rfl) ?_;refine step_call 7 _ _ (some 20) 50 #[.agg ([.int .u32 xc, .bool xs, .int .i64 xn, .int .i64 (H : Int), .int .i64 xl, .slice As sd.length cs, .slice Ap pf.length cp, .slice Ab pb.length cb]).toArray, .int .i64 (k : Int), .int .u32 ((besd (i / 2 ^ k) : Nat) : Int)] (by rfl) (by kernel_rfl) (by first | kernel_rfl | go_simp) ?_;refine (HKC.out V9 (Below.chain HBV.out.1 (Below.refl _ _)) HLT.out).mono ?_;unfold SlIs; rintro e Y1 ⟨vn, rfl, gn, bn⟩;have bx : Below V9.heap.size V9 Y1 := bn;have sN : Sl Y1 Y1.heap.size vn (V k (besd (i / 2 ^ k))) := gn;clear gn;have b_V9 := bx;have m_Y1 : V9.heap.size <= Y1.heap.size := bx.size;clear bx;refine ⟨_, rfl, (rB.go b_V9), ?_⟩;simp only [Act.put, arr9, hd9, tl9];refine held_one 8 (by kernel_rfl) ?_;obtain ⟨i0, hi, hz0, hz1, hz2⟩ := info_parts info_u8;refine step_appendSl Y1 8 _ (some 21) 23 5 i0 Tryz.underlying23 hi hz0 hz1 hz2 (.tmp 13) (.tmp 20) (by rfl) (by kernel_rfl) (base := w.heap.size + 1) ((oD.go b_V9)) (sN) (HDL.out.2.2.1 _ _).1 rfl rfl (by have h1 := (HDL.out.2.2.1 k (besd (i / 2 ^ k))).2; have h2 := HDL.out.2.2.2 k; rw [<- HDK.out] at h2; have h3 := HLT.out; have h4 := HI.out.2; omega) (Nat.le_trans HBV.out.2 (b_V9).size) (fun v9 Y2 o9 g9 b9 => ?_);rw [HDK.out, <- HDL.out.2.1 k] at o9;have q0 : Row Y2 w.heap.size 70 [.int .u32 xc, .bool xs, .int .i64 xn, .int .i64 (H : Int), .int .i64 xl, .slice As sd.length cs, .slice Ap pf.length cp, .slice Ab pb.length cb] := ((rB.go b_V9)).below (b9 _ (Nat.le_refl _)) (Nat.lt_succ_self _);have q3 : Below w.heap.size w Y2 := (Below.chain HBV.out.1 b_V9).trans (b9 _ (Nat.le_succ _));have q4 : w.heap.size + 1 <= Y2.heap.size := Nat.le_trans (Nat.le_trans HBV.out.2 (b_V9).size) (b9 _ (Nat.le_refl _)).size;replace rB := q0;refine ⟨rB, ?_⟩;simp only [Act.put, arr9, hd9, tl9];refine hdv0 9 5 (v9) (by rfl) (rB) ?_;refine wpAnyH_done (by kernel_rfl) ?_ _;have HR : Shh (Own Y2 (w.heap.size + 1) v9 (D (k + 1)) /\ Row Y2 w.heap.size 70 [.int .u32 xc, .bool xs, .int .i64 xn, .int .i64 (H : Int), .int .i64 xl, .slice As sd.length cs, .slice Ap pf.length cp, .slice Ab pb.length cb] /\ Below w.heap.size w Y2 /\ w.heap.size + 1 <= Y2.heap.size) := ⟨o9, rB, q3, q4⟩;clear q0 q3 q4 o9 g9 b9 rB oD sN HBV HDK HKC hi hz0 hz1 hz2;have hl1 := HLT.out;have hl2 := HI.out.2;go_wp2
   go_roundw
   case rel => exact ⟨k + 1, HLT.out, by go_num, HR⟩
   case measure => have := HLT.out; simp [intOf]; omega
  ·obtain rfl : k = H := by omega
   have hlti : ¬ (k : Int) < (k : Int) := by omega
   have HR : Shh (Sl wr wr.heap.size (.slice Av (D k).length cv) (D k) /\ Below w.heap.size w wr) := ⟨Sl.of_own HL.out.1, HL.out.2.2.1⟩;clear HL HV HKC HI hk hlt;go_wp2;go_ret;exact ⟨_, rfl, HR.out⟩
end Go.Proofs.YtdakbipiifkmfaaGreatDoor
