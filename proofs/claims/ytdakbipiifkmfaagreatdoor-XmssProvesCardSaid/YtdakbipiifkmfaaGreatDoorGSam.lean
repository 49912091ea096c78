import Derived.WalkKit
import Derived.Test.YtdakbipiifkmfaaGreatDoorProg
import Derived.WalkSpells
import Derived.WalkLawsBesides
import Derived.Lib.UnsafeStr
import Derived.Lib.Hide
import Derived.Laws.BytesArg
import Derived.Deep.Draws
import Derived.RegionTactic
import Derived.ChangeAlike
import Derived.Laws.AppendOwnNone
import Derived.BigQuiet
import Derived.Deep.QuietTactic
import Derived.Deep.RegionHeld3
import Derived.Test.YtdakbipiifkmfaaGreatDoorRows
import Derived.ProofKit
import Derived.OpenShut
import Derived.JoinedCond
import Derived.SizedLaws
import Derived.Carry
import Derived.Deep.Grids
import Derived.Laws.CopyOwn
import Derived.Deep.RegionLaw
import Derived.DeepKeys
import Derived.Lib.SmallJoins
import Derived.Deep.MidRow
import Derived.Deep.WholeRow
import Derived.BigRegion
import Derived.StillTailTactics
import Derived.Lib.ConvBytes
import Derived.Lib.AtoiErrMem
import Derived.Laws.AppendOwn
import Derived.Deep.RegionWith
import Derived.Deep.RegionHeld
import Derived.Laws.Cover3
import Derived.Laws.EntriesVeiled
import Derived.Test.YtdakbipiifkmfaaGreatDoorGK
namespace Go.Proofs.YtdakbipiifkmfaaGreatDoor
open Go.RowKit
set_option maxRecDepth 100000
theorem u8_or (a b : UInt8) : bits .or .u8 a.toNat b.toNat = ((a ||| b).toNat : Int) := by
 rw [(bits_nat .u8 8 (by decide) wraps_u8 _ _ a.toNat_lt b.toNat_lt).2]; simp
theorem u64_or8 (n b : Nat) (hb : b < 256) (hn : n < 72057594037927936) : bits .or .u64 (IntKind.u64.wrap ((n : Int) * 256)) (IntKind.u64.wrap (b : Int)) = ((n * 256 + b : Nat) : Int) := by
 rw [IntKind.wrap_u64, IntKind.wrap_u64];have h1 : ((n : Int) * 256) % 18446744073709551616 = (n : Int) * 256 := by omega
 have h2 : (b : Int) % 18446744073709551616 = b := by omega
 rw [h1, h2, bits_join .u64 64 (by decide) (fun m h0 h1 => by rw [IntKind.wrap_u64]; omega) 8 _ _ (by omega) (by omega) (by omega) (by omega) (by omega) (by omega)];omega
end Go.Proofs.YtdakbipiifkmfaaGreatDoor
namespace Go.Proofs.YtdakbipiifkmfaaGreatDoor
open Go.RowKit
set_option maxRecDepth 100000
end Go.Proofs.YtdakbipiifkmfaaGreatDoor
namespace Go.Proofs.YtdakbipiifkmfaaGreatDoor
open Go.RowKit
set_option maxRecDepth 100000
end Go.Proofs.YtdakbipiifkmfaaGreatDoor
namespace Go.Proofs.YtdakbipiifkmfaaGreatDoor
open Go.RowKit
set_option maxRecDepth 100000
end Go.Proofs.YtdakbipiifkmfaaGreatDoor
namespace Go.Proofs.YtdakbipiifkmfaaGreatDoor
open Go.RowKit
set_option maxRecDepth 100000
section
variable {P : Program} {ops : Array Oper} {rest : List Oper} {o : Oper} {a : Act} {Q : Exit -> Act -> World -> Prop}
end
end Go.Proofs.YtdakbipiifkmfaaGreatDoor
namespace Go.Proofs.YtdakbipiifkmfaaGreatDoor
open Go.RowKit
set_option maxRecDepth 100000
theorem bigN_step (bs : List UInt8) (k : Nat) (h : k < bs.length) (h8 : bs.length <= 8) :
  bits .or .u64 (IntKind.u64.wrap ((bigN (bs.take k) : Int) * 256)) (IntKind.u64.wrap (bs[k].toNat : Int)) = (bigN (bs.take (k + 1)) : Int) := by
 have h1 := bigN_take_lt bs k (by omega);have h2 := pow256_le7 (show k <= 7 by omega);have h3 := bs[k].toNat_lt;rw [take_snoc bs k h, bigN_snoc, u64_or8 _ _ (by omega) (by omega)]
end Go.Proofs.YtdakbipiifkmfaaGreatDoor
namespace Go.Proofs.YtdakbipiifkmfaaGreatDoor
open Go.RowKit
set_option maxRecDepth 100000
end Go.Proofs.YtdakbipiifkmfaaGreatDoor
namespace Go.Proofs.YtdakbipiifkmfaaGreatDoor
open Go.RowKit
set_option maxRecDepth 100000
section
variable {P : Program} {md : Region.Mode} {ops : Array Oper} {Q : Exit -> Act -> World -> Prop} {S : World -> Prop} {fuel : Nat} {listed : Array Bool} {a : Act} {w : World}
theorem run_makeSlice {t ty : TypeId} {x y : Operand} {ρ : Operand -> Value} {v : Value} {w' : World} {d : Option Tmp} (h : (Instr.makeSlice t (ρ x) (ρ y)).run P w = .ok v w') :
  (execOp ρ ⟨d, .makeSlice t x y, ty, "", #[], none⟩).run P w = .ok (.value v) w' := by
 unfold execOp;simp only [Sem.run_bind, h, Result.andThen_ok];rfl
end
end Go.Proofs.YtdakbipiifkmfaaGreatDoor
namespace Go.Proofs.YtdakbipiifkmfaaGreatDoor
open Go.ChangeShapes Go.WideShapes Go.ChangeAt Go.RowKit
set_option maxRecDepth 100000
section
variable {H : Type} {enc : TypeId × Value -> H} {P : Program}
theorem open_bytes {W : World} {base : Nat} {t e : TypeId} {v : Value} {d : DataW H} {ps : List MemPlace} (ht : P.underlying t = some (.slice e)) (he : P.underlying e = some (.int .u8)) (hc : P.cellsOf e = 1)
  (hval : Value.okWide P W .any base t v) (h : DataW.Trod enc P W 0 (fun _ => true) true t v d ps) :
  ∃ bs : List UInt8, Sl W W.heap.size v bs /\ ((d = .nil /\ bs = []) ∨ ∃ el sp, d = .slice el sp /\ el.length = bs.length) := by
 obtain ⟨a0, len, cap, rfl⟩ := okWide_slice ht hval;obtain ⟨fuel, hf⟩ := h
 rcases open_ints ht he hc hf with ⟨hcs, hx⟩ | ⟨a, len', cap', zs, hcs, _, hl, hm, hz, hx, hcell, hwz⟩
 ·simp [Value.cells] at hcs;obtain ⟨rfl, rfl, rfl⟩ := hcs;simp only [Prod.mk.injEq] at hx;exact ⟨[], Sl.nil_, .inl ⟨hx.1, rfl⟩⟩
 ·simp [Value.cells] at hcs;obtain ⟨rfl, rfl, rfl⟩ := hcs;simp only [Prod.mk.injEq] at hx;have hzl : zs.length = cap := by simpa using hz
  have hbl : ((zs.take len).map fun z => UInt8.ofNat z.toNat).length = len := by simp; omega
  refine ⟨(zs.take len).map fun z => UInt8.ofNat z.toNat, ⟨some a, cap, by rw [hbl], by omega, hm, fun hn => ?_⟩, .inr ⟨_, _, hx.1, by simp [lits]⟩⟩;rw [hbl] at hn;have h0 := hcell 0 (by omega);have hsp : a.spot = none := by
   simp only [Addr.add, if_true, World.cell?] at h0
   split at h0
   ·split at h0
    ·cases h0
    ·rename_i hns; simpa using hns
   ·cases h0
  obtain ⟨b, off, sp⟩ := a;simp only at hsp;subst hsp;have hb : b < W.heap.size := by
   have := World.block_lt_of_cell? W _ h0
   simpa [Addr.add] using this
  refine ⟨b, off, rfl, hb, fun k hk => ?_⟩;rw [hbl] at hk;have hck := hcell k (by omega);rw [addr_add] at hck;rw [hck];have hkz : k < zs.length := by omega
  have hwf := hwz zs[k] (List.getElem_mem hkz);have hg : zs.getD k 0 = zs[k] := by simp [List.getD, List.getElem?_eq_getElem hkz]
  have hr : 0 <= zs[k] /\ zs[k] <= 255 := by simpa [Lit.wf, IntKind.min, IntKind.max, IntKind.signed, IntKind.bits] using hwf
  have hu : ((UInt8.ofNat zs[k].toNat).toNat : Int) = zs[k] := by
   have : (UInt8.ofNat zs[k].toNat).toNat = zs[k].toNat := by simp; omega
   rw [this]; omega
  rw [hg];simp only [List.getElem_map, List.getElem_take];rw [hu]
end
end Go.Proofs.YtdakbipiifkmfaaGreatDoor
namespace Go.Proofs.YtdakbipiifkmfaaGreatDoor
open Go.RowKit
set_option maxRecDepth 100000
theorem or_xor_zero (d a b : UInt8) : d ||| (a ^^^ b) = 0 ↔ d = 0 /\ a = b := by
 rw [UInt8.or_eq_zero_iff, UInt8.xor_eq_zero_iff]
set_option maxHeartbeats 1000000 in
theorem same_any (B B' : Nat) (va vb : Value) (us bs : List UInt8) (w : World) (ha : Sl w B va us) (hb : Sl w B' vb bs) (hl : us.length <= 1099511627776) (_hl2 : bs.length <= 1099511627776) :
  Calls Tryz.prog 74 #[va, vb] w fun e w' => e = .returned (.bool (us == bs)) /\ w = w' := by
 obtain ⟨A, c, rfl, _, _⟩ := ha.form;obtain ⟨A', c', rfl, _, _⟩ := hb.form
 by_cases hlen : us.length = bs.length
 ·have HL := Lib.hid hlen;have ht : ((us.length : Int) != (bs.length : Int)) = false := by rw [bne_eq_false_iff_eq]; omega
  have hl3 : bs.length <= us.length := by omega
  have hl4 : us.length <= bs.length := by omega
  clear hlen;go_enter Tryz.func74, Tryz.ntmps74;go_wp2
  go_loop [5, 15] (fun x i => ∃ (k : Nat) (d : UInt8), k <= us.length /\ i = .int .i64 k /\ x = .int .u8 (d.toNat : Int) /\ Hid (d = 0 ↔ us.take k = bs.take k)) (fun _ i => us.length - (intOf i).toNat)
  case atStart => exact ⟨0, 0, Nat.zero_le _, rfl, rfl, Lib.hid (by simp)⟩
  case round =>
   obtain ⟨k, d, hk, rfl, rfl, hd⟩ := hrel
   by_cases hlt : k < us.length
   ·obtain ⟨b, off, rfl, hbb, hc⟩ := ha.at_ (by omega);obtain ⟨b', off', rfl, hbb', hc'⟩ := hb.at_ (by omega);have hk2 : k < bs.length := by omega
    have hc1 := hc k hlt;have hc2 := hc' k hk2;have HX := Lib.hid (u8_xor us[k] bs[k]);have HO := Lib.hid (u8_or d (us[k] ^^^ bs[k]));have hd2 : Hid (d ||| (us[k] ^^^ bs[k]) = 0 ↔ us.take (k + 1) = bs.take (k + 1)) := by
     apply Lib.hid;rw [or_xor_zero, hd.out, take_snoc us k hlt, take_snoc bs k hk2]
     constructor
     ·rintro ⟨h1, h2⟩; rw [h1, h2]
     ·intro h;have := List.append_inj' h rfl;exact ⟨this.1, by simpa using this.2⟩
    clear hc hc' hd;go_wp2
    go_round
    case rel => exact ⟨k + 1, d ||| (us[k] ^^^ bs[k]), by omega, by go_num, by rw [HX.out, HO.out], hd2⟩
    case measure => simp [intOf]; omega
   ·obtain rfl : k = us.length := by omega
    have HR : Hid (((d.toNat : Int) == 0) = (us == bs)) := by
     apply Lib.hid;have h1 := hd.out;rw [List.take_of_length_le (Nat.le_refl _), List.take_of_length_le (by omega)] at h1
     by_cases h : d = 0
     ·rw [h1.1 h, h]; simp
     ·have h2 : us ≠ bs := fun e => h (h1.2 e)
      rw [beq_eq_false_iff_ne.2 h2, beq_eq_false_iff_ne];intro e;exact h (UInt8.toNat_inj.1 (by simpa using e))
    go_wp2;go_ret;exact ⟨by rw [<- HR.out]; rfl, rfl⟩
 ·have ht : ((us.length : Int) != (bs.length : Int)) = true := by rw [bne_iff_ne]; omega
  have HR : Hid ((us == bs) = false) := Lib.hid (by rw [beq_eq_false_iff_ne]; intro e; exact hlen (by rw [e]));clear hlen;go_enter Tryz.func74, Tryz.ntmps74;go_wp2;go_ret;exact ⟨by rw [HR.out]; rfl, rfl⟩
end Go.Proofs.YtdakbipiifkmfaaGreatDoor
namespace Go.Proofs.YtdakbipiifkmfaaGreatDoor
open Go.RowKit
set_option maxRecDepth 100000
end Go.Proofs.YtdakbipiifkmfaaGreatDoor
namespace Go.Proofs.YtdakbipiifkmfaaGreatDoor
open Go.RowKit
set_option maxRecDepth 100000
end Go.Proofs.YtdakbipiifkmfaaGreatDoor
namespace Go.Proofs.YtdakbipiifkmfaaGreatDoor
open Go.RowKit
set_option maxRecDepth 100000
end Go.Proofs.YtdakbipiifkmfaaGreatDoor
namespace Go.Proofs.YtdakbipiifkmfaaGreatDoor
open Go.RowKit
set_option maxRecDepth 100000
def oC (c : Nat) : Int := if 1 <= c /\ c <= 16 then (c : Int) else 0
def oL (c : Nat) : List Value := [.int .u32 (oC c), .bool (oR c).1, .int .i64 (oR c).2.1, .int .i64 (oR c).2.2.1, .int .i64 (oR c).2.2.2.1, .int .i64 (oR c).2.2.2.2]
end Go.Proofs.YtdakbipiifkmfaaGreatDoor
namespace Go.Proofs.YtdakbipiifkmfaaGreatDoor
open Go.RowKit
set_option maxRecDepth 100000
theorem isXmss_of (xc : Int) (xs : Bool) (xn xh xl : Int) (yc : Int) (ys : Bool) (yn yh yl : Int) (ee : Int) (hxc : (Lit.int .u32 xc).wf = true) (hxn : (Lit.int .i64 xn).wf = true) (hxh : (Lit.int .i64 xh).wf = true) (hxl : (Lit.int .i64 xl).wf = true) (hyc : (Lit.int .u32 yc).wf = true) (hyn : (Lit.int .i64 yn).wf = true) (hyh : (Lit.int .i64 yh).wf = true) (hyl : (Lit.int .i64 yl).wf = true) (hset : ∀ W, Calls Tryz.prog 101 #[.int .u32 xc] W (OldIs (.tuple #[.agg #[.int .u32 yc, .bool ys, .int .i64 yn, .int .i64 yh, .int .i64 yl], .int .i64 ee]) W)) (w : World) :
  Calls Tryz.prog 102 #[.agg #[.int .u32 xc, .bool xs, .int .i64 xn, .int .i64 xh, .int .i64 xl]] w (OldIs (.bool (decide (ee = 0 /\ (xc = yc /\ xs = ys /\ xn = yn /\ xh = yh /\ xl = yl)))) w) := by
 unfold OldIs;have HW : Shh (Row (w.alloc (.cells #[.int .u32 xc, .bool xs, .int .i64 xn, .int .i64 xh, .int .i64 xl] 27)) w.heap.size 27 [.int .u32 xc, .bool xs, .int .i64 xn, .int .i64 xh, .int .i64 xl] /\ Below w.heap.size w (w.alloc (.cells #[.int .u32 xc, .bool xs, .int .i64 xn, .int .i64 xh, .int .i64 xl] 27))) := ⟨Row.new_ rfl rfl, Below.alloc (Below.refl _ _) (Nat.le_refl _) _⟩
 by_cases he : ee = 0
 ·subst he;have hres : decide ((0 : Int) = 0 /\ (xc = yc /\ xs = ys /\ xn = yn /\ xh = yh /\ xl = yl)) = decide (xc = yc /\ xs = ys /\ xn = yn /\ xh = yh /\ xl = yl) := by
   refine decide_eq_decide.2 ⟨fun h => ?_, fun h => ?_⟩
   ·obtain ⟨_, rfl, rfl, rfl, rfl, rfl⟩ := h;exact ⟨rfl, rfl, rfl, rfl, rfl⟩
   ·obtain ⟨rfl, rfl, rfl, rfl, rfl⟩ := h;exact ⟨rfl, rfl, rfl, rfl, rfl, rfl⟩
  have heq := fun W : World => eq_xms xc xs xn xh xl yc ys yn yh yl hxc hxn hxh hxl hyc hyn hyh hyl W
  rw [hres];generalize decide (xc = yc /\ xs = ys /\ xn = yn /\ xh = yh /\ xl = yl) = r at heq ⊢;clear hres;go_enter Tryz.func102, Tryz.ntmps102
  go_wp2_with (go_at_call 101; refine (hset _).mono ?_)
  unfold OldIs;rintro e w2 ⟨rfl, b2⟩;have F2 : Shh (Row w2 w.heap.size 27 [.int .u32 xc, .bool xs, .int .i64 xn, .int .i64 xh, .int .i64 xl] /\ Below w.heap.size w w2) := ⟨HW.out.1.go b2, Below.chain HW.out.2 b2⟩;clear HW b2 hset;obtain ⟨G, hG⟩ : ∃ G, Shh (G = w2.heap.size) := ⟨_, ⟨rfl⟩⟩
  go_wp2_with (refine wpList_store_any rfl 27 (.tmp 3) (.tmp 9) rfl G (by rw [hG.out]; rfl) [.int .u32 yc, .bool ys, .int .i64 yn, .int .i64 yh, .int .i64 yl] rfl 27 _ (Row.new_ hG.out rfl) info_xms rfl oneCell5 ?_)
  intro Z hr bt _;have F3 : Shh (Row Z w.heap.size 27 [.int .u32 xc, .bool xs, .int .i64 xn, .int .i64 xh, .int .i64 xl] /\ Row Z G 27 [.int .u32 yc, .bool ys, .int .i64 yn, .int .i64 yh, .int .i64 yl] /\ Below w.heap.size w Z) := by
   have hl := F2.out.1.lt;refine ⟨bt.row (F2.out.1.alloc _) (by first | omega | (simp only [asz]; omega)) (by have := hG.out; omega), hr, Below.chain F2.out.2 ?_⟩;exact (Below.alloc (Below.refl _ _) (Nat.le_refl _) _).trans (bt.under (by first | omega | (simp only [asz]; omega)) (by have := hG.out; omega))
  rw [<- hG.out];clear hr bt F2 hG
  go_wp2_with (first | refine wl_loadW 27 (.tmp 1) rfl w.heap.size rfl 27 [.int .u32 xc, .bool xs, .int .i64 xn, .int .i64 xh, .int .i64 xl] _ rfl F3.out.1 Tryz.underlying27 rfl info_xms ?_ | refine wl_loadW 27 (.tmp 3) rfl G rfl 27 [.int .u32 yc, .bool ys, .int .i64 yn, .int .i64 yh, .int .i64 yl] _ rfl F3.out.2.1 Tryz.underlying27 rfl info_xms ?_ | refine wl_eqlW 27 27 (.tmp 14) (.tmp 15) rfl #[.int .u32 xc, .bool xs, .int .i64 xn, .int .i64 xh, .int .i64 xl] #[.int .u32 yc, .bool ys, .int .i64 yn, .int .i64 yh, .int .i64 yl] rfl rfl rfl (by kernel_rfl) r (heq _) ?_)
  go_ret;exact ⟨rfl, F3.out.2.2⟩
 ·have hres : (decide (ee = 0 /\ (xc = yc /\ xs = ys /\ xn = yn /\ xh = yh /\ xl = yl))) = false := decide_eq_false fun h => he h.1
  rw [hres];clear hres;go_enter Tryz.func102, Tryz.ntmps102
  go_wp2_with (go_at_call 101; refine (hset _).mono ?_)
  unfold OldIs;rintro e w2 ⟨rfl, b2⟩;have F2 : Shh (Row w2 w.heap.size 27 [.int .u32 xc, .bool xs, .int .i64 xn, .int .i64 xh, .int .i64 xl] /\ Below w.heap.size w w2) := ⟨HW.out.1.go b2, Below.chain HW.out.2 b2⟩;clear HW b2 hset;obtain ⟨G, hG⟩ : ∃ G, Shh (G = w2.heap.size) := ⟨_, ⟨rfl⟩⟩
  go_wp2_with (refine wpList_store_any rfl 27 (.tmp 3) (.tmp 9) rfl G (by rw [hG.out]; rfl) [.int .u32 yc, .bool ys, .int .i64 yn, .int .i64 yh, .int .i64 yl] rfl 27 _ (Row.new_ hG.out rfl) info_xms rfl oneCell5 ?_)
  intro Z hr bt _;have F3 : Shh (True /\ Below w.heap.size w Z) := by
   refine ⟨trivial, Below.chain F2.out.2 ?_⟩;exact (Below.alloc (Below.refl _ _) (Nat.le_refl _) _).trans (bt.under (by first | omega | (simp only [asz]; omega)) (by have := hG.out; omega))
  clear hr bt F2 hG;go_wp2;go_ret;exact ⟨rfl, F3.out.2⟩
end Go.Proofs.YtdakbipiifkmfaaGreatDoor
namespace Go.Proofs.YtdakbipiifkmfaaGreatDoor
open Go.RowKit
set_option maxRecDepth 100000
def xmsLn (b : Bool) (n h l : Int) : Int := if b then wrap64 (wrap64 (4 + n) + wrap64 (wrap64 (l + h) * n)) else 0
def xmsPb (b : Bool) (n : Int) : Int := if b then wrap64 (4 + wrap64 (2 * n)) else 0
theorem pXmssLen_of (xc : Int) (xs : Bool) (xn xh xl : Int) (b : Bool) (hB : ∀ W, Calls Tryz.prog 102 #[.agg #[.int .u32 xc, .bool xs, .int .i64 xn, .int .i64 xh, .int .i64 xl]] W (OldIs (.bool b) W)) (w : World) :
  Calls Tryz.prog 67 #[.agg #[.int .u32 xc, .bool xs, .int .i64 xn, .int .i64 xh, .int .i64 xl]] w (OldIs (.int .i64 (xmsLn b xn xh xl)) w) := by
 unfold OldIs;have HW : Shh (Row (w.alloc (.cells #[.int .u32 xc, .bool xs, .int .i64 xn, .int .i64 xh, .int .i64 xl] 27)) w.heap.size 27 [.int .u32 xc, .bool xs, .int .i64 xn, .int .i64 xh, .int .i64 xl] /\ Below w.heap.size w (w.alloc (.cells #[.int .u32 xc, .bool xs, .int .i64 xn, .int .i64 xh, .int .i64 xl] 27))) := ⟨Row.new_ rfl rfl, Below.alloc (Below.refl _ _) (Nat.le_refl _) _⟩;unfold xmsLn;cases b with
 | false =>
  rw [if_neg (by decide)];go_enter Tryz.func67, Tryz.ntmps67
  go_wp2_with (first | refine wl_loadW 27 (.tmp 1) rfl w.heap.size rfl 27 [.int .u32 xc, .bool xs, .int .i64 xn, .int .i64 xh, .int .i64 xl] _ rfl HW.out.1 Tryz.underlying27 rfl info_xms ?_ | (go_at_call 102; refine (hB _).mono ?_))
  unfold OldIs;rintro e w2 ⟨rfl, b2⟩;have F2 : Shh (Row w2 w.heap.size 27 [.int .u32 xc, .bool xs, .int .i64 xn, .int .i64 xh, .int .i64 xl] /\ Below w.heap.size w w2) := ⟨HW.out.1.go b2, Below.chain HW.out.2 b2⟩;clear HW b2 hB;go_wp2;go_ret;exact ⟨rfl, F2.out.2⟩
 | true =>
  rw [if_pos rfl];go_enter Tryz.func67, Tryz.ntmps67
  go_wp2_with (first | refine wl_loadW 27 (.tmp 1) rfl w.heap.size rfl 27 [.int .u32 xc, .bool xs, .int .i64 xn, .int .i64 xh, .int .i64 xl] _ rfl HW.out.1 Tryz.underlying27 rfl info_xms ?_ | (go_at_call 102; refine (hB _).mono ?_))
  unfold OldIs;rintro e w2 ⟨rfl, b2⟩;have F2 : Shh (Row w2 w.heap.size 27 [.int .u32 xc, .bool xs, .int .i64 xn, .int .i64 xh, .int .i64 xl] /\ Below w.heap.size w w2) := ⟨HW.out.1.go b2, Below.chain HW.out.2 b2⟩;clear HW b2 hB;have c2 : w2.cell? ⟨w.heap.size, 2, none⟩ = some (.int .i64 xn) := F2.out.1.cell 2;have c3 : w2.cell? ⟨w.heap.size, 3, none⟩ = some (.int .i64 xh) := F2.out.1.cell 3;have c4 : w2.cell? ⟨w.heap.size, 4, none⟩ = some (.int .i64 xl) := F2.out.1.cell 4;go_wp2;go_ret;exact ⟨rfl, F2.out.2⟩
theorem rXmssLen_of (xc : Int) (xs : Bool) (xn xh xl : Int) (b : Bool) (hB : ∀ W, Calls Tryz.prog 48 #[.agg #[.int .u32 xc, .bool xs, .int .i64 xn, .int .i64 xh, .int .i64 xl]] W (OldIs (.bool b) W)) (w : World) :
  Calls Tryz.prog 32 #[.agg #[.int .u32 xc, .bool xs, .int .i64 xn, .int .i64 xh, .int .i64 xl]] w (OldIs (.int .i64 (xmsLn b xn xh xl)) w) := by
 unfold OldIs;have HW : Shh (Row (w.alloc (.cells #[.int .u32 xc, .bool xs, .int .i64 xn, .int .i64 xh, .int .i64 xl] 27)) w.heap.size 27 [.int .u32 xc, .bool xs, .int .i64 xn, .int .i64 xh, .int .i64 xl] /\ Below w.heap.size w (w.alloc (.cells #[.int .u32 xc, .bool xs, .int .i64 xn, .int .i64 xh, .int .i64 xl] 27))) := ⟨Row.new_ rfl rfl, Below.alloc (Below.refl _ _) (Nat.le_refl _) _⟩;unfold xmsLn;cases b with
 | false =>
  rw [if_neg (by decide)];go_enter Tryz.func32, Tryz.ntmps32
  go_wp2_with (first | refine wl_loadW 27 (.tmp 1) rfl w.heap.size rfl 27 [.int .u32 xc, .bool xs, .int .i64 xn, .int .i64 xh, .int .i64 xl] _ rfl HW.out.1 Tryz.underlying27 rfl info_xms ?_ | (go_at_call 48; refine (hB _).mono ?_))
  unfold OldIs;rintro e w2 ⟨rfl, b2⟩;have F2 : Shh (Row w2 w.heap.size 27 [.int .u32 xc, .bool xs, .int .i64 xn, .int .i64 xh, .int .i64 xl] /\ Below w.heap.size w w2) := ⟨HW.out.1.go b2, Below.chain HW.out.2 b2⟩;clear HW b2 hB;go_wp2;go_ret;exact ⟨rfl, F2.out.2⟩
 | true =>
  rw [if_pos rfl];go_enter Tryz.func32, Tryz.ntmps32
  go_wp2_with (first | refine wl_loadW 27 (.tmp 1) rfl w.heap.size rfl 27 [.int .u32 xc, .bool xs, .int .i64 xn, .int .i64 xh, .int .i64 xl] _ rfl HW.out.1 Tryz.underlying27 rfl info_xms ?_ | (go_at_call 48; refine (hB _).mono ?_))
  unfold OldIs;rintro e w2 ⟨rfl, b2⟩;have F2 : Shh (Row w2 w.heap.size 27 [.int .u32 xc, .bool xs, .int .i64 xn, .int .i64 xh, .int .i64 xl] /\ Below w.heap.size w w2) := ⟨HW.out.1.go b2, Below.chain HW.out.2 b2⟩;clear HW b2 hB;have c2 : w2.cell? ⟨w.heap.size, 2, none⟩ = some (.int .i64 xn) := F2.out.1.cell 2;have c3 : w2.cell? ⟨w.heap.size, 3, none⟩ = some (.int .i64 xh) := F2.out.1.cell 3;have c4 : w2.cell? ⟨w.heap.size, 4, none⟩ = some (.int .i64 xl) := F2.out.1.cell 4;go_wp2;go_ret;exact ⟨rfl, F2.out.2⟩
theorem pXmssPub_of (xc : Int) (xs : Bool) (xn xh xl : Int) (b : Bool) (hB : ∀ W, Calls Tryz.prog 102 #[.agg #[.int .u32 xc, .bool xs, .int .i64 xn, .int .i64 xh, .int .i64 xl]] W (OldIs (.bool b) W)) (w : World) :
  Calls Tryz.prog 104 #[.agg #[.int .u32 xc, .bool xs, .int .i64 xn, .int .i64 xh, .int .i64 xl]] w (OldIs (.int .i64 (xmsPb b xn)) w) := by
 unfold OldIs;have HW : Shh (Row (w.alloc (.cells #[.int .u32 xc, .bool xs, .int .i64 xn, .int .i64 xh, .int .i64 xl] 27)) w.heap.size 27 [.int .u32 xc, .bool xs, .int .i64 xn, .int .i64 xh, .int .i64 xl] /\ Below w.heap.size w (w.alloc (.cells #[.int .u32 xc, .bool xs, .int .i64 xn, .int .i64 xh, .int .i64 xl] 27))) := ⟨Row.new_ rfl rfl, Below.alloc (Below.refl _ _) (Nat.le_refl _) _⟩;unfold xmsPb;cases b with
 | false =>
  rw [if_neg (by decide)];go_enter Tryz.func104, Tryz.ntmps104
  go_wp2_with (first | refine wl_loadW 27 (.tmp 1) rfl w.heap.size rfl 27 [.int .u32 xc, .bool xs, .int .i64 xn, .int .i64 xh, .int .i64 xl] _ rfl HW.out.1 Tryz.underlying27 rfl info_xms ?_ | (go_at_call 102; refine (hB _).mono ?_))
  unfold OldIs;rintro e w2 ⟨rfl, b2⟩;have F2 : Shh (Row w2 w.heap.size 27 [.int .u32 xc, .bool xs, .int .i64 xn, .int .i64 xh, .int .i64 xl] /\ Below w.heap.size w w2) := ⟨HW.out.1.go b2, Below.chain HW.out.2 b2⟩;clear HW b2 hB;go_wp2;go_ret;exact ⟨rfl, F2.out.2⟩
 | true =>
  rw [if_pos rfl];go_enter Tryz.func104, Tryz.ntmps104
  go_wp2_with (first | refine wl_loadW 27 (.tmp 1) rfl w.heap.size rfl 27 [.int .u32 xc, .bool xs, .int .i64 xn, .int .i64 xh, .int .i64 xl] _ rfl HW.out.1 Tryz.underlying27 rfl info_xms ?_ | (go_at_call 102; refine (hB _).mono ?_))
  unfold OldIs;rintro e w2 ⟨rfl, b2⟩;have F2 : Shh (Row w2 w.heap.size 27 [.int .u32 xc, .bool xs, .int .i64 xn, .int .i64 xh, .int .i64 xl] /\ Below w.heap.size w w2) := ⟨HW.out.1.go b2, Below.chain HW.out.2 b2⟩;clear HW b2 hB;have c2 : w2.cell? ⟨w.heap.size, 2, none⟩ = some (.int .i64 xn) := F2.out.1.cell 2;go_wp2;go_ret;exact ⟨rfl, F2.out.2⟩
theorem rXmssPub_of (xc : Int) (xs : Bool) (xn xh xl : Int) (b : Bool) (hB : ∀ W, Calls Tryz.prog 48 #[.agg #[.int .u32 xc, .bool xs, .int .i64 xn, .int .i64 xh, .int .i64 xl]] W (OldIs (.bool b) W)) (w : World) :
  Calls Tryz.prog 33 #[.agg #[.int .u32 xc, .bool xs, .int .i64 xn, .int .i64 xh, .int .i64 xl]] w (OldIs (.int .i64 (xmsPb b xn)) w) := by
 unfold OldIs;have HW : Shh (Row (w.alloc (.cells #[.int .u32 xc, .bool xs, .int .i64 xn, .int .i64 xh, .int .i64 xl] 27)) w.heap.size 27 [.int .u32 xc, .bool xs, .int .i64 xn, .int .i64 xh, .int .i64 xl] /\ Below w.heap.size w (w.alloc (.cells #[.int .u32 xc, .bool xs, .int .i64 xn, .int .i64 xh, .int .i64 xl] 27))) := ⟨Row.new_ rfl rfl, Below.alloc (Below.refl _ _) (Nat.le_refl _) _⟩;unfold xmsPb;cases b with
 | false =>
  rw [if_neg (by decide)];go_enter Tryz.func33, Tryz.ntmps33
  go_wp2_with (first | refine wl_loadW 27 (.tmp 1) rfl w.heap.size rfl 27 [.int .u32 xc, .bool xs, .int .i64 xn, .int .i64 xh, .int .i64 xl] _ rfl HW.out.1 Tryz.underlying27 rfl info_xms ?_ | (go_at_call 48; refine (hB _).mono ?_))
  unfold OldIs;rintro e w2 ⟨rfl, b2⟩;have F2 : Shh (Row w2 w.heap.size 27 [.int .u32 xc, .bool xs, .int .i64 xn, .int .i64 xh, .int .i64 xl] /\ Below w.heap.size w w2) := ⟨HW.out.1.go b2, Below.chain HW.out.2 b2⟩;clear HW b2 hB;go_wp2;go_ret;exact ⟨rfl, F2.out.2⟩
 | true =>
  rw [if_pos rfl];go_enter Tryz.func33, Tryz.ntmps33
  go_wp2_with (first | refine wl_loadW 27 (.tmp 1) rfl w.heap.size rfl 27 [.int .u32 xc, .bool xs, .int .i64 xn, .int .i64 xh, .int .i64 xl] _ rfl HW.out.1 Tryz.underlying27 rfl info_xms ?_ | (go_at_call 48; refine (hB _).mono ?_))
  unfold OldIs;rintro e w2 ⟨rfl, b2⟩;have F2 : Shh (Row w2 w.heap.size 27 [.int .u32 xc, .bool xs, .int .i64 xn, .int .i64 xh, .int .i64 xl] /\ Below w.heap.size w w2) := ⟨HW.out.1.go b2, Below.chain HW.out.2 b2⟩;clear HW b2 hB;have c2 : w2.cell? ⟨w.heap.size, 2, none⟩ = some (.int .i64 xn) := F2.out.1.cell 2;go_wp2;go_ret;exact ⟨rfl, F2.out.2⟩
end Go.Proofs.YtdakbipiifkmfaaGreatDoor
namespace Go.Proofs.YtdakbipiifkmfaaGreatDoor
open Go.RowKit
set_option maxRecDepth 100000
theorem refWith_any (a : List UInt32) (ha : a.length = 8) (s t : Nat) (hs : s < 4294967296) (ht : t < 4294967296) (w : World) : Calls Tryz.prog 117 #[adrV a, .int .i64 (s : Int), .int .i64 (t : Int)] w (OwnIs w (adrB (withA a s t))) := by
 have HB : Shh (∀ W, Calls Tryz.prog 87 #[adrV (withA a s t)] W (OwnIs W (adrB (withA a s t)))) := ⟨fun W => refBytes10_any _ (by rw [withA_length]; exact ha) W⟩;unfold OwnIs;generalize adrB (withA a s t) = ob at HB ⊢;obtain ⟨a0, a1, a2, a3, a4, a5, a6, a7, rfl⟩ := eight ha;have e : adrV (withA [a0, a1, a2, a3, a4, a5, a6, a7] s t) = .agg #[.int .u32 (a0.toNat : Int), .int .u32 (a1.toNat : Int), .int .u32 (a2.toNat : Int), .int .u32 (a3.toNat : Int), .int .u32 (a4.toNat : Int), .int .u32 (a5.toNat : Int), .int .u32 (s : Int), .int .u32 (t : Int)] := by
  rw [ofNat_cell hs, ofNat_cell ht];rfl
 rw [e] at HB;have e2 : adrV [a0, a1, a2, a3, a4, a5, a6, a7] = .agg #[.int .u32 (a0.toNat : Int), .int .u32 (a1.toNat : Int), .int .u32 (a2.toNat : Int), .int .u32 (a3.toNat : Int), .int .u32 (a4.toNat : Int), .int .u32 (a5.toNat : Int), .int .u32 (a6.toNat : Int), .int .u32 (a7.toNat : Int)] := rfl;rw [e2];clear e e2 ha;have q1 : (s : Int) % 4294967296 = (s : Int) := by omega
 have q2 : (t : Int) % 4294967296 = (t : Int) := by omega
 have HW : Shh (Below w.heap.size w (w.alloc (.cells #[.int .u32 (a0.toNat : Int), .int .u32 (a1.toNat : Int), .int .u32 (a2.toNat : Int), .int .u32 (a3.toNat : Int), .int .u32 (a4.toNat : Int), .int .u32 (a5.toNat : Int), .int .u32 (s : Int), .int .u32 (t : Int)] 64))) := ⟨below1 _ _⟩;go_enter Tryz.func117, Tryz.ntmps117
 go_wp2_with (go_at_call 87; refine (HB.out _).mono ?_)
 rintro e w2 ⟨v, rfl, g2⟩;have HG : Shh (Gives w ob v w2) := ⟨own_mono g2.1 (by rw [asz]; omega), Below.chain HW.out g2.2⟩;clear g2 HW HB;go_wp2;go_ret;exact ⟨_, rfl, HG.out⟩
theorem refAt_any (a : List UInt32) (ha : a.length = 8) (i : Nat) (hi : i < 4294967296) (w : World) : Calls Tryz.prog 91 #[adrV a, .int .i64 (i : Int)] w (OldIs (adrV (atA a i)) w) := by
 unfold OldIs;obtain ⟨a0, a1, a2, a3, a4, a5, a6, a7, rfl⟩ := eight ha;have e : adrV (atA [a0, a1, a2, a3, a4, a5, a6, a7] i) = .agg #[.int .u32 (a0.toNat : Int), .int .u32 (a1.toNat : Int), .int .u32 (a2.toNat : Int), .int .u32 (a3.toNat : Int), .int .u32 (a4.toNat : Int), .int .u32 (i : Int), .int .u32 (a6.toNat : Int), .int .u32 (a7.toNat : Int)] := by
  rw [ofNat_cell hi];rfl
 rw [e];have e2 : adrV [a0, a1, a2, a3, a4, a5, a6, a7] = .agg #[.int .u32 (a0.toNat : Int), .int .u32 (a1.toNat : Int), .int .u32 (a2.toNat : Int), .int .u32 (a3.toNat : Int), .int .u32 (a4.toNat : Int), .int .u32 (a5.toNat : Int), .int .u32 (a6.toNat : Int), .int .u32 (a7.toNat : Int)] := rfl;rw [e2];clear e e2 ha;have q1 : (i : Int) % 4294967296 = (i : Int) := by omega
 go_enter Tryz.func91, Tryz.ntmps91;go_wp2;have HR : Shh (Row ((w.alloc (.cells #[.int .u32 (a0.toNat : Int), .int .u32 (a1.toNat : Int), .int .u32 (a2.toNat : Int), .int .u32 (a3.toNat : Int), .int .u32 (a4.toNat : Int), .int .u32 (i : Int), .int .u32 (a6.toNat : Int), .int .u32 (a7.toNat : Int)] 64)).alloc (.cells #[.int .u32 (a0.toNat : Int), .int .u32 (a1.toNat : Int), .int .u32 (a2.toNat : Int), .int .u32 (a3.toNat : Int), .int .u32 (a4.toNat : Int), .int .u32 (i : Int), .int .u32 (a6.toNat : Int), .int .u32 (a7.toNat : Int)] 64)) (w.heap.size + 1) 64 [.int .u32 (a0.toNat : Int), .int .u32 (a1.toNat : Int), .int .u32 (a2.toNat : Int), .int .u32 (a3.toNat : Int), .int .u32 (a4.toNat : Int), .int .u32 (i : Int), .int .u32 (a6.toNat : Int), .int .u32 (a7.toNat : Int)] /\ Below w.heap.size w ((w.alloc (.cells #[.int .u32 (a0.toNat : Int), .int .u32 (a1.toNat : Int), .int .u32 (a2.toNat : Int), .int .u32 (a3.toNat : Int), .int .u32 (a4.toNat : Int), .int .u32 (i : Int), .int .u32 (a6.toNat : Int), .int .u32 (a7.toNat : Int)] 64)).alloc (.cells #[.int .u32 (a0.toNat : Int), .int .u32 (a1.toNat : Int), .int .u32 (a2.toNat : Int), .int .u32 (a3.toNat : Int), .int .u32 (a4.toNat : Int), .int .u32 (i : Int), .int .u32 (a6.toNat : Int), .int .u32 (a7.toNat : Int)] 64))) := ⟨Row.new_ (by rw [asz]) rfl, (below1 _ _).alloc (by rw [asz]; omega) _⟩;exact ret_row Tryz.results91 rfl rfl HR.out.1 Tryz.underlying64 rfl info_adr ⟨rfl, HR.out.2⟩
end Go.Proofs.YtdakbipiifkmfaaGreatDoor
namespace Go.Proofs.YtdakbipiifkmfaaGreatDoor
open Go.RowKit
set_option maxRecDepth 100000
theorem slice_to10 {w : World} {B n c : Nat} {A : Option Addr} {bs : List UInt8} (h : Sl w B (.slice A n c) bs) (j : Nat) (hj : j <= n) (hn : n <= c) :
  ∃ A' c', (∀ u, (Instr.sliceAt 23 (.slice A n c) none (some (.int .i64 (j : Int))) none).run Tryz.prog u = .ok (.slice A' (bs.take j).length c') u) /\ Sl w B (.slice A' (bs.take j).length c') (bs.take j) := by
 have hcut := h.cut 0 j (Nat.zero_le _) hj (by omega);rw [List.drop_zero] at hcut;obtain ⟨A', c', hv, _⟩ := hcut.form;refine ⟨A', c', fun u => ?_, by rw [<- hv]; exact hcut⟩;rw [run_sliceAt_slice _ _ _ _ _ _ slice30, run_slice_h u 23 A n c slice30 .i64 (j : Int) (by omega) (by omega), elem30, run_sizeOf_u8, Result.andThen_ok, Int.toNat_natCast, hv]
theorem refKeyed_24_false (c h l : Int) (kind : Nat) (hk : kind <= 4) (vk vm : Value) (key m : List UInt8) (w : World) (hkey : Sl w w.heap.size vk key) (hm : Sl w w.heap.size vm m) (hl1 : key.length <= 100000) (hl2 : m.length <= 100000) :
  Calls Tryz.prog 63 #[.agg #[.int .u32 c, .bool false, .int .i64 24, .int .i64 h, .int .i64 l], .int .i64 (kind : Int), vk, vm] w (SlIs w (keyd false 24 kind key m)) :=
 (refKeyedF_24_false c h l kind hk vk vm key m w hkey hm hl1 hl2).mono fun _ _ ⟨v, a, b, d, _⟩ => ⟨v, a, b, d⟩
theorem refKeyed_32_false (c h l : Int) (kind : Nat) (hk : kind <= 4) (vk vm : Value) (key m : List UInt8) (w : World) (hkey : Sl w w.heap.size vk key) (hm : Sl w w.heap.size vm m) (hl1 : key.length <= 100000) (hl2 : m.length <= 100000) :
  Calls Tryz.prog 63 #[.agg #[.int .u32 c, .bool false, .int .i64 32, .int .i64 h, .int .i64 l], .int .i64 (kind : Int), vk, vm] w (SlIs w (keyd false 32 kind key m)) :=
 (refKeyedF_32_false c h l kind hk vk vm key m w hkey hm hl1 hl2).mono fun _ _ ⟨v, a, b, d, _⟩ => ⟨v, a, b, d⟩
theorem refKeyed_24_true (c h l : Int) (kind : Nat) (hk : kind <= 4) (vk vm : Value) (key m : List UInt8) (w : World) (hkey : Sl w w.heap.size vk key) (hm : Sl w w.heap.size vm m) (hl1 : key.length <= 100000) (hl2 : m.length <= 100000) :
  Calls Tryz.prog 63 #[.agg #[.int .u32 c, .bool true, .int .i64 24, .int .i64 h, .int .i64 l], .int .i64 (kind : Int), vk, vm] w (SlIs w (keyd true 24 kind key m)) :=
 (refKeyedF_24_true c h l kind hk vk vm key m w hkey hm hl1 hl2).mono fun _ _ ⟨v, a, b, d, _⟩ => ⟨v, a, b, d⟩
theorem refKeyed_32_true (c h l : Int) (kind : Nat) (hk : kind <= 4) (vk vm : Value) (key m : List UInt8) (w : World) (hkey : Sl w w.heap.size vk key) (hm : Sl w w.heap.size vm m) (hl1 : key.length <= 100000) (hl2 : m.length <= 100000) :
  Calls Tryz.prog 63 #[.agg #[.int .u32 c, .bool true, .int .i64 32, .int .i64 h, .int .i64 l], .int .i64 (kind : Int), vk, vm] w (SlIs w (keyd true 32 kind key m)) :=
 (refKeyedF_32_true c h l kind hk vk vm key m w hkey hm hl1 hl2).mono fun _ _ ⟨v, a, b, d, _⟩ => ⟨v, a, b, d⟩
end Go.Proofs.YtdakbipiifkmfaaGreatDoor
namespace Go.Proofs.YtdakbipiifkmfaaGreatDoor
open Go.RowKit
set_option maxRecDepth 100000
theorem refKeyed_any (x : S5) (hx : x.ok = true) (kind : Nat) (hk : kind <= 4) (vk vm : Value) (key m : List UInt8) (w : World) (hkey : Sl w w.heap.size vk key) (hm : Sl w w.heap.size vm m) (hl1 : key.length <= 100000) (hl2 : m.length <= 100000) :
  Calls Tryz.prog 63 #[x.v, .int .i64 (kind : Int), vk, vm] w (SlIs w (keyd x.s x.n kind key m)) := by
 have hn := S5.ok_is hx;obtain ⟨c, s, n, h, l⟩ := x;simp only at hn;clear hx
 rcases hn with ⟨rfl, rfl⟩ | ⟨rfl, rfl⟩ <;> cases s
 ·exact refKeyed_24_false c h 51 kind hk vk vm key m w hkey hm hl1 hl2
 ·exact refKeyed_24_true c h 51 kind hk vk vm key m w hkey hm hl1 hl2
 ·exact refKeyed_32_false c h 67 kind hk vk vm key m w hkey hm hl1 hl2
 ·exact refKeyed_32_true c h 67 kind hk vk vm key m w hkey hm hl1 hl2
set_option maxHeartbeats 2000000 in
theorem refGo_any (x : S5) (hx : x.ok = true) (vb vs : Value) (b seed : List UInt8) (a : List UInt32) (ha : a.length = 8) (f n : Nat) (hfn : f + n <= 15) (w : World) (hb : Sl w w.heap.size vb b) (hs : Sl w w.heap.size vs seed) (hbl : b.length = x.n.toNat) (hsl : seed.length <= 100000) :
  Calls Tryz.prog 89 #[x.v, vb, .int .i64 (f : Int), .int .i64 (n : Int), vs, adrV a] w (SlIs w (goB x.s x.n seed a b f n)) := by
 unfold SlIs;obtain ⟨As, cs, rfl, _, _⟩ := hs.form;have HKY : Shh (∀ (kind : Nat) (vk vm : Value) (key m : List UInt8) (W : World), kind <= 4 -> Sl W W.heap.size vk key -> Sl W W.heap.size vm m -> key.length <= 100000 -> m.length <= 100000 -> Calls Tryz.prog 63 #[x.v, .int .i64 (kind : Int), vk, vm] W (SlIs W (keyd x.s x.n kind key m))) := ⟨fun kind vk vm key m W h1 h2 h3 h4 h5 => refKeyed_any x hx kind h1 vk vm key m W h2 h3 h4 h5⟩;have HLN : Shh ((∀ k, (goB x.s x.n seed a b f k).length = x.n.toNat) /\ (∀ kind key m, (keyd x.s x.n kind key m).length = x.n.toNat) /\ x.n.toNat <= 32 /\ a.length = 8 /\ seed.length <= 100000) := ⟨fun k => goB_length hx seed a b f k hbl, fun kind key m => (ok_len hx kind key m).1, (ok_len hx 0 [] []).2, ha, hsl⟩;clear hsl;have HGB : Shh (∀ k, goB x.s x.n seed a b f (k + 1) = stepB x.s x.n seed a (f + k) (goB x.s x.n seed a b f k)) := ⟨fun k => rfl⟩;obtain ⟨W, hW⟩ : ∃ W, W = (w.alloc (.cells #[.int .u32 x.c, .bool x.s, .int .i64 x.n, .int .i64 x.h, .int .i64 x.l] 27)).alloc (.cells (wordCells a).toArray 64) := ⟨_, rfl⟩;have HW : Shh (Row W w.heap.size 27 [.int .u32 x.c, .bool x.s, .int .i64 x.n, .int .i64 x.h, .int .i64 x.l] /\ Row W (w.heap.size + 1) 64 (wordCells a) /\ Sl W W.heap.size vb (goB x.s x.n seed a b f 0) /\ Sl W W.heap.size (.slice As seed.length cs) seed /\ Below w.heap.size w W) := by
  rw [hW];exact ⟨(Row.new_ rfl rfl).alloc _, Row.new_ (by rw [asz]) rfl, (hb.go (below1 _ _)).go (below1 _ _), (hs.go (below1 _ _)).go (below1 _ _), Below.chain (below1 _ _) (below1 _ _)⟩
 clear hb hs hbl hx;unfold S5.v at HKY ⊢;unfold adrV;have HA : Shh ((wordCells a).length = 8) := ⟨by rw [wordCells_length]; exact ha⟩;obtain ⟨L, hL⟩ : ∃ L, L = wordCells a := ⟨_, rfl⟩;have HLA := Shh.mk hL;rw [<- hL] at HW hW HA ⊢;clear hL ha;generalize x.c = xc at *;generalize x.s = xs at *;generalize x.n = xn at *;generalize x.h = xh at *;generalize x.l = xl at *;go_enter Tryz.func89, Tryz.ntmps89;go_wp2;rw [<- hW];clear hW;go_loopw [1, 13] (fun o i wr => ∃ k : Nat, k <= n /\ i = .int .i64 ((f + k : Nat) : Int) /\ Shh (Row wr w.heap.size 27 [.int .u32 xc, .bool xs, .int .i64 xn, .int .i64 xh, .int .i64 xl] /\ Row wr (w.heap.size + 1) 64 L /\ Sl wr wr.heap.size o (goB xs xn seed a b f k) /\ Sl wr wr.heap.size (.slice As seed.length cs) seed /\ Below w.heap.size w wr)) (fun _ i _ => f + n - (intOf i).toNat)
 case atStart => exact ⟨0, Nat.zero_le _, rfl, HW⟩
 case round =>
  clear HW;obtain ⟨k, hk, rfl, HL⟩ := hrel;have hl3 := HL.out.2.2.1;obtain ⟨Ab, cb, rfl, _, _⟩ := hl3.form;clear hl3
  by_cases hlt : k < n
  ·obtain ⟨st, hst⟩ : ∃ st, st = f + k := ⟨_, rfl⟩;have hst2 : st <= 15 := by omega
   have hsc : ((f + k : Nat) : Int) = (st : Int) := by rw [hst]
   have hclt : (st : Int) < (f : Int) + (n : Int) := by omega
   obtain ⟨bk, hbk⟩ : ∃ bk, bk = goB xs xn seed a b f k := ⟨_, rfl⟩;obtain ⟨ta, hta⟩ : ∃ ta, ta = adrB (withA a st 0) := ⟨_, rfl⟩;obtain ⟨tb, htb⟩ : ∃ tb, tb = adrB (withA a st 1) := ⟨_, rfl⟩;obtain ⟨kb, hkb⟩ : ∃ kb, kb = keyd xs xn 3 seed ta := ⟨_, rfl⟩;obtain ⟨mb, hmb⟩ : ∃ mb, mb = keyd xs xn 3 seed tb := ⟨_, rfl⟩;obtain ⟨xb, hxb⟩ : ∃ xb, xb = List.zipWith (· ^^^ ·) bk mb := ⟨_, rfl⟩;obtain ⟨nb, hnb⟩ : ∃ nb, nb = keyd xs xn 0 kb xb := ⟨_, rfl⟩;have HN : Shh (nb = goB xs xn seed a b f (k + 1)) := ⟨by rw [hnb, hxb, hmb, hkb, htb, hta, hbk, hst]; exact (HGB.out k).symm⟩;have HQ : Shh (ta = adrB (withA a st 0) /\ tb = adrB (withA a st 1) /\ kb = keyd xs xn 3 seed ta /\ mb = keyd xs xn 3 seed tb /\ xb = List.zipWith (· ^^^ ·) bk mb /\ nb = keyd xs xn 0 kb xb) := ⟨hta, htb, hkb, hmb, hxb, hnb⟩;have HLL : Shh (bk.length = mb.length /\ bk.length <= 32 /\ kb.length <= 32 /\ xb.length <= 32 /\ ta.length <= 32 /\ tb.length <= 32) := by
    have l1 := HLN.out.1 k;rw [<- hbk] at l1;have l2 := HLN.out.2.1 3 seed tb;rw [<- hmb] at l2;have l3 := HLN.out.2.1 3 seed ta;rw [<- hkb] at l3;have l4 := HLN.out.2.2.1;refine ⟨by omega, by omega, by omega, by rw [hxb, List.length_zipWith]; omega, ?_, ?_⟩
    ·rw [hta, adrB_length, withA_length, HLN.out.2.2.2.1]; omega
    ·rw [htb, adrB_length, withA_length, HLN.out.2.2.2.1]; omega
   rw [<- hbk] at HL;rw [show (goB xs xn seed a b f k).length = bk.length by rw [hbk]] at *;clear hta htb hkb hmb hxb hnb hbk HGB;rw [hsc];clear hsc
   go_wp2_with fail
   refine wp_region_held_drew (S := fun w' => Row w' w.heap.size 27 [.int .u32 xc, .bool xs, .int .i64 xn, .int .i64 xh, .int .i64 xl] /\ Row w' (w.heap.size + 1) 64 L) (by kernel_rfl) ⟨HL.out.1.drew, HL.out.2.1.drew⟩ (fun hS => ?_);obtain ⟨V, hV⟩ : ∃ V, V = World.drew wr := ⟨_, rfl⟩;rw [<- hV] at hS ⊢;have sS : Sl V V.heap.size (.slice As seed.length cs) seed := by rw [hV]; exact HL.out.2.2.2.1.drew
   have sB : Sl V V.heap.size (.slice Ab bk.length cb) bk := by rw [hV]; exact HL.out.2.2.1.drew
   have HBV : Below w.heap.size w V := by rw [hV]; exact HL.out.2.2.2.2.drew
   clear hV HL;refine hdv0 1 25 (.slice As seed.length cs) (by rfl) (hS) ?_;refine hdv0 3 27 (.int .i64 (st : Int)) (by rfl) (hS) ?_;refine held_load 0 27 (.tmp 6) (some 24) (by kernel_rfl) (by rfl) (by kernel_rfl) w.heap.size 0 (by kernel_rfl) ([.int .u32 xc, .bool xs, .int .i64 xn, .int .i64 xh, .int .i64 xl]) _ (fun w h => h.1.range) Tryz.underlying27 rfl (info_xms) (fun _ _ _ _ h => h) (hS) ?_;simp only [Act.put, arr9, hd9, tl9];refine held_load 2 64 (.tmp 11) (some 26) (by kernel_rfl) (by rfl) (by kernel_rfl) (w.heap.size + 1) 0 (by kernel_rfl) (L) _ (fun w h => h.2.range) Tryz.underlying64 rfl (info_adr10 HA.out) (fun _ _ _ _ h => h) (hS) ?_;simp only [Act.put, arr9, hd9, tl9];refine held_one 4 (by kernel_rfl) ?_;refine step_call 4 _ _ (some 28) 117 #[.agg (L).toArray, .int .i64 (st : Int), .int .i64 0] (by rfl) (by kernel_rfl) (by first | kernel_rfl | go_simp) ?_;refine (show Calls Tryz.prog 117 #[.agg L.toArray, .int .i64 (st : Int), .int .i64 0] V (OwnIs V ta) by have h := refWith_any a HLN.out.2.2.2.1 st 0 (by omega) (by omega) V; unfold adrV at h; rw [<- HLA.out, <- HQ.out.1] at h; exact h).mono ?_;rintro e Y1 ⟨v, rfl, gv⟩;have bx : Below V.heap.size V Y1 := gv.2;obtain ⟨Aw, cw, vEq⟩ := own_form gv.1;subst vEq;have sW : Sl Y1 Y1.heap.size (.slice Aw ta.length cw) ta := gives_sl gv;have hS1 : Row Y1 w.heap.size 27 [.int .u32 xc, .bool xs, .int .i64 xn, .int .i64 xh, .int .i64 xl] /\ Row Y1 (w.heap.size + 1) 64 L := ⟨(hS.1).go bx, (hS.2).go bx⟩;clear gv;have b_V := bx;have m_Y1 : V.heap.size <= Y1.heap.size := bx.size;clear bx;refine ⟨_, rfl, hS1, ?_⟩;simp only [Act.put, arr9, hd9, tl9];refine held_one 5 (by kernel_rfl) ?_;refine step_call 5 _ _ (some 29) 63 #[.agg ([.int .u32 xc, .bool xs, .int .i64 xn, .int .i64 xh, .int .i64 xl]).toArray, .int .i64 3, .slice As seed.length cs, .slice Aw ta.length cw] (by rfl) (by kernel_rfl) (by first | kernel_rfl | go_simp) ?_;refine (show Calls Tryz.prog 63 #[.agg #[.int .u32 xc, .bool xs, .int .i64 xn, .int .i64 xh, .int .i64 xl], .int .i64 3, .slice As seed.length cs, .slice Aw ta.length cw] Y1 (SlIs Y1 kb) by have h := HKY.out 3 _ _ seed ta Y1 (by decide) (sS.go b_V) sW (by have := HLN.out.2.2.2.2; omega) (by have := HLL.out.2.2.2.2.1; omega); rw [<- HQ.out.2.2.1] at h; exact h).mono ?_;rintro e Y2 ⟨v, rfl, gv, bv⟩;have bx : Below Y1.heap.size Y1 Y2 := bv;obtain ⟨Ak, ck, vEq, _, _⟩ := gv.form;subst vEq;have sK := gv;have hS2 : Row Y2 w.heap.size 27 [.int .u32 xc, .bool xs, .int .i64 xn, .int .i64 xh, .int .i64 xl] /\ Row Y2 (w.heap.size + 1) 64 L := ⟨(hS1.1).go bx, (hS1.2).go bx⟩;clear gv;replace b_V := Below.chain b_V bx;have b_Y1 := bx;have m_Y2 : Y1.heap.size <= Y2.heap.size := bx.size;clear bx;refine ⟨_, rfl, hS2, ?_⟩;simp only [Act.put, arr9, hd9, tl9];refine hdv0 6 14 (.slice Ak kb.length ck) (by rfl) (hS2) ?_;refine wpAnyH_done (by kernel_rfl) ?_ _;have H4 : Shh (Row Y2 w.heap.size 27 [.int .u32 xc, .bool xs, .int .i64 xn, .int .i64 xh, .int .i64 xl] /\ Row Y2 (w.heap.size + 1) 64 L /\ Sl Y2 Y2.heap.size (.slice As seed.length cs) seed /\ Sl Y2 Y2.heap.size (.slice Ab bk.length cb) bk /\ Sl Y2 Y2.heap.size (.slice Ak kb.length ck) kb /\ Below w.heap.size w Y2) := ⟨hS2.1, hS2.2, (sS.go b_V), (sB.go b_V), sK, Below.chain HBV b_V⟩;clear m_Y2 b_Y1 hS2 sK bv m_Y1 b_V hS1 sW hS HBV sS sB;generalize hZ : Y2 = Z4 at *;clear hZ
   go_wp2_with fail
   refine wp_region_held_drew (S := fun w' => Row w' w.heap.size 27 [.int .u32 xc, .bool xs, .int .i64 xn, .int .i64 xh, .int .i64 xl] /\ Row w' (w.heap.size + 1) 64 L) (by kernel_rfl) ⟨H4.out.1.drew, H4.out.2.1.drew⟩ (fun hS => ?_);obtain ⟨V, hV⟩ : ∃ V, V = World.drew Z4 := ⟨_, rfl⟩;rw [<- hV] at hS ⊢;have sS : Sl V V.heap.size (.slice As seed.length cs) seed := by rw [hV]; exact H4.out.2.2.1.drew
   have sB : Sl V V.heap.size (.slice Ab bk.length cb) bk := by rw [hV]; exact H4.out.2.2.2.1.drew
   have sK : Sl V V.heap.size (.slice Ak kb.length ck) kb := by rw [hV]; exact H4.out.2.2.2.2.1.drew
   have HBV : Below w.heap.size w V := by rw [hV]; exact H4.out.2.2.2.2.2.drew
   clear hV H4;refine hdv0 1 31 (.slice As seed.length cs) (by rfl) (hS) ?_;refine hdv0 3 33 (.int .i64 (st : Int)) (by rfl) (hS) ?_;refine held_load 0 27 (.tmp 6) (some 30) (by kernel_rfl) (by rfl) (by kernel_rfl) w.heap.size 0 (by kernel_rfl) ([.int .u32 xc, .bool xs, .int .i64 xn, .int .i64 xh, .int .i64 xl]) _ (fun w h => h.1.range) Tryz.underlying27 rfl (info_xms) (fun _ _ _ _ h => h) (hS) ?_;simp only [Act.put, arr9, hd9, tl9];refine held_load 2 64 (.tmp 11) (some 32) (by kernel_rfl) (by rfl) (by kernel_rfl) (w.heap.size + 1) 0 (by kernel_rfl) (L) _ (fun w h => h.2.range) Tryz.underlying64 rfl (info_adr10 HA.out) (fun _ _ _ _ h => h) (hS) ?_;simp only [Act.put, arr9, hd9, tl9];refine held_one 4 (by kernel_rfl) ?_;refine step_call 4 _ _ (some 34) 117 #[.agg (L).toArray, .int .i64 (st : Int), .int .i64 1] (by rfl) (by kernel_rfl) (by first | kernel_rfl | go_simp) ?_;refine (show Calls Tryz.prog 117 #[.agg L.toArray, .int .i64 (st : Int), .int .i64 1] V (OwnIs V tb) by have h := refWith_any a HLN.out.2.2.2.1 st 1 (by omega) (by omega) V; unfold adrV at h; rw [<- HLA.out, <- HQ.out.2.1] at h; exact h).mono ?_;rintro e Y1 ⟨v, rfl, gv⟩;have bx : Below V.heap.size V Y1 := gv.2;obtain ⟨Aw, cw, vEq⟩ := own_form gv.1;subst vEq;have sW : Sl Y1 Y1.heap.size (.slice Aw tb.length cw) tb := gives_sl gv;have hS1 : Row Y1 w.heap.size 27 [.int .u32 xc, .bool xs, .int .i64 xn, .int .i64 xh, .int .i64 xl] /\ Row Y1 (w.heap.size + 1) 64 L := ⟨(hS.1).go bx, (hS.2).go bx⟩;clear gv;have b_V := bx;have m_Y1 : V.heap.size <= Y1.heap.size := bx.size;clear bx;refine ⟨_, rfl, hS1, ?_⟩;simp only [Act.put, arr9, hd9, tl9];refine held_one 5 (by kernel_rfl) ?_;refine step_call 5 _ _ (some 35) 63 #[.agg ([.int .u32 xc, .bool xs, .int .i64 xn, .int .i64 xh, .int .i64 xl]).toArray, .int .i64 3, .slice As seed.length cs, .slice Aw tb.length cw] (by rfl) (by kernel_rfl) (by first | kernel_rfl | go_simp) ?_;refine (show Calls Tryz.prog 63 #[.agg #[.int .u32 xc, .bool xs, .int .i64 xn, .int .i64 xh, .int .i64 xl], .int .i64 3, .slice As seed.length cs, .slice Aw tb.length cw] Y1 (SlIs Y1 mb) by have h := HKY.out 3 _ _ seed tb Y1 (by decide) (sS.go b_V) sW (by have := HLN.out.2.2.2.2; omega) (by have := HLL.out.2.2.2.2.2; omega); rw [<- HQ.out.2.2.2.1] at h; exact h).mono ?_;rintro e Y2 ⟨v, rfl, gv, bv⟩;have bx : Below Y1.heap.size Y1 Y2 := bv;obtain ⟨Am, cm, vEq, _, _⟩ := gv.form;subst vEq;have sM := gv;have hS2 : Row Y2 w.heap.size 27 [.int .u32 xc, .bool xs, .int .i64 xn, .int .i64 xh, .int .i64 xl] /\ Row Y2 (w.heap.size + 1) 64 L := ⟨(hS1.1).go bx, (hS1.2).go bx⟩;clear gv;replace b_V := Below.chain b_V bx;have b_Y1 := bx;have m_Y2 : Y1.heap.size <= Y2.heap.size := bx.size;clear bx;refine ⟨_, rfl, hS2, ?_⟩;simp only [Act.put, arr9, hd9, tl9];refine hdv0 6 15 (.slice Am mb.length cm) (by rfl) (hS2) ?_;refine wpAnyH_done (by kernel_rfl) ?_ _;have H5 : Shh (Row Y2 w.heap.size 27 [.int .u32 xc, .bool xs, .int .i64 xn, .int .i64 xh, .int .i64 xl] /\ Row Y2 (w.heap.size + 1) 64 L /\ Sl Y2 Y2.heap.size (.slice As seed.length cs) seed /\ Sl Y2 Y2.heap.size (.slice Ab bk.length cb) bk /\ Sl Y2 Y2.heap.size (.slice Ak kb.length ck) kb /\ Sl Y2 Y2.heap.size (.slice Am mb.length cm) mb /\ Below w.heap.size w Y2) := ⟨hS2.1, hS2.2, (sS.go b_V), (sB.go b_V), (sK.go b_V), sM, Below.chain HBV b_V⟩;clear m_Y2 b_Y1 hS2 sM bv m_Y1 b_V hS1 sW hS HBV sS sB sK;generalize hZ : Y2 = Z5 at *;clear hZ
   go_wp2_with fail
   refine wp_region_held_drew (S := fun w' => Row w' w.heap.size 27 [.int .u32 xc, .bool xs, .int .i64 xn, .int .i64 xh, .int .i64 xl] /\ Row w' (w.heap.size + 1) 64 L) (by kernel_rfl) ⟨H5.out.1.drew, H5.out.2.1.drew⟩ (fun hS => ?_);obtain ⟨V, hV⟩ : ∃ V, V = World.drew Z5 := ⟨_, rfl⟩;rw [<- hV] at hS ⊢;have sS : Sl V V.heap.size (.slice As seed.length cs) seed := by rw [hV]; exact H5.out.2.2.1.drew
   have sB : Sl V V.heap.size (.slice Ab bk.length cb) bk := by rw [hV]; exact H5.out.2.2.2.1.drew
   have sK : Sl V V.heap.size (.slice Ak kb.length ck) kb := by rw [hV]; exact H5.out.2.2.2.2.1.drew
   have sM : Sl V V.heap.size (.slice Am mb.length cm) mb := by rw [hV]; exact H5.out.2.2.2.2.2.1.drew
   have HBV : Below w.heap.size w V := by rw [hV]; exact H5.out.2.2.2.2.2.2.drew
   clear hV H5;refine hdv0 1 37 (.slice Ak kb.length ck) (by rfl) (hS) ?_;refine hdv0 2 38 (.slice Ab bk.length cb) (by rfl) (hS) ?_;refine hdv0 3 39 (.slice Am mb.length cm) (by rfl) (hS) ?_;refine held_load 0 27 (.tmp 6) (some 36) (by kernel_rfl) (by rfl) (by kernel_rfl) w.heap.size 0 (by kernel_rfl) ([.int .u32 xc, .bool xs, .int .i64 xn, .int .i64 xh, .int .i64 xl]) _ (fun w h => h.1.range) Tryz.underlying27 rfl (info_xms) (fun _ _ _ _ h => h) (hS) ?_;simp only [Act.put, arr9, hd9, tl9];refine held_one 4 (by kernel_rfl) ?_;refine step_call 4 _ _ (some 40) 88 #[.slice Ab bk.length cb, .slice Am mb.length cm] (by rfl) (by kernel_rfl) (by first | kernel_rfl | go_simp) ?_;refine (show Calls Tryz.prog 88 #[.slice Ab bk.length cb, .slice Am mb.length cm] V (OwnIs V xb) by have h := refXor_any V.heap.size V.heap.size _ _ bk mb V sB sM (Nat.le_refl _) (Nat.le_refl _) (by have := HLL.out.2.1; omega) HLL.out.1; rw [<- HQ.out.2.2.2.2.1] at h; exact h).mono ?_;rintro e Y1 ⟨v, rfl, gv⟩;have bx : Below V.heap.size V Y1 := gv.2;obtain ⟨Aw, cw, vEq⟩ := own_form gv.1;subst vEq;have sW : Sl Y1 Y1.heap.size (.slice Aw xb.length cw) xb := gives_sl gv;have hS1 : Row Y1 w.heap.size 27 [.int .u32 xc, .bool xs, .int .i64 xn, .int .i64 xh, .int .i64 xl] /\ Row Y1 (w.heap.size + 1) 64 L := ⟨(hS.1).go bx, (hS.2).go bx⟩;clear gv;have b_V := bx;have m_Y1 : V.heap.size <= Y1.heap.size := bx.size;clear bx;refine ⟨_, rfl, hS1, ?_⟩;simp only [Act.put, arr9, hd9, tl9];refine held_one 5 (by kernel_rfl) ?_;refine step_call 5 _ _ (some 41) 63 #[.agg ([.int .u32 xc, .bool xs, .int .i64 xn, .int .i64 xh, .int .i64 xl]).toArray, .int .i64 0, .slice Ak kb.length ck, .slice Aw xb.length cw] (by rfl) (by kernel_rfl) (by first | kernel_rfl | go_simp) ?_;refine (show Calls Tryz.prog 63 #[.agg #[.int .u32 xc, .bool xs, .int .i64 xn, .int .i64 xh, .int .i64 xl], .int .i64 0, .slice Ak kb.length ck, .slice Aw xb.length cw] Y1 (SlIs Y1 nb) by have h := HKY.out 0 _ _ kb xb Y1 (by decide) (sK.go b_V) sW (by have := HLL.out.2.2.1; omega) (by have := HLL.out.2.2.2.1; omega); rw [<- HQ.out.2.2.2.2.2] at h; exact h).mono ?_;rintro e Y2 ⟨v, rfl, gv, bv⟩;have bx : Below Y1.heap.size Y1 Y2 := bv;obtain ⟨An, cn, vEq, _, _⟩ := gv.form;subst vEq;have sN := gv;have hS2 : Row Y2 w.heap.size 27 [.int .u32 xc, .bool xs, .int .i64 xn, .int .i64 xh, .int .i64 xl] /\ Row Y2 (w.heap.size + 1) 64 L := ⟨(hS1.1).go bx, (hS1.2).go bx⟩;clear gv;replace b_V := Below.chain b_V bx;have b_Y1 := bx;have m_Y2 : Y1.heap.size <= Y2.heap.size := bx.size;clear bx;refine ⟨_, rfl, hS2, ?_⟩;simp only [Act.put, arr9, hd9, tl9];refine hdv0 6 1 (.slice An nb.length cn) (by rfl) (hS2) ?_;refine wpAnyH_done (by kernel_rfl) ?_ _;have H6 : Shh (Row Y2 w.heap.size 27 [.int .u32 xc, .bool xs, .int .i64 xn, .int .i64 xh, .int .i64 xl] /\ Row Y2 (w.heap.size + 1) 64 L /\ Sl Y2 Y2.heap.size (.slice An nb.length cn) (goB xs xn seed a b f (k + 1)) /\ Sl Y2 Y2.heap.size (.slice As seed.length cs) seed /\ Below w.heap.size w Y2) := ⟨hS2.1, hS2.2, by have h := sN; rw [<- HN.out]; exact h, (sS.go b_V), Below.chain HBV b_V⟩;clear m_Y2 b_Y1 hS2 sN bv m_Y1 b_V hS1 sW hS HBV sS sB sK sM;generalize hZ : Y2 = Z6 at *;clear hZ;go_wp2
   go_roundw
   case rel => exact ⟨k + 1, by omega, by go_num, H6⟩
   case measure => simp [intOf]; omega
  ·obtain rfl : k = n := by omega
   have hclt : ¬ ((f + k : Nat) : Int) < (f : Int) + (k : Int) := by omega
   have HR : Shh (Sl wr wr.heap.size (.slice Ab (goB xs xn seed a b f k).length cb) (goB xs xn seed a b f k) /\ Below w.heap.size w wr) := ⟨HL.out.2.2.1, HL.out.2.2.2.2⟩;clear HL HLN HGB HKY;go_wp2;go_ret;exact ⟨_, rfl, HR.out⟩
end Go.Proofs.YtdakbipiifkmfaaGreatDoor
namespace Go.Proofs.YtdakbipiifkmfaaGreatDoor
open Go.RowKit
set_option maxRecDepth 100000
theorem info_int : (Tryz.prog.info? 3).map (fun i => (i.zero, i.size, i.bytes)) = some (some (.int .i64 0), 1, 8) := by kernel_rfl
theorem OwnI.base {w : World} {base base' : Nat} {v : Value} {l : List Nat} (h : OwnI w base v l) (hb : base' <= base) : OwnI w base' v l := own_mono h hb
theorem OwnI.join {w : World} {base : Nat} {v : Value} {l m : List Nat} (h : w.ownsRow base 3 1 v (l.length + m.length) (intCells l ++ intCells m)) : OwnI w base v (l ++ m) := by
 unfold OwnI;rw [intCells_append, List.length_append];exact h
theorem wp_appendI {P : Program} {ops : Array Oper} {rest : List Oper} {o : Oper} {a : Act} {Q : Exit -> Act -> World -> Prop} (w : World) (t e : TypeId) (i0 : TypeInfo) (z : Value) (ht : P.underlying t = some (.slice e)) (hi : P.info? e = some i0) (hz : i0.zero = some z) (hsz : i0.size = 1) (hby : i0.bytes = 8) (hzc : z.cells.size = 1)
  (hgd : o.guard = none) (s x : Operand) (ho : o.op = .call { callee := .builtin .append, args := #[s, x], argTypes := #[t, t] })
  {base n : Nat} {v : Value} {xs : List Value} {g m c : Nat} {us : List Value} (hown : w.ownsRow base e 1 v n xs) (hs : a.eval s = v) (hx : a.eval x = .slice (some ⟨g, 0, none⟩) m c) (hus : us.length = m)
  (hc : ∀ j u, us[j]? = some u -> w.cell? ⟨g, j, none⟩ = some u) (hu : ∀ u ∈ us, u.oneCell' = true) (hlen : n + m <= 1099511627776) (hbase : base <= w.heap.size)
  (h : ∀ v' w', w'.ownsRow base e 1 v' (n + m) (xs ++ us) -> (∀ B, B <= base -> Below B w w') -> wpList P ops Q rest (a.put o.dst v') w') :
  wpList P ops Q (o :: rest) a w := by
 refine wpList_append_own w hgd s x t ho base e i0 z 1 8 ht hi hz hsz hby hzc (by decide) v n xs hs hown ⟨g, 0, none⟩ m c us hx (by omega) ?_ hu (by unfold maxLen; omega) (by omega) hbase ?_
 ·intro j y hj;rw [addr_add, Nat.zero_add];exact hc j y hj
 ·intro v' w' ho' hg _;refine h v' w' ho' fun B hB => ?_
  exact (Below.refl B w).grown hg (by omega) (fun k hk => by have := (hown.lt k hk).1; omega)
theorem OwnI.addr {w : World} {base : Nat} {v : Value} {l : List Nat} (h : OwnI w base v l) (hl : 0 < l.length) : ∃ g cap, v = .slice (some ⟨g, 0, none⟩) l.length cap := by
 rcases h with ⟨_, ⟨_, h0⟩ | ⟨g, cap, cur, rfl, _⟩⟩
 ·omega
 ·exact ⟨g, cap, rfl⟩
theorem below_drewN10 {B : Nat} {a w : World} (h : Below B a w) (n : Nat) : Below B a (w.drewN n) := ⟨h.os, h.tape, h.output, h.size, h.block⟩
def hxL (bs : List UInt8) : List Nat := bs.flatMap fun x => [x.toNat / 16, x.toNat % 16]
def csL (bs : List UInt8) : Nat := (bs.map fun x => 30 - x.toNat / 16 - x.toNat % 16).sum
def dig10 (bs : List UInt8) : List Nat := hxL bs ++ [csL bs / 256, csL bs / 16 % 16, csL bs % 16]
theorem hxL_length (bs : List UInt8) : (hxL bs).length = 2 * bs.length := by
 unfold hxL
 induction bs with
 | nil => rfl
 | cons x r ih => rw [List.flatMap_cons, List.length_append, ih, List.length_cons]; simp; omega
theorem hxL_take (bs : List UInt8) (k : Nat) (h : k < bs.length) : hxL (bs.take (k + 1)) = hxL (bs.take k) ++ [bs[k].toNat / 16, bs[k].toNat % 16] := by
 unfold hxL;rw [take_snoc bs k h, List.flatMap_append];simp
theorem csL_take (bs : List UInt8) (k : Nat) (h : k < bs.length) : csL (bs.take (k + 1)) = csL (bs.take k) + (30 - bs[k].toNat / 16 - bs[k].toNat % 16) := by
 unfold csL;rw [take_snoc bs k h, List.map_append, List.sum_append];simp
theorem csL_le (bs : List UInt8) : csL bs <= 30 * bs.length := by
 unfold csL
 induction bs with
 | nil => simp
 | cons x r ih => simp only [List.map_cons, List.sum_cons, List.length_cons]; omega
theorem dig10_length (bs : List UInt8) : (dig10 bs).length = 2 * bs.length + 3 := by
 unfold dig10;rw [List.length_append, hxL_length];rfl
def IntsIs (w : World) (l : List Nat) (e : Ending) (w' : World) : Prop := ∃ v, e = .returned v /\ OwnI w' w.heap.size v l /\ Below w.heap.size w w'
theorem refDigits10_any (v : Value) (bs : List UInt8) (w : World) (hs : Sl w w.heap.size v bs) (hl : bs.length <= 100000) : Calls Tryz.prog 64 #[v] w (IntsIs w (dig10 bs)) := by
 unfold IntsIs;obtain ⟨i0, hi, hz0, hz1, hz2⟩ := info_parts info_int;obtain ⟨A, c, rfl, _, hcm⟩ := hs.form;have HS := Shh.mk hs;clear hs;have HW : Shh (OwnI (w.alloc (.cells #[] 3)) w.heap.size (.slice (some ⟨w.heap.size, 0, none⟩) 0 0) [] /\ Below w.heap.size w (w.alloc (.cells #[] 3))) := ⟨OwnI.made w, below1 _ _⟩;go_enter Tryz.func64, Tryz.ntmps64;go_wp2;go_loopw [3, 4, 11] (fun o s i wr => ∃ k q : Nat, k <= bs.length /\ q <= 30 * k /\ s = .int .i64 (q : Int) /\ i = .int .i64 (k : Int) /\ Shh (q = csL (bs.take k) /\ OwnI wr w.heap.size o (hxL (bs.take k)) /\ Below w.heap.size w wr)) (fun _ _ i _ => bs.length - (intOf i).toNat)
 case atStart => exact ⟨0, 0, Nat.zero_le _, Nat.zero_le _, rfl, rfl, ⟨rfl, HW.out⟩⟩
 case round =>
  clear HW;obtain ⟨k, q, hk, hq, rfl, rfl, HL⟩ := hrel
  by_cases hlt : k < bs.length
  ·obtain ⟨g, off, rfl, hg, hcc⟩ := HS.out.at_ (by omega);have hcx := (HL.out.2.2.cell (p := ⟨g, off + k, none⟩) hg).trans (hcc k hlt);clear hcc;have HX : Shh (hxL (bs.take (k + 1)) = hxL (bs.take k) ++ [bs[k].toNat / 16, bs[k].toNat % 16] /\ csL (bs.take (k + 1)) = q + (30 - bs[k].toNat / 16 - bs[k].toNat % 16)) := ⟨hxL_take bs k hlt, by rw [csL_take bs k hlt, HL.out.1]⟩;generalize bs[k] = x at hcx HX;have hx := x.toNat_lt;obtain ⟨h4, hh4⟩ : ∃ h4, h4 = x.toNat / 16 := ⟨_, rfl⟩;obtain ⟨l4, hl4⟩ : ∃ l4, l4 = x.toNat % 16 := ⟨_, rfl⟩;have eh : (x.toNat : Int) / 16 = (h4 : Int) := by omega
   have el : (x.toNat : Int) % 16 = (l4 : Int) := by omega
   have bh : h4 <= 15 /\ l4 <= 15 := by omega
   rw [<- hh4, <- hl4] at HX;clear hh4 hl4
   go_wp2_with fail
   go_quiet (fail)
   simp only [el];clear eh el hcx hx;obtain ⟨W, hW⟩ : ∃ W, W = World.drewN wr nq := ⟨_, rfl⟩;have H2 : Shh (OwnI W w.heap.size u3 (hxL (bs.take k)) /\ Below w.heap.size w W) := by
    rw [hW];exact ⟨HL.out.2.1, below_drewN10 HL.out.2.2 _⟩
   rw [<- hW];clear HL hW;have H3 : Shh (OwnI (W.alloc (.cells #[.int .i64 (h4 : Int), .int .i64 (l4 : Int)] 3)) w.heap.size u3 (hxL (bs.take k)) /\ Below w.heap.size w (W.alloc (.cells #[.int .i64 (h4 : Int), .int .i64 (l4 : Int)] 3)) /\ Row (W.alloc (.cells #[.int .i64 (h4 : Int), .int .i64 (l4 : Int)] 3)) W.heap.size 3 (intCells [h4, l4]) /\ (hxL (bs.take k)).length <= 200000) := ⟨H2.out.1.go (below1 _ _), Below.chain H2.out.2 (below1 _ _), Row.new_ rfl rfl, by rw [hxL_length, List.length_take]; omega⟩
   go_wp2_with (at_builtin; refine wp_appendI _ 91 3 i0 (.int .i64 0) Tryz.underlying91 hi hz0 hz1 hz2 rfl rfl _ _ rfl (us := intCells [h4, l4]) H3.out.1 rfl rfl rfl (fun j u hu => (H3.out.2.2.1.cell j).trans hu) (intCells_one _) (by have := H3.out.2.2.2; omega) H3.out.2.1.size ?_)
   intro v' w1 hown' hbl;have H4 : Shh (OwnI w1 w.heap.size v' (hxL (bs.take (k + 1))) /\ Below w.heap.size w w1) := ⟨by rw [HX.out.1]; exact OwnI.join hown', H3.out.2.1.trans (hbl _ (Nat.le_refl _))⟩;have HQ : Shh (q + (30 - h4 - l4) = csL (bs.take (k + 1))) := ⟨HX.out.2.symm⟩;clear hown' hbl H3 H2 HX;go_wp2
   go_roundw
   case rel => exact ⟨k + 1, q + (30 - h4 - l4), by omega, by omega, by go_num, by go_num, HQ.out, H4.out⟩
   case measure => simp [intOf]; omega
  ·obtain rfl : k = bs.length := by omega
   have HQ : Shh (q = csL bs /\ OwnI wr w.heap.size u3 (hxL bs) /\ Below w.heap.size w wr) := by
    have h := HL.out;rw [List.take_length] at h;exact ⟨h⟩
   clear HL;obtain ⟨d1, hd1⟩ : ∃ d, d = q / 256 := ⟨_, rfl⟩;obtain ⟨d2, hd2⟩ : ∃ d, d = q / 16 % 16 := ⟨_, rfl⟩;obtain ⟨d3, hd3⟩ : ∃ d, d = q % 16 := ⟨_, rfl⟩;have HD : Shh (dig10 bs = hxL bs ++ [d1, d2, d3]) := ⟨by unfold dig10; rw [<- HQ.out.1, hd1, hd2, hd3]⟩;have e1 : (q : Int) / 256 = (d1 : Int) := by omega
   have e2 : (q : Int) / 16 % 16 = (d2 : Int) := by omega
   have e3 : (q : Int) % 16 = (d3 : Int) := by omega
   clear hd1 hd2 hd3;have H3 : Shh (OwnI (wr.alloc (.cells #[.int .i64 (d1 : Int), .int .i64 (d2 : Int), .int .i64 (d3 : Int)] 3)) w.heap.size u3 (hxL bs) /\ Below w.heap.size w (wr.alloc (.cells #[.int .i64 (d1 : Int), .int .i64 (d2 : Int), .int .i64 (d3 : Int)] 3)) /\ Row (wr.alloc (.cells #[.int .i64 (d1 : Int), .int .i64 (d2 : Int), .int .i64 (d3 : Int)] 3)) wr.heap.size 3 (intCells [d1, d2, d3]) /\ (hxL bs).length <= 200000) := ⟨HQ.out.2.1.go (below1 _ _), Below.chain HQ.out.2.2 (below1 _ _), Row.new_ rfl rfl, by rw [hxL_length]; omega⟩
   go_wp2_with (at_builtin; refine wp_appendI _ 91 3 i0 (.int .i64 0) Tryz.underlying91 hi hz0 hz1 hz2 rfl rfl _ _ rfl (us := intCells [d1, d2, d3]) H3.out.1 rfl rfl rfl (fun j u hu => (H3.out.2.2.1.cell j).trans hu) (intCells_one _) (by have := H3.out.2.2.2; omega) H3.out.2.1.size ?_)
   intro v' w1 hown' hbl;have H4 : Shh (OwnI w1 w.heap.size v' (dig10 bs) /\ Below w.heap.size w w1) := ⟨by rw [HD.out]; exact OwnI.join hown', H3.out.2.1.trans (hbl _ (Nat.le_refl _))⟩;clear hown' hbl H3 HQ;go_wp2;go_ret;exact ⟨_, rfl, H4.out⟩
end Go.Proofs.YtdakbipiifkmfaaGreatDoor
namespace Go.Proofs.YtdakbipiifkmfaaGreatDoor
open Go.RowKit
set_option maxRecDepth 100000
section
variable {P : Program} {w : World}
theorem run_slice_op_lh {t ty : TypeId} {x lo hi : Operand} {ρ : Operand -> Value} {u v h l : Value} {d : Option Tmp} (hx : ρ x = u /\ ρ lo = l /\ ρ hi = h) (hrun : (Instr.sliceAt t u (some l) (some h) none).run P w = .ok v w) :
  (execOp ρ ⟨d, .slice t x (some lo) (some hi) none, ty, "", #[], none⟩).run P w = .ok (.value v) w := by
 obtain ⟨rfl, rfl, rfl⟩ := hx;unfold execOp;simp only [Option.map_some, Option.map_none, Sem.run_bind, hrun, Result.andThen_ok];rfl
end
theorem slice_mid10 {w : World} {B n c : Nat} {A : Option Addr} {bs : List UInt8} (h : Sl w B (.slice A n c) bs) (i j : Nat) (hij : i <= j) (hj : j <= n) (hn : n <= c) :
  ∃ A' c', (∀ u, (Instr.sliceAt 23 (.slice A n c) (some (.int .i64 (i : Int))) (some (.int .i64 (j : Int))) none).run Tryz.prog u = .ok (.slice A' ((bs.take j).drop i).length c') u) /\ Sl w B (.slice A' ((bs.take j).drop i).length c') ((bs.take j).drop i) := by
 have hcut := h.cut i j hij hj (by omega);obtain ⟨A', c', hv, _⟩ := hcut.form;refine ⟨A', c', fun u => ?_, by rw [<- hv]; exact hcut⟩;rw [run_sliceAt_slice _ _ _ _ _ _ slice30, run_slice_lh u 23 A n c slice30 .i64 .i64 (i : Int) (j : Int) (by omega) (by omega) (by omega), elem30, run_sizeOf_u8, Result.andThen_ok, Int.toNat_natCast, Int.toNat_natCast, hv]
theorem hxL_lt (bs : List UInt8) : ∀ d ∈ hxL bs, d <= 15 := by
 intro d hd;obtain ⟨x, _, hx⟩ := List.mem_flatMap.1 hd;have := x.toNat_lt;simp only [List.mem_cons, List.not_mem_nil, or_false] at hx
 rcases hx with rfl | rfl <;> omega
theorem dig10_lt (bs : List UInt8) (h : bs.length <= 32) : ∀ d ∈ dig10 bs, d <= 15 := by
 intro d hd;have hc := csL_le bs
 rcases List.mem_append.1 hd with h1 | h1
 ·exact hxL_lt bs d h1
 ·simp only [List.mem_cons, List.not_mem_nil, or_false] at h1
  rcases h1 with rfl | rfl | rfl <;> omega
def onB (s : Bool) (n : Int) (seed : List UInt8) (a : List UInt32) (d : Nat -> Nat) (sig : List UInt8) (k : Nat) : List UInt8 := (List.range k).flatMap fun i => goB s n seed (atA a i) (pieceB n.toNat sig i) (d i) (15 - d i)
theorem onB_step (s : Bool) (n : Int) (seed : List UInt8) (a : List UInt32) (d : Nat -> Nat) (sig : List UInt8) (k : Nat) : onB s n seed a d sig (k + 1) = onB s n seed a d sig k ++ goB s n seed (atA a k) (pieceB n.toNat sig k) (d k) (15 - d k) := by
 unfold onB;rw [List.range_succ, List.flatMap_append];simp
theorem onB_len {x : S5} (hx : x.ok = true) (seed : List UInt8) (a : List UInt32) (d : Nat -> Nat) (sig : List UInt8) (L k : Nat) (h : sig.length = L * x.n.toNat) (hk : k <= L) : (onB x.s x.n seed a d sig k).length = x.n.toNat * k := by
 induction k with
 | zero => rfl
 | succ k ih =>
  have e : (goB x.s x.n seed (atA a k) (pieceB x.n.toNat sig k) (d k) (15 - d k)).length = x.n.toNat := goB_length hx seed (atA a k) _ (d k) (15 - d k) (pieceB_length _ _ _ _ h (by omega));rw [onB_step, List.length_append, ih (by omega), e, Nat.mul_succ]
set_option maxHeartbeats 2000000 in
theorem refOn_any (x : S5) (hx : x.ok = true) (vs vm vg : Value) (seed m sig : List UInt8) (a : List UInt32) (ha : a.length = 8) (Lx Nn : Nat) (hLx : x.l = (Lx : Int)) (hNn : x.n = (Nn : Int)) (hml : m.length = Nn) (hgl : sig.length = Lx * Nn) (w : World) (hs : Sl w w.heap.size vs seed) (hm : Sl w w.heap.size vm m) (hg : Sl w w.heap.size vg sig) (hsl : seed.length <= 1000) :
  Calls Tryz.prog 108 #[x.v, vs, vm, vg, adrV a] w (SlIs w (onB x.s x.n seed a (fun i => (dig10 m).getD i 0) sig Lx)) := by
 unfold SlIs;obtain ⟨As, cs, rfl, _, _⟩ := hs.form;obtain ⟨Am, cm, rfl, _, _⟩ := hm.form;obtain ⟨Ag, cg, rfl, hcg, _⟩ := hg.form;have hLN : (Nn = 24 /\ Lx = 51) ∨ (Nn = 32 /\ Lx = 67) := by rcases S5.ok_is hx with h | h <;> omega
 have hNt : x.n.toNat = Nn := by omega
 have HD : Shh ((dig10 m).length = Lx /\ ∀ d ∈ dig10 m, d <= 15) := ⟨by rw [dig10_length]; omega, dig10_lt m (by omega)⟩;have HKY : Shh ((∀ (k : Nat) (W : World), k < 4294967296 -> Calls Tryz.prog 91 #[adrV a, .int .i64 (k : Int)] W (OldIs (adrV (atA a k)) W)) /\ (∀ (k d : Nat) (W : World) (vb : Value), d <= 15 -> k < Lx -> Sl W W.heap.size vb (pieceB Nn sig k) -> Sl W W.heap.size (.slice As seed.length cs) seed -> Calls Tryz.prog 89 #[x.v, vb, .int .i64 (d : Int), .int .i64 ((15 - d : Nat) : Int), .slice As seed.length cs, adrV (atA a k)] W (SlIs W (goB x.s x.n seed (atA a k) (pieceB Nn sig k) d (15 - d)))) /\ (∀ W, Sl W W.heap.size (.slice Am m.length cm) m -> Calls Tryz.prog 64 #[.slice Am m.length cm] W (IntsIs W (dig10 m)))) := by
  refine ⟨fun k W h => refAt_any a ha k h W, fun k d W vb h h0 h1 h2 => ?_, fun W h => refDigits10_any _ m W h (by omega)⟩;exact refGo_any x hx vb _ _ seed (atA a k) (by rw [atA_length]; exact ha) d (15 - d) (by omega) W h1 h2 (by rw [hNt]; exact pieceB_length _ _ _ _ hgl h0) (by omega)
 have HLE : Shh (∀ k, k <= Lx -> (onB x.s x.n seed a (fun i => (dig10 m).getD i 0) sig k).length <= 3000) := ⟨fun k hk => by
  have h := onB_len hx seed a (fun i => (dig10 m).getD i 0) sig Lx k (by rw [hNt]; exact hgl) hk;rw [h, hNt];have : Nn * k <= 32 * 67 := Nat.mul_le_mul (by omega) (by omega)
  omega⟩
 have HST : Shh (∀ k, onB x.s x.n seed a (fun i => (dig10 m).getD i 0) sig (k + 1) = onB x.s x.n seed a (fun i => (dig10 m).getD i 0) sig k ++ goB x.s x.n seed (atA a k) (pieceB Nn sig k) ((dig10 m).getD k 0) (15 - (dig10 m).getD k 0)) := ⟨fun k => by rw [onB_step, hNt]⟩;obtain ⟨W, hW⟩ : ∃ W, W = ((w.alloc (.cells #[.int .u32 x.c, .bool x.s, .int .i64 x.n, .int .i64 x.h, .int .i64 x.l] 27)).alloc (.cells (wordCells a).toArray 64)).alloc (.cells #[] 5) := ⟨_, rfl⟩;have HW : Shh (Row W w.heap.size 27 [.int .u32 x.c, .bool x.s, .int .i64 x.n, .int .i64 x.h, .int .i64 x.l] /\ Row W (w.heap.size + 1) 64 (wordCells a) /\ Sl W W.heap.size (.slice Ag sig.length cg) sig /\ Sl W W.heap.size (.slice As seed.length cs) seed /\ Below w.heap.size w W) := by
  rw [hW];exact ⟨((Row.new_ rfl rfl).alloc _).alloc _, (Row.new_ (by rw [asz]) rfl).alloc _, ((hg.go (below1 _ _)).go (below1 _ _)).go (below1 _ _), ((hs.go (below1 _ _)).go (below1 _ _)).go (below1 _ _), Below.chain (Below.chain (below1 _ _) (below1 _ _)) (below1 _ _)⟩
 have HWm : Shh (Sl W W.heap.size (.slice Am m.length cm) m) := ⟨by rw [hW]; exact ((hm.go (below1 _ _)).go (below1 _ _)).go (below1 _ _)⟩;clear hs hm hg hx;unfold S5.v adrV at HKY;unfold S5.v adrV;have HA : Shh ((wordCells a).length = 8) := ⟨by rw [wordCells_length]; exact ha⟩;generalize wordCells a = L at HKY HA HW hW ⊢;have HML : Shh (m.length = Nn /\ sig.length = Lx * Nn /\ sig.length <= cg) := ⟨hml, hgl, hcg⟩;have hb67 : Lx <= 67 /\ Nn <= 32 := by omega
 clear ha hml hgl hcg hLN hNt;generalize x.c = xc at *;generalize x.s = xs at *;generalize x.n = xn at *;generalize x.h = xh at *;generalize x.l = xl at *;subst hLx;subst hNn;go_enter Tryz.func108, Tryz.ntmps108
 go_wp2_with (go_at_call 64; refine (HKY.out.2.2 _ ?_).mono ?_)
 ·rw [<- hW]; exact HWm.out
 rw [<- hW];clear hW HWm;rintro e w2 ⟨v2, rfl, g2, b2⟩;obtain ⟨gd, cd, rfl⟩ := g2.addr (by rw [dig10_length]; omega);have H2 : Shh (Row w2 w.heap.size 27 [.int .u32 xc, .bool xs, .int .i64 (Nn : Int), .int .i64 xh, .int .i64 (Lx : Int)] /\ Row w2 (w.heap.size + 1) 64 L /\ Sl w2 w2.heap.size (.slice Ag sig.length cg) sig /\ Sl w2 w2.heap.size (.slice As seed.length cs) seed /\ SI w2 w2.heap.size (.slice (some ⟨gd, 0, none⟩) (dig10 m).length cd) (dig10 m) /\ Below w.heap.size w w2) := ⟨HW.out.1.go b2, HW.out.2.1.go b2, HW.out.2.2.1.go b2, HW.out.2.2.2.1.go b2, SI.of_own g2, Below.chain HW.out.2.2.2.2 b2⟩;clear HW g2 b2;have c4 := H2.out.1.cell 4;simp only [List.getElem?_cons_succ, List.getElem?_cons_zero] at c4;go_wp2;clear c4;obtain ⟨dl, hdl⟩ : ∃ dl, dl = dig10 m := ⟨_, rfl⟩;have HDL := Shh.mk hdl;rw [<- hdl] at HD H2 HLE HST ⊢;clear hdl;go_loopw [11, 19] (fun o i wr => ∃ k : Nat, k <= Lx /\ i = .int .i64 (k : Int) /\ Shh (Row wr w.heap.size 27 [.int .u32 xc, .bool xs, .int .i64 (Nn : Int), .int .i64 xh, .int .i64 (Lx : Int)] /\ Row wr (w.heap.size + 1) 64 L /\ Sl wr wr.heap.size (.slice Ag sig.length cg) sig /\ Sl wr wr.heap.size (.slice As seed.length cs) seed /\ SI wr wr.heap.size (.slice (some ⟨gd, 0, none⟩) dl.length cd) dl /\ Below w.heap.size w wr) /\ Shh (Sl wr wr.heap.size o (onB xs (Nn : Int) seed a (fun i => dl.getD i 0) sig k))) (fun _ i _ => Lx - (intOf i).toNat)
 case atStart => exact ⟨0, Nat.zero_le _, rfl, H2, ⟨⟨_, 0, rfl, Nat.le_refl _, by unfold maxLen; omega, fun h => absurd h (by simp [onB])⟩⟩⟩
 case round =>
  clear H2;obtain ⟨k, hk, rfl, HL, HO⟩ := hrel;have ho := HO.out;obtain ⟨Ao, co, rfl, _, _⟩ := ho.form;clear ho
  by_cases hlt : k < Lx
  ·obtain ⟨dk, hdk⟩ : ∃ dk, dk = dl.getD k 0 := ⟨_, rfl⟩;have hkd : k < dl.length := by rw [HD.out.1]; exact hlt
   have hdg : dl[k] = dk := by rw [hdk, List.getD_eq_getElem?_getD, List.getElem?_eq_getElem hkd]; rfl
   have hd16 : dk <= 15 := by rw [<- hdg]; exact HD.out.2 _ (List.getElem_mem hkd)
   obtain ⟨gd', hAd, hgd, hgd2, hcd⟩ := HL.out.2.2.2.2.1.at_ (by omega);cases hAd;have hck := hcd k hkd;rw [hdg] at hck;clear hcd;have hkdi : (k : Int) < (dl.length : Int) := by omega
   have HE : Shh (onB xs (Nn : Int) seed a (fun i => dl.getD i 0) sig (k + 1) = onB xs (Nn : Int) seed a (fun i => dl.getD i 0) sig k ++ goB xs (Nn : Int) seed (atA a k) (pieceB Nn sig k) dk (15 - dk) /\ (onB xs (Nn : Int) seed a (fun i => dl.getD i 0) sig k).length <= 3000 /\ (onB xs (Nn : Int) seed a (fun i => dl.getD i 0) sig (k + 1)).length <= 3000) := ⟨by rw [hdk]; exact HST.out k, HLE.out k (by omega), HLE.out (k + 1) (by omega)⟩;have HC : Shh ((∀ (W : World), Calls Tryz.prog 91 #[.agg L.toArray, .int .i64 (k : Int)] W (OldIs (.agg (wordCells (atA a k)).toArray) W)) /\ (∀ (W : World) (vb : Value), Sl W W.heap.size vb (pieceB Nn sig k) -> Sl W W.heap.size (.slice As seed.length cs) seed -> Calls Tryz.prog 89 #[.agg #[.int .u32 xc, .bool xs, .int .i64 (Nn : Int), .int .i64 xh, .int .i64 (Lx : Int)], vb, .int .i64 (dk : Int), .int .i64 ((15 - dk : Nat) : Int), .slice As seed.length cs, .agg (wordCells (atA a k)).toArray] W (SlIs W (goB xs (Nn : Int) seed (atA a k) (pieceB Nn sig k) dk (15 - dk))))) := ⟨fun W => HKY.out.1 k W (by omega), fun W vb h1 h2 => HKY.out.2.1 k dk W vb hd16 hlt h1 h2⟩;obtain ⟨i1, hi1⟩ : ∃ i1, i1 = k * Nn := ⟨_, rfl⟩;obtain ⟨i2, hi2⟩ : ∃ i2, i2 = (k + 1) * Nn := ⟨_, rfl⟩;have hi12 : i1 <= i2 /\ i2 <= 3000 := by
    have h1 : (k + 1) * Nn <= 67 * 32 := Nat.mul_le_mul (by omega) (by omega);have h2 : k * Nn <= (k + 1) * Nn := Nat.mul_le_mul_right _ (by omega);omega
   have hm1 : IntKind.i64.wrap ((k : Int) * (Nn : Int)) = (i1 : Int) := by rw [<- Int.natCast_mul, <- hi1, IntKind.wrap_i64]; omega
   have hm2 : IntKind.i64.wrap (((k : Int) + 1) * (Nn : Int)) = (i2 : Int) := by
    have e : ((k : Int) + 1) * (Nn : Int) = (((k + 1) * Nn : Nat) : Int) := by push_cast; rfl
    rw [e, <- hi2, IntKind.wrap_i64]; omega
   have hgl2 : i2 <= sig.length := by
    rw [hi2, HML.out.2.1];exact Nat.mul_le_mul_right _ (by omega)
   have h15 : IntKind.i64.wrap ((15 : Int) - (dk : Int)) = ((15 - dk : Nat) : Int) := by rw [IntKind.wrap_i64]; omega
   have hk1 : IntKind.i64.wrap ((k : Int) + 1) = (k : Int) + 1 := by rw [IntKind.wrap_i64]; omega
   have HP : Shh (pieceB Nn sig k = (sig.take i2).drop i1) := ⟨by rw [hi1, hi2]; rfl⟩;obtain ⟨d2, hd2⟩ : ∃ d2, d2 = 15 - dk := ⟨_, rfl⟩;rw [<- hd2] at h15 HC HE;rw [HP.out] at HC HE;generalize wordCells (atA a k) = L2 at HC;generalize goB xs (Nn : Int) seed (atA a k) ((sig.take i2).drop i1) dk d2 = nb at HC HE;obtain ⟨E2, hE2⟩ : ∃ E2, E2 = onB xs (Nn : Int) seed a (fun i => dl.getD i 0) sig (k + 1) := ⟨_, rfl⟩;have HE2 : Shh (E2 = onB xs (Nn : Int) seed a (fun i => dl.getD i 0) sig (k + 1)) := ⟨hE2⟩;rw [<- hE2] at HE;clear hE2 hi1 hi2 hdk hdg hd2;generalize onB xs (Nn : Int) seed a (fun i => dl.getD i 0) sig k = E at HE HO;obtain ⟨Ap, cp, runP, sP0⟩ := slice_mid10 HL.out.2.2.1 i1 i2 hi12.1 hgl2 HML.out.2.2;have HPS : Shh (Sl wr wr.heap.size (.slice Ap ((sig.take i2).drop i1).length cp) ((sig.take i2).drop i1)) := ⟨sP0⟩;clear sP0;generalize (sig.take i2).drop i1 = pc at HPS HC runP
   go_wp2_with fail
   refine wp_region_held_drew (S := fun w' => Row w' w.heap.size 27 [.int .u32 xc, .bool xs, .int .i64 (Nn : Int), .int .i64 xh, .int .i64 (Lx : Int)] /\ Row w' (w.heap.size + 1) 64 L /\ w'.cell? ⟨gd, k, none⟩ = some (.int .i64 (dk : Int))) (by kernel_rfl) ⟨HL.out.1.drew, HL.out.2.1.drew, hck⟩ (fun hS => ?_);clear hS;obtain ⟨V, hV⟩ : ∃ V, V = World.drew wr := ⟨_, rfl⟩;rw [<- hV];have rX : Row V w.heap.size 27 [.int .u32 xc, .bool xs, .int .i64 (Nn : Int), .int .i64 xh, .int .i64 (Lx : Int)] := by rw [hV]; exact HL.out.1.drew
   have rA : Row V (w.heap.size + 1) 64 L := by rw [hV]; exact HL.out.2.1.drew
   have sG : Sl V V.heap.size (.slice Ag sig.length cg) sig := by rw [hV]; exact HL.out.2.2.1.drew
   have sS : Sl V V.heap.size (.slice As seed.length cs) seed := by rw [hV]; exact HL.out.2.2.2.1.drew
   have sD : SI V V.heap.size (.slice (some ⟨gd, 0, none⟩) dl.length cd) dl := by rw [hV]; exact HL.out.2.2.2.2.1
   have sE : Sl V V.heap.size (.slice Ao E.length co) E := by rw [hV]; exact HO.out.drew
   have sP : Sl V V.heap.size (.slice Ap pc.length cp) pc := by rw [hV]; exact HPS.out.drew
   have HBV : Below w.heap.size w V := by rw [hV]; exact HL.out.2.2.2.2.2.drew
   have rK : DigC V gd k dk := by rw [hV]; exact ⟨hgd2, hck⟩
   clear hV HL HO HPS hck hgd hgd2;refine hdv0 0 22 (.slice Ao E.length co) (by rfl) (⟨rX, rA, (rK).2⟩) ?_;refine hdv0 2 24 (.slice Ag sig.length cg) (by rfl) (⟨rX, rA, (rK).2⟩) ?_;refine hdv0 3 25 (.int .i64 (k : Int)) (by rfl) (⟨rX, rA, (rK).2⟩) ?_;refine hdv0 4 26 (.pointer (some ⟨w.heap.size, 2, none⟩)) (by rfl) (⟨rX, rA, (rK).2⟩) ?_;refine hdv 5 27 (.int .i64 (Nn : Int)) (by rfl) (fun w hS => by have h2 := hS.1.cell 2; simp only [List.getElem?_cons_succ, List.getElem?_cons_zero] at h2; go_simp) (⟨rX, rA, (rK).2⟩) ?_;refine hdv 6 28 (.int .i64 (i1 : Int)) (by rfl) (fun w hS => by go_simp) (⟨rX, rA, (rK).2⟩) ?_;refine hdv0 7 29 (.int .i64 (k : Int)) (by rfl) (⟨rX, rA, (rK).2⟩) ?_;refine hdv 8 30 (.int .i64 ((k : Int) + 1)) (by rfl) (fun w hS => by go_simp) (⟨rX, rA, (rK).2⟩) ?_;refine hdv0 9 31 (.pointer (some ⟨w.heap.size, 2, none⟩)) (by rfl) (⟨rX, rA, (rK).2⟩) ?_;refine hdv 10 32 (.int .i64 (Nn : Int)) (by rfl) (fun w hS => by have h2 := hS.1.cell 2; simp only [List.getElem?_cons_succ, List.getElem?_cons_zero] at h2; go_simp) (⟨rX, rA, (rK).2⟩) ?_;refine hdv 11 33 (.int .i64 (i2 : Int)) (by rfl) (fun w hS => by go_simp) (⟨rX, rA, (rK).2⟩) ?_;refine hdv 12 34 (.slice Ap pc.length cp) (by rfl) (fun w hS => run_slice_op_lh ⟨rfl, rfl, rfl⟩ (runP w)) (⟨rX, rA, (rK).2⟩) ?_;refine hdv0 13 35 (.slice (some ⟨gd, 0, none⟩) dl.length cd) (by rfl) (⟨rX, rA, (rK).2⟩) ?_;refine hdv0 14 36 (.int .i64 (k : Int)) (by rfl) (⟨rX, rA, (rK).2⟩) ?_;refine hdv 15 37 (.pointer (some ⟨gd, k, none⟩)) (by rfl) (fun w hS => by go_simp) (⟨rX, rA, (rK).2⟩) ?_;refine hdv 16 38 (.int .i64 (dk : Int)) (by rfl) (fun w hS => by have h2 := hS.2.2; go_simp) (⟨rX, rA, (rK).2⟩) ?_;refine hdv0 17 39 (.slice (some ⟨gd, 0, none⟩) dl.length cd) (by rfl) (⟨rX, rA, (rK).2⟩) ?_;refine hdv0 18 40 (.int .i64 (k : Int)) (by rfl) (⟨rX, rA, (rK).2⟩) ?_;refine hdv 19 41 (.pointer (some ⟨gd, k, none⟩)) (by rfl) (fun w hS => by go_simp) (⟨rX, rA, (rK).2⟩) ?_;refine hdv 20 42 (.int .i64 (dk : Int)) (by rfl) (fun w hS => by have h2 := hS.2.2; go_simp) (⟨rX, rA, (rK).2⟩) ?_;refine hdv 21 43 (.int .i64 (d2 : Int)) (by rfl) (fun w hS => by go_simp) (⟨rX, rA, (rK).2⟩) ?_;refine hdv0 22 44 (.slice As seed.length cs) (by rfl) (⟨rX, rA, (rK).2⟩) ?_;refine hdv0 24 46 (.int .i64 (k : Int)) (by rfl) (⟨rX, rA, (rK).2⟩) ?_;refine held_load 1 27 (.tmp 5) (some 23) (by kernel_rfl) (by rfl) (by kernel_rfl) w.heap.size 0 (by kernel_rfl) ([.int .u32 xc, .bool xs, .int .i64 (Nn : Int), .int .i64 xh, .int .i64 (Lx : Int)]) _ (fun w h => h.1.range) Tryz.underlying27 rfl (info_xms) (fun _ _ _ _ h => h) (⟨rX, rA, (rK).2⟩) ?_;simp only [Act.put, arr9, hd9, tl9];refine held_load 23 64 (.tmp 9) (some 45) (by kernel_rfl) (by rfl) (by kernel_rfl) (w.heap.size + 1) 0 (by kernel_rfl) (L) _ (fun w h => h.2.1.range) Tryz.underlying64 rfl (info_adr10 HA.out) (fun _ _ _ _ h => h) (⟨rX, rA, (rK).2⟩) ?_;simp only [Act.put, arr9, hd9, tl9];refine held_one 25 (by kernel_rfl) ?_;refine step_call 25 _ _ (some 47) 91 #[.agg (L).toArray, .int .i64 (k : Int)] (by rfl) (by kernel_rfl) (by first | kernel_rfl | go_simp) ?_;refine (HC.out.1 V).mono ?_;rintro e Y1 ⟨rfl, b0⟩;have bx : Below V.heap.size V Y1 := b0;clear b0;have b_V := bx;have m_Y1 : V.heap.size <= Y1.heap.size := bx.size;clear bx;refine ⟨_, rfl, ⟨(rX.go b_V), (rA.go b_V), ((rK.go b_V)).2⟩, ?_⟩;simp only [Act.put, arr9, hd9, tl9];refine held_one 26 (by kernel_rfl) ?_;refine step_call 26 _ _ (some 48) 89 #[.agg ([.int .u32 xc, .bool xs, .int .i64 (Nn : Int), .int .i64 xh, .int .i64 (Lx : Int)]).toArray, .slice Ap pc.length cp, .int .i64 (dk : Int), .int .i64 (d2 : Int), .slice As seed.length cs, .agg L2.toArray] (by rfl) (by kernel_rfl) (by first | kernel_rfl | go_simp) ?_;refine (HC.out.2 Y1 _ ((sP.go b_V)) ((sS.go b_V))).mono ?_;rintro e Y2 ⟨v, rfl, gv, bv⟩;have bx : Below Y1.heap.size Y1 Y2 := bv;obtain ⟨An, cn, vEq, _, _⟩ := gv.form;subst vEq;have sN := gv;clear gv;replace b_V := Below.chain b_V bx;have b_Y1 := bx;have m_Y2 : Y1.heap.size <= Y2.heap.size := bx.size;clear bx;refine ⟨_, rfl, ⟨(rX.go b_V), (rA.go b_V), ((rK.go b_V)).2⟩, ?_⟩;simp only [Act.put, arr9, hd9, tl9];refine held_one 27 (by kernel_rfl) ?_;refine step_value 27 _ _ (some 49) (.slice (some ⟨Y2.heap.size, 0, none⟩) 2 2) (Y2.alloc (.cells #[.slice Ao E.length co, .slice An nb.length cn] 23)) (by rfl) (by kernel_rfl) (by first | kernel_rfl | go_simp) (⟨(rX.go b_V).alloc _, (rA.go b_V).alloc _, (((rK.go b_V)).go (below1 _ _)).2⟩) ?_;simp only [Act.put, arr9, hd9, tl9];have bx : Below Y2.heap.size Y2 (Y2.alloc (.cells #[.slice Ao E.length co, .slice An nb.length cn] 23)) := Below.alloc (Below.refl _ _) (Nat.le_refl _) _;have rP : Row (Y2.alloc (.cells #[.slice Ao E.length co, .slice An nb.length cn] 23)) Y2.heap.size 23 [.slice Ao E.length co, .slice An nb.length cn] := Row.new_ rfl rfl;have z_rP := asz Y2 (.cells #[.slice Ao E.length co, .slice An nb.length cn] 23);generalize Y2.alloc (.cells #[.slice Ao E.length co, .slice An nb.length cn] 23) = Y3 at *;replace b_V := Below.chain b_V bx;replace b_Y1 := Below.chain b_Y1 bx;have b_Y2 := bx;have m_Y3 : Y2.heap.size <= Y3.heap.size := bx.size;clear bx;refine held_one 28 (by kernel_rfl) ?_;refine step_call 28 _ _ (some 50) 55 #[.slice (some ⟨Y2.heap.size, 0, none⟩) 2 2] (by rfl) (by kernel_rfl) (by first | kernel_rfl | go_simp) ?_;refine (show Calls Tryz.prog 55 #[.slice (some ⟨Y2.heap.size, 0, none⟩) 2 2] Y3 (OwnIs Y3 E2) by have h := refJoin_any Y3.heap.size Y3.heap.size _ [E, nb] Y3 (PartsO.two (n := 2) rP.lt (Nat.ne_of_lt rP.lt) rP ((sE.go b_V)) (((sE.go b_V)).off (Nat.le_refl _)) ((sN.go b_Y2)) (((sN.go b_Y2)).off (Nat.le_refl _))) (Nat.le_refl _) (by rw [two_flat, <- HE.out.1]; have := HE.out.2.2; omega) (by simp); rw [two_flat, <- HE.out.1] at h; exact h).mono ?_;rintro e Y4 ⟨v, rfl, gv⟩;have bx : Below Y3.heap.size Y3 Y4 := gv.2;obtain ⟨Aj, cj, vEq⟩ := own_form gv.1;subst vEq;have sJ : Sl Y4 Y4.heap.size (.slice Aj E2.length cj) E2 := gives_sl gv;clear gv;replace b_V := Below.chain b_V bx;replace b_Y1 := Below.chain b_Y1 bx;replace b_Y2 := Below.chain b_Y2 bx;have b_Y3 := bx;have m_Y4 : Y3.heap.size <= Y4.heap.size := bx.size;clear bx;refine ⟨_, rfl, ⟨(rX.go b_V), (rA.go b_V), ((rK.go b_V)).2⟩, ?_⟩;simp only [Act.put, arr9, hd9, tl9];refine hdv0 29 11 (.slice Aj E2.length cj) (by rfl) (⟨(rX.go b_V), (rA.go b_V), ((rK.go b_V)).2⟩) ?_;refine wpAnyH_done (by kernel_rfl) ?_ _;have H9 : Shh (Row Y4 w.heap.size 27 [.int .u32 xc, .bool xs, .int .i64 (Nn : Int), .int .i64 xh, .int .i64 (Lx : Int)] /\ Row Y4 (w.heap.size + 1) 64 L /\ Sl Y4 Y4.heap.size (.slice Ag sig.length cg) sig /\ Sl Y4 Y4.heap.size (.slice As seed.length cs) seed /\ SI Y4 Y4.heap.size (.slice (some ⟨gd, 0, none⟩) dl.length cd) dl /\ Below w.heap.size w Y4) := ⟨(rX.go b_V), (rA.go b_V), (sG.go b_V), (sS.go b_V), (sD.go b_V), Below.chain HBV b_V⟩;have H10 : Shh (Sl Y4 Y4.heap.size (.slice Aj E2.length cj) (onB xs (Nn : Int) seed a (fun i => dl.getD i 0) sig (k + 1))) := ⟨by rw [<- HE2.out]; exact sJ⟩;clear m_Y4 b_Y3 sJ m_Y3 b_Y2 z_rP rP m_Y2 b_Y1 sN bv m_Y1 b_V HBV rX rA sG sS sD sE sP rK;clear HC HE HE2 hm1 hm2 h15 hk1;go_wp2
   go_roundw
   case rel => exact ⟨k + 1, by omega, by go_num, H9, H10⟩
   case measure => simp [intOf]; omega
  ·obtain rfl : k = Lx := by omega
   clear HLE HKY HST;have HR : Shh (Sl wr wr.heap.size (.slice Ao (onB xs (Nn : Int) seed a (fun i => dl.getD i 0) sig k).length co) (onB xs (Nn : Int) seed a (fun i => (dig10 m).getD i 0) sig k) /\ Below w.heap.size w wr) := ⟨by have h := HO.out; rw [HDL.out] at h ⊢; exact h, HL.out.2.2.2.2.2⟩;clear HL HO;go_wp2;go_ret;exact ⟨_, rfl, HR.out⟩
end Go.Proofs.YtdakbipiifkmfaaGreatDoor
namespace Go.Proofs.YtdakbipiifkmfaaGreatDoor
open Go.RowKit
set_option maxRecDepth 100000
def fsE (x : S5) (seed m sig : List UInt8) : Int := if badE x [seed, m] = 0 then (if (sig.length : Int) = x.l * x.n then 0 else 1) else badE x [seed, m]
def fsB (x : S5) (seed m sig : List UInt8) (a : List UInt32) : List UInt8 := if fsE x seed m sig = 0 then onB x.s x.n seed a (fun i => (dig10 m).getD i 0) sig x.l.toNat else []
end Go.Proofs.YtdakbipiifkmfaaGreatDoor
namespace Go.Proofs.YtdakbipiifkmfaaGreatDoor
open Go.RowKit
set_option maxRecDepth 100000
theorem badE_of {x : S5} {bss : List (List UInt8)} (h : x.ok = true) (h2 : ∀ b ∈ bss, (b.length : Int) = x.n) : badE x bss = 0 := by
 unfold badE;rw [if_pos h, if_pos];rw [List.all_eq_true];exact fun b hb => decide_eq_true (h2 b hb)
end Go.Proofs.YtdakbipiifkmfaaGreatDoor
namespace Go.Proofs.YtdakbipiifkmfaaGreatDoor
open Go.RowKit
set_option maxRecDepth 100000
theorem digits_any (v : Value) (bs : List UInt8) (w : World) (hs : Sl w w.heap.size v bs) (hl : bs.length <= 100000) : Calls Tryz.prog 97 #[v] w (IntsIs w (dig10 bs)) := by
 unfold IntsIs;obtain ⟨i0, hi, hz0, hz1, hz2⟩ := info_parts info_int;obtain ⟨A, c, rfl, _, hcm⟩ := hs.form;have HS := Shh.mk hs;clear hs;have HW : Shh (OwnI w w.heap.size (.slice none 0 0) [] /\ Below w.heap.size w w) := ⟨OwnI.nil _ _, Below.refl _ _⟩;go_enter Tryz.func97, Tryz.ntmps97;go_wp2;go_loopw [3, 4, 11] (fun o s i wr => ∃ k q : Nat, k <= bs.length /\ q <= 30 * k /\ s = .int .i64 (q : Int) /\ i = .int .i64 (k : Int) /\ Shh (q = csL (bs.take k) /\ OwnI wr w.heap.size o (hxL (bs.take k)) /\ Below w.heap.size w wr)) (fun _ _ i _ => bs.length - (intOf i).toNat)
 case atStart => exact ⟨0, 0, Nat.zero_le _, Nat.zero_le _, rfl, rfl, ⟨rfl, HW.out⟩⟩
 case round =>
  clear HW;obtain ⟨k, q, hk, hq, rfl, rfl, HL⟩ := hrel
  by_cases hlt : k < bs.length
  ·obtain ⟨g, off, rfl, hg, hcc⟩ := HS.out.at_ (by omega);have hcx := (HL.out.2.2.cell (p := ⟨g, off + k, none⟩) hg).trans (hcc k hlt);clear hcc;have HX : Shh (hxL (bs.take (k + 1)) = hxL (bs.take k) ++ [bs[k].toNat / 16, bs[k].toNat % 16] /\ csL (bs.take (k + 1)) = q + (30 - bs[k].toNat / 16 - bs[k].toNat % 16)) := ⟨hxL_take bs k hlt, by rw [csL_take bs k hlt, HL.out.1]⟩;generalize bs[k] = x at hcx HX;have hx := x.toNat_lt;obtain ⟨h4, hh4⟩ : ∃ h4, h4 = x.toNat / 16 := ⟨_, rfl⟩;obtain ⟨l4, hl4⟩ : ∃ l4, l4 = x.toNat % 16 := ⟨_, rfl⟩;have eh : (x.toNat : Int) / 16 = (h4 : Int) := by omega
   have el : (x.toNat : Int) % 16 = (l4 : Int) := by omega
   have bh : h4 <= 15 /\ l4 <= 15 := by omega
   rw [<- hh4, <- hl4] at HX;clear hh4 hl4;have H2 : Shh (OwnI wr w.heap.size u3 (hxL (bs.take k)) /\ Below w.heap.size w wr) := ⟨HL.out.2.1, HL.out.2.2⟩;obtain ⟨W, hW⟩ : ∃ W, W = wr := ⟨_, rfl⟩;rw [<- hW] at H2;subst hW;clear HL;have H3 : Shh (OwnI (W.alloc (.cells #[.int .i64 (h4 : Int), .int .i64 (l4 : Int)] 3)) w.heap.size u3 (hxL (bs.take k)) /\ Below w.heap.size w (W.alloc (.cells #[.int .i64 (h4 : Int), .int .i64 (l4 : Int)] 3)) /\ Row (W.alloc (.cells #[.int .i64 (h4 : Int), .int .i64 (l4 : Int)] 3)) W.heap.size 3 (intCells [h4, l4]) /\ (hxL (bs.take k)).length <= 200000) := ⟨H2.out.1.go (below1 _ _), Below.chain H2.out.2 (below1 _ _), Row.new_ rfl rfl, by rw [hxL_length, List.length_take]; omega⟩
   go_wp2_with (at_builtin; refine wp_appendI _ 91 3 i0 (.int .i64 0) Tryz.underlying91 hi hz0 hz1 hz2 rfl rfl _ _ rfl (us := intCells [h4, l4]) H3.out.1 rfl rfl rfl (fun j u hu => (H3.out.2.2.1.cell j).trans hu) (intCells_one _) (by have := H3.out.2.2.2; omega) H3.out.2.1.size ?_)
   intro v' w1 hown' hbl;have H4 : Shh (OwnI w1 w.heap.size v' (hxL (bs.take (k + 1))) /\ Below w.heap.size w w1) := ⟨by rw [HX.out.1]; exact OwnI.join hown', H3.out.2.1.trans (hbl _ (Nat.le_refl _))⟩;have HQ : Shh (q + (30 - h4 - l4) = csL (bs.take (k + 1))) := ⟨HX.out.2.symm⟩;clear hown' hbl H3 H2 HX;go_wp2
   go_roundw
   case rel => exact ⟨k + 1, q + (30 - h4 - l4), by omega, by omega, by go_num, by go_num, HQ.out, H4.out⟩
   case measure => simp [intOf]; omega
  ·obtain rfl : k = bs.length := by omega
   have HQ : Shh (q = csL bs /\ OwnI wr w.heap.size u3 (hxL bs) /\ Below w.heap.size w wr) := by
    have h := HL.out;rw [List.take_length] at h;exact ⟨h⟩
   clear HL;obtain ⟨d1, hd1⟩ : ∃ d, d = q / 256 := ⟨_, rfl⟩;obtain ⟨d2, hd2⟩ : ∃ d, d = q / 16 % 16 := ⟨_, rfl⟩;obtain ⟨d3, hd3⟩ : ∃ d, d = q % 16 := ⟨_, rfl⟩;have HD : Shh (dig10 bs = hxL bs ++ [d1, d2, d3]) := ⟨by unfold dig10; rw [<- HQ.out.1, hd1, hd2, hd3]⟩;have e1 : (q : Int) / 16 / 16 = (d1 : Int) := by omega
   have e2 : (q : Int) / 16 % 16 = (d2 : Int) := by omega
   have e3 : (q : Int) % 16 = (d3 : Int) := by omega
   clear hd1 hd2 hd3;have H3 : Shh (OwnI (wr.alloc (.cells #[.int .i64 (d1 : Int), .int .i64 (d2 : Int), .int .i64 (d3 : Int)] 3)) w.heap.size u3 (hxL bs) /\ Below w.heap.size w (wr.alloc (.cells #[.int .i64 (d1 : Int), .int .i64 (d2 : Int), .int .i64 (d3 : Int)] 3)) /\ Row (wr.alloc (.cells #[.int .i64 (d1 : Int), .int .i64 (d2 : Int), .int .i64 (d3 : Int)] 3)) wr.heap.size 3 (intCells [d1, d2, d3]) /\ (hxL bs).length <= 200000) := ⟨HQ.out.2.1.go (below1 _ _), Below.chain HQ.out.2.2 (below1 _ _), Row.new_ rfl rfl, by rw [hxL_length]; omega⟩
   go_wp2_with (at_builtin; refine wp_appendI _ 91 3 i0 (.int .i64 0) Tryz.underlying91 hi hz0 hz1 hz2 rfl rfl _ _ rfl (us := intCells [d1, d2, d3]) H3.out.1 rfl rfl rfl (fun j u hu => (H3.out.2.2.1.cell j).trans hu) (intCells_one _) (by have := H3.out.2.2.2; omega) H3.out.2.1.size ?_)
   intro v' w1 hown' hbl;have H4 : Shh (OwnI w1 w.heap.size v' (dig10 bs) /\ Below w.heap.size w w1) := ⟨by rw [HD.out]; exact OwnI.join hown', H3.out.2.1.trans (hbl _ (Nat.le_refl _))⟩;clear hown' hbl H3 HQ;go_wp2;go_ret;exact ⟨_, rfl, H4.out⟩
end Go.Proofs.YtdakbipiifkmfaaGreatDoor
namespace Go.Proofs.YtdakbipiifkmfaaGreatDoor
open Go.RowKit
set_option maxRecDepth 100000
theorem own_apart {w : World} {b1 b2 n1 n2 : Nat} {v1 v2 : Value} {xs1 xs2 : List Value} (h1 : w.ownsRow b1 3 1 v1 n1 xs1) (h2 : w.ownsRow b2 5 1 v2 n2 xs2) : v1.ownBlock = none ∨ v1.ownBlock ≠ v2.ownBlock := by
 rcases h1.2 with ⟨rfl, _⟩ | ⟨g1, c1, u1, rfl, _, k1, _⟩
 ·exact .inl rfl
 ·right
  rcases h2.2 with ⟨rfl, _⟩ | ⟨g2, c2, u2, rfl, _, k2, _⟩
  ·intro h; cases h
  ·intro h;have e : g1 = g2 := Option.some.inj h;subst e;rw [k1] at k2;injection Option.some.inj k2 with _ h2 _;exact absurd h2 (by decide)
set_option maxHeartbeats 2000000 in
theorem fromSig_24 (xc : Int) (xs : Bool) (xh : Int) (hw : (⟨xc, xs, 24, xh, 51⟩ : S5).wf) (hx : (⟨xc, xs, 24, xh, 51⟩ : S5).ok = true) (vs vm vg : Value) (seed m sig : List UInt8) (a : List UInt32) (ha : a.length = 8) (w : World) (hs : Sl w w.heap.size vs seed) (hm : Sl w w.heap.size vm m) (hg : Sl w w.heap.size vg sig) (ht : Tabs w)
  (hsl : seed.length = 24) (hml : m.length = 24) (hgl : sig.length = 1224) :
  Calls Tryz.prog 73 #[.agg #[.int .u32 xc, .bool xs, .int .i64 24, .int .i64 xh, .int .i64 51], vs, vm, vg, adrV a] w (ResIs w 0 (onB xs 24 seed a (fun i => (dig10 m).getD i 0) sig 51)) := by
 unfold ResIs;obtain ⟨As, cs, rfl, _, _⟩ := hs.form;obtain ⟨Am, cm, rfl, _, _⟩ := hm.form;obtain ⟨Ag, cg, rfl, hcg, _⟩ := hg.form;have H0 : Shh (Sl w w.heap.size (.slice As seed.length cs) seed /\ Sl w w.heap.size (.slice Am m.length cm) m /\ Sl w w.heap.size (.slice Ag sig.length cg) sig /\ Tabs w /\ sig.length <= cg) := ⟨hs, hm, hg, ht, hcg⟩;clear hs hm hg ht hcg
 have HC : Shh (∀ (v : Value) (B : Nat) W, PartsO W B B v [seed, m] -> B <= W.heap.size -> Calls Tryz.prog 95 #[.agg #[.int .u32 xc, .bool xs, .int .i64 24, .int .i64 xh, .int .i64 51], v] W (OldIs (.int .i64 0) W)) := ⟨fun v B W h hB => by
  have h1 := check_any (⟨xc, xs, 24, xh, 51⟩ : S5) hw v [seed, m] B B W h hB (by simp);rw [show badE (⟨xc, xs, 24, xh, 51⟩ : S5) [seed, m] = 0 from badE_of hx (fun b hb => by simp only [List.mem_cons, List.not_mem_nil, or_false] at hb; rcases hb with rfl | rfl <;> (first | (rw [hsl]; rfl) | (rw [hml]; rfl)))] at h1
  exact h1⟩
 have HWK : Shh (∀ (g : Nat) W, Sl W W.heap.size (.slice As seed.length cs) seed -> Tabs W -> g < W.heap.size -> Calls Tryz.prog 105 #[.agg #[.int .u32 xc, .bool xs, .int .i64 24, .int .i64 xh, .int .i64 51], .slice As seed.length cs] W (WalkerIs W g (⟨xc, xs, 24, xh, 51⟩ : S5) seed)) := ⟨fun g W h1 h2 h3 => walker_any (⟨xc, xs, 24, xh, 51⟩ : S5) hx _ seed W h1 (by omega) h2 g h3⟩;have HDG : Shh (∀ W, Sl W W.heap.size (.slice Am m.length cm) m -> Calls Tryz.prog 97 #[.slice Am m.length cm] W (IntsIs W (dig10 m))) := ⟨fun W h => digits_any _ m W h (by omega)⟩;have HLE : Shh (∀ k, k <= 51 -> (onB xs 24 seed a (fun i => (dig10 m).getD i 0) sig k).length = 24 * k) := ⟨fun k hk => onB_len (x := (⟨xc, xs, 24, xh, 51⟩ : S5)) hx seed a (fun i => (dig10 m).getD i 0) sig 51 k (by rw [hgl]; rfl) hk⟩;have HD : Shh ((dig10 m).length = 51 /\ ∀ d ∈ dig10 m, d <= 15) := ⟨by rw [dig10_length]; omega, dig10_lt m (by omega)⟩
 have HGO : Shh (∀ a b f k, (goB xs 24 seed a b f k).length = 24 ∨ b.length ≠ 24) := ⟨fun a b f k => by
  by_cases hb : b.length = 24
  ·exact .inl (goB_length (x := (⟨xc, xs, 24, xh, 51⟩ : S5)) hx seed a b f k hb)
  ·exact .inr hb⟩
 have hne : ((sig.length : Int) != 1224) = false := by rw [hgl]; decide
 have HSG : Shh (sig.length = 1224) := ⟨hgl⟩;have hmk := make0_run sig.length (by rw [hgl]; decide);obtain ⟨W0, hW0⟩ : ∃ W0, W0 = (w.alloc (.cells #[.int .u32 xc, .bool xs, .int .i64 24, .int .i64 xh, .int .i64 51] 27)).alloc (.cells (wordCells a).toArray 64) := ⟨_, rfl⟩;have HW0 : Shh (Row W0 w.heap.size 27 [.int .u32 xc, .bool xs, .int .i64 24, .int .i64 xh, .int .i64 51] /\ Row W0 (w.heap.size + 1) 64 (wordCells a) /\ W0.heap.size = w.heap.size + 2 /\ Below w.heap.size w W0) := by
  rw [hW0];exact ⟨(Row.new_ rfl rfl).alloc _, Row.new_ (by rw [asz]) rfl, by rw [asz, asz], Below.chain (below1 _ _) (below1 _ _)⟩
 obtain ⟨W, hW⟩ : ∃ W, W = W0.alloc (.cells #[.slice As seed.length cs, .slice Am m.length cm] 23) := ⟨_, rfl⟩;have HW : Shh (Row W w.heap.size 27 [.int .u32 xc, .bool xs, .int .i64 24, .int .i64 xh, .int .i64 51] /\ Row W (w.heap.size + 1) 64 (wordCells a) /\ PartsO W (w.heap.size + 3) (w.heap.size + 3) (.slice (some ⟨w.heap.size + 2, 0, none⟩) 2 2) [seed, m] /\ w.heap.size + 3 <= W.heap.size /\ Below w.heap.size w W) := by
  have b0 : Below w.heap.size w W := by rw [hW]; exact Below.chain HW0.out.2.2.2 (below1 _ _)
  refine ⟨by rw [hW]; exact HW0.out.1.alloc _, by rw [hW]; exact HW0.out.2.1.alloc _, ?_, by rw [hW, asz, HW0.out.2.2.1]; exact Nat.le_refl _, b0⟩;exact PartsO.two (by omega) (by omega) (by rw [hW]; exact Row.new_ HW0.out.2.2.1.symm rfl) ((H0.out.1.below b0).more (by omega)) (H0.out.1.off (by omega)) ((H0.out.2.1.below b0).more (by omega)) (H0.out.2.1.off (by omega))
 clear hw hx;have HA : Shh (a.length = 8 /\ (wordCells a).length = 8 /\ ∀ k, (wordCells (atA a k)).length = 8) := ⟨ha, by rw [wordCells_length]; exact ha, fun k => by rw [wordCells_length, atA_length]; exact ha⟩;clear ha hsl hml hgl;unfold adrV;go_enter Tryz.func73, Tryz.ntmps73
 go_wp2_with (first | (rw [<- hW0]; refine wpList_load_any rfl 27 (.tmp 5) rfl w.heap.size rfl 27 [.int .u32 xc, .bool xs, .int .i64 24, .int .i64 xh, .int .i64 51] _ HW0.out.1 Tryz.underlying27 rfl info_xms ?_) | (go_at_call 95; rw [<- hW0, <- hW]; refine (HC.out _ _ _ HW.out.2.2.1 HW.out.2.2.2.1).mono ?_))
 try rw [<- hW0, <- hW]
 unfold OldIs;rintro e w2 ⟨rfl, b2⟩;have H2 : Shh (Row w2 w.heap.size 27 [.int .u32 xc, .bool xs, .int .i64 24, .int .i64 xh, .int .i64 51] /\ Row w2 (w.heap.size + 1) 64 (wordCells a) /\ Below w.heap.size w w2) := ⟨HW.out.1.go b2, HW.out.2.1.go b2, Below.chain HW.out.2.2.2.2 b2⟩;clear HW hW b2 HC HW0 hW0;have e2 := H2.out.1.cell 2;have e4 := H2.out.1.cell 4;simp only [List.getElem?_cons_succ, List.getElem?_cons_zero] at e2 e4
 go_wp2_with (first | refine wpList_load_any rfl 27 (.tmp 5) rfl w.heap.size rfl 27 [.int .u32 xc, .bool xs, .int .i64 24, .int .i64 xh, .int .i64 51] _ H2.out.1 Tryz.underlying27 rfl info_xms ?_ | (go_at_call 105; refine (HWK.out (w.heap.size + 1) _ (H0.out.1.go H2.out.2.2) (H0.out.2.2.2.1.go H2.out.2.2) H2.out.2.1.lt).mono ?_))
 unfold WalkerIs;rintro e w3 ⟨v3, rfl, k3, b3⟩;obtain ⟨F, q1, q2, rfl, hcf, hkf⟩ := k3;have HKF := Shh.mk hkf;have H3 : Shh (Row w3 w.heap.size 27 [.int .u32 xc, .bool xs, .int .i64 24, .int .i64 xh, .int .i64 51] /\ Row w3 (w.heap.size + 1) 64 (wordCells a) /\ Below w.heap.size w w3) := ⟨H2.out.1.go b3, H2.out.2.1.go b3, Below.chain H2.out.2.2 b3⟩;clear H2 b3 HWK hkf e2 e4;obtain ⟨W4, hW4⟩ : ∃ W4, W4 = w3.alloc (.cells (Lib.byteCells (List.replicate sig.length 0)).toArray 5) := ⟨_, rfl⟩;obtain ⟨B, hB⟩ : ∃ B, Shh (B = w3.heap.size) := ⟨_, ⟨rfl⟩⟩;have H4 : Shh (Below w3.heap.size w3 W4 /\ Own W4 B (.slice (some ⟨B, 0, none⟩) 0 sig.length) [] /\ B < W4.heap.size) := by
  rw [hW4, hB.out];exact ⟨below1 _ _, World.ownsRow_made w3 _ sig.length (Nat.le_refl _) (by rw [HSG.out]; unfold maxLen; omega) (by simp [Lib.byteCells]), by rw [asz]; omega⟩
 go_wp2_with (go_at_call 97; rw [<- hB.out, <- hW4]; refine (HDG.out _ (H0.out.2.1.go (Below.chain H3.out.2.2 H4.out.1))).mono ?_)
 clear hW4 hne hmk;unfold IntsIs;rintro e w5 ⟨v5, rfl, g5, b5⟩;obtain ⟨gd, cd, rfl⟩ := g5.addr (by rw [HD.out.1]; decide);have H5 : Shh (But w3.heap.size (w.heap.size + 1) w3 w5 /\ Row w5 w.heap.size 27 [.int .u32 xc, .bool xs, .int .i64 24, .int .i64 xh, .int .i64 51] /\ Own w5 B (.slice (some ⟨B, 0, none⟩) 0 sig.length) [] /\ OwnI w5 B (.slice (some ⟨gd, 0, none⟩) (dig10 m).length cd) (dig10 m) /\ Row w5 (w.heap.size + 1) 64 (wordCells a) /\ B <= w5.heap.size) := by
  have b35 := Below.chain H4.out.1 b5;exact ⟨But.of b35 _, H3.out.1.go b35, H4.out.2.1.go b5, g5.base (by have := H4.out.2.2; omega), H3.out.2.1.go b35, by have := H4.out.2.2; have := b5.size; omega⟩
 clear H4 g5 b5 HDG;have HB2 : Shh (w.heap.size + 1 < B /\ Below w.heap.size w w3 /\ B = w3.heap.size) := ⟨by rw [hB.out]; exact H3.out.2.1.lt, H3.out.2.2, hB.out⟩;clear H3;go_wp2;obtain ⟨dl, hdl⟩ : ∃ dl, dl = dig10 m := ⟨_, rfl⟩;have HDL := Shh.mk hdl;rw [<- hdl] at HD H5 HLE ⊢;clear hdl;go_loopw [14, 42] (fun o i wr => ∃ (k : Nat) (a' : List UInt32), k <= 51 /\ i = .int .i64 (k : Int) /\ Shh (a'.length = 8 /\ (∀ i, atA a' i = atA a i) /\ Row wr (w.heap.size + 1) 64 (wordCells a') /\ Row wr w.heap.size 27 [.int .u32 xc, .bool xs, .int .i64 24, .int .i64 xh, .int .i64 51] /\ But w3.heap.size (w.heap.size + 1) w3 wr /\ B <= wr.heap.size) /\ Shh (OwnI wr B (.slice (some ⟨gd, 0, none⟩) dl.length cd) dl) /\ Shh (Own wr B o (onB xs 24 seed a (fun i => dl.getD i 0) sig k))) (fun _ i _ => 51 - (intOf i).toNat)
 case atStart => exact ⟨0, a, Nat.zero_le _, rfl, ⟨HA.out.1, fun _ => rfl, H5.out.2.2.2.2.1, H5.out.2.1, H5.out.1, H5.out.2.2.2.2.2⟩, ⟨H5.out.2.2.2.1⟩, ⟨H5.out.2.2.1⟩⟩
 case round =>
  clear H5;obtain ⟨k, a', hk, rfl, HL, HDI, HO⟩ := hrel;have ho := HO.out;obtain ⟨Ao, co, rfl⟩ := own_form ho;clear ho;have HBW : Shh (Below w.heap.size w wr) := ⟨HB2.out.2.1.trans (HL.out.2.2.2.2.1.under (by have := HB2.out; omega) (by omega))⟩
  by_cases hlt : k < 51
  ·obtain ⟨dk, hdk⟩ : ∃ dk, dk = dl.getD k 0 := ⟨_, rfl⟩;have hkd : k < dl.length := by rw [HD.out.1]; exact hlt
   have hdg : dl[k] = dk := by rw [hdk, List.getD_eq_getElem?_getD, List.getElem?_eq_getElem hkd]; rfl
   have hd16 : dk <= 15 := by rw [<- hdg]; exact HD.out.2 _ (List.getElem_mem hkd)
   obtain ⟨gd', hAd, hgd, hgd2, hcd⟩ := (SI.of_own HDI.out).at_ (by omega);cases hAd;have hck := hcd k hkd;rw [hdg] at hck;clear hcd;have hkdi : (k : Int) < (dl.length : Int) := by omega
   have hkq : (k : Int) % 4294967296 = (k : Int) := by omega
   have HE : Shh ((onB xs 24 seed a (fun i => dl.getD i 0) sig (k + 1)) = (onB xs 24 seed a (fun i => dl.getD i 0) sig k) ++ goB xs 24 seed (atA a k) (pieceB 24 sig k) dk (15 - dk) /\ (onB xs 24 seed a (fun i => dl.getD i 0) sig k).length <= 3000 /\ (goB xs 24 seed (atA a k) (pieceB 24 sig k) dk (15 - dk)).length = 24 /\ (pieceB 24 sig k).length = 24) := by
    have hp : (pieceB 24 sig k).length = 24 := pieceB_length 24 sig k 51 (by rw [HSG.out]) hlt;refine ⟨by rw [hdk]; exact onB_step xs 24 seed a (fun i => dl.getD i 0) sig k, by rw [HLE.out k (by omega)]; omega, ?_, hp⟩
    rcases HGO.out (atA a k) (pieceB 24 sig k) dk (15 - dk) with h | h
    ·exact h
    ·exact absurd hp h
   obtain ⟨i1, hi1⟩ : ∃ i1, i1 = k * 24 := ⟨_, rfl⟩;obtain ⟨i2, hi2⟩ : ∃ i2, i2 = (k + 1) * 24 := ⟨_, rfl⟩;have hi12 : i1 <= i2 /\ i2 <= 1224 := by omega
   have hm1 : IntKind.i64.wrap ((k : Int) * 24) = (i1 : Int) := by rw [IntKind.wrap_i64]; omega
   have hm2 : IntKind.i64.wrap (((k : Int) + 1) * 24) = (i2 : Int) := by rw [IntKind.wrap_i64]; omega
   have h15 : IntKind.i64.wrap ((15 : Int) - (dk : Int)) = ((15 - dk : Nat) : Int) := by rw [IntKind.wrap_i64]; omega
   have hk1 : IntKind.i64.wrap ((k : Int) + 1) = (k : Int) + 1 := by rw [IntKind.wrap_i64]; omega
   have HP : Shh (pieceB 24 sig k = (sig.take i2).drop i1) := ⟨by rw [hi1, hi2]; rfl⟩;obtain ⟨d2, hd2⟩ : ∃ d2, d2 = 15 - dk := ⟨_, rfl⟩;rw [<- hd2] at h15 HE;have hd215 : dk + d2 <= 15 := by omega
   rw [HP.out] at HE;obtain ⟨Ap, cp, runP, sP0⟩ := slice_mid10 H0.out.2.2.1 i1 i2 hi12.1 (by rw [HSG.out]; exact hi12.2) H0.out.2.2.2.2;have HPS : Shh (Sl w w.heap.size (.slice Ap ((sig.take i2).drop i1).length cp) ((sig.take i2).drop i1)) := ⟨sP0⟩;clear sP0;generalize (sig.take i2).drop i1 = pc at HPS HE runP;obtain ⟨nb, hnb⟩ : ∃ nb, nb = goB xs 24 seed (atA a k) pc dk d2 := ⟨_, rfl⟩;have HNB : Shh (nb = goB xs 24 seed (atA a k) pc dk d2) := ⟨hnb⟩;rw [<- hnb] at HE;clear hnb hdk hdg hd2 hi1 hi2 HP;obtain ⟨E2, hE2⟩ : ∃ E2, E2 = (onB xs 24 seed a (fun i => dl.getD i 0) sig (k + 1)) := ⟨_, rfl⟩;have HE2 : Shh (E2 = (onB xs 24 seed a (fun i => dl.getD i 0) sig (k + 1))) := ⟨hE2⟩;rw [<- hE2] at HE;clear hE2;generalize (onB xs 24 seed a (fun i => dl.getD i 0) sig k) = E at HE HO;obtain ⟨y5, c5⟩ : ∃ y : Int, wr.cell? ⟨w.heap.size + 1, 5, none⟩ = some (.int .u32 y) := ⟨_, wordRow_cell HL.out.2.2.1 5 (by rw [HL.out.1]; decide)⟩;have f5 := HL.out.2.2.1.free 5;obtain ⟨Z, hZ⟩ : ∃ Z, Z = wr.setCell ⟨w.heap.size + 1, 5, none⟩ (.int .u32 (k : Int)) := ⟨_, rfl⟩;have HZ : Shh (Row Z w.heap.size 27 [.int .u32 xc, .bool xs, .int .i64 24, .int .i64 xh, .int .i64 51] /\ Row Z (w.heap.size + 1) 64 (wordCells (atA a k)) /\ Below w.heap.size w Z /\ But w3.heap.size (w.heap.size + 1) w3 Z /\ Own Z B (.slice Ao E.length co) E /\ OwnI Z B (.slice (some ⟨gd, 0, none⟩) dl.length cd) dl /\ B <= Z.heap.size) := by
    rw [hZ];refine ⟨HL.out.2.2.2.1.other _ _ (by show w.heap.size ≠ w.heap.size + 1; omega), ?_, HBW.out.setCell (Nat.le_succ _) _, HL.out.2.2.2.2.1.setCell _ _, ownsRow_setCell_below HO.out HB2.out.1 _, ownsRow_setCell_below HDI.out HB2.out.1 _, by simpa using HL.out.2.2.2.2.2⟩;rw [<- HL.out.2.1 k];exact wordRow_set HL.out.2.2.1 5 k (by omega)
   clear HL HDI HO HBW
   go_wp2_with fail
   rw [<- hZ];clear hZ c5 f5 hck hgd hgd2 hkdi hkq;refine wp_region_held_drew (S := fun w' => Row w' w.heap.size 27 [.int .u32 xc, .bool xs, .int .i64 24, .int .i64 xh, .int .i64 51] /\ Row w' (w.heap.size + 1) 64 (wordCells (atA a k))) (by kernel_rfl) ⟨HZ.out.1.drew, HZ.out.2.1.drew⟩ (fun hS => ?_);clear hS;obtain ⟨V, hV⟩ : ∃ V, V = World.drew Z := ⟨_, rfl⟩;rw [<- hV];have rX : Row V w.heap.size 27 [.int .u32 xc, .bool xs, .int .i64 24, .int .i64 xh, .int .i64 51] := by rw [hV]; exact HZ.out.1.drew
   have rA : Row V (w.heap.size + 1) 64 (wordCells (atA a k)) := by rw [hV]; exact HZ.out.2.1.drew
   have HBV : Below w.heap.size w V := by rw [hV]; exact HZ.out.2.2.1.drew
   have HBu : But w3.heap.size (w.heap.size + 1) w3 V := by rw [hV]; exact HZ.out.2.2.2.1.drew
   have oE : Own V B (.slice Ao E.length co) E := by rw [hV]; exact HZ.out.2.2.2.2.1.drew
   have oD : OwnI V B (.slice (some ⟨gd, 0, none⟩) dl.length cd) dl := by rw [hV]; exact HZ.out.2.2.2.2.2.1.drew
   have hBV : B <= V.heap.size := by rw [hV]; exact HZ.out.2.2.2.2.2.2
   have sP : Sl V V.heap.size (.slice Ap pc.length cp) pc := HPS.out.go HBV;have rT : Tabs V := H0.out.2.2.2.1.go HBV;clear hV HZ HPS;refine hdv0 0 50 (.slice Ao E.length co) (by rfl) (⟨rX, rA⟩) ?_;refine hdv0 1 51 (.func (.func F) #[] #[q1, q2]) (by rfl) (⟨rX, rA⟩) ?_;refine hdv0 2 52 (.slice Ag sig.length cg) (by rfl) (⟨rX, rA⟩) ?_;refine hdv0 3 53 (.int .i64 (k : Int)) (by rfl) (⟨rX, rA⟩) ?_;refine hdv0 4 54 (.pointer (some ⟨w.heap.size, 2, none⟩)) (by rfl) (⟨rX, rA⟩) ?_;refine hdv 5 55 (.int .i64 24) (by rfl) (fun w hS => by have h2 := hS.1.cell 2; simp only [List.getElem?_cons_succ, List.getElem?_cons_zero] at h2; go_simp) (⟨rX, rA⟩) ?_;refine hdv 6 56 (.int .i64 (i1 : Int)) (by rfl) (fun w hS => by go_simp) (⟨rX, rA⟩) ?_;refine hdv0 7 57 (.int .i64 (k : Int)) (by rfl) (⟨rX, rA⟩) ?_;refine hdv 8 58 (.int .i64 ((k : Int) + 1)) (by rfl) (fun w hS => by go_simp) (⟨rX, rA⟩) ?_;refine hdv0 9 59 (.pointer (some ⟨w.heap.size, 2, none⟩)) (by rfl) (⟨rX, rA⟩) ?_;refine hdv 10 60 (.int .i64 24) (by rfl) (fun w hS => by have h2 := hS.1.cell 2; simp only [List.getElem?_cons_succ, List.getElem?_cons_zero] at h2; go_simp) (⟨rX, rA⟩) ?_;refine hdv 11 61 (.int .i64 (i2 : Int)) (by rfl) (fun w hS => by go_simp) (⟨rX, rA⟩) ?_;refine hdv 12 62 (.slice Ap pc.length cp) (by rfl) (fun w hS => run_slice_op_lh ⟨rfl, rfl, rfl⟩ (runP w)) (⟨rX, rA⟩) ?_;refine hdv0 13 63 (.int .i64 (dk : Int)) (by rfl) (⟨rX, rA⟩) ?_;refine hdv0 14 64 (.int .i64 (dk : Int)) (by rfl) (⟨rX, rA⟩) ?_;refine hdv 15 65 (.int .i64 (d2 : Int)) (by rfl) (fun w hS => by go_simp) (⟨rX, rA⟩) ?_;refine held_load 16 64 (.tmp 9) (some 66) (by kernel_rfl) (by rfl) (by kernel_rfl) (w.heap.size + 1) 0 (by kernel_rfl) (wordCells (atA a k)) _ (fun w h => h.2.range) Tryz.underlying64 rfl (info_adr10 (HA.out.2.2 k)) (fun _ _ _ _ h => h) (⟨rX, rA⟩) ?_;simp only [Act.put, arr9, hd9, tl9];refine held_one 17 (by kernel_rfl) ?_;refine step_call 17 _ _ (some 67) F #[.slice Ap pc.length cp, .int .i64 (dk : Int), .int .i64 (d2 : Int), .agg (wordCells (atA a k)).toArray, q1, q2] (by rfl) (by kernel_rfl) (by go_simp) ?_;refine (HKF.out V _ pc dk d2 (atA a k) (HBu.chain (But.of (Below.refl _ _) _)) (rT) (sP) HE.out.2.2.2 hd215 (by rw [atA_length]; exact HA.out.1)).mono ?_;rintro e Y1 ⟨vr, rfl, gr, br, or⟩;have bx : Below V.heap.size V Y1 := br;have sR : Sl Y1 Y1.heap.size vr nb := by rw [HNB.out]; exact gr
   clear gr or;have b_V := bx;have m_Y1 : V.heap.size <= Y1.heap.size := bx.size;clear bx;refine ⟨_, rfl, ⟨(rX.go b_V), (rA.go b_V)⟩, ?_⟩;simp only [Act.put, arr9, hd9, tl9];refine held_one 18 (by kernel_rfl) ?_;obtain ⟨i0, hi, hz0, hz1, hz2⟩ := info_parts info_u8;refine step_appendSl Y1 18 _ (some 68) 23 5 i0 Tryz.underlying23 hi hz0 hz1 hz2 (.tmp 50) (.tmp 67) (by rfl) (by kernel_rfl) ((oE.go b_V)) (sR) (by rw [HE.out.2.2.1]; decide) rfl rfl (by rw [HE.out.2.2.1]; have := HE.out.2.1; omega) (Nat.le_trans hBV (b_V).size) (fun v9 Y2 o9 g9 b9 => ?_);rw [<- HE.out.1] at o9;have q0 : Row Y2 w.heap.size 27 [.int .u32 xc, .bool xs, .int .i64 24, .int .i64 xh, .int .i64 51] := ((rX.go b_V)).below (b9 _ (Nat.le_refl _)) (by have := HB2.out; omega);have q1x : Row Y2 (w.heap.size + 1) 64 (wordCells (atA a k)) := ((rA.go b_V)).below (b9 _ (Nat.le_refl _)) (by have := HB2.out; omega);have q2x : OwnI Y2 B (.slice (some ⟨gd, 0, none⟩) dl.length cd) dl := World.ownsRow.kept ((oD.go b_V)) g9 (own_apart ((oD.go b_V)) ((oE.go b_V)));have q3 : But w3.heap.size (w.heap.size + 1) w3 Y2 := (HBu.chain (But.of b_V _)).trans (But.of (b9 _ (by have := HB2.out; omega)) _);have q4 : B <= Y2.heap.size := Nat.le_trans (Nat.le_trans hBV (b_V).size) (b9 _ (Nat.le_refl _)).size;replace rX := q0;replace rA := q1x;refine ⟨⟨rX, rA⟩, ?_⟩;simp only [Act.put, arr9, hd9, tl9];refine hdv0 19 14 (v9) (by rfl) (⟨rX, rA⟩) ?_;refine wpAnyH_done (by kernel_rfl) ?_ _;have H9 : Shh ((atA a k).length = 8 /\ (∀ i, atA (atA a k) i = atA a i) /\ Row Y2 (w.heap.size + 1) 64 (wordCells (atA a k)) /\ Row Y2 w.heap.size 27 [.int .u32 xc, .bool xs, .int .i64 24, .int .i64 xh, .int .i64 51] /\ But w3.heap.size (w.heap.size + 1) w3 Y2 /\ B <= Y2.heap.size) := ⟨by rw [atA_length]; exact HA.out.1, fun i => atA_again a k i, q1x, q0, q3, q4⟩;have H10 : Shh (OwnI Y2 B (.slice (some ⟨gd, 0, none⟩) dl.length cd) dl) := ⟨q2x⟩;have H11 : Shh (Own Y2 B v9 (onB xs 24 seed a (fun i => dl.getD i 0) sig (k + 1))) := ⟨by rw [<- HE2.out]; exact o9⟩;clear q0 q1x q2x q3 q4 o9 g9 b9 HBV HBu oE oD hBV sP rT rX rA runP HE HE2 hm1 hm2 h15 hk1 HNB hd215;go_wp2
   go_roundw
   case rel => exact ⟨k + 1, _, by omega, by go_num, H9, H10, H11⟩
   case measure => simp [intOf]; omega
  ·have hkd : ¬ ((k : Int) < (dl.length : Int)) := by have := HD.out.1; omega
   have HR : Shh (Sl wr wr.heap.size (.slice Ao (onB xs 24 seed a (fun i => dl.getD i 0) sig k).length co) (onB xs 24 seed a (fun i => (dig10 m).getD i 0) sig 51) /\ Below w.heap.size w wr) := ⟨by
    rw [<- HDL.out];have hk2 : k = 51 := by omega
    have h := Sl.of_own HO.out;rw [hk2] at h ⊢
    exact h, HBW.out⟩
   clear HL HDI HO HBW HLE HGO;go_wp2;go_ret2;exact ⟨_, rfl, HR.out⟩
set_option maxHeartbeats 2000000 in
theorem fromSig_32 (xc : Int) (xs : Bool) (xh : Int) (hw : (⟨xc, xs, 32, xh, 67⟩ : S5).wf) (hx : (⟨xc, xs, 32, xh, 67⟩ : S5).ok = true) (vs vm vg : Value) (seed m sig : List UInt8) (a : List UInt32) (ha : a.length = 8) (w : World) (hs : Sl w w.heap.size vs seed) (hm : Sl w w.heap.size vm m) (hg : Sl w w.heap.size vg sig) (ht : Tabs w)
  (hsl : seed.length = 32) (hml : m.length = 32) (hgl : sig.length = 2144) :
  Calls Tryz.prog 73 #[.agg #[.int .u32 xc, .bool xs, .int .i64 32, .int .i64 xh, .int .i64 67], vs, vm, vg, adrV a] w (ResIs w 0 (onB xs 32 seed a (fun i => (dig10 m).getD i 0) sig 67)) := by
 unfold ResIs;obtain ⟨As, cs, rfl, _, _⟩ := hs.form;obtain ⟨Am, cm, rfl, _, _⟩ := hm.form;obtain ⟨Ag, cg, rfl, hcg, _⟩ := hg.form;have H0 : Shh (Sl w w.heap.size (.slice As seed.length cs) seed /\ Sl w w.heap.size (.slice Am m.length cm) m /\ Sl w w.heap.size (.slice Ag sig.length cg) sig /\ Tabs w /\ sig.length <= cg) := ⟨hs, hm, hg, ht, hcg⟩;clear hs hm hg ht hcg
 have HC : Shh (∀ (v : Value) (B : Nat) W, PartsO W B B v [seed, m] -> B <= W.heap.size -> Calls Tryz.prog 95 #[.agg #[.int .u32 xc, .bool xs, .int .i64 32, .int .i64 xh, .int .i64 67], v] W (OldIs (.int .i64 0) W)) := ⟨fun v B W h hB => by
  have h1 := check_any (⟨xc, xs, 32, xh, 67⟩ : S5) hw v [seed, m] B B W h hB (by simp);rw [show badE (⟨xc, xs, 32, xh, 67⟩ : S5) [seed, m] = 0 from badE_of hx (fun b hb => by simp only [List.mem_cons, List.not_mem_nil, or_false] at hb; rcases hb with rfl | rfl <;> (first | (rw [hsl]; rfl) | (rw [hml]; rfl)))] at h1
  exact h1⟩
 have HWK : Shh (∀ (g : Nat) W, Sl W W.heap.size (.slice As seed.length cs) seed -> Tabs W -> g < W.heap.size -> Calls Tryz.prog 105 #[.agg #[.int .u32 xc, .bool xs, .int .i64 32, .int .i64 xh, .int .i64 67], .slice As seed.length cs] W (WalkerIs W g (⟨xc, xs, 32, xh, 67⟩ : S5) seed)) := ⟨fun g W h1 h2 h3 => walker_any (⟨xc, xs, 32, xh, 67⟩ : S5) hx _ seed W h1 (by omega) h2 g h3⟩;have HDG : Shh (∀ W, Sl W W.heap.size (.slice Am m.length cm) m -> Calls Tryz.prog 97 #[.slice Am m.length cm] W (IntsIs W (dig10 m))) := ⟨fun W h => digits_any _ m W h (by omega)⟩;have HLE : Shh (∀ k, k <= 67 -> (onB xs 32 seed a (fun i => (dig10 m).getD i 0) sig k).length = 32 * k) := ⟨fun k hk => onB_len (x := (⟨xc, xs, 32, xh, 67⟩ : S5)) hx seed a (fun i => (dig10 m).getD i 0) sig 67 k (by rw [hgl]; rfl) hk⟩;have HD : Shh ((dig10 m).length = 67 /\ ∀ d ∈ dig10 m, d <= 15) := ⟨by rw [dig10_length]; omega, dig10_lt m (by omega)⟩
 have HGO : Shh (∀ a b f k, (goB xs 32 seed a b f k).length = 32 ∨ b.length ≠ 32) := ⟨fun a b f k => by
  by_cases hb : b.length = 32
  ·exact .inl (goB_length (x := (⟨xc, xs, 32, xh, 67⟩ : S5)) hx seed a b f k hb)
  ·exact .inr hb⟩
 have hne : ((sig.length : Int) != 2144) = false := by rw [hgl]; decide
 have HSG : Shh (sig.length = 2144) := ⟨hgl⟩;have hmk := make0_run sig.length (by rw [hgl]; decide);obtain ⟨W0, hW0⟩ : ∃ W0, W0 = (w.alloc (.cells #[.int .u32 xc, .bool xs, .int .i64 32, .int .i64 xh, .int .i64 67] 27)).alloc (.cells (wordCells a).toArray 64) := ⟨_, rfl⟩;have HW0 : Shh (Row W0 w.heap.size 27 [.int .u32 xc, .bool xs, .int .i64 32, .int .i64 xh, .int .i64 67] /\ Row W0 (w.heap.size + 1) 64 (wordCells a) /\ W0.heap.size = w.heap.size + 2 /\ Below w.heap.size w W0) := by
  rw [hW0];exact ⟨(Row.new_ rfl rfl).alloc _, Row.new_ (by rw [asz]) rfl, by rw [asz, asz], Below.chain (below1 _ _) (below1 _ _)⟩
 obtain ⟨W, hW⟩ : ∃ W, W = W0.alloc (.cells #[.slice As seed.length cs, .slice Am m.length cm] 23) := ⟨_, rfl⟩;have HW : Shh (Row W w.heap.size 27 [.int .u32 xc, .bool xs, .int .i64 32, .int .i64 xh, .int .i64 67] /\ Row W (w.heap.size + 1) 64 (wordCells a) /\ PartsO W (w.heap.size + 3) (w.heap.size + 3) (.slice (some ⟨w.heap.size + 2, 0, none⟩) 2 2) [seed, m] /\ w.heap.size + 3 <= W.heap.size /\ Below w.heap.size w W) := by
  have b0 : Below w.heap.size w W := by rw [hW]; exact Below.chain HW0.out.2.2.2 (below1 _ _)
  refine ⟨by rw [hW]; exact HW0.out.1.alloc _, by rw [hW]; exact HW0.out.2.1.alloc _, ?_, by rw [hW, asz, HW0.out.2.2.1]; exact Nat.le_refl _, b0⟩;exact PartsO.two (by omega) (by omega) (by rw [hW]; exact Row.new_ HW0.out.2.2.1.symm rfl) ((H0.out.1.below b0).more (by omega)) (H0.out.1.off (by omega)) ((H0.out.2.1.below b0).more (by omega)) (H0.out.2.1.off (by omega))
 clear hw hx;have HA : Shh (a.length = 8 /\ (wordCells a).length = 8 /\ ∀ k, (wordCells (atA a k)).length = 8) := ⟨ha, by rw [wordCells_length]; exact ha, fun k => by rw [wordCells_length, atA_length]; exact ha⟩;clear ha hsl hml hgl;unfold adrV;go_enter Tryz.func73, Tryz.ntmps73
 go_wp2_with (first | (rw [<- hW0]; refine wpList_load_any rfl 27 (.tmp 5) rfl w.heap.size rfl 27 [.int .u32 xc, .bool xs, .int .i64 32, .int .i64 xh, .int .i64 67] _ HW0.out.1 Tryz.underlying27 rfl info_xms ?_) | (go_at_call 95; rw [<- hW0, <- hW]; refine (HC.out _ _ _ HW.out.2.2.1 HW.out.2.2.2.1).mono ?_))
 try rw [<- hW0, <- hW]
 unfold OldIs;rintro e w2 ⟨rfl, b2⟩;have H2 : Shh (Row w2 w.heap.size 27 [.int .u32 xc, .bool xs, .int .i64 32, .int .i64 xh, .int .i64 67] /\ Row w2 (w.heap.size + 1) 64 (wordCells a) /\ Below w.heap.size w w2) := ⟨HW.out.1.go b2, HW.out.2.1.go b2, Below.chain HW.out.2.2.2.2 b2⟩;clear HW hW b2 HC HW0 hW0;have e2 := H2.out.1.cell 2;have e4 := H2.out.1.cell 4;simp only [List.getElem?_cons_succ, List.getElem?_cons_zero] at e2 e4
 go_wp2_with (first | refine wpList_load_any rfl 27 (.tmp 5) rfl w.heap.size rfl 27 [.int .u32 xc, .bool xs, .int .i64 32, .int .i64 xh, .int .i64 67] _ H2.out.1 Tryz.underlying27 rfl info_xms ?_ | (go_at_call 105; refine (HWK.out (w.heap.size + 1) _ (H0.out.1.go H2.out.2.2) (H0.out.2.2.2.1.go H2.out.2.2) H2.out.2.1.lt).mono ?_))
 unfold WalkerIs;rintro e w3 ⟨v3, rfl, k3, b3⟩;obtain ⟨F, q1, q2, rfl, hcf, hkf⟩ := k3;have HKF := Shh.mk hkf;have H3 : Shh (Row w3 w.heap.size 27 [.int .u32 xc, .bool xs, .int .i64 32, .int .i64 xh, .int .i64 67] /\ Row w3 (w.heap.size + 1) 64 (wordCells a) /\ Below w.heap.size w w3) := ⟨H2.out.1.go b3, H2.out.2.1.go b3, Below.chain H2.out.2.2 b3⟩;clear H2 b3 HWK hkf e2 e4;obtain ⟨W4, hW4⟩ : ∃ W4, W4 = w3.alloc (.cells (Lib.byteCells (List.replicate sig.length 0)).toArray 5) := ⟨_, rfl⟩;obtain ⟨B, hB⟩ : ∃ B, Shh (B = w3.heap.size) := ⟨_, ⟨rfl⟩⟩;have H4 : Shh (Below w3.heap.size w3 W4 /\ Own W4 B (.slice (some ⟨B, 0, none⟩) 0 sig.length) [] /\ B < W4.heap.size) := by
  rw [hW4, hB.out];exact ⟨below1 _ _, World.ownsRow_made w3 _ sig.length (Nat.le_refl _) (by rw [HSG.out]; unfold maxLen; omega) (by simp [Lib.byteCells]), by rw [asz]; omega⟩
 go_wp2_with (go_at_call 97; rw [<- hB.out, <- hW4]; refine (HDG.out _ (H0.out.2.1.go (Below.chain H3.out.2.2 H4.out.1))).mono ?_)
 clear hW4 hne hmk;unfold IntsIs;rintro e w5 ⟨v5, rfl, g5, b5⟩;obtain ⟨gd, cd, rfl⟩ := g5.addr (by rw [HD.out.1]; decide);have H5 : Shh (But w3.heap.size (w.heap.size + 1) w3 w5 /\ Row w5 w.heap.size 27 [.int .u32 xc, .bool xs, .int .i64 32, .int .i64 xh, .int .i64 67] /\ Own w5 B (.slice (some ⟨B, 0, none⟩) 0 sig.length) [] /\ OwnI w5 B (.slice (some ⟨gd, 0, none⟩) (dig10 m).length cd) (dig10 m) /\ Row w5 (w.heap.size + 1) 64 (wordCells a) /\ B <= w5.heap.size) := by
  have b35 := Below.chain H4.out.1 b5;exact ⟨But.of b35 _, H3.out.1.go b35, H4.out.2.1.go b5, g5.base (by have := H4.out.2.2; omega), H3.out.2.1.go b35, by have := H4.out.2.2; have := b5.size; omega⟩
 clear H4 g5 b5 HDG;have HB2 : Shh (w.heap.size + 1 < B /\ Below w.heap.size w w3 /\ B = w3.heap.size) := ⟨by rw [hB.out]; exact H3.out.2.1.lt, H3.out.2.2, hB.out⟩;clear H3;go_wp2;obtain ⟨dl, hdl⟩ : ∃ dl, dl = dig10 m := ⟨_, rfl⟩;have HDL := Shh.mk hdl;rw [<- hdl] at HD H5 HLE ⊢;clear hdl;go_loopw [14, 42] (fun o i wr => ∃ (k : Nat) (a' : List UInt32), k <= 67 /\ i = .int .i64 (k : Int) /\ Shh (a'.length = 8 /\ (∀ i, atA a' i = atA a i) /\ Row wr (w.heap.size + 1) 64 (wordCells a') /\ Row wr w.heap.size 27 [.int .u32 xc, .bool xs, .int .i64 32, .int .i64 xh, .int .i64 67] /\ But w3.heap.size (w.heap.size + 1) w3 wr /\ B <= wr.heap.size) /\ Shh (OwnI wr B (.slice (some ⟨gd, 0, none⟩) dl.length cd) dl) /\ Shh (Own wr B o (onB xs 32 seed a (fun i => dl.getD i 0) sig k))) (fun _ i _ => 67 - (intOf i).toNat)
 case atStart => exact ⟨0, a, Nat.zero_le _, rfl, ⟨HA.out.1, fun _ => rfl, H5.out.2.2.2.2.1, H5.out.2.1, H5.out.1, H5.out.2.2.2.2.2⟩, ⟨H5.out.2.2.2.1⟩, ⟨H5.out.2.2.1⟩⟩
 case round =>
  clear H5;obtain ⟨k, a', hk, rfl, HL, HDI, HO⟩ := hrel;have ho := HO.out;obtain ⟨Ao, co, rfl⟩ := own_form ho;clear ho;have HBW : Shh (Below w.heap.size w wr) := ⟨HB2.out.2.1.trans (HL.out.2.2.2.2.1.under (by have := HB2.out; omega) (by omega))⟩
  by_cases hlt : k < 67
  ·obtain ⟨dk, hdk⟩ : ∃ dk, dk = dl.getD k 0 := ⟨_, rfl⟩;have hkd : k < dl.length := by rw [HD.out.1]; exact hlt
   have hdg : dl[k] = dk := by rw [hdk, List.getD_eq_getElem?_getD, List.getElem?_eq_getElem hkd]; rfl
   have hd16 : dk <= 15 := by rw [<- hdg]; exact HD.out.2 _ (List.getElem_mem hkd)
   obtain ⟨gd', hAd, hgd, hgd2, hcd⟩ := (SI.of_own HDI.out).at_ (by omega);cases hAd;have hck := hcd k hkd;rw [hdg] at hck;clear hcd;have hkdi : (k : Int) < (dl.length : Int) := by omega
   have hkq : (k : Int) % 4294967296 = (k : Int) := by omega
   have HE : Shh ((onB xs 32 seed a (fun i => dl.getD i 0) sig (k + 1)) = (onB xs 32 seed a (fun i => dl.getD i 0) sig k) ++ goB xs 32 seed (atA a k) (pieceB 32 sig k) dk (15 - dk) /\ (onB xs 32 seed a (fun i => dl.getD i 0) sig k).length <= 3000 /\ (goB xs 32 seed (atA a k) (pieceB 32 sig k) dk (15 - dk)).length = 32 /\ (pieceB 32 sig k).length = 32) := by
    have hp : (pieceB 32 sig k).length = 32 := pieceB_length 32 sig k 67 (by rw [HSG.out]) hlt;refine ⟨by rw [hdk]; exact onB_step xs 32 seed a (fun i => dl.getD i 0) sig k, by rw [HLE.out k (by omega)]; omega, ?_, hp⟩
    rcases HGO.out (atA a k) (pieceB 32 sig k) dk (15 - dk) with h | h
    ·exact h
    ·exact absurd hp h
   obtain ⟨i1, hi1⟩ : ∃ i1, i1 = k * 32 := ⟨_, rfl⟩;obtain ⟨i2, hi2⟩ : ∃ i2, i2 = (k + 1) * 32 := ⟨_, rfl⟩;have hi12 : i1 <= i2 /\ i2 <= 2144 := by omega
   have hm1 : IntKind.i64.wrap ((k : Int) * 32) = (i1 : Int) := by rw [IntKind.wrap_i64]; omega
   have hm2 : IntKind.i64.wrap (((k : Int) + 1) * 32) = (i2 : Int) := by rw [IntKind.wrap_i64]; omega
   have h15 : IntKind.i64.wrap ((15 : Int) - (dk : Int)) = ((15 - dk : Nat) : Int) := by rw [IntKind.wrap_i64]; omega
   have hk1 : IntKind.i64.wrap ((k : Int) + 1) = (k : Int) + 1 := by rw [IntKind.wrap_i64]; omega
   have HP : Shh (pieceB 32 sig k = (sig.take i2).drop i1) := ⟨by rw [hi1, hi2]; rfl⟩;obtain ⟨d2, hd2⟩ : ∃ d2, d2 = 15 - dk := ⟨_, rfl⟩;rw [<- hd2] at h15 HE;have hd215 : dk + d2 <= 15 := by omega
   rw [HP.out] at HE;obtain ⟨Ap, cp, runP, sP0⟩ := slice_mid10 H0.out.2.2.1 i1 i2 hi12.1 (by rw [HSG.out]; exact hi12.2) H0.out.2.2.2.2;have HPS : Shh (Sl w w.heap.size (.slice Ap ((sig.take i2).drop i1).length cp) ((sig.take i2).drop i1)) := ⟨sP0⟩;clear sP0;generalize (sig.take i2).drop i1 = pc at HPS HE runP;obtain ⟨nb, hnb⟩ : ∃ nb, nb = goB xs 32 seed (atA a k) pc dk d2 := ⟨_, rfl⟩;have HNB : Shh (nb = goB xs 32 seed (atA a k) pc dk d2) := ⟨hnb⟩;rw [<- hnb] at HE;clear hnb hdk hdg hd2 hi1 hi2 HP;obtain ⟨E2, hE2⟩ : ∃ E2, E2 = (onB xs 32 seed a (fun i => dl.getD i 0) sig (k + 1)) := ⟨_, rfl⟩;have HE2 : Shh (E2 = (onB xs 32 seed a (fun i => dl.getD i 0) sig (k + 1))) := ⟨hE2⟩;rw [<- hE2] at HE;clear hE2;generalize (onB xs 32 seed a (fun i => dl.getD i 0) sig k) = E at HE HO;obtain ⟨y5, c5⟩ : ∃ y : Int, wr.cell? ⟨w.heap.size + 1, 5, none⟩ = some (.int .u32 y) := ⟨_, wordRow_cell HL.out.2.2.1 5 (by rw [HL.out.1]; decide)⟩;have f5 := HL.out.2.2.1.free 5;obtain ⟨Z, hZ⟩ : ∃ Z, Z = wr.setCell ⟨w.heap.size + 1, 5, none⟩ (.int .u32 (k : Int)) := ⟨_, rfl⟩;have HZ : Shh (Row Z w.heap.size 27 [.int .u32 xc, .bool xs, .int .i64 32, .int .i64 xh, .int .i64 67] /\ Row Z (w.heap.size + 1) 64 (wordCells (atA a k)) /\ Below w.heap.size w Z /\ But w3.heap.size (w.heap.size + 1) w3 Z /\ Own Z B (.slice Ao E.length co) E /\ OwnI Z B (.slice (some ⟨gd, 0, none⟩) dl.length cd) dl /\ B <= Z.heap.size) := by
    rw [hZ];refine ⟨HL.out.2.2.2.1.other _ _ (by show w.heap.size ≠ w.heap.size + 1; omega), ?_, HBW.out.setCell (Nat.le_succ _) _, HL.out.2.2.2.2.1.setCell _ _, ownsRow_setCell_below HO.out HB2.out.1 _, ownsRow_setCell_below HDI.out HB2.out.1 _, by simpa using HL.out.2.2.2.2.2⟩;rw [<- HL.out.2.1 k];exact wordRow_set HL.out.2.2.1 5 k (by omega)
   clear HL HDI HO HBW
   go_wp2_with fail
   rw [<- hZ];clear hZ c5 f5 hck hgd hgd2 hkdi hkq;refine wp_region_held_drew (S := fun w' => Row w' w.heap.size 27 [.int .u32 xc, .bool xs, .int .i64 32, .int .i64 xh, .int .i64 67] /\ Row w' (w.heap.size + 1) 64 (wordCells (atA a k))) (by kernel_rfl) ⟨HZ.out.1.drew, HZ.out.2.1.drew⟩ (fun hS => ?_);clear hS;obtain ⟨V, hV⟩ : ∃ V, V = World.drew Z := ⟨_, rfl⟩;rw [<- hV];have rX : Row V w.heap.size 27 [.int .u32 xc, .bool xs, .int .i64 32, .int .i64 xh, .int .i64 67] := by rw [hV]; exact HZ.out.1.drew
   have rA : Row V (w.heap.size + 1) 64 (wordCells (atA a k)) := by rw [hV]; exact HZ.out.2.1.drew
   have HBV : Below w.heap.size w V := by rw [hV]; exact HZ.out.2.2.1.drew
   have HBu : But w3.heap.size (w.heap.size + 1) w3 V := by rw [hV]; exact HZ.out.2.2.2.1.drew
   have oE : Own V B (.slice Ao E.length co) E := by rw [hV]; exact HZ.out.2.2.2.2.1.drew
   have oD : OwnI V B (.slice (some ⟨gd, 0, none⟩) dl.length cd) dl := by rw [hV]; exact HZ.out.2.2.2.2.2.1.drew
   have hBV : B <= V.heap.size := by rw [hV]; exact HZ.out.2.2.2.2.2.2
   have sP : Sl V V.heap.size (.slice Ap pc.length cp) pc := HPS.out.go HBV;have rT : Tabs V := H0.out.2.2.2.1.go HBV;clear hV HZ HPS;refine hdv0 0 50 (.slice Ao E.length co) (by rfl) (⟨rX, rA⟩) ?_;refine hdv0 1 51 (.func (.func F) #[] #[q1, q2]) (by rfl) (⟨rX, rA⟩) ?_;refine hdv0 2 52 (.slice Ag sig.length cg) (by rfl) (⟨rX, rA⟩) ?_;refine hdv0 3 53 (.int .i64 (k : Int)) (by rfl) (⟨rX, rA⟩) ?_;refine hdv0 4 54 (.pointer (some ⟨w.heap.size, 2, none⟩)) (by rfl) (⟨rX, rA⟩) ?_;refine hdv 5 55 (.int .i64 32) (by rfl) (fun w hS => by have h2 := hS.1.cell 2; simp only [List.getElem?_cons_succ, List.getElem?_cons_zero] at h2; go_simp) (⟨rX, rA⟩) ?_;refine hdv 6 56 (.int .i64 (i1 : Int)) (by rfl) (fun w hS => by go_simp) (⟨rX, rA⟩) ?_;refine hdv0 7 57 (.int .i64 (k : Int)) (by rfl) (⟨rX, rA⟩) ?_;refine hdv 8 58 (.int .i64 ((k : Int) + 1)) (by rfl) (fun w hS => by go_simp) (⟨rX, rA⟩) ?_;refine hdv0 9 59 (.pointer (some ⟨w.heap.size, 2, none⟩)) (by rfl) (⟨rX, rA⟩) ?_;refine hdv 10 60 (.int .i64 32) (by rfl) (fun w hS => by have h2 := hS.1.cell 2; simp only [List.getElem?_cons_succ, List.getElem?_cons_zero] at h2; go_simp) (⟨rX, rA⟩) ?_;refine hdv 11 61 (.int .i64 (i2 : Int)) (by rfl) (fun w hS => by go_simp) (⟨rX, rA⟩) ?_;refine hdv 12 62 (.slice Ap pc.length cp) (by rfl) (fun w hS => run_slice_op_lh ⟨rfl, rfl, rfl⟩ (runP w)) (⟨rX, rA⟩) ?_;refine hdv0 13 63 (.int .i64 (dk : Int)) (by rfl) (⟨rX, rA⟩) ?_;refine hdv0 14 64 (.int .i64 (dk : Int)) (by rfl) (⟨rX, rA⟩) ?_;refine hdv 15 65 (.int .i64 (d2 : Int)) (by rfl) (fun w hS => by go_simp) (⟨rX, rA⟩) ?_;refine held_load 16 64 (.tmp 9) (some 66) (by kernel_rfl) (by rfl) (by kernel_rfl) (w.heap.size + 1) 0 (by kernel_rfl) (wordCells (atA a k)) _ (fun w h => h.2.range) Tryz.underlying64 rfl (info_adr10 (HA.out.2.2 k)) (fun _ _ _ _ h => h) (⟨rX, rA⟩) ?_;simp only [Act.put, arr9, hd9, tl9];refine held_one 17 (by kernel_rfl) ?_;refine step_call 17 _ _ (some 67) F #[.slice Ap pc.length cp, .int .i64 (dk : Int), .int .i64 (d2 : Int), .agg (wordCells (atA a k)).toArray, q1, q2] (by rfl) (by kernel_rfl) (by go_simp) ?_;refine (HKF.out V _ pc dk d2 (atA a k) (HBu.chain (But.of (Below.refl _ _) _)) (rT) (sP) HE.out.2.2.2 hd215 (by rw [atA_length]; exact HA.out.1)).mono ?_;rintro e Y1 ⟨vr, rfl, gr, br, or⟩;have bx : Below V.heap.size V Y1 := br;have sR : Sl Y1 Y1.heap.size vr nb := by rw [HNB.out]; exact gr
   clear gr or;have b_V := bx;have m_Y1 : V.heap.size <= Y1.heap.size := bx.size;clear bx;refine ⟨_, rfl, ⟨(rX.go b_V), (rA.go b_V)⟩, ?_⟩;simp only [Act.put, arr9, hd9, tl9];refine held_one 18 (by kernel_rfl) ?_;obtain ⟨i0, hi, hz0, hz1, hz2⟩ := info_parts info_u8;refine step_appendSl Y1 18 _ (some 68) 23 5 i0 Tryz.underlying23 hi hz0 hz1 hz2 (.tmp 50) (.tmp 67) (by rfl) (by kernel_rfl) ((oE.go b_V)) (sR) (by rw [HE.out.2.2.1]; decide) rfl rfl (by rw [HE.out.2.2.1]; have := HE.out.2.1; omega) (Nat.le_trans hBV (b_V).size) (fun v9 Y2 o9 g9 b9 => ?_);rw [<- HE.out.1] at o9;have q0 : Row Y2 w.heap.size 27 [.int .u32 xc, .bool xs, .int .i64 32, .int .i64 xh, .int .i64 67] := ((rX.go b_V)).below (b9 _ (Nat.le_refl _)) (by have := HB2.out; omega);have q1x : Row Y2 (w.heap.size + 1) 64 (wordCells (atA a k)) := ((rA.go b_V)).below (b9 _ (Nat.le_refl _)) (by have := HB2.out; omega);have q2x : OwnI Y2 B (.slice (some ⟨gd, 0, none⟩) dl.length cd) dl := World.ownsRow.kept ((oD.go b_V)) g9 (own_apart ((oD.go b_V)) ((oE.go b_V)));have q3 : But w3.heap.size (w.heap.size + 1) w3 Y2 := (HBu.chain (But.of b_V _)).trans (But.of (b9 _ (by have := HB2.out; omega)) _);have q4 : B <= Y2.heap.size := Nat.le_trans (Nat.le_trans hBV (b_V).size) (b9 _ (Nat.le_refl _)).size;replace rX := q0;replace rA := q1x;refine ⟨⟨rX, rA⟩, ?_⟩;simp only [Act.put, arr9, hd9, tl9];refine hdv0 19 14 (v9) (by rfl) (⟨rX, rA⟩) ?_;refine wpAnyH_done (by kernel_rfl) ?_ _;have H9 : Shh ((atA a k).length = 8 /\ (∀ i, atA (atA a k) i = atA a i) /\ Row Y2 (w.heap.size + 1) 64 (wordCells (atA a k)) /\ Row Y2 w.heap.size 27 [.int .u32 xc, .bool xs, .int .i64 32, .int .i64 xh, .int .i64 67] /\ But w3.heap.size (w.heap.size + 1) w3 Y2 /\ B <= Y2.heap.size) := ⟨by rw [atA_length]; exact HA.out.1, fun i => atA_again a k i, q1x, q0, q3, q4⟩;have H10 : Shh (OwnI Y2 B (.slice (some ⟨gd, 0, none⟩) dl.length cd) dl) := ⟨q2x⟩;have H11 : Shh (Own Y2 B v9 (onB xs 32 seed a (fun i => dl.getD i 0) sig (k + 1))) := ⟨by rw [<- HE2.out]; exact o9⟩;clear q0 q1x q2x q3 q4 o9 g9 b9 HBV HBu oE oD hBV sP rT rX rA runP HE HE2 hm1 hm2 h15 hk1 HNB hd215;go_wp2
   go_roundw
   case rel => exact ⟨k + 1, _, by omega, by go_num, H9, H10, H11⟩
   case measure => simp [intOf]; omega
  ·have hkd : ¬ ((k : Int) < (dl.length : Int)) := by have := HD.out.1; omega
   have HR : Shh (Sl wr wr.heap.size (.slice Ao (onB xs 32 seed a (fun i => dl.getD i 0) sig k).length co) (onB xs 32 seed a (fun i => (dig10 m).getD i 0) sig 67) /\ Below w.heap.size w wr) := ⟨by
    rw [<- HDL.out];have hk2 : k = 67 := by omega
    have h := Sl.of_own HO.out;rw [hk2] at h ⊢
    exact h, HBW.out⟩
   clear HL HDI HO HBW HLE HGO;go_wp2;go_ret2;exact ⟨_, rfl, HR.out⟩
set_option maxHeartbeats 1000000 in
theorem fromSigB_any (x : S5) (hw : x.wf) (vs vm vg : Value) (seed m sig : List UInt8) (a : List UInt32) (ha : a.length = 8) (w : World) (hs : Sl w w.heap.size vs seed) (hm : Sl w w.heap.size vm m) (hg : Sl w w.heap.size vg sig) (hb : badE x [seed, m] ≠ 0) :
  Calls Tryz.prog 73 #[x.v, vs, vm, vg, adrV a] w (ResIs w (badE x [seed, m]) []) := by
 unfold ResIs;obtain ⟨As, cs, rfl, _, _⟩ := hs.form;obtain ⟨Am, cm, rfl, _, _⟩ := hm.form;obtain ⟨Ag, cg, rfl, _, _⟩ := hg.form;have H0 : Shh (Sl w w.heap.size (.slice As seed.length cs) seed /\ Sl w w.heap.size (.slice Am m.length cm) m) := ⟨hs, hm⟩;clear hs hm hg
 have HC : Shh (∀ (v : Value) (B : Nat) W, PartsO W B B v [seed, m] -> B <= W.heap.size -> Calls Tryz.prog 95 #[x.v, v] W (OldIs (.int .i64 (badE x [seed, m])) W)) := ⟨fun v B W h hB => by
  have h1 := check_any x hw v [seed, m] B B W h hB (by simp)
  exact h1⟩
 obtain ⟨er, her⟩ : ∃ er, er = badE x [seed, m] := ⟨_, rfl⟩;rw [<- her] at HC hb ⊢;have hne0 : (er != 0) = true := by simp [hb]
 obtain ⟨W0, hW0⟩ : ∃ W0, W0 = (w.alloc (.cells #[.int .u32 x.c, .bool x.s, .int .i64 x.n, .int .i64 x.h, .int .i64 x.l] 27)).alloc (.cells (wordCells a).toArray 64) := ⟨_, rfl⟩;have HW0 : Shh (Row W0 w.heap.size 27 [.int .u32 x.c, .bool x.s, .int .i64 x.n, .int .i64 x.h, .int .i64 x.l] /\ Row W0 (w.heap.size + 1) 64 (wordCells a) /\ W0.heap.size = w.heap.size + 2 /\ Below w.heap.size w W0) := by
  rw [hW0];exact ⟨(Row.new_ rfl rfl).alloc _, Row.new_ (by rw [asz]) rfl, by rw [asz, asz], Below.chain (below1 _ _) (below1 _ _)⟩
 obtain ⟨W, hW⟩ : ∃ W, W = W0.alloc (.cells #[.slice As seed.length cs, .slice Am m.length cm] 23) := ⟨_, rfl⟩;have HW : Shh (Row W w.heap.size 27 [.int .u32 x.c, .bool x.s, .int .i64 x.n, .int .i64 x.h, .int .i64 x.l] /\ PartsO W (w.heap.size + 3) (w.heap.size + 3) (.slice (some ⟨w.heap.size + 2, 0, none⟩) 2 2) [seed, m] /\ w.heap.size + 3 <= W.heap.size /\ Below w.heap.size w W) := by
  have b0 : Below w.heap.size w W := by rw [hW]; exact Below.chain HW0.out.2.2.2 (below1 _ _)
  refine ⟨by rw [hW]; exact HW0.out.1.alloc _, ?_, by rw [hW, asz, HW0.out.2.2.1]; exact Nat.le_refl _, b0⟩;exact PartsO.two (by omega) (by omega) (by rw [hW]; exact Row.new_ HW0.out.2.2.1.symm rfl) ((H0.out.1.below b0).more (by omega)) (H0.out.1.off (by omega)) ((H0.out.2.below b0).more (by omega)) (H0.out.2.off (by omega))
 have HA : Shh ((wordCells a).length = 8) := ⟨by rw [wordCells_length]; exact ha⟩;clear ha H0 hw hb her;unfold adrV;unfold S5.v at HC ⊢;generalize x.c = xc at *;generalize x.s = xs at *;generalize x.n = xn at *;generalize x.h = xh at *;generalize x.l = xl at *;go_enter Tryz.func73, Tryz.ntmps73
 go_wp2_with (first | (rw [<- hW0]; refine wpList_load_any rfl 27 (.tmp 5) rfl w.heap.size rfl 27 [.int .u32 xc, .bool xs, .int .i64 xn, .int .i64 xh, .int .i64 xl] _ HW0.out.1 Tryz.underlying27 rfl info_xms ?_) | (go_at_call 95; rw [<- hW0, <- hW]; refine (HC.out _ _ _ HW.out.2.1 HW.out.2.2.1).mono ?_))
 try rw [<- hW0, <- hW]
 unfold OldIs;rintro e w2 ⟨rfl, b2⟩;have H2 : Shh (Row w2 w.heap.size 27 [.int .u32 xc, .bool xs, .int .i64 xn, .int .i64 xh, .int .i64 xl] /\ Below w.heap.size w w2) := ⟨HW.out.1.go b2, Below.chain HW.out.2.2.2 b2⟩;clear HW hW b2 HC HW0 hW0;have e2 := H2.out.1.cell 2;have e4 := H2.out.1.cell 4;simp only [List.getElem?_cons_succ, List.getElem?_cons_zero] at e2 e4;have HR := Shh.mk H2.out.2;clear H2;go_wp2;go_ret2;exact ⟨_, rfl, Sl.nil_, HR.out⟩
set_option maxHeartbeats 1000000 in
theorem fromSigL_24 (xc : Int) (xs : Bool) (xh : Int) (hw : (⟨xc, xs, 24, xh, 51⟩ : S5).wf) (vs vm vg : Value) (seed m sig : List UInt8) (a : List UInt32) (ha : a.length = 8) (w : World) (hs : Sl w w.heap.size vs seed) (hm : Sl w w.heap.size vm m) (hg : Sl w w.heap.size vg sig) (hb : badE (⟨xc, xs, 24, xh, 51⟩ : S5) [seed, m] = 0) (hl : sig.length ≠ 1224) :
  Calls Tryz.prog 73 #[.agg #[.int .u32 xc, .bool xs, .int .i64 24, .int .i64 xh, .int .i64 51], vs, vm, vg, adrV a] w (ResIs w 1 []) := by
 unfold ResIs;obtain ⟨As, cs, rfl, _, _⟩ := hs.form;obtain ⟨Am, cm, rfl, _, _⟩ := hm.form;obtain ⟨Ag, cg, rfl, _, _⟩ := hg.form;have H0 : Shh (Sl w w.heap.size (.slice As seed.length cs) seed /\ Sl w w.heap.size (.slice Am m.length cm) m) := ⟨hs, hm⟩;clear hs hm hg
 have HC : Shh (∀ (v : Value) (B : Nat) W, PartsO W B B v [seed, m] -> B <= W.heap.size -> Calls Tryz.prog 95 #[.agg #[.int .u32 xc, .bool xs, .int .i64 24, .int .i64 xh, .int .i64 51], v] W (OldIs (.int .i64 (0)) W)) := ⟨fun v B W h hB => by
  have h1 := check_any (⟨xc, xs, 24, xh, 51⟩ : S5) hw v [seed, m] B B W h hB (by simp);rw [hb] at h1
  exact h1⟩
 have hne : ((sig.length : Int) != 1224) = true := by rw [bne_iff_ne]; omega
 obtain ⟨W0, hW0⟩ : ∃ W0, W0 = (w.alloc (.cells #[.int .u32 xc, .bool xs, .int .i64 24, .int .i64 xh, .int .i64 51] 27)).alloc (.cells (wordCells a).toArray 64) := ⟨_, rfl⟩;have HW0 : Shh (Row W0 w.heap.size 27 [.int .u32 xc, .bool xs, .int .i64 24, .int .i64 xh, .int .i64 51] /\ Row W0 (w.heap.size + 1) 64 (wordCells a) /\ W0.heap.size = w.heap.size + 2 /\ Below w.heap.size w W0) := by
  rw [hW0];exact ⟨(Row.new_ rfl rfl).alloc _, Row.new_ (by rw [asz]) rfl, by rw [asz, asz], Below.chain (below1 _ _) (below1 _ _)⟩
 obtain ⟨W, hW⟩ : ∃ W, W = W0.alloc (.cells #[.slice As seed.length cs, .slice Am m.length cm] 23) := ⟨_, rfl⟩;have HW : Shh (Row W w.heap.size 27 [.int .u32 xc, .bool xs, .int .i64 24, .int .i64 xh, .int .i64 51] /\ PartsO W (w.heap.size + 3) (w.heap.size + 3) (.slice (some ⟨w.heap.size + 2, 0, none⟩) 2 2) [seed, m] /\ w.heap.size + 3 <= W.heap.size /\ Below w.heap.size w W) := by
  have b0 : Below w.heap.size w W := by rw [hW]; exact Below.chain HW0.out.2.2.2 (below1 _ _)
  refine ⟨by rw [hW]; exact HW0.out.1.alloc _, ?_, by rw [hW, asz, HW0.out.2.2.1]; exact Nat.le_refl _, b0⟩;exact PartsO.two (by omega) (by omega) (by rw [hW]; exact Row.new_ HW0.out.2.2.1.symm rfl) ((H0.out.1.below b0).more (by omega)) (H0.out.1.off (by omega)) ((H0.out.2.below b0).more (by omega)) (H0.out.2.off (by omega))
 have HA : Shh ((wordCells a).length = 8) := ⟨by rw [wordCells_length]; exact ha⟩;clear ha H0 hw hb;unfold adrV;go_enter Tryz.func73, Tryz.ntmps73
 go_wp2_with (first | (rw [<- hW0]; refine wpList_load_any rfl 27 (.tmp 5) rfl w.heap.size rfl 27 [.int .u32 xc, .bool xs, .int .i64 24, .int .i64 xh, .int .i64 51] _ HW0.out.1 Tryz.underlying27 rfl info_xms ?_) | (go_at_call 95; rw [<- hW0, <- hW]; refine (HC.out _ _ _ HW.out.2.1 HW.out.2.2.1).mono ?_))
 try rw [<- hW0, <- hW]
 unfold OldIs;rintro e w2 ⟨rfl, b2⟩;have H2 : Shh (Row w2 w.heap.size 27 [.int .u32 xc, .bool xs, .int .i64 24, .int .i64 xh, .int .i64 51] /\ Below w.heap.size w w2) := ⟨HW.out.1.go b2, Below.chain HW.out.2.2.2 b2⟩;clear HW hW b2 HC HW0 hW0;have e2 := H2.out.1.cell 2;have e4 := H2.out.1.cell 4;simp only [List.getElem?_cons_succ, List.getElem?_cons_zero] at e2 e4;have HR := Shh.mk H2.out.2;clear H2;go_wp2;go_ret2;exact ⟨_, rfl, Sl.nil_, HR.out⟩
set_option maxHeartbeats 1000000 in
theorem fromSigL_32 (xc : Int) (xs : Bool) (xh : Int) (hw : (⟨xc, xs, 32, xh, 67⟩ : S5).wf) (vs vm vg : Value) (seed m sig : List UInt8) (a : List UInt32) (ha : a.length = 8) (w : World) (hs : Sl w w.heap.size vs seed) (hm : Sl w w.heap.size vm m) (hg : Sl w w.heap.size vg sig) (hb : badE (⟨xc, xs, 32, xh, 67⟩ : S5) [seed, m] = 0) (hl : sig.length ≠ 2144) :
  Calls Tryz.prog 73 #[.agg #[.int .u32 xc, .bool xs, .int .i64 32, .int .i64 xh, .int .i64 67], vs, vm, vg, adrV a] w (ResIs w 1 []) := by
 unfold ResIs;obtain ⟨As, cs, rfl, _, _⟩ := hs.form;obtain ⟨Am, cm, rfl, _, _⟩ := hm.form;obtain ⟨Ag, cg, rfl, _, _⟩ := hg.form;have H0 : Shh (Sl w w.heap.size (.slice As seed.length cs) seed /\ Sl w w.heap.size (.slice Am m.length cm) m) := ⟨hs, hm⟩;clear hs hm hg
 have HC : Shh (∀ (v : Value) (B : Nat) W, PartsO W B B v [seed, m] -> B <= W.heap.size -> Calls Tryz.prog 95 #[.agg #[.int .u32 xc, .bool xs, .int .i64 32, .int .i64 xh, .int .i64 67], v] W (OldIs (.int .i64 (0)) W)) := ⟨fun v B W h hB => by
  have h1 := check_any (⟨xc, xs, 32, xh, 67⟩ : S5) hw v [seed, m] B B W h hB (by simp);rw [hb] at h1
  exact h1⟩
 have hne : ((sig.length : Int) != 2144) = true := by rw [bne_iff_ne]; omega
 obtain ⟨W0, hW0⟩ : ∃ W0, W0 = (w.alloc (.cells #[.int .u32 xc, .bool xs, .int .i64 32, .int .i64 xh, .int .i64 67] 27)).alloc (.cells (wordCells a).toArray 64) := ⟨_, rfl⟩;have HW0 : Shh (Row W0 w.heap.size 27 [.int .u32 xc, .bool xs, .int .i64 32, .int .i64 xh, .int .i64 67] /\ Row W0 (w.heap.size + 1) 64 (wordCells a) /\ W0.heap.size = w.heap.size + 2 /\ Below w.heap.size w W0) := by
  rw [hW0];exact ⟨(Row.new_ rfl rfl).alloc _, Row.new_ (by rw [asz]) rfl, by rw [asz, asz], Below.chain (below1 _ _) (below1 _ _)⟩
 obtain ⟨W, hW⟩ : ∃ W, W = W0.alloc (.cells #[.slice As seed.length cs, .slice Am m.length cm] 23) := ⟨_, rfl⟩;have HW : Shh (Row W w.heap.size 27 [.int .u32 xc, .bool xs, .int .i64 32, .int .i64 xh, .int .i64 67] /\ PartsO W (w.heap.size + 3) (w.heap.size + 3) (.slice (some ⟨w.heap.size + 2, 0, none⟩) 2 2) [seed, m] /\ w.heap.size + 3 <= W.heap.size /\ Below w.heap.size w W) := by
  have b0 : Below w.heap.size w W := by rw [hW]; exact Below.chain HW0.out.2.2.2 (below1 _ _)
  refine ⟨by rw [hW]; exact HW0.out.1.alloc _, ?_, by rw [hW, asz, HW0.out.2.2.1]; exact Nat.le_refl _, b0⟩;exact PartsO.two (by omega) (by omega) (by rw [hW]; exact Row.new_ HW0.out.2.2.1.symm rfl) ((H0.out.1.below b0).more (by omega)) (H0.out.1.off (by omega)) ((H0.out.2.below b0).more (by omega)) (H0.out.2.off (by omega))
 have HA : Shh ((wordCells a).length = 8) := ⟨by rw [wordCells_length]; exact ha⟩;clear ha H0 hw hb;unfold adrV;go_enter Tryz.func73, Tryz.ntmps73
 go_wp2_with (first | (rw [<- hW0]; refine wpList_load_any rfl 27 (.tmp 5) rfl w.heap.size rfl 27 [.int .u32 xc, .bool xs, .int .i64 32, .int .i64 xh, .int .i64 67] _ HW0.out.1 Tryz.underlying27 rfl info_xms ?_) | (go_at_call 95; rw [<- hW0, <- hW]; refine (HC.out _ _ _ HW.out.2.1 HW.out.2.2.1).mono ?_))
 try rw [<- hW0, <- hW]
 unfold OldIs;rintro e w2 ⟨rfl, b2⟩;have H2 : Shh (Row w2 w.heap.size 27 [.int .u32 xc, .bool xs, .int .i64 32, .int .i64 xh, .int .i64 67] /\ Below w.heap.size w w2) := ⟨HW.out.1.go b2, Below.chain HW.out.2.2.2 b2⟩;clear HW hW b2 HC HW0 hW0;have e2 := H2.out.1.cell 2;have e4 := H2.out.1.cell 4;simp only [List.getElem?_cons_succ, List.getElem?_cons_zero] at e2 e4;have HR := Shh.mk H2.out.2;clear H2;go_wp2;go_ret2;exact ⟨_, rfl, Sl.nil_, HR.out⟩
theorem FromSig_any (x : S5) (hw : x.wf) (vs vm vg : Value) (seed m sig : List UInt8) (a : List UInt32) (ha : a.length = 8) (w : World) (hs : Sl w w.heap.size vs seed) (hm : Sl w w.heap.size vm m) (hg : Sl w w.heap.size vg sig) (ht : Tabs w) :
  Calls Tryz.prog 73 #[x.v, vs, vm, vg, adrV a] w (ResIs w (fsE x seed m sig) (fsB x seed m sig a)) := by
 by_cases hb : badE x [seed, m] = 0
 ·obtain ⟨hx, hall⟩ := badE_ok hb
  by_cases hl : (sig.length : Int) = x.l * x.n
  ·have hE : fsE x seed m sig = 0 := by unfold fsE; rw [if_pos hb, if_pos hl]
   have hB : fsB x seed m sig a = onB x.s x.n seed a (fun i => (dig10 m).getD i 0) sig x.l.toNat := by unfold fsB; rw [if_pos hE]
   rw [hE, hB];have h1 := hall seed (by simp);have h2 := hall m (by simp);have hn := S5.ok_is hx;obtain ⟨c, s, n, h, l⟩ := x;simp only at hn h1 h2 hl
   rcases hn with ⟨rfl, rfl⟩ | ⟨rfl, rfl⟩
   ·exact fromSig_24 c s h hw hx vs vm vg seed m sig a ha w hs hm hg ht (by omega) (by omega) (by omega)
   ·exact fromSig_32 c s h hw hx vs vm vg seed m sig a ha w hs hm hg ht (by omega) (by omega) (by omega)
  ·have hE : fsE x seed m sig = 1 := by unfold fsE; rw [if_pos hb, if_neg hl]
   have hB : fsB x seed m sig a = [] := by unfold fsB; rw [hE]; rfl
   rw [hE, hB];have hn := S5.ok_is hx;obtain ⟨c, s, n, h, l⟩ := x;simp only at hn hl
   rcases hn with ⟨rfl, rfl⟩ | ⟨rfl, rfl⟩
   ·exact fromSigL_24 c s h hw vs vm vg seed m sig a ha w hs hm hg hb (by omega)
   ·exact fromSigL_32 c s h hw vs vm vg seed m sig a ha w hs hm hg hb (by omega)
 ·have hE : fsE x seed m sig = badE x [seed, m] := by unfold fsE; rw [if_neg hb]
  have hB : fsB x seed m sig a = [] := by unfold fsB; rw [hE, if_neg hb]
  rw [hE, hB];exact fromSigB_any x hw vs vm vg seed m sig a ha w hs hm hg hb
end Go.Proofs.YtdakbipiifkmfaaGreatDoor
