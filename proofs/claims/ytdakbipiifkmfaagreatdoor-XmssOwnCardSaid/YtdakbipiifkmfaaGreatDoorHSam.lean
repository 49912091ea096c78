import Derived.WalkKit
import Derived.Test.YtdakbipiifkmfaaGreatDoorProg
import Derived.WalkSpells
import Derived.WalkLawsBesides
import Derived.Lib.UnsafeStr
import Derived.Lib.Hide
import Derived.Laws.BytesArg
import Derived.Deep.Draws
import Derived.RegionTactic
import Derived.ChangeAlike
import Derived.Laws.AppendOwnNone
import Derived.BigQuiet
import Derived.Deep.QuietTactic
import Derived.Deep.MidRow
import Derived.Deep.WholeRow
import Derived.BigRegion
import Derived.Deep.RegionHeld3
import Derived.StillTailTactics
import Derived.Deep.RegionLaw
import Derived.Laws.CopyOwn
import Derived.DeepKeys
import Derived.Lib.SmallJoins
import Derived.Test.YtdakbipiifkmfaaGreatDoorRows
import Derived.ProofKit
import Derived.OpenShut
import Derived.JoinedCond
import Derived.SizedLaws
import Derived.Carry
import Derived.Deep.Grids
import Derived.Lib.ConvBytes
import Derived.Lib.AtoiErrMem
import Derived.Laws.AppendOwn
import Derived.Laws.Cover3
import Derived.Deep.RegionWith
import Derived.Deep.RegionHeld
import Derived.Laws.EntriesVeiled
import Derived.Test.YtdakbipiifkmfaaGreatDoorHK
namespace Go.Proofs.YtdakbipiifkmfaaGreatDoor
open Go.RowKit
set_option maxRecDepth 100000
theorem u8_or (a b : UInt8) : bits .or .u8 a.toNat b.toNat = ((a ||| b).toNat : Int) := by
 rw [(bits_nat .u8 8 (by decide) wraps_u8 _ _ a.toNat_lt b.toNat_lt).2]; simp
theorem u64_or8 (n b : Nat) (hb : b < 256) (hn : n < 72057594037927936) : bits .or .u64 (IntKind.u64.wrap ((n : Int) * 256)) (IntKind.u64.wrap (b : Int)) = ((n * 256 + b : Nat) : Int) := by
 rw [IntKind.wrap_u64, IntKind.wrap_u64];have h1 : ((n : Int) * 256) % 18446744073709551616 = (n : Int) * 256 := by omega
 have h2 : (b : Int) % 18446744073709551616 = b := by omega
 rw [h1, h2, bits_join .u64 64 (by decide) (fun m h0 h1 => by rw [IntKind.wrap_u64]; omega) 8 _ _ (by omega) (by omega) (by omega) (by omega) (by omega) (by omega)];omega
section
variable {P : Program} {ops : Array Oper} {rest : List Oper} {o : Oper} {a : Act} {Q : Exit -> Act -> World -> Prop}
end
theorem bigN_step (bs : List UInt8) (k : Nat) (h : k < bs.length) (h8 : bs.length <= 8) :
  bits .or .u64 (IntKind.u64.wrap ((bigN (bs.take k) : Int) * 256)) (IntKind.u64.wrap (bs[k].toNat : Int)) = (bigN (bs.take (k + 1)) : Int) := by
 have h1 := bigN_take_lt bs k (by omega);have h2 := pow256_le7 (show k <= 7 by omega);have h3 := bs[k].toNat_lt;rw [take_snoc bs k h, bigN_snoc, u64_or8 _ _ (by omega) (by omega)]
theorem or_xor_zero (d a b : UInt8) : d ||| (a ^^^ b) = 0 ↔ d = 0 /\ a = b := by
 rw [UInt8.or_eq_zero_iff, UInt8.xor_eq_zero_iff]
set_option maxHeartbeats 1000000 in
theorem same_any (B B' : Nat) (va vb : Value) (us bs : List UInt8) (w : World) (ha : Sl w B va us) (hb : Sl w B' vb bs) (hl : us.length <= 1099511627776) (_hl2 : bs.length <= 1099511627776) :
  Calls Tryz.prog 74 #[va, vb] w fun e w' => e = .returned (.bool (us == bs)) /\ w = w' := by
 obtain ⟨A, c, rfl, _, _⟩ := ha.form;obtain ⟨A', c', rfl, _, _⟩ := hb.form
 by_cases hlen : us.length = bs.length
 ·have HL := Lib.hid hlen;have ht : ((us.length : Int) != (bs.length : Int)) = false := by rw [bne_eq_false_iff_eq]; omega
  have hl3 : bs.length <= us.length := by omega
  have hl4 : us.length <= bs.length := by omega
  clear hlen;go_enter Tryz.func74, Tryz.ntmps74;go_wp2
  go_loop [5, 15] (fun x i => ∃ (k : Nat) (d : UInt8), k <= us.length /\ i = .int .i64 k /\ x = .int .u8 (d.toNat : Int) /\ Hid (d = 0 ↔ us.take k = bs.take k)) (fun _ i => us.length - (intOf i).toNat)
  case atStart => exact ⟨0, 0, Nat.zero_le _, rfl, rfl, Lib.hid (by simp)⟩
  case round =>
   obtain ⟨k, d, hk, rfl, rfl, hd⟩ := hrel
   by_cases hlt : k < us.length
   ·obtain ⟨b, off, rfl, hbb, hc⟩ := ha.at_ (by omega);obtain ⟨b', off', rfl, hbb', hc'⟩ := hb.at_ (by omega);have hk2 : k < bs.length := by omega
    have hc1 := hc k hlt;have hc2 := hc' k hk2;have HX := Lib.hid (u8_xor us[k] bs[k]);have HO := Lib.hid (u8_or d (us[k] ^^^ bs[k]));have hd2 : Hid (d ||| (us[k] ^^^ bs[k]) = 0 ↔ us.take (k + 1) = bs.take (k + 1)) := by
     apply Lib.hid;rw [or_xor_zero, hd.out, take_snoc us k hlt, take_snoc bs k hk2]
     constructor
     ·rintro ⟨h1, h2⟩; rw [h1, h2]
     ·intro h;have := List.append_inj' h rfl;exact ⟨this.1, by simpa using this.2⟩
    clear hc hc' hd;go_wp2
    go_round
    case rel => exact ⟨k + 1, d ||| (us[k] ^^^ bs[k]), by omega, by go_num, by rw [HX.out, HO.out], hd2⟩
    case measure => simp [intOf]; omega
   ·obtain rfl : k = us.length := by omega
    have HR : Hid (((d.toNat : Int) == 0) = (us == bs)) := by
     apply Lib.hid;have h1 := hd.out;rw [List.take_of_length_le (Nat.le_refl _), List.take_of_length_le (by omega)] at h1
     by_cases h : d = 0
     ·rw [h1.1 h, h]; simp
     ·have h2 : us ≠ bs := fun e => h (h1.2 e)
      rw [beq_eq_false_iff_ne.2 h2, beq_eq_false_iff_ne];intro e;exact h (UInt8.toNat_inj.1 (by simpa using e))
    go_wp2;go_ret;exact ⟨by rw [<- HR.out]; rfl, rfl⟩
 ·have ht : ((us.length : Int) != (bs.length : Int)) = true := by rw [bne_iff_ne]; omega
  have HR : Hid ((us == bs) = false) := Lib.hid (by rw [beq_eq_false_iff_ne]; intro e; exact hlen (by rw [e]));clear hlen;go_enter Tryz.func74, Tryz.ntmps74;go_wp2;go_ret;exact ⟨by rw [HR.out]; rfl, rfl⟩
theorem isXmss_of (xc : Int) (xs : Bool) (xn xh xl : Int) (yc : Int) (ys : Bool) (yn yh yl : Int) (ee : Int) (hxc : (Lit.int .u32 xc).wf = true) (hxn : (Lit.int .i64 xn).wf = true) (hxh : (Lit.int .i64 xh).wf = true) (hxl : (Lit.int .i64 xl).wf = true) (hyc : (Lit.int .u32 yc).wf = true) (hyn : (Lit.int .i64 yn).wf = true) (hyh : (Lit.int .i64 yh).wf = true) (hyl : (Lit.int .i64 yl).wf = true) (hset : ∀ W, Calls Tryz.prog 101 #[.int .u32 xc] W (OldIs (.tuple #[.agg #[.int .u32 yc, .bool ys, .int .i64 yn, .int .i64 yh, .int .i64 yl], .int .i64 ee]) W)) (w : World) :
  Calls Tryz.prog 102 #[.agg #[.int .u32 xc, .bool xs, .int .i64 xn, .int .i64 xh, .int .i64 xl]] w (OldIs (.bool (decide (ee = 0 /\ (xc = yc /\ xs = ys /\ xn = yn /\ xh = yh /\ xl = yl)))) w) := by
 unfold OldIs;have HW : Shh (Row (w.alloc (.cells #[.int .u32 xc, .bool xs, .int .i64 xn, .int .i64 xh, .int .i64 xl] 27)) w.heap.size 27 [.int .u32 xc, .bool xs, .int .i64 xn, .int .i64 xh, .int .i64 xl] /\ Below w.heap.size w (w.alloc (.cells #[.int .u32 xc, .bool xs, .int .i64 xn, .int .i64 xh, .int .i64 xl] 27))) := ⟨Row.new_ rfl rfl, Below.alloc (Below.refl _ _) (Nat.le_refl _) _⟩
 by_cases he : ee = 0
 ·subst he;have hres : decide ((0 : Int) = 0 /\ (xc = yc /\ xs = ys /\ xn = yn /\ xh = yh /\ xl = yl)) = decide (xc = yc /\ xs = ys /\ xn = yn /\ xh = yh /\ xl = yl) := by
   refine decide_eq_decide.2 ⟨fun h => ?_, fun h => ?_⟩
   ·obtain ⟨_, rfl, rfl, rfl, rfl, rfl⟩ := h;exact ⟨rfl, rfl, rfl, rfl, rfl⟩
   ·obtain ⟨rfl, rfl, rfl, rfl, rfl⟩ := h;exact ⟨rfl, rfl, rfl, rfl, rfl, rfl⟩
  have heq := fun W : World => eq_xms xc xs xn xh xl yc ys yn yh yl hxc hxn hxh hxl hyc hyn hyh hyl W
  rw [hres];generalize decide (xc = yc /\ xs = ys /\ xn = yn /\ xh = yh /\ xl = yl) = r at heq ⊢;clear hres;go_enter Tryz.func102, Tryz.ntmps102
  go_wp2_with (go_at_call 101; refine (hset _).mono ?_)
  unfold OldIs;rintro e w2 ⟨rfl, b2⟩;have F2 : Shh (Row w2 w.heap.size 27 [.int .u32 xc, .bool xs, .int .i64 xn, .int .i64 xh, .int .i64 xl] /\ Below w.heap.size w w2) := ⟨HW.out.1.go b2, Below.chain HW.out.2 b2⟩;clear HW b2 hset;obtain ⟨G, hG⟩ : ∃ G, Shh (G = w2.heap.size) := ⟨_, ⟨rfl⟩⟩
  go_wp2_with (refine wpList_store_any rfl 27 (.tmp 3) (.tmp 9) rfl G (by rw [hG.out]; rfl) [.int .u32 yc, .bool ys, .int .i64 yn, .int .i64 yh, .int .i64 yl] rfl 27 _ (Row.new_ hG.out rfl) info_xms rfl oneCell5 ?_)
  intro Z hr bt _;have F3 : Shh (Row Z w.heap.size 27 [.int .u32 xc, .bool xs, .int .i64 xn, .int .i64 xh, .int .i64 xl] /\ Row Z G 27 [.int .u32 yc, .bool ys, .int .i64 yn, .int .i64 yh, .int .i64 yl] /\ Below w.heap.size w Z) := by
   have hl := F2.out.1.lt;refine ⟨bt.row (F2.out.1.alloc _) (by first | omega | (simp only [asz]; omega)) (by have := hG.out; omega), hr, Below.chain F2.out.2 ?_⟩;exact (Below.alloc (Below.refl _ _) (Nat.le_refl _) _).trans (bt.under (by first | omega | (simp only [asz]; omega)) (by have := hG.out; omega))
  rw [<- hG.out];clear hr bt F2 hG
  go_wp2_with (first | refine wl_loadW 27 (.tmp 1) rfl w.heap.size rfl 27 [.int .u32 xc, .bool xs, .int .i64 xn, .int .i64 xh, .int .i64 xl] _ rfl F3.out.1 Tryz.underlying27 rfl info_xms ?_ | refine wl_loadW 27 (.tmp 3) rfl G rfl 27 [.int .u32 yc, .bool ys, .int .i64 yn, .int .i64 yh, .int .i64 yl] _ rfl F3.out.2.1 Tryz.underlying27 rfl info_xms ?_ | refine wl_eqlW 27 27 (.tmp 14) (.tmp 15) rfl #[.int .u32 xc, .bool xs, .int .i64 xn, .int .i64 xh, .int .i64 xl] #[.int .u32 yc, .bool ys, .int .i64 yn, .int .i64 yh, .int .i64 yl] rfl rfl rfl (by kernel_rfl) r (heq _) ?_)
  go_ret;exact ⟨rfl, F3.out.2.2⟩
 ·have hres : (decide (ee = 0 /\ (xc = yc /\ xs = ys /\ xn = yn /\ xh = yh /\ xl = yl))) = false := decide_eq_false fun h => he h.1
  rw [hres];clear hres;go_enter Tryz.func102, Tryz.ntmps102
  go_wp2_with (go_at_call 101; refine (hset _).mono ?_)
  unfold OldIs;rintro e w2 ⟨rfl, b2⟩;have F2 : Shh (Row w2 w.heap.size 27 [.int .u32 xc, .bool xs, .int .i64 xn, .int .i64 xh, .int .i64 xl] /\ Below w.heap.size w w2) := ⟨HW.out.1.go b2, Below.chain HW.out.2 b2⟩;clear HW b2 hset;obtain ⟨G, hG⟩ : ∃ G, Shh (G = w2.heap.size) := ⟨_, ⟨rfl⟩⟩
  go_wp2_with (refine wpList_store_any rfl 27 (.tmp 3) (.tmp 9) rfl G (by rw [hG.out]; rfl) [.int .u32 yc, .bool ys, .int .i64 yn, .int .i64 yh, .int .i64 yl] rfl 27 _ (Row.new_ hG.out rfl) info_xms rfl oneCell5 ?_)
  intro Z hr bt _;have F3 : Shh (True /\ Below w.heap.size w Z) := by
   refine ⟨trivial, Below.chain F2.out.2 ?_⟩;exact (Below.alloc (Below.refl _ _) (Nat.le_refl _) _).trans (bt.under (by first | omega | (simp only [asz]; omega)) (by have := hG.out; omega))
  clear hr bt F2 hG;go_wp2;go_ret;exact ⟨rfl, F3.out.2⟩
def xmsLn (b : Bool) (n h l : Int) : Int := if b then wrap64 (wrap64 (4 + n) + wrap64 (wrap64 (l + h) * n)) else 0
def xmsPb (b : Bool) (n : Int) : Int := if b then wrap64 (4 + wrap64 (2 * n)) else 0
theorem pXmssLen_of (xc : Int) (xs : Bool) (xn xh xl : Int) (b : Bool) (hB : ∀ W, Calls Tryz.prog 102 #[.agg #[.int .u32 xc, .bool xs, .int .i64 xn, .int .i64 xh, .int .i64 xl]] W (OldIs (.bool b) W)) (w : World) :
  Calls Tryz.prog 67 #[.agg #[.int .u32 xc, .bool xs, .int .i64 xn, .int .i64 xh, .int .i64 xl]] w (OldIs (.int .i64 (xmsLn b xn xh xl)) w) := by
 unfold OldIs;have HW : Shh (Row (w.alloc (.cells #[.int .u32 xc, .bool xs, .int .i64 xn, .int .i64 xh, .int .i64 xl] 27)) w.heap.size 27 [.int .u32 xc, .bool xs, .int .i64 xn, .int .i64 xh, .int .i64 xl] /\ Below w.heap.size w (w.alloc (.cells #[.int .u32 xc, .bool xs, .int .i64 xn, .int .i64 xh, .int .i64 xl] 27))) := ⟨Row.new_ rfl rfl, Below.alloc (Below.refl _ _) (Nat.le_refl _) _⟩;unfold xmsLn;cases b with
 | false =>
  rw [if_neg (by decide)];go_enter Tryz.func67, Tryz.ntmps67
  go_wp2_with (first | refine wl_loadW 27 (.tmp 1) rfl w.heap.size rfl 27 [.int .u32 xc, .bool xs, .int .i64 xn, .int .i64 xh, .int .i64 xl] _ rfl HW.out.1 Tryz.underlying27 rfl info_xms ?_ | (go_at_call 102; refine (hB _).mono ?_))
  unfold OldIs;rintro e w2 ⟨rfl, b2⟩;have F2 : Shh (Row w2 w.heap.size 27 [.int .u32 xc, .bool xs, .int .i64 xn, .int .i64 xh, .int .i64 xl] /\ Below w.heap.size w w2) := ⟨HW.out.1.go b2, Below.chain HW.out.2 b2⟩;clear HW b2 hB;go_wp2;go_ret;exact ⟨rfl, F2.out.2⟩
 | true =>
  rw [if_pos rfl];go_enter Tryz.func67, Tryz.ntmps67
  go_wp2_with (first | refine wl_loadW 27 (.tmp 1) rfl w.heap.size rfl 27 [.int .u32 xc, .bool xs, .int .i64 xn, .int .i64 xh, .int .i64 xl] _ rfl HW.out.1 Tryz.underlying27 rfl info_xms ?_ | (go_at_call 102; refine (hB _).mono ?_))
  unfold OldIs;rintro e w2 ⟨rfl, b2⟩;have F2 : Shh (Row w2 w.heap.size 27 [.int .u32 xc, .bool xs, .int .i64 xn, .int .i64 xh, .int .i64 xl] /\ Below w.heap.size w w2) := ⟨HW.out.1.go b2, Below.chain HW.out.2 b2⟩;clear HW b2 hB;have c2 : w2.cell? ⟨w.heap.size, 2, none⟩ = some (.int .i64 xn) := F2.out.1.cell 2;have c3 : w2.cell? ⟨w.heap.size, 3, none⟩ = some (.int .i64 xh) := F2.out.1.cell 3;have c4 : w2.cell? ⟨w.heap.size, 4, none⟩ = some (.int .i64 xl) := F2.out.1.cell 4;go_wp2;go_ret;exact ⟨rfl, F2.out.2⟩
theorem rXmssLen_of (xc : Int) (xs : Bool) (xn xh xl : Int) (b : Bool) (hB : ∀ W, Calls Tryz.prog 48 #[.agg #[.int .u32 xc, .bool xs, .int .i64 xn, .int .i64 xh, .int .i64 xl]] W (OldIs (.bool b) W)) (w : World) :
  Calls Tryz.prog 32 #[.agg #[.int .u32 xc, .bool xs, .int .i64 xn, .int .i64 xh, .int .i64 xl]] w (OldIs (.int .i64 (xmsLn b xn xh xl)) w) := by
 unfold OldIs;have HW : Shh (Row (w.alloc (.cells #[.int .u32 xc, .bool xs, .int .i64 xn, .int .i64 xh, .int .i64 xl] 27)) w.heap.size 27 [.int .u32 xc, .bool xs, .int .i64 xn, .int .i64 xh, .int .i64 xl] /\ Below w.heap.size w (w.alloc (.cells #[.int .u32 xc, .bool xs, .int .i64 xn, .int .i64 xh, .int .i64 xl] 27))) := ⟨Row.new_ rfl rfl, Below.alloc (Below.refl _ _) (Nat.le_refl _) _⟩;unfold xmsLn;cases b with
 | false =>
  rw [if_neg (by decide)];go_enter Tryz.func32, Tryz.ntmps32
  go_wp2_with (first | refine wl_loadW 27 (.tmp 1) rfl w.heap.size rfl 27 [.int .u32 xc, .bool xs, .int .i64 xn, .int .i64 xh, .int .i64 xl] _ rfl HW.out.1 Tryz.underlying27 rfl info_xms ?_ | (go_at_call 48; refine (hB _).mono ?_))
  unfold OldIs;rintro e w2 ⟨rfl, b2⟩;have F2 : Shh (Row w2 w.heap.size 27 [.int .u32 xc, .bool xs, .int .i64 xn, .int .i64 xh, .int .i64 xl] /\ Below w.heap.size w w2) := ⟨HW.out.1.go b2, Below.chain HW.out.2 b2⟩;clear HW b2 hB;go_wp2;go_ret;exact ⟨rfl, F2.out.2⟩
 | true =>
  rw [if_pos rfl];go_enter Tryz.func32, Tryz.ntmps32
  go_wp2_with (first | refine wl_loadW 27 (.tmp 1) rfl w.heap.size rfl 27 [.int .u32 xc, .bool xs, .int .i64 xn, .int .i64 xh, .int .i64 xl] _ rfl HW.out.1 Tryz.underlying27 rfl info_xms ?_ | (go_at_call 48; refine (hB _).mono ?_))
  unfold OldIs;rintro e w2 ⟨rfl, b2⟩;have F2 : Shh (Row w2 w.heap.size 27 [.int .u32 xc, .bool xs, .int .i64 xn, .int .i64 xh, .int .i64 xl] /\ Below w.heap.size w w2) := ⟨HW.out.1.go b2, Below.chain HW.out.2 b2⟩;clear HW b2 hB;have c2 : w2.cell? ⟨w.heap.size, 2, none⟩ = some (.int .i64 xn) := F2.out.1.cell 2;have c3 : w2.cell? ⟨w.heap.size, 3, none⟩ = some (.int .i64 xh) := F2.out.1.cell 3;have c4 : w2.cell? ⟨w.heap.size, 4, none⟩ = some (.int .i64 xl) := F2.out.1.cell 4;go_wp2;go_ret;exact ⟨rfl, F2.out.2⟩
theorem pXmssPub_of (xc : Int) (xs : Bool) (xn xh xl : Int) (b : Bool) (hB : ∀ W, Calls Tryz.prog 102 #[.agg #[.int .u32 xc, .bool xs, .int .i64 xn, .int .i64 xh, .int .i64 xl]] W (OldIs (.bool b) W)) (w : World) :
  Calls Tryz.prog 104 #[.agg #[.int .u32 xc, .bool xs, .int .i64 xn, .int .i64 xh, .int .i64 xl]] w (OldIs (.int .i64 (xmsPb b xn)) w) := by
 unfold OldIs;have HW : Shh (Row (w.alloc (.cells #[.int .u32 xc, .bool xs, .int .i64 xn, .int .i64 xh, .int .i64 xl] 27)) w.heap.size 27 [.int .u32 xc, .bool xs, .int .i64 xn, .int .i64 xh, .int .i64 xl] /\ Below w.heap.size w (w.alloc (.cells #[.int .u32 xc, .bool xs, .int .i64 xn, .int .i64 xh, .int .i64 xl] 27))) := ⟨Row.new_ rfl rfl, Below.alloc (Below.refl _ _) (Nat.le_refl _) _⟩;unfold xmsPb;cases b with
 | false =>
  rw [if_neg (by decide)];go_enter Tryz.func104, Tryz.ntmps104
  go_wp2_with (first | refine wl_loadW 27 (.tmp 1) rfl w.heap.size rfl 27 [.int .u32 xc, .bool xs, .int .i64 xn, .int .i64 xh, .int .i64 xl] _ rfl HW.out.1 Tryz.underlying27 rfl info_xms ?_ | (go_at_call 102; refine (hB _).mono ?_))
  unfold OldIs;rintro e w2 ⟨rfl, b2⟩;have F2 : Shh (Row w2 w.heap.size 27 [.int .u32 xc, .bool xs, .int .i64 xn, .int .i64 xh, .int .i64 xl] /\ Below w.heap.size w w2) := ⟨HW.out.1.go b2, Below.chain HW.out.2 b2⟩;clear HW b2 hB;go_wp2;go_ret;exact ⟨rfl, F2.out.2⟩
 | true =>
  rw [if_pos rfl];go_enter Tryz.func104, Tryz.ntmps104
  go_wp2_with (first | refine wl_loadW 27 (.tmp 1) rfl w.heap.size rfl 27 [.int .u32 xc, .bool xs, .int .i64 xn, .int .i64 xh, .int .i64 xl] _ rfl HW.out.1 Tryz.underlying27 rfl info_xms ?_ | (go_at_call 102; refine (hB _).mono ?_))
  unfold OldIs;rintro e w2 ⟨rfl, b2⟩;have F2 : Shh (Row w2 w.heap.size 27 [.int .u32 xc, .bool xs, .int .i64 xn, .int .i64 xh, .int .i64 xl] /\ Below w.heap.size w w2) := ⟨HW.out.1.go b2, Below.chain HW.out.2 b2⟩;clear HW b2 hB;have c2 : w2.cell? ⟨w.heap.size, 2, none⟩ = some (.int .i64 xn) := F2.out.1.cell 2;go_wp2;go_ret;exact ⟨rfl, F2.out.2⟩
theorem rXmssPub_of (xc : Int) (xs : Bool) (xn xh xl : Int) (b : Bool) (hB : ∀ W, Calls Tryz.prog 48 #[.agg #[.int .u32 xc, .bool xs, .int .i64 xn, .int .i64 xh, .int .i64 xl]] W (OldIs (.bool b) W)) (w : World) :
  Calls Tryz.prog 33 #[.agg #[.int .u32 xc, .bool xs, .int .i64 xn, .int .i64 xh, .int .i64 xl]] w (OldIs (.int .i64 (xmsPb b xn)) w) := by
 unfold OldIs;have HW : Shh (Row (w.alloc (.cells #[.int .u32 xc, .bool xs, .int .i64 xn, .int .i64 xh, .int .i64 xl] 27)) w.heap.size 27 [.int .u32 xc, .bool xs, .int .i64 xn, .int .i64 xh, .int .i64 xl] /\ Below w.heap.size w (w.alloc (.cells #[.int .u32 xc, .bool xs, .int .i64 xn, .int .i64 xh, .int .i64 xl] 27))) := ⟨Row.new_ rfl rfl, Below.alloc (Below.refl _ _) (Nat.le_refl _) _⟩;unfold xmsPb;cases b with
 | false =>
  rw [if_neg (by decide)];go_enter Tryz.func33, Tryz.ntmps33
  go_wp2_with (first | refine wl_loadW 27 (.tmp 1) rfl w.heap.size rfl 27 [.int .u32 xc, .bool xs, .int .i64 xn, .int .i64 xh, .int .i64 xl] _ rfl HW.out.1 Tryz.underlying27 rfl info_xms ?_ | (go_at_call 48; refine (hB _).mono ?_))
  unfold OldIs;rintro e w2 ⟨rfl, b2⟩;have F2 : Shh (Row w2 w.heap.size 27 [.int .u32 xc, .bool xs, .int .i64 xn, .int .i64 xh, .int .i64 xl] /\ Below w.heap.size w w2) := ⟨HW.out.1.go b2, Below.chain HW.out.2 b2⟩;clear HW b2 hB;go_wp2;go_ret;exact ⟨rfl, F2.out.2⟩
 | true =>
  rw [if_pos rfl];go_enter Tryz.func33, Tryz.ntmps33
  go_wp2_with (first | refine wl_loadW 27 (.tmp 1) rfl w.heap.size rfl 27 [.int .u32 xc, .bool xs, .int .i64 xn, .int .i64 xh, .int .i64 xl] _ rfl HW.out.1 Tryz.underlying27 rfl info_xms ?_ | (go_at_call 48; refine (hB _).mono ?_))
  unfold OldIs;rintro e w2 ⟨rfl, b2⟩;have F2 : Shh (Row w2 w.heap.size 27 [.int .u32 xc, .bool xs, .int .i64 xn, .int .i64 xh, .int .i64 xl] /\ Below w.heap.size w w2) := ⟨HW.out.1.go b2, Below.chain HW.out.2 b2⟩;clear HW b2 hB;have c2 : w2.cell? ⟨w.heap.size, 2, none⟩ = some (.int .i64 xn) := F2.out.1.cell 2;go_wp2;go_ret;exact ⟨rfl, F2.out.2⟩
theorem slice_to10 {w : World} {B n c : Nat} {A : Option Addr} {bs : List UInt8} (h : Sl w B (.slice A n c) bs) (j : Nat) (hj : j <= n) (hn : n <= c) :
  ∃ A' c', (∀ u, (Instr.sliceAt 23 (.slice A n c) none (some (.int .i64 (j : Int))) none).run Tryz.prog u = .ok (.slice A' (bs.take j).length c') u) /\ Sl w B (.slice A' (bs.take j).length c') (bs.take j) := by
 have hcut := h.cut 0 j (Nat.zero_le _) hj (by omega);rw [List.drop_zero] at hcut;obtain ⟨A', c', hv, _⟩ := hcut.form;refine ⟨A', c', fun u => ?_, by rw [<- hv]; exact hcut⟩;rw [run_sliceAt_slice _ _ _ _ _ _ slice30, run_slice_h u 23 A n c slice30 .i64 (j : Int) (by omega) (by omega), elem30, run_sizeOf_u8, Result.andThen_ok, Int.toNat_natCast, hv]
theorem OwnI.base {w : World} {base base' : Nat} {v : Value} {l : List Nat} (h : OwnI w base v l) (hb : base' <= base) : OwnI w base' v l := own_mono h hb
theorem OwnI.addr {w : World} {base : Nat} {v : Value} {l : List Nat} (h : OwnI w base v l) (hl : 0 < l.length) : ∃ g cap, v = .slice (some ⟨g, 0, none⟩) l.length cap := by
 rcases h with ⟨_, ⟨_, h0⟩ | ⟨g, cap, cur, rfl, _⟩⟩
 ·omega
 ·exact ⟨g, cap, rfl⟩
theorem onB_step (s : Bool) (n : Int) (seed : List UInt8) (a : List UInt32) (d : Nat -> Nat) (sig : List UInt8) (k : Nat) : onB s n seed a d sig (k + 1) = onB s n seed a d sig k ++ goB s n seed (atA a k) (pieceB n.toNat sig k) (d k) (15 - d k) := by
 unfold onB;rw [List.range_succ, List.flatMap_append];simp
theorem onB_len {x : S5} (hx : x.ok = true) (seed : List UInt8) (a : List UInt32) (d : Nat -> Nat) (sig : List UInt8) (L k : Nat) (h : sig.length = L * x.n.toNat) (hk : k <= L) : (onB x.s x.n seed a d sig k).length = x.n.toNat * k := by
 induction k with
 | zero => rfl
 | succ k ih =>
  have e : (goB x.s x.n seed (atA a k) (pieceB x.n.toNat sig k) (d k) (15 - d k)).length = x.n.toNat := goB_length hx seed (atA a k) _ (d k) (15 - d k) (pieceB_length _ _ _ _ h (by omega));rw [onB_step, List.length_append, ih (by omega), e, Nat.mul_succ]
def fsE (x : S5) (seed m sig : List UInt8) : Int := if badE x [seed, m] = 0 then (if (sig.length : Int) = x.l * x.n then 0 else 1) else badE x [seed, m]
def fsB (x : S5) (seed m sig : List UInt8) (a : List UInt32) : List UInt8 := if fsE x seed m sig = 0 then onB x.s x.n seed a (fun i => (dig10 m).getD i 0) sig x.l.toNat else []
theorem own_apart {w : World} {b1 b2 n1 n2 : Nat} {v1 v2 : Value} {xs1 xs2 : List Value} (h1 : w.ownsRow b1 3 1 v1 n1 xs1) (h2 : w.ownsRow b2 5 1 v2 n2 xs2) : v1.ownBlock = none ∨ v1.ownBlock ≠ v2.ownBlock := by
 rcases h1.2 with ⟨rfl, _⟩ | ⟨g1, c1, u1, rfl, _, k1, _⟩
 ·exact .inl rfl
 ·right
  rcases h2.2 with ⟨rfl, _⟩ | ⟨g2, c2, u2, rfl, _, k2, _⟩
  ·intro h; cases h
  ·intro h;have e : g1 = g2 := Option.some.inj h;subst e;rw [k1] at k2;injection Option.some.inj k2 with _ h2 _;exact absurd h2 (by decide)
set_option maxHeartbeats 2000000 in
theorem fromSig_24 (xc : Int) (xs : Bool) (xh : Int) (hw : (⟨xc, xs, 24, xh, 51⟩ : S5).wf) (hx : (⟨xc, xs, 24, xh, 51⟩ : S5).ok = true) (vs vm vg : Value) (seed m sig : List UInt8) (a : List UInt32) (ha : a.length = 8) (w : World) (hs : Sl w w.heap.size vs seed) (hm : Sl w w.heap.size vm m) (hg : Sl w w.heap.size vg sig) (ht : Tabs w)
  (hsl : seed.length = 24) (hml : m.length = 24) (hgl : sig.length = 1224) :
  Calls Tryz.prog 73 #[.agg #[.int .u32 xc, .bool xs, .int .i64 24, .int .i64 xh, .int .i64 51], vs, vm, vg, adrV a] w (ResIs w 0 (onB xs 24 seed a (fun i => (dig10 m).getD i 0) sig 51)) := by
 unfold ResIs;obtain ⟨As, cs, rfl, _, _⟩ := hs.form;obtain ⟨Am, cm, rfl, _, _⟩ := hm.form;obtain ⟨Ag, cg, rfl, hcg, _⟩ := hg.form;have H0 : Shh (Sl w w.heap.size (.slice As seed.length cs) seed /\ Sl w w.heap.size (.slice Am m.length cm) m /\ Sl w w.heap.size (.slice Ag sig.length cg) sig /\ Tabs w /\ sig.length <= cg) := ⟨hs, hm, hg, ht, hcg⟩;clear hs hm hg ht hcg
 have HC : Shh (∀ (v : Value) (B : Nat) W, PartsO W B B v [seed, m] -> B <= W.heap.size -> Calls Tryz.prog 95 #[.agg #[.int .u32 xc, .bool xs, .int .i64 24, .int .i64 xh, .int .i64 51], v] W (OldIs (.int .i64 0) W)) := ⟨fun v B W h hB => by
  have h1 := check_any (⟨xc, xs, 24, xh, 51⟩ : S5) hw v [seed, m] B B W h hB (by simp);rw [show badE (⟨xc, xs, 24, xh, 51⟩ : S5) [seed, m] = 0 from badE_of hx (fun b hb => by simp only [List.mem_cons, List.not_mem_nil, or_false] at hb; rcases hb with rfl | rfl <;> (first | (rw [hsl]; rfl) | (rw [hml]; rfl)))] at h1
  exact h1⟩
 have HWK : Shh (∀ (g : Nat) W, Sl W W.heap.size (.slice As seed.length cs) seed -> Tabs W -> g < W.heap.size -> Calls Tryz.prog 105 #[.agg #[.int .u32 xc, .bool xs, .int .i64 24, .int .i64 xh, .int .i64 51], .slice As seed.length cs] W (WalkerIs W g (⟨xc, xs, 24, xh, 51⟩ : S5) seed)) := ⟨fun g W h1 h2 h3 => walker_any (⟨xc, xs, 24, xh, 51⟩ : S5) hx _ seed W h1 (by omega) h2 g h3⟩;have HDG : Shh (∀ W, Sl W W.heap.size (.slice Am m.length cm) m -> Calls Tryz.prog 97 #[.slice Am m.length cm] W (IntsIs W (dig10 m))) := ⟨fun W h => digits_any _ m W h (by omega)⟩;have HLE : Shh (∀ k, k <= 51 -> (onB xs 24 seed a (fun i => (dig10 m).getD i 0) sig k).length = 24 * k) := ⟨fun k hk => onB_len (x := (⟨xc, xs, 24, xh, 51⟩ : S5)) hx seed a (fun i => (dig10 m).getD i 0) sig 51 k (by rw [hgl]; rfl) hk⟩;have HD : Shh ((dig10 m).length = 51 /\ ∀ d ∈ dig10 m, d <= 15) := ⟨by rw [dig10_length]; omega, dig10_lt m (by omega)⟩
 have HGO : Shh (∀ a b f k, (goB xs 24 seed a b f k).length = 24 ∨ b.length ≠ 24) := ⟨fun a b f k => by
  by_cases hb : b.length = 24
  ·exact .inl (goB_length (x := (⟨xc, xs, 24, xh, 51⟩ : S5)) hx seed a b f k hb)
  ·exact .inr hb⟩
 have hne : ((sig.length : Int) != 1224) = false := by rw [hgl]; decide
 have HSG : Shh (sig.length = 1224) := ⟨hgl⟩;have hmk := make0_run sig.length (by rw [hgl]; decide);obtain ⟨W0, hW0⟩ : ∃ W0, W0 = (w.alloc (.cells #[.int .u32 xc, .bool xs, .int .i64 24, .int .i64 xh, .int .i64 51] 27)).alloc (.cells (wordCells a).toArray 64) := ⟨_, rfl⟩;have HW0 : Shh (Row W0 w.heap.size 27 [.int .u32 xc, .bool xs, .int .i64 24, .int .i64 xh, .int .i64 51] /\ Row W0 (w.heap.size + 1) 64 (wordCells a) /\ W0.heap.size = w.heap.size + 2 /\ Below w.heap.size w W0) := by
  rw [hW0];exact ⟨(Row.new_ rfl rfl).alloc _, Row.new_ (by rw [asz]) rfl, by rw [asz, asz], Below.chain (below1 _ _) (below1 _ _)⟩
 obtain ⟨W, hW⟩ : ∃ W, W = W0.alloc (.cells #[.slice As seed.length cs, .slice Am m.length cm] 23) := ⟨_, rfl⟩;have HW : Shh (Row W w.heap.size 27 [.int .u32 xc, .bool xs, .int .i64 24, .int .i64 xh, .int .i64 51] /\ Row W (w.heap.size + 1) 64 (wordCells a) /\ PartsO W (w.heap.size + 3) (w.heap.size + 3) (.slice (some ⟨w.heap.size + 2, 0, none⟩) 2 2) [seed, m] /\ w.heap.size + 3 <= W.heap.size /\ Below w.heap.size w W) := by
  have b0 : Below w.heap.size w W := by rw [hW]; exact Below.chain HW0.out.2.2.2 (below1 _ _)
  refine ⟨by rw [hW]; exact HW0.out.1.alloc _, by rw [hW]; exact HW0.out.2.1.alloc _, ?_, by rw [hW, asz, HW0.out.2.2.1]; exact Nat.le_refl _, b0⟩;exact PartsO.two (by omega) (by omega) (by rw [hW]; exact Row.new_ HW0.out.2.2.1.symm rfl) ((H0.out.1.below b0).more (by omega)) (H0.out.1.off (by omega)) ((H0.out.2.1.below b0).more (by omega)) (H0.out.2.1.off (by omega))
 clear hw hx;have HA : Shh (a.length = 8 /\ (wordCells a).length = 8 /\ ∀ k, (wordCells (atA a k)).length = 8) := ⟨ha, by rw [wordCells_length]; exact ha, fun k => by rw [wordCells_length, atA_length]; exact ha⟩;clear ha hsl hml hgl;unfold adrV;go_enter Tryz.func73, Tryz.ntmps73
 go_wp2_with (first | (rw [<- hW0]; refine wpList_load_any rfl 27 (.tmp 5) rfl w.heap.size rfl 27 [.int .u32 xc, .bool xs, .int .i64 24, .int .i64 xh, .int .i64 51] _ HW0.out.1 Tryz.underlying27 rfl info_xms ?_) | (go_at_call 95; rw [<- hW0, <- hW]; refine (HC.out _ _ _ HW.out.2.2.1 HW.out.2.2.2.1).mono ?_))
 try rw [<- hW0, <- hW]
 unfold OldIs;rintro e w2 ⟨rfl, b2⟩;have H2 : Shh (Row w2 w.heap.size 27 [.int .u32 xc, .bool xs, .int .i64 24, .int .i64 xh, .int .i64 51] /\ Row w2 (w.heap.size + 1) 64 (wordCells a) /\ Below w.heap.size w w2) := ⟨HW.out.1.go b2, HW.out.2.1.go b2, Below.chain HW.out.2.2.2.2 b2⟩;clear HW hW b2 HC HW0 hW0;have e2 := H2.out.1.cell 2;have e4 := H2.out.1.cell 4;simp only [List.getElem?_cons_succ, List.getElem?_cons_zero] at e2 e4
 go_wp2_with (first | refine wpList_load_any rfl 27 (.tmp 5) rfl w.heap.size rfl 27 [.int .u32 xc, .bool xs, .int .i64 24, .int .i64 xh, .int .i64 51] _ H2.out.1 Tryz.underlying27 rfl info_xms ?_ | (go_at_call 105; refine (HWK.out (w.heap.size + 1) _ (H0.out.1.go H2.out.2.2) (H0.out.2.2.2.1.go H2.out.2.2) H2.out.2.1.lt).mono ?_))
 unfold WalkerIs;rintro e w3 ⟨v3, rfl, k3, b3⟩;obtain ⟨F, q1, q2, rfl, hcf, hkf⟩ := k3;have HKF := Shh.mk hkf;have H3 : Shh (Row w3 w.heap.size 27 [.int .u32 xc, .bool xs, .int .i64 24, .int .i64 xh, .int .i64 51] /\ Row w3 (w.heap.size + 1) 64 (wordCells a) /\ Below w.heap.size w w3) := ⟨H2.out.1.go b3, H2.out.2.1.go b3, Below.chain H2.out.2.2 b3⟩;clear H2 b3 HWK hkf e2 e4;obtain ⟨W4, hW4⟩ : ∃ W4, W4 = w3.alloc (.cells (Lib.byteCells (List.replicate sig.length 0)).toArray 5) := ⟨_, rfl⟩;obtain ⟨B, hB⟩ : ∃ B, Shh (B = w3.heap.size) := ⟨_, ⟨rfl⟩⟩;have H4 : Shh (Below w3.heap.size w3 W4 /\ Own W4 B (.slice (some ⟨B, 0, none⟩) 0 sig.length) [] /\ B < W4.heap.size) := by
  rw [hW4, hB.out];exact ⟨below1 _ _, World.ownsRow_made w3 _ sig.length (Nat.le_refl _) (by rw [HSG.out]; unfold maxLen; omega) (by simp [Lib.byteCells]), by rw [asz]; omega⟩
 go_wp2_with (go_at_call 97; rw [<- hB.out, <- hW4]; refine (HDG.out _ (H0.out.2.1.go (Below.chain H3.out.2.2 H4.out.1))).mono ?_)
 clear hW4 hne hmk;unfold IntsIs;rintro e w5 ⟨v5, rfl, g5, b5⟩;obtain ⟨gd, cd, rfl⟩ := g5.addr (by rw [HD.out.1]; decide);have H5 : Shh (But w3.heap.size (w.heap.size + 1) w3 w5 /\ Row w5 w.heap.size 27 [.int .u32 xc, .bool xs, .int .i64 24, .int .i64 xh, .int .i64 51] /\ Own w5 B (.slice (some ⟨B, 0, none⟩) 0 sig.length) [] /\ OwnI w5 B (.slice (some ⟨gd, 0, none⟩) (dig10 m).length cd) (dig10 m) /\ Row w5 (w.heap.size + 1) 64 (wordCells a) /\ B <= w5.heap.size) := by
  have b35 := Below.chain H4.out.1 b5;exact ⟨But.of b35 _, H3.out.1.go b35, H4.out.2.1.go b5, g5.base (by have := H4.out.2.2; omega), H3.out.2.1.go b35, by have := H4.out.2.2; have := b5.size; omega⟩
 clear H4 g5 b5 HDG;have HB2 : Shh (w.heap.size + 1 < B /\ Below w.heap.size w w3 /\ B = w3.heap.size) := ⟨by rw [hB.out]; exact H3.out.2.1.lt, H3.out.2.2, hB.out⟩;clear H3;go_wp2;obtain ⟨dl, hdl⟩ : ∃ dl, dl = dig10 m := ⟨_, rfl⟩;have HDL := Shh.mk hdl;rw [<- hdl] at HD H5 HLE ⊢;clear hdl;go_loopw [14, 42] (fun o i wr => ∃ (k : Nat) (a' : List UInt32), k <= 51 /\ i = .int .i64 (k : Int) /\ Shh (a'.length = 8 /\ (∀ i, atA a' i = atA a i) /\ Row wr (w.heap.size + 1) 64 (wordCells a') /\ Row wr w.heap.size 27 [.int .u32 xc, .bool xs, .int .i64 24, .int .i64 xh, .int .i64 51] /\ But w3.heap.size (w.heap.size + 1) w3 wr /\ B <= wr.heap.size) /\ Shh (OwnI wr B (.slice (some ⟨gd, 0, none⟩) dl.length cd) dl) /\ Shh (Own wr B o (onB xs 24 seed a (fun i => dl.getD i 0) sig k))) (fun _ i _ => 51 - (intOf i).toNat)
 case atStart => exact ⟨0, a, Nat.zero_le _, rfl, ⟨HA.out.1, fun _ => rfl, H5.out.2.2.2.2.1, H5.out.2.1, H5.out.1, H5.out.2.2.2.2.2⟩, ⟨H5.out.2.2.2.1⟩, ⟨H5.out.2.2.1⟩⟩
 case round =>
  clear H5;obtain ⟨k, a', hk, rfl, HL, HDI, HO⟩ := hrel;have ho := HO.out;obtain ⟨Ao, co, rfl⟩ := own_form ho;clear ho;have HBW : Shh (Below w.heap.size w wr) := ⟨HB2.out.2.1.trans (HL.out.2.2.2.2.1.under (by have := HB2.out; omega) (by omega))⟩
  by_cases hlt : k < 51
  ·obtain ⟨dk, hdk⟩ : ∃ dk, dk = dl.getD k 0 := ⟨_, rfl⟩;have hkd : k < dl.length := by rw [HD.out.1]; exact hlt
   have hdg : dl[k] = dk := by rw [hdk, List.getD_eq_getElem?_getD, List.getElem?_eq_getElem hkd]; rfl
   have hd16 : dk <= 15 := by rw [<- hdg]; exact HD.out.2 _ (List.getElem_mem hkd)
   obtain ⟨gd', hAd, hgd, hgd2, hcd⟩ := (SI.of_own HDI.out).at_ (by omega);cases hAd;have hck := hcd k hkd;rw [hdg] at hck;clear hcd;have hkdi : (k : Int) < (dl.length : Int) := by omega
   have hkq : (k : Int) % 4294967296 = (k : Int) := by omega
   have HE : Shh ((onB xs 24 seed a (fun i => dl.getD i 0) sig (k + 1)) = (onB xs 24 seed a (fun i => dl.getD i 0) sig k) ++ goB xs 24 seed (atA a k) (pieceB 24 sig k) dk (15 - dk) /\ (onB xs 24 seed a (fun i => dl.getD i 0) sig k).length <= 3000 /\ (goB xs 24 seed (atA a k) (pieceB 24 sig k) dk (15 - dk)).length = 24 /\ (pieceB 24 sig k).length = 24) := by
    have hp : (pieceB 24 sig k).length = 24 := pieceB_length 24 sig k 51 (by rw [HSG.out]) hlt;refine ⟨by rw [hdk]; exact onB_step xs 24 seed a (fun i => dl.getD i 0) sig k, by rw [HLE.out k (by omega)]; omega, ?_, hp⟩
    rcases HGO.out (atA a k) (pieceB 24 sig k) dk (15 - dk) with h | h
    ·exact h
    ·exact absurd hp h
   obtain ⟨i1, hi1⟩ : ∃ i1, i1 = k * 24 := ⟨_, rfl⟩;obtain ⟨i2, hi2⟩ : ∃ i2, i2 = (k + 1) * 24 := ⟨_, rfl⟩;have hi12 : i1 <= i2 /\ i2 <= 1224 := by omega
   have hm1 : IntKind.i64.wrap ((k : Int) * 24) = (i1 : Int) := by rw [IntKind.wrap_i64]; omega
   have hm2 : IntKind.i64.wrap (((k : Int) + 1) * 24) = (i2 : Int) := by rw [IntKind.wrap_i64]; omega
   have h15 : IntKind.i64.wrap ((15 : Int) - (dk : Int)) = ((15 - dk : Nat) : Int) := by rw [IntKind.wrap_i64]; omega
   have hk1 : IntKind.i64.wrap ((k : Int) + 1) = (k : Int) + 1 := by rw [IntKind.wrap_i64]; omega
   have HP : Shh (pieceB 24 sig k = (sig.take i2).drop i1) := ⟨by rw [hi1, hi2]; rfl⟩;obtain ⟨d2, hd2⟩ : ∃ d2, d2 = 15 - dk := ⟨_, rfl⟩;rw [<- hd2] at h15 HE;have hd215 : dk + d2 <= 15 := by omega
   rw [HP.out] at HE;obtain ⟨Ap, cp, runP, sP0⟩ := slice_mid10 H0.out.2.2.1 i1 i2 hi12.1 (by rw [HSG.out]; exact hi12.2) H0.out.2.2.2.2;have HPS : Shh (Sl w w.heap.size (.slice Ap ((sig.take i2).drop i1).length cp) ((sig.take i2).drop i1)) := ⟨sP0⟩;clear sP0;generalize (sig.take i2).drop i1 = pc at HPS HE runP;obtain ⟨nb, hnb⟩ : ∃ nb, nb = goB xs 24 seed (atA a k) pc dk d2 := ⟨_, rfl⟩;have HNB : Shh (nb = goB xs 24 seed (atA a k) pc dk d2) := ⟨hnb⟩;rw [<- hnb] at HE;clear hnb hdk hdg hd2 hi1 hi2 HP;obtain ⟨E2, hE2⟩ : ∃ E2, E2 = (onB xs 24 seed a (fun i => dl.getD i 0) sig (k + 1)) := ⟨_, rfl⟩;have HE2 : Shh (E2 = (onB xs 24 seed a (fun i => dl.getD i 0) sig (k + 1))) := ⟨hE2⟩;rw [<- hE2] at HE;clear hE2;generalize (onB xs 24 seed a (fun i => dl.getD i 0) sig k) = E at HE HO;obtain ⟨y5, c5⟩ : ∃ y : Int, wr.cell? ⟨w.heap.size + 1, 5, none⟩ = some (.int .u32 y) := ⟨_, wordRow_cell HL.out.2.2.1 5 (by rw [HL.out.1]; decide)⟩;have f5 := HL.out.2.2.1.free 5;obtain ⟨Z, hZ⟩ : ∃ Z, Z = wr.setCell ⟨w.heap.size + 1, 5, none⟩ (.int .u32 (k : Int)) := ⟨_, rfl⟩;have HZ : Shh (Row Z w.heap.size 27 [.int .u32 xc, .bool xs, .int .i64 24, .int .i64 xh, .int .i64 51] /\ Row Z (w.heap.size + 1) 64 (wordCells (atA a k)) /\ Below w.heap.size w Z /\ But w3.heap.size (w.heap.size + 1) w3 Z /\ Own Z B (.slice Ao E.length co) E /\ OwnI Z B (.slice (some ⟨gd, 0, none⟩) dl.length cd) dl /\ B <= Z.heap.size) := by
    rw [hZ];refine ⟨HL.out.2.2.2.1.other _ _ (by show w.heap.size ≠ w.heap.size + 1; omega), ?_, HBW.out.setCell (Nat.le_succ _) _, HL.out.2.2.2.2.1.setCell _ _, ownsRow_setCell_below HO.out HB2.out.1 _, ownsRow_setCell_below HDI.out HB2.out.1 _, by simpa using HL.out.2.2.2.2.2⟩;rw [<- HL.out.2.1 k];exact wordRow_set HL.out.2.2.1 5 k (by omega)
   clear HL HDI HO HBW
   go_wp2_with fail
   rw [<- hZ];clear hZ c5 f5 hck hgd hgd2 hkdi hkq;refine wp_region_held_drew (S := fun w' => Row w' w.heap.size 27 [.int .u32 xc, .bool xs, .int .i64 24, .int .i64 xh, .int .i64 51] /\ Row w' (w.heap.size + 1) 64 (wordCells (atA a k))) (by kernel_rfl) ⟨HZ.out.1.drew, HZ.out.2.1.drew⟩ (fun hS => ?_);clear hS;obtain ⟨V, hV⟩ : ∃ V, V = World.drew Z := ⟨_, rfl⟩;rw [<- hV];have rX : Row V w.heap.size 27 [.int .u32 xc, .bool xs, .int .i64 24, .int .i64 xh, .int .i64 51] := by rw [hV]; exact HZ.out.1.drew
   have rA : Row V (w.heap.size + 1) 64 (wordCells (atA a k)) := by rw [hV]; exact HZ.out.2.1.drew
   have HBV : Below w.heap.size w V := by rw [hV]; exact HZ.out.2.2.1.drew
   have HBu : But w3.heap.size (w.heap.size + 1) w3 V := by rw [hV]; exact HZ.out.2.2.2.1.drew
   have oE : Own V B (.slice Ao E.length co) E := by rw [hV]; exact HZ.out.2.2.2.2.1.drew
   have oD : OwnI V B (.slice (some ⟨gd, 0, none⟩) dl.length cd) dl := by rw [hV]; exact HZ.out.2.2.2.2.2.1.drew
   have hBV : B <= V.heap.size := by rw [hV]; exact HZ.out.2.2.2.2.2.2
   have sP : Sl V V.heap.size (.slice Ap pc.length cp) pc := HPS.out.go HBV;have rT : Tabs V := H0.out.2.2.2.1.go HBV;clear hV HZ HPS;refine hdv0 0 50 (.slice Ao E.length co) (by rfl) (⟨rX, rA⟩) ?_;refine hdv0 1 51 (.func (.func F) #[] #[q1, q2]) (by rfl) (⟨rX, rA⟩) ?_;refine hdv0 2 52 (.slice Ag sig.length cg) (by rfl) (⟨rX, rA⟩) ?_;refine hdv0 3 53 (.int .i64 (k : Int)) (by rfl) (⟨rX, rA⟩) ?_;refine hdv0 4 54 (.pointer (some ⟨w.heap.size, 2, none⟩)) (by rfl) (⟨rX, rA⟩) ?_;refine hdv 5 55 (.int .i64 24) (by rfl) (fun w hS => by have h2 := hS.1.cell 2; simp only [List.getElem?_cons_succ, List.getElem?_cons_zero] at h2; go_simp) (⟨rX, rA⟩) ?_;refine hdv 6 56 (.int .i64 (i1 : Int)) (by rfl) (fun w hS => by go_simp) (⟨rX, rA⟩) ?_;refine hdv0 7 57 (.int .i64 (k : Int)) (by rfl) (⟨rX, rA⟩) ?_;refine hdv 8 58 (.int .i64 ((k : Int) + 1)) (by rfl) (fun w hS => by go_simp) (⟨rX, rA⟩) ?_;refine hdv0 9 59 (.pointer (some ⟨w.heap.size, 2, none⟩)) (by rfl) (⟨rX, rA⟩) ?_;refine hdv 10 60 (.int .i64 24) (by rfl) (fun w hS => by have h2 := hS.1.cell 2; simp only [List.getElem?_cons_succ, List.getElem?_cons_zero] at h2; go_simp) (⟨rX, rA⟩) ?_;refine hdv 11 61 (.int .i64 (i2 : Int)) (by rfl) (fun w hS => by go_simp) (⟨rX, rA⟩) ?_;refine hdv 12 62 (.slice Ap pc.length cp) (by rfl) (fun w hS => run_slice_op_lh ⟨rfl, rfl, rfl⟩ (runP w)) (⟨rX, rA⟩) ?_;refine hdv0 13 63 (.int .i64 (dk : Int)) (by rfl) (⟨rX, rA⟩) ?_;refine hdv0 14 64 (.int .i64 (dk : Int)) (by rfl) (⟨rX, rA⟩) ?_;refine hdv 15 65 (.int .i64 (d2 : Int)) (by rfl) (fun w hS => by go_simp) (⟨rX, rA⟩) ?_;refine held_load 16 64 (.tmp 9) (some 66) (by kernel_rfl) (by rfl) (by kernel_rfl) (w.heap.size + 1) 0 (by kernel_rfl) (wordCells (atA a k)) _ (fun w h => h.2.range) Tryz.underlying64 rfl (info_adr10 (HA.out.2.2 k)) (fun _ _ _ _ h => h) (⟨rX, rA⟩) ?_;simp only [Act.put, arr9, hd9, tl9];refine held_one 17 (by kernel_rfl) ?_;refine step_call 17 _ _ (some 67) F #[.slice Ap pc.length cp, .int .i64 (dk : Int), .int .i64 (d2 : Int), .agg (wordCells (atA a k)).toArray, q1, q2] (by rfl) (by kernel_rfl) (by go_simp) ?_;refine (HKF.out V _ pc dk d2 (atA a k) (HBu.chain (But.of (Below.refl _ _) _)) (rT) (sP) HE.out.2.2.2 hd215 (by rw [atA_length]; exact HA.out.1)).mono ?_;rintro e Y1 ⟨vr, rfl, gr, br, or⟩;have bx : Below V.heap.size V Y1 := br;have sR : Sl Y1 Y1.heap.size vr nb := by rw [HNB.out]; exact gr
   clear gr or;have b_V := bx;have m_Y1 : V.heap.size <= Y1.heap.size := bx.size;clear bx;refine ⟨_, rfl, ⟨(rX.go b_V), (rA.go b_V)⟩, ?_⟩;simp only [Act.put, arr9, hd9, tl9];refine held_one 18 (by kernel_rfl) ?_;obtain ⟨i0, hi, hz0, hz1, hz2⟩ := info_parts info_u8;refine step_appendSl Y1 18 _ (some 68) 23 5 i0 Tryz.underlying23 hi hz0 hz1 hz2 (.tmp 50) (.tmp 67) (by rfl) (by kernel_rfl) ((oE.go b_V)) (sR) (by rw [HE.out.2.2.1]; decide) rfl rfl (by rw [HE.out.2.2.1]; have := HE.out.2.1; omega) (Nat.le_trans hBV (b_V).size) (fun v9 Y2 o9 g9 b9 => ?_);rw [<- HE.out.1] at o9;have q0 : Row Y2 w.heap.size 27 [.int .u32 xc, .bool xs, .int .i64 24, .int .i64 xh, .int .i64 51] := ((rX.go b_V)).below (b9 _ (Nat.le_refl _)) (by have := HB2.out; omega);have q1x : Row Y2 (w.heap.size + 1) 64 (wordCells (atA a k)) := ((rA.go b_V)).below (b9 _ (Nat.le_refl _)) (by have := HB2.out; omega);have q2x : OwnI Y2 B (.slice (some ⟨gd, 0, none⟩) dl.length cd) dl := World.ownsRow.kept ((oD.go b_V)) g9 (own_apart ((oD.go b_V)) ((oE.go b_V)));have q3 : But w3.heap.size (w.heap.size + 1) w3 Y2 := (HBu.chain (But.of b_V _)).trans (But.of (b9 _ (by have := HB2.out; omega)) _);have q4 : B <= Y2.heap.size := Nat.le_trans (Nat.le_trans hBV (b_V).size) (b9 _ (Nat.le_refl _)).size;replace rX := q0;replace rA := q1x;refine ⟨⟨rX, rA⟩, ?_⟩;simp only [Act.put, arr9, hd9, tl9];refine hdv0 19 14 (v9) (by rfl) (⟨rX, rA⟩) ?_;refine wpAnyH_done (by kernel_rfl) ?_ _;have H9 : Shh ((atA a k).length = 8 /\ (∀ i, atA (atA a k) i = atA a i) /\ Row Y2 (w.heap.size + 1) 64 (wordCells (atA a k)) /\ Row Y2 w.heap.size 27 [.int .u32 xc, .bool xs, .int .i64 24, .int .i64 xh, .int .i64 51] /\ But w3.heap.size (w.heap.size + 1) w3 Y2 /\ B <= Y2.heap.size) := ⟨by rw [atA_length]; exact HA.out.1, fun i => atA_again a k i, q1x, q0, q3, q4⟩;have H10 : Shh (OwnI Y2 B (.slice (some ⟨gd, 0, none⟩) dl.length cd) dl) := ⟨q2x⟩;have H11 : Shh (Own Y2 B v9 (onB xs 24 seed a (fun i => dl.getD i 0) sig (k + 1))) := ⟨by rw [<- HE2.out]; exact o9⟩;clear q0 q1x q2x q3 q4 o9 g9 b9 HBV HBu oE oD hBV sP rT rX rA runP HE HE2 hm1 hm2 h15 hk1 HNB hd215;go_wp2
   go_roundw
   case rel => exact ⟨k + 1, _, by omega, by go_num, H9, H10, H11⟩
   case measure => simp [intOf]; omega
  ·have hkd : ¬ ((k : Int) < (dl.length : Int)) := by have := HD.out.1; omega
   have HR : Shh (Sl wr wr.heap.size (.slice Ao (onB xs 24 seed a (fun i => dl.getD i 0) sig k).length co) (onB xs 24 seed a (fun i => (dig10 m).getD i 0) sig 51) /\ Below w.heap.size w wr) := ⟨by
    rw [<- HDL.out];have hk2 : k = 51 := by omega
    have h := Sl.of_own HO.out;rw [hk2] at h ⊢
    exact h, HBW.out⟩
   clear HL HDI HO HBW HLE HGO;go_wp2;go_ret2;exact ⟨_, rfl, HR.out⟩
set_option maxHeartbeats 2000000 in
theorem fromSig_32 (xc : Int) (xs : Bool) (xh : Int) (hw : (⟨xc, xs, 32, xh, 67⟩ : S5).wf) (hx : (⟨xc, xs, 32, xh, 67⟩ : S5).ok = true) (vs vm vg : Value) (seed m sig : List UInt8) (a : List UInt32) (ha : a.length = 8) (w : World) (hs : Sl w w.heap.size vs seed) (hm : Sl w w.heap.size vm m) (hg : Sl w w.heap.size vg sig) (ht : Tabs w)
  (hsl : seed.length = 32) (hml : m.length = 32) (hgl : sig.length = 2144) :
  Calls Tryz.prog 73 #[.agg #[.int .u32 xc, .bool xs, .int .i64 32, .int .i64 xh, .int .i64 67], vs, vm, vg, adrV a] w (ResIs w 0 (onB xs 32 seed a (fun i => (dig10 m).getD i 0) sig 67)) := by
 unfold ResIs;obtain ⟨As, cs, rfl, _, _⟩ := hs.form;obtain ⟨Am, cm, rfl, _, _⟩ := hm.form;obtain ⟨Ag, cg, rfl, hcg, _⟩ := hg.form;have H0 : Shh (Sl w w.heap.size (.slice As seed.length cs) seed /\ Sl w w.heap.size (.slice Am m.length cm) m /\ Sl w w.heap.size (.slice Ag sig.length cg) sig /\ Tabs w /\ sig.length <= cg) := ⟨hs, hm, hg, ht, hcg⟩;clear hs hm hg ht hcg
 have HC : Shh (∀ (v : Value) (B : Nat) W, PartsO W B B v [seed, m] -> B <= W.heap.size -> Calls Tryz.prog 95 #[.agg #[.int .u32 xc, .bool xs, .int .i64 32, .int .i64 xh, .int .i64 67], v] W (OldIs (.int .i64 0) W)) := ⟨fun v B W h hB => by
  have h1 := check_any (⟨xc, xs, 32, xh, 67⟩ : S5) hw v [seed, m] B B W h hB (by simp);rw [show badE (⟨xc, xs, 32, xh, 67⟩ : S5) [seed, m] = 0 from badE_of hx (fun b hb => by simp only [List.mem_cons, List.not_mem_nil, or_false] at hb; rcases hb with rfl | rfl <;> (first | (rw [hsl]; rfl) | (rw [hml]; rfl)))] at h1
  exact h1⟩
 have HWK : Shh (∀ (g : Nat) W, Sl W W.heap.size (.slice As seed.length cs) seed -> Tabs W -> g < W.heap.size -> Calls Tryz.prog 105 #[.agg #[.int .u32 xc, .bool xs, .int .i64 32, .int .i64 xh, .int .i64 67], .slice As seed.length cs] W (WalkerIs W g (⟨xc, xs, 32, xh, 67⟩ : S5) seed)) := ⟨fun g W h1 h2 h3 => walker_any (⟨xc, xs, 32, xh, 67⟩ : S5) hx _ seed W h1 (by omega) h2 g h3⟩;have HDG : Shh (∀ W, Sl W W.heap.size (.slice Am m.length cm) m -> Calls Tryz.prog 97 #[.slice Am m.length cm] W (IntsIs W (dig10 m))) := ⟨fun W h => digits_any _ m W h (by omega)⟩;have HLE : Shh (∀ k, k <= 67 -> (onB xs 32 seed a (fun i => (dig10 m).getD i 0) sig k).length = 32 * k) := ⟨fun k hk => onB_len (x := (⟨xc, xs, 32, xh, 67⟩ : S5)) hx seed a (fun i => (dig10 m).getD i 0) sig 67 k (by rw [hgl]; rfl) hk⟩;have HD : Shh ((dig10 m).length = 67 /\ ∀ d ∈ dig10 m, d <= 15) := ⟨by rw [dig10_length]; omega, dig10_lt m (by omega)⟩
 have HGO : Shh (∀ a b f k, (goB xs 32 seed a b f k).length = 32 ∨ b.length ≠ 32) := ⟨fun a b f k => by
  by_cases hb : b.length = 32
  ·exact .inl (goB_length (x := (⟨xc, xs, 32, xh, 67⟩ : S5)) hx seed a b f k hb)
  ·exact .inr hb⟩
 have hne : ((sig.length : Int) != 2144) = false := by rw [hgl]; decide
 have HSG : Shh (sig.length = 2144) := ⟨hgl⟩;have hmk := make0_run sig.length (by rw [hgl]; decide);obtain ⟨W0, hW0⟩ : ∃ W0, W0 = (w.alloc (.cells #[.int .u32 xc, .bool xs, .int .i64 32, .int .i64 xh, .int .i64 67] 27)).alloc (.cells (wordCells a).toArray 64) := ⟨_, rfl⟩;have HW0 : Shh (Row W0 w.heap.size 27 [.int .u32 xc, .bool xs, .int .i64 32, .int .i64 xh, .int .i64 67] /\ Row W0 (w.heap.size + 1) 64 (wordCells a) /\ W0.heap.size = w.heap.size + 2 /\ Below w.heap.size w W0) := by
  rw [hW0];exact ⟨(Row.new_ rfl rfl).alloc _, Row.new_ (by rw [asz]) rfl, by rw [asz, asz], Below.chain (below1 _ _) (below1 _ _)⟩
 obtain ⟨W, hW⟩ : ∃ W, W = W0.alloc (.cells #[.slice As seed.length cs, .slice Am m.length cm] 23) := ⟨_, rfl⟩;have HW : Shh (Row W w.heap.size 27 [.int .u32 xc, .bool xs, .int .i64 32, .int .i64 xh, .int .i64 67] /\ Row W (w.heap.size + 1) 64 (wordCells a) /\ PartsO W (w.heap.size + 3) (w.heap.size + 3) (.slice (some ⟨w.heap.size + 2, 0, none⟩) 2 2) [seed, m] /\ w.heap.size + 3 <= W.heap.size /\ Below w.heap.size w W) := by
  have b0 : Below w.heap.size w W := by rw [hW]; exact Below.chain HW0.out.2.2.2 (below1 _ _)
  refine ⟨by rw [hW]; exact HW0.out.1.alloc _, by rw [hW]; exact HW0.out.2.1.alloc _, ?_, by rw [hW, asz, HW0.out.2.2.1]; exact Nat.le_refl _, b0⟩;exact PartsO.two (by omega) (by omega) (by rw [hW]; exact Row.new_ HW0.out.2.2.1.symm rfl) ((H0.out.1.below b0).more (by omega)) (H0.out.1.off (by omega)) ((H0.out.2.1.below b0).more (by omega)) (H0.out.2.1.off (by omega))
 clear hw hx;have HA : Shh (a.length = 8 /\ (wordCells a).length = 8 /\ ∀ k, (wordCells (atA a k)).length = 8) := ⟨ha, by rw [wordCells_length]; exact ha, fun k => by rw [wordCells_length, atA_length]; exact ha⟩;clear ha hsl hml hgl;unfold adrV;go_enter Tryz.func73, Tryz.ntmps73
 go_wp2_with (first | (rw [<- hW0]; refine wpList_load_any rfl 27 (.tmp 5) rfl w.heap.size rfl 27 [.int .u32 xc, .bool xs, .int .i64 32, .int .i64 xh, .int .i64 67] _ HW0.out.1 Tryz.underlying27 rfl info_xms ?_) | (go_at_call 95; rw [<- hW0, <- hW]; refine (HC.out _ _ _ HW.out.2.2.1 HW.out.2.2.2.1).mono ?_))
 try rw [<- hW0, <- hW]
 unfold OldIs;rintro e w2 ⟨rfl, b2⟩;have H2 : Shh (Row w2 w.heap.size 27 [.int .u32 xc, .bool xs, .int .i64 32, .int .i64 xh, .int .i64 67] /\ Row w2 (w.heap.size + 1) 64 (wordCells a) /\ Below w.heap.size w w2) := ⟨HW.out.1.go b2, HW.out.2.1.go b2, Below.chain HW.out.2.2.2.2 b2⟩;clear HW hW b2 HC HW0 hW0;have e2 := H2.out.1.cell 2;have e4 := H2.out.1.cell 4;simp only [List.getElem?_cons_succ, List.getElem?_cons_zero] at e2 e4
 go_wp2_with (first | refine wpList_load_any rfl 27 (.tmp 5) rfl w.heap.size rfl 27 [.int .u32 xc, .bool xs, .int .i64 32, .int .i64 xh, .int .i64 67] _ H2.out.1 Tryz.underlying27 rfl info_xms ?_ | (go_at_call 105; refine (HWK.out (w.heap.size + 1) _ (H0.out.1.go H2.out.2.2) (H0.out.2.2.2.1.go H2.out.2.2) H2.out.2.1.lt).mono ?_))
 unfold WalkerIs;rintro e w3 ⟨v3, rfl, k3, b3⟩;obtain ⟨F, q1, q2, rfl, hcf, hkf⟩ := k3;have HKF := Shh.mk hkf;have H3 : Shh (Row w3 w.heap.size 27 [.int .u32 xc, .bool xs, .int .i64 32, .int .i64 xh, .int .i64 67] /\ Row w3 (w.heap.size + 1) 64 (wordCells a) /\ Below w.heap.size w w3) := ⟨H2.out.1.go b3, H2.out.2.1.go b3, Below.chain H2.out.2.2 b3⟩;clear H2 b3 HWK hkf e2 e4;obtain ⟨W4, hW4⟩ : ∃ W4, W4 = w3.alloc (.cells (Lib.byteCells (List.replicate sig.length 0)).toArray 5) := ⟨_, rfl⟩;obtain ⟨B, hB⟩ : ∃ B, Shh (B = w3.heap.size) := ⟨_, ⟨rfl⟩⟩;have H4 : Shh (Below w3.heap.size w3 W4 /\ Own W4 B (.slice (some ⟨B, 0, none⟩) 0 sig.length) [] /\ B < W4.heap.size) := by
  rw [hW4, hB.out];exact ⟨below1 _ _, World.ownsRow_made w3 _ sig.length (Nat.le_refl _) (by rw [HSG.out]; unfold maxLen; omega) (by simp [Lib.byteCells]), by rw [asz]; omega⟩
 go_wp2_with (go_at_call 97; rw [<- hB.out, <- hW4]; refine (HDG.out _ (H0.out.2.1.go (Below.chain H3.out.2.2 H4.out.1))).mono ?_)
 clear hW4 hne hmk;unfold IntsIs;rintro e w5 ⟨v5, rfl, g5, b5⟩;obtain ⟨gd, cd, rfl⟩ := g5.addr (by rw [HD.out.1]; decide);have H5 : Shh (But w3.heap.size (w.heap.size + 1) w3 w5 /\ Row w5 w.heap.size 27 [.int .u32 xc, .bool xs, .int .i64 32, .int .i64 xh, .int .i64 67] /\ Own w5 B (.slice (some ⟨B, 0, none⟩) 0 sig.length) [] /\ OwnI w5 B (.slice (some ⟨gd, 0, none⟩) (dig10 m).length cd) (dig10 m) /\ Row w5 (w.heap.size + 1) 64 (wordCells a) /\ B <= w5.heap.size) := by
  have b35 := Below.chain H4.out.1 b5;exact ⟨But.of b35 _, H3.out.1.go b35, H4.out.2.1.go b5, g5.base (by have := H4.out.2.2; omega), H3.out.2.1.go b35, by have := H4.out.2.2; have := b5.size; omega⟩
 clear H4 g5 b5 HDG;have HB2 : Shh (w.heap.size + 1 < B /\ Below w.heap.size w w3 /\ B = w3.heap.size) := ⟨by rw [hB.out]; exact H3.out.2.1.lt, H3.out.2.2, hB.out⟩;clear H3;go_wp2;obtain ⟨dl, hdl⟩ : ∃ dl, dl = dig10 m := ⟨_, rfl⟩;have HDL := Shh.mk hdl;rw [<- hdl] at HD H5 HLE ⊢;clear hdl;go_loopw [14, 42] (fun o i wr => ∃ (k : Nat) (a' : List UInt32), k <= 67 /\ i = .int .i64 (k : Int) /\ Shh (a'.length = 8 /\ (∀ i, atA a' i = atA a i) /\ Row wr (w.heap.size + 1) 64 (wordCells a') /\ Row wr w.heap.size 27 [.int .u32 xc, .bool xs, .int .i64 32, .int .i64 xh, .int .i64 67] /\ But w3.heap.size (w.heap.size + 1) w3 wr /\ B <= wr.heap.size) /\ Shh (OwnI wr B (.slice (some ⟨gd, 0, none⟩) dl.length cd) dl) /\ Shh (Own wr B o (onB xs 32 seed a (fun i => dl.getD i 0) sig k))) (fun _ i _ => 67 - (intOf i).toNat)
 case atStart => exact ⟨0, a, Nat.zero_le _, rfl, ⟨HA.out.1, fun _ => rfl, H5.out.2.2.2.2.1, H5.out.2.1, H5.out.1, H5.out.2.2.2.2.2⟩, ⟨H5.out.2.2.2.1⟩, ⟨H5.out.2.2.1⟩⟩
 case round =>
  clear H5;obtain ⟨k, a', hk, rfl, HL, HDI, HO⟩ := hrel;have ho := HO.out;obtain ⟨Ao, co, rfl⟩ := own_form ho;clear ho;have HBW : Shh (Below w.heap.size w wr) := ⟨HB2.out.2.1.trans (HL.out.2.2.2.2.1.under (by have := HB2.out; omega) (by omega))⟩
  by_cases hlt : k < 67
  ·obtain ⟨dk, hdk⟩ : ∃ dk, dk = dl.getD k 0 := ⟨_, rfl⟩;have hkd : k < dl.length := by rw [HD.out.1]; exact hlt
   have hdg : dl[k] = dk := by rw [hdk, List.getD_eq_getElem?_getD, List.getElem?_eq_getElem hkd]; rfl
   have hd16 : dk <= 15 := by rw [<- hdg]; exact HD.out.2 _ (List.getElem_mem hkd)
   obtain ⟨gd', hAd, hgd, hgd2, hcd⟩ := (SI.of_own HDI.out).at_ (by omega);cases hAd;have hck := hcd k hkd;rw [hdg] at hck;clear hcd;have hkdi : (k : Int) < (dl.length : Int) := by omega
   have hkq : (k : Int) % 4294967296 = (k : Int) := by omega
   have HE : Shh ((onB xs 32 seed a (fun i => dl.getD i 0) sig (k + 1)) = (onB xs 32 seed a (fun i => dl.getD i 0) sig k) ++ goB xs 32 seed (atA a k) (pieceB 32 sig k) dk (15 - dk) /\ (onB xs 32 seed a (fun i => dl.getD i 0) sig k).length <= 3000 /\ (goB xs 32 seed (atA a k) (pieceB 32 sig k) dk (15 - dk)).length = 32 /\ (pieceB 32 sig k).length = 32) := by
    have hp : (pieceB 32 sig k).length = 32 := pieceB_length 32 sig k 67 (by rw [HSG.out]) hlt;refine ⟨by rw [hdk]; exact onB_step xs 32 seed a (fun i => dl.getD i 0) sig k, by rw [HLE.out k (by omega)]; omega, ?_, hp⟩
    rcases HGO.out (atA a k) (pieceB 32 sig k) dk (15 - dk) with h | h
    ·exact h
    ·exact absurd hp h
   obtain ⟨i1, hi1⟩ : ∃ i1, i1 = k * 32 := ⟨_, rfl⟩;obtain ⟨i2, hi2⟩ : ∃ i2, i2 = (k + 1) * 32 := ⟨_, rfl⟩;have hi12 : i1 <= i2 /\ i2 <= 2144 := by omega
   have hm1 : IntKind.i64.wrap ((k : Int) * 32) = (i1 : Int) := by rw [IntKind.wrap_i64]; omega
   have hm2 : IntKind.i64.wrap (((k : Int) + 1) * 32) = (i2 : Int) := by rw [IntKind.wrap_i64]; omega
   have h15 : IntKind.i64.wrap ((15 : Int) - (dk : Int)) = ((15 - dk : Nat) : Int) := by rw [IntKind.wrap_i64]; omega
   have hk1 : IntKind.i64.wrap ((k : Int) + 1) = (k : Int) + 1 := by rw [IntKind.wrap_i64]; omega
   have HP : Shh (pieceB 32 sig k = (sig.take i2).drop i1) := ⟨by rw [hi1, hi2]; rfl⟩;obtain ⟨d2, hd2⟩ : ∃ d2, d2 = 15 - dk := ⟨_, rfl⟩;rw [<- hd2] at h15 HE;have hd215 : dk + d2 <= 15 := by omega
   rw [HP.out] at HE;obtain ⟨Ap, cp, runP, sP0⟩ := slice_mid10 H0.out.2.2.1 i1 i2 hi12.1 (by rw [HSG.out]; exact hi12.2) H0.out.2.2.2.2;have HPS : Shh (Sl w w.heap.size (.slice Ap ((sig.take i2).drop i1).length cp) ((sig.take i2).drop i1)) := ⟨sP0⟩;clear sP0;generalize (sig.take i2).drop i1 = pc at HPS HE runP;obtain ⟨nb, hnb⟩ : ∃ nb, nb = goB xs 32 seed (atA a k) pc dk d2 := ⟨_, rfl⟩;have HNB : Shh (nb = goB xs 32 seed (atA a k) pc dk d2) := ⟨hnb⟩;rw [<- hnb] at HE;clear hnb hdk hdg hd2 hi1 hi2 HP;obtain ⟨E2, hE2⟩ : ∃ E2, E2 = (onB xs 32 seed a (fun i => dl.getD i 0) sig (k + 1)) := ⟨_, rfl⟩;have HE2 : Shh (E2 = (onB xs 32 seed a (fun i => dl.getD i 0) sig (k + 1))) := ⟨hE2⟩;rw [<- hE2] at HE;clear hE2;generalize (onB xs 32 seed a (fun i => dl.getD i 0) sig k) = E at HE HO;obtain ⟨y5, c5⟩ : ∃ y : Int, wr.cell? ⟨w.heap.size + 1, 5, none⟩ = some (.int .u32 y) := ⟨_, wordRow_cell HL.out.2.2.1 5 (by rw [HL.out.1]; decide)⟩;have f5 := HL.out.2.2.1.free 5;obtain ⟨Z, hZ⟩ : ∃ Z, Z = wr.setCell ⟨w.heap.size + 1, 5, none⟩ (.int .u32 (k : Int)) := ⟨_, rfl⟩;have HZ : Shh (Row Z w.heap.size 27 [.int .u32 xc, .bool xs, .int .i64 32, .int .i64 xh, .int .i64 67] /\ Row Z (w.heap.size + 1) 64 (wordCells (atA a k)) /\ Below w.heap.size w Z /\ But w3.heap.size (w.heap.size + 1) w3 Z /\ Own Z B (.slice Ao E.length co) E /\ OwnI Z B (.slice (some ⟨gd, 0, none⟩) dl.length cd) dl /\ B <= Z.heap.size) := by
    rw [hZ];refine ⟨HL.out.2.2.2.1.other _ _ (by show w.heap.size ≠ w.heap.size + 1; omega), ?_, HBW.out.setCell (Nat.le_succ _) _, HL.out.2.2.2.2.1.setCell _ _, ownsRow_setCell_below HO.out HB2.out.1 _, ownsRow_setCell_below HDI.out HB2.out.1 _, by simpa using HL.out.2.2.2.2.2⟩;rw [<- HL.out.2.1 k];exact wordRow_set HL.out.2.2.1 5 k (by omega)
   clear HL HDI HO HBW
   go_wp2_with fail
   rw [<- hZ];clear hZ c5 f5 hck hgd hgd2 hkdi hkq;refine wp_region_held_drew (S := fun w' => Row w' w.heap.size 27 [.int .u32 xc, .bool xs, .int .i64 32, .int .i64 xh, .int .i64 67] /\ Row w' (w.heap.size + 1) 64 (wordCells (atA a k))) (by kernel_rfl) ⟨HZ.out.1.drew, HZ.out.2.1.drew⟩ (fun hS => ?_);clear hS;obtain ⟨V, hV⟩ : ∃ V, V = World.drew Z := ⟨_, rfl⟩;rw [<- hV];have rX : Row V w.heap.size 27 [.int .u32 xc, .bool xs, .int .i64 32, .int .i64 xh, .int .i64 67] := by rw [hV]; exact HZ.out.1.drew
   have rA : Row V (w.heap.size + 1) 64 (wordCells (atA a k)) := by rw [hV]; exact HZ.out.2.1.drew
   have HBV : Below w.heap.size w V := by rw [hV]; exact HZ.out.2.2.1.drew
   have HBu : But w3.heap.size (w.heap.size + 1) w3 V := by rw [hV]; exact HZ.out.2.2.2.1.drew
   have oE : Own V B (.slice Ao E.length co) E := by rw [hV]; exact HZ.out.2.2.2.2.1.drew
   have oD : OwnI V B (.slice (some ⟨gd, 0, none⟩) dl.length cd) dl := by rw [hV]; exact HZ.out.2.2.2.2.2.1.drew
   have hBV : B <= V.heap.size := by rw [hV]; exact HZ.out.2.2.2.2.2.2
   have sP : Sl V V.heap.size (.slice Ap pc.length cp) pc := HPS.out.go HBV;have rT : Tabs V := H0.out.2.2.2.1.go HBV;clear hV HZ HPS;refine hdv0 0 50 (.slice Ao E.length co) (by rfl) (⟨rX, rA⟩) ?_;refine hdv0 1 51 (.func (.func F) #[] #[q1, q2]) (by rfl) (⟨rX, rA⟩) ?_;refine hdv0 2 52 (.slice Ag sig.length cg) (by rfl) (⟨rX, rA⟩) ?_;refine hdv0 3 53 (.int .i64 (k : Int)) (by rfl) (⟨rX, rA⟩) ?_;refine hdv0 4 54 (.pointer (some ⟨w.heap.size, 2, none⟩)) (by rfl) (⟨rX, rA⟩) ?_;refine hdv 5 55 (.int .i64 32) (by rfl) (fun w hS => by have h2 := hS.1.cell 2; simp only [List.getElem?_cons_succ, List.getElem?_cons_zero] at h2; go_simp) (⟨rX, rA⟩) ?_;refine hdv 6 56 (.int .i64 (i1 : Int)) (by rfl) (fun w hS => by go_simp) (⟨rX, rA⟩) ?_;refine hdv0 7 57 (.int .i64 (k : Int)) (by rfl) (⟨rX, rA⟩) ?_;refine hdv 8 58 (.int .i64 ((k : Int) + 1)) (by rfl) (fun w hS => by go_simp) (⟨rX, rA⟩) ?_;refine hdv0 9 59 (.pointer (some ⟨w.heap.size, 2, none⟩)) (by rfl) (⟨rX, rA⟩) ?_;refine hdv 10 60 (.int .i64 32) (by rfl) (fun w hS => by have h2 := hS.1.cell 2; simp only [List.getElem?_cons_succ, List.getElem?_cons_zero] at h2; go_simp) (⟨rX, rA⟩) ?_;refine hdv 11 61 (.int .i64 (i2 : Int)) (by rfl) (fun w hS => by go_simp) (⟨rX, rA⟩) ?_;refine hdv 12 62 (.slice Ap pc.length cp) (by rfl) (fun w hS => run_slice_op_lh ⟨rfl, rfl, rfl⟩ (runP w)) (⟨rX, rA⟩) ?_;refine hdv0 13 63 (.int .i64 (dk : Int)) (by rfl) (⟨rX, rA⟩) ?_;refine hdv0 14 64 (.int .i64 (dk : Int)) (by rfl) (⟨rX, rA⟩) ?_;refine hdv 15 65 (.int .i64 (d2 : Int)) (by rfl) (fun w hS => by go_simp) (⟨rX, rA⟩) ?_;refine held_load 16 64 (.tmp 9) (some 66) (by kernel_rfl) (by rfl) (by kernel_rfl) (w.heap.size + 1) 0 (by kernel_rfl) (wordCells (atA a k)) _ (fun w h => h.2.range) Tryz.underlying64 rfl (info_adr10 (HA.out.2.2 k)) (fun _ _ _ _ h => h) (⟨rX, rA⟩) ?_;simp only [Act.put, arr9, hd9, tl9];refine held_one 17 (by kernel_rfl) ?_;refine step_call 17 _ _ (some 67) F #[.slice Ap pc.length cp, .int .i64 (dk : Int), .int .i64 (d2 : Int), .agg (wordCells (atA a k)).toArray, q1, q2] (by rfl) (by kernel_rfl) (by go_simp) ?_;refine (HKF.out V _ pc dk d2 (atA a k) (HBu.chain (But.of (Below.refl _ _) _)) (rT) (sP) HE.out.2.2.2 hd215 (by rw [atA_length]; exact HA.out.1)).mono ?_;rintro e Y1 ⟨vr, rfl, gr, br, or⟩;have bx : Below V.heap.size V Y1 := br;have sR : Sl Y1 Y1.heap.size vr nb := by rw [HNB.out]; exact gr
   clear gr or;have b_V := bx;have m_Y1 : V.heap.size <= Y1.heap.size := bx.size;clear bx;refine ⟨_, rfl, ⟨(rX.go b_V), (rA.go b_V)⟩, ?_⟩;simp only [Act.put, arr9, hd9, tl9];refine held_one 18 (by kernel_rfl) ?_;obtain ⟨i0, hi, hz0, hz1, hz2⟩ := info_parts info_u8;refine step_appendSl Y1 18 _ (some 68) 23 5 i0 Tryz.underlying23 hi hz0 hz1 hz2 (.tmp 50) (.tmp 67) (by rfl) (by kernel_rfl) ((oE.go b_V)) (sR) (by rw [HE.out.2.2.1]; decide) rfl rfl (by rw [HE.out.2.2.1]; have := HE.out.2.1; omega) (Nat.le_trans hBV (b_V).size) (fun v9 Y2 o9 g9 b9 => ?_);rw [<- HE.out.1] at o9;have q0 : Row Y2 w.heap.size 27 [.int .u32 xc, .bool xs, .int .i64 32, .int .i64 xh, .int .i64 67] := ((rX.go b_V)).below (b9 _ (Nat.le_refl _)) (by have := HB2.out; omega);have q1x : Row Y2 (w.heap.size + 1) 64 (wordCells (atA a k)) := ((rA.go b_V)).below (b9 _ (Nat.le_refl _)) (by have := HB2.out; omega);have q2x : OwnI Y2 B (.slice (some ⟨gd, 0, none⟩) dl.length cd) dl := World.ownsRow.kept ((oD.go b_V)) g9 (own_apart ((oD.go b_V)) ((oE.go b_V)));have q3 : But w3.heap.size (w.heap.size + 1) w3 Y2 := (HBu.chain (But.of b_V _)).trans (But.of (b9 _ (by have := HB2.out; omega)) _);have q4 : B <= Y2.heap.size := Nat.le_trans (Nat.le_trans hBV (b_V).size) (b9 _ (Nat.le_refl _)).size;replace rX := q0;replace rA := q1x;refine ⟨⟨rX, rA⟩, ?_⟩;simp only [Act.put, arr9, hd9, tl9];refine hdv0 19 14 (v9) (by rfl) (⟨rX, rA⟩) ?_;refine wpAnyH_done (by kernel_rfl) ?_ _;have H9 : Shh ((atA a k).length = 8 /\ (∀ i, atA (atA a k) i = atA a i) /\ Row Y2 (w.heap.size + 1) 64 (wordCells (atA a k)) /\ Row Y2 w.heap.size 27 [.int .u32 xc, .bool xs, .int .i64 32, .int .i64 xh, .int .i64 67] /\ But w3.heap.size (w.heap.size + 1) w3 Y2 /\ B <= Y2.heap.size) := ⟨by rw [atA_length]; exact HA.out.1, fun i => atA_again a k i, q1x, q0, q3, q4⟩;have H10 : Shh (OwnI Y2 B (.slice (some ⟨gd, 0, none⟩) dl.length cd) dl) := ⟨q2x⟩;have H11 : Shh (Own Y2 B v9 (onB xs 32 seed a (fun i => dl.getD i 0) sig (k + 1))) := ⟨by rw [<- HE2.out]; exact o9⟩;clear q0 q1x q2x q3 q4 o9 g9 b9 HBV HBu oE oD hBV sP rT rX rA runP HE HE2 hm1 hm2 h15 hk1 HNB hd215;go_wp2
   go_roundw
   case rel => exact ⟨k + 1, _, by omega, by go_num, H9, H10, H11⟩
   case measure => simp [intOf]; omega
  ·have hkd : ¬ ((k : Int) < (dl.length : Int)) := by have := HD.out.1; omega
   have HR : Shh (Sl wr wr.heap.size (.slice Ao (onB xs 32 seed a (fun i => dl.getD i 0) sig k).length co) (onB xs 32 seed a (fun i => (dig10 m).getD i 0) sig 67) /\ Below w.heap.size w wr) := ⟨by
    rw [<- HDL.out];have hk2 : k = 67 := by omega
    have h := Sl.of_own HO.out;rw [hk2] at h ⊢
    exact h, HBW.out⟩
   clear HL HDI HO HBW HLE HGO;go_wp2;go_ret2;exact ⟨_, rfl, HR.out⟩
set_option maxHeartbeats 1000000 in
theorem fromSigB_any (x : S5) (hw : x.wf) (vs vm vg : Value) (seed m sig : List UInt8) (a : List UInt32) (ha : a.length = 8) (w : World) (hs : Sl w w.heap.size vs seed) (hm : Sl w w.heap.size vm m) (hg : Sl w w.heap.size vg sig) (hb : badE x [seed, m] ≠ 0) :
  Calls Tryz.prog 73 #[x.v, vs, vm, vg, adrV a] w (ResIs w (badE x [seed, m]) []) := by
 unfold ResIs;obtain ⟨As, cs, rfl, _, _⟩ := hs.form;obtain ⟨Am, cm, rfl, _, _⟩ := hm.form;obtain ⟨Ag, cg, rfl, _, _⟩ := hg.form;have H0 : Shh (Sl w w.heap.size (.slice As seed.length cs) seed /\ Sl w w.heap.size (.slice Am m.length cm) m) := ⟨hs, hm⟩;clear hs hm hg
 have HC : Shh (∀ (v : Value) (B : Nat) W, PartsO W B B v [seed, m] -> B <= W.heap.size -> Calls Tryz.prog 95 #[x.v, v] W (OldIs (.int .i64 (badE x [seed, m])) W)) := ⟨fun v B W h hB => by
  have h1 := check_any x hw v [seed, m] B B W h hB (by simp)
  exact h1⟩
 obtain ⟨er, her⟩ : ∃ er, er = badE x [seed, m] := ⟨_, rfl⟩;rw [<- her] at HC hb ⊢;have hne0 : (er != 0) = true := by simp [hb]
 obtain ⟨W0, hW0⟩ : ∃ W0, W0 = (w.alloc (.cells #[.int .u32 x.c, .bool x.s, .int .i64 x.n, .int .i64 x.h, .int .i64 x.l] 27)).alloc (.cells (wordCells a).toArray 64) := ⟨_, rfl⟩;have HW0 : Shh (Row W0 w.heap.size 27 [.int .u32 x.c, .bool x.s, .int .i64 x.n, .int .i64 x.h, .int .i64 x.l] /\ Row W0 (w.heap.size + 1) 64 (wordCells a) /\ W0.heap.size = w.heap.size + 2 /\ Below w.heap.size w W0) := by
  rw [hW0];exact ⟨(Row.new_ rfl rfl).alloc _, Row.new_ (by rw [asz]) rfl, by rw [asz, asz], Below.chain (below1 _ _) (below1 _ _)⟩
 obtain ⟨W, hW⟩ : ∃ W, W = W0.alloc (.cells #[.slice As seed.length cs, .slice Am m.length cm] 23) := ⟨_, rfl⟩;have HW : Shh (Row W w.heap.size 27 [.int .u32 x.c, .bool x.s, .int .i64 x.n, .int .i64 x.h, .int .i64 x.l] /\ PartsO W (w.heap.size + 3) (w.heap.size + 3) (.slice (some ⟨w.heap.size + 2, 0, none⟩) 2 2) [seed, m] /\ w.heap.size + 3 <= W.heap.size /\ Below w.heap.size w W) := by
  have b0 : Below w.heap.size w W := by rw [hW]; exact Below.chain HW0.out.2.2.2 (below1 _ _)
  refine ⟨by rw [hW]; exact HW0.out.1.alloc _, ?_, by rw [hW, asz, HW0.out.2.2.1]; exact Nat.le_refl _, b0⟩;exact PartsO.two (by omega) (by omega) (by rw [hW]; exact Row.new_ HW0.out.2.2.1.symm rfl) ((H0.out.1.below b0).more (by omega)) (H0.out.1.off (by omega)) ((H0.out.2.below b0).more (by omega)) (H0.out.2.off (by omega))
 have HA : Shh ((wordCells a).length = 8) := ⟨by rw [wordCells_length]; exact ha⟩;clear ha H0 hw hb her;unfold adrV;unfold S5.v at HC ⊢;generalize x.c = xc at *;generalize x.s = xs at *;generalize x.n = xn at *;generalize x.h = xh at *;generalize x.l = xl at *;go_enter Tryz.func73, Tryz.ntmps73
 go_wp2_with (first | (rw [<- hW0]; refine wpList_load_any rfl 27 (.tmp 5) rfl w.heap.size rfl 27 [.int .u32 xc, .bool xs, .int .i64 xn, .int .i64 xh, .int .i64 xl] _ HW0.out.1 Tryz.underlying27 rfl info_xms ?_) | (go_at_call 95; rw [<- hW0, <- hW]; refine (HC.out _ _ _ HW.out.2.1 HW.out.2.2.1).mono ?_))
 try rw [<- hW0, <- hW]
 unfold OldIs;rintro e w2 ⟨rfl, b2⟩;have H2 : Shh (Row w2 w.heap.size 27 [.int .u32 xc, .bool xs, .int .i64 xn, .int .i64 xh, .int .i64 xl] /\ Below w.heap.size w w2) := ⟨HW.out.1.go b2, Below.chain HW.out.2.2.2 b2⟩;clear HW hW b2 HC HW0 hW0;have e2 := H2.out.1.cell 2;have e4 := H2.out.1.cell 4;simp only [List.getElem?_cons_succ, List.getElem?_cons_zero] at e2 e4;have HR := Shh.mk H2.out.2;clear H2;go_wp2;go_ret2;exact ⟨_, rfl, Sl.nil_, HR.out⟩
set_option maxHeartbeats 1000000 in
theorem fromSigL_24 (xc : Int) (xs : Bool) (xh : Int) (hw : (⟨xc, xs, 24, xh, 51⟩ : S5).wf) (vs vm vg : Value) (seed m sig : List UInt8) (a : List UInt32) (ha : a.length = 8) (w : World) (hs : Sl w w.heap.size vs seed) (hm : Sl w w.heap.size vm m) (hg : Sl w w.heap.size vg sig) (hb : badE (⟨xc, xs, 24, xh, 51⟩ : S5) [seed, m] = 0) (hl : sig.length ≠ 1224) :
  Calls Tryz.prog 73 #[.agg #[.int .u32 xc, .bool xs, .int .i64 24, .int .i64 xh, .int .i64 51], vs, vm, vg, adrV a] w (ResIs w 1 []) := by
 unfold ResIs;obtain ⟨As, cs, rfl, _, _⟩ := hs.form;obtain ⟨Am, cm, rfl, _, _⟩ := hm.form;obtain ⟨Ag, cg, rfl, _, _⟩ := hg.form;have H0 : Shh (Sl w w.heap.size (.slice As seed.length cs) seed /\ Sl w w.heap.size (.slice Am m.length cm) m) := ⟨hs, hm⟩;clear hs hm hg
 have HC : Shh (∀ (v : Value) (B : Nat) W, PartsO W B B v [seed, m] -> B <= W.heap.size -> Calls Tryz.prog 95 #[.agg #[.int .u32 xc, .bool xs, .int .i64 24, .int .i64 xh, .int .i64 51], v] W (OldIs (.int .i64 (0)) W)) := ⟨fun v B W h hB => by
  have h1 := check_any (⟨xc, xs, 24, xh, 51⟩ : S5) hw v [seed, m] B B W h hB (by simp);rw [hb] at h1
  exact h1⟩
 have hne : ((sig.length : Int) != 1224) = true := by rw [bne_iff_ne]; omega
 obtain ⟨W0, hW0⟩ : ∃ W0, W0 = (w.alloc (.cells #[.int .u32 xc, .bool xs, .int .i64 24, .int .i64 xh, .int .i64 51] 27)).alloc (.cells (wordCells a).toArray 64) := ⟨_, rfl⟩;have HW0 : Shh (Row W0 w.heap.size 27 [.int .u32 xc, .bool xs, .int .i64 24, .int .i64 xh, .int .i64 51] /\ Row W0 (w.heap.size + 1) 64 (wordCells a) /\ W0.heap.size = w.heap.size + 2 /\ Below w.heap.size w W0) := by
  rw [hW0];exact ⟨(Row.new_ rfl rfl).alloc _, Row.new_ (by rw [asz]) rfl, by rw [asz, asz], Below.chain (below1 _ _) (below1 _ _)⟩
 obtain ⟨W, hW⟩ : ∃ W, W = W0.alloc (.cells #[.slice As seed.length cs, .slice Am m.length cm] 23) := ⟨_, rfl⟩;have HW : Shh (Row W w.heap.size 27 [.int .u32 xc, .bool xs, .int .i64 24, .int .i64 xh, .int .i64 51] /\ PartsO W (w.heap.size + 3) (w.heap.size + 3) (.slice (some ⟨w.heap.size + 2, 0, none⟩) 2 2) [seed, m] /\ w.heap.size + 3 <= W.heap.size /\ Below w.heap.size w W) := by
  have b0 : Below w.heap.size w W := by rw [hW]; exact Below.chain HW0.out.2.2.2 (below1 _ _)
  refine ⟨by rw [hW]; exact HW0.out.1.alloc _, ?_, by rw [hW, asz, HW0.out.2.2.1]; exact Nat.le_refl _, b0⟩;exact PartsO.two (by omega) (by omega) (by rw [hW]; exact Row.new_ HW0.out.2.2.1.symm rfl) ((H0.out.1.below b0).more (by omega)) (H0.out.1.off (by omega)) ((H0.out.2.below b0).more (by omega)) (H0.out.2.off (by omega))
 have HA : Shh ((wordCells a).length = 8) := ⟨by rw [wordCells_length]; exact ha⟩;clear ha H0 hw hb;unfold adrV;go_enter Tryz.func73, Tryz.ntmps73
 go_wp2_with (first | (rw [<- hW0]; refine wpList_load_any rfl 27 (.tmp 5) rfl w.heap.size rfl 27 [.int .u32 xc, .bool xs, .int .i64 24, .int .i64 xh, .int .i64 51] _ HW0.out.1 Tryz.underlying27 rfl info_xms ?_) | (go_at_call 95; rw [<- hW0, <- hW]; refine (HC.out _ _ _ HW.out.2.1 HW.out.2.2.1).mono ?_))
 try rw [<- hW0, <- hW]
 unfold OldIs;rintro e w2 ⟨rfl, b2⟩;have H2 : Shh (Row w2 w.heap.size 27 [.int .u32 xc, .bool xs, .int .i64 24, .int .i64 xh, .int .i64 51] /\ Below w.heap.size w w2) := ⟨HW.out.1.go b2, Below.chain HW.out.2.2.2 b2⟩;clear HW hW b2 HC HW0 hW0;have e2 := H2.out.1.cell 2;have e4 := H2.out.1.cell 4;simp only [List.getElem?_cons_succ, List.getElem?_cons_zero] at e2 e4;have HR := Shh.mk H2.out.2;clear H2;go_wp2;go_ret2;exact ⟨_, rfl, Sl.nil_, HR.out⟩
set_option maxHeartbeats 1000000 in
theorem fromSigL_32 (xc : Int) (xs : Bool) (xh : Int) (hw : (⟨xc, xs, 32, xh, 67⟩ : S5).wf) (vs vm vg : Value) (seed m sig : List UInt8) (a : List UInt32) (ha : a.length = 8) (w : World) (hs : Sl w w.heap.size vs seed) (hm : Sl w w.heap.size vm m) (hg : Sl w w.heap.size vg sig) (hb : badE (⟨xc, xs, 32, xh, 67⟩ : S5) [seed, m] = 0) (hl : sig.length ≠ 2144) :
  Calls Tryz.prog 73 #[.agg #[.int .u32 xc, .bool xs, .int .i64 32, .int .i64 xh, .int .i64 67], vs, vm, vg, adrV a] w (ResIs w 1 []) := by
 unfold ResIs;obtain ⟨As, cs, rfl, _, _⟩ := hs.form;obtain ⟨Am, cm, rfl, _, _⟩ := hm.form;obtain ⟨Ag, cg, rfl, _, _⟩ := hg.form;have H0 : Shh (Sl w w.heap.size (.slice As seed.length cs) seed /\ Sl w w.heap.size (.slice Am m.length cm) m) := ⟨hs, hm⟩;clear hs hm hg
 have HC : Shh (∀ (v : Value) (B : Nat) W, PartsO W B B v [seed, m] -> B <= W.heap.size -> Calls Tryz.prog 95 #[.agg #[.int .u32 xc, .bool xs, .int .i64 32, .int .i64 xh, .int .i64 67], v] W (OldIs (.int .i64 (0)) W)) := ⟨fun v B W h hB => by
  have h1 := check_any (⟨xc, xs, 32, xh, 67⟩ : S5) hw v [seed, m] B B W h hB (by simp);rw [hb] at h1
  exact h1⟩
 have hne : ((sig.length : Int) != 2144) = true := by rw [bne_iff_ne]; omega
 obtain ⟨W0, hW0⟩ : ∃ W0, W0 = (w.alloc (.cells #[.int .u32 xc, .bool xs, .int .i64 32, .int .i64 xh, .int .i64 67] 27)).alloc (.cells (wordCells a).toArray 64) := ⟨_, rfl⟩;have HW0 : Shh (Row W0 w.heap.size 27 [.int .u32 xc, .bool xs, .int .i64 32, .int .i64 xh, .int .i64 67] /\ Row W0 (w.heap.size + 1) 64 (wordCells a) /\ W0.heap.size = w.heap.size + 2 /\ Below w.heap.size w W0) := by
  rw [hW0];exact ⟨(Row.new_ rfl rfl).alloc _, Row.new_ (by rw [asz]) rfl, by rw [asz, asz], Below.chain (below1 _ _) (below1 _ _)⟩
 obtain ⟨W, hW⟩ : ∃ W, W = W0.alloc (.cells #[.slice As seed.length cs, .slice Am m.length cm] 23) := ⟨_, rfl⟩;have HW : Shh (Row W w.heap.size 27 [.int .u32 xc, .bool xs, .int .i64 32, .int .i64 xh, .int .i64 67] /\ PartsO W (w.heap.size + 3) (w.heap.size + 3) (.slice (some ⟨w.heap.size + 2, 0, none⟩) 2 2) [seed, m] /\ w.heap.size + 3 <= W.heap.size /\ Below w.heap.size w W) := by
  have b0 : Below w.heap.size w W := by rw [hW]; exact Below.chain HW0.out.2.2.2 (below1 _ _)
  refine ⟨by rw [hW]; exact HW0.out.1.alloc _, ?_, by rw [hW, asz, HW0.out.2.2.1]; exact Nat.le_refl _, b0⟩;exact PartsO.two (by omega) (by omega) (by rw [hW]; exact Row.new_ HW0.out.2.2.1.symm rfl) ((H0.out.1.below b0).more (by omega)) (H0.out.1.off (by omega)) ((H0.out.2.below b0).more (by omega)) (H0.out.2.off (by omega))
 have HA : Shh ((wordCells a).length = 8) := ⟨by rw [wordCells_length]; exact ha⟩;clear ha H0 hw hb;unfold adrV;go_enter Tryz.func73, Tryz.ntmps73
 go_wp2_with (first | (rw [<- hW0]; refine wpList_load_any rfl 27 (.tmp 5) rfl w.heap.size rfl 27 [.int .u32 xc, .bool xs, .int .i64 32, .int .i64 xh, .int .i64 67] _ HW0.out.1 Tryz.underlying27 rfl info_xms ?_) | (go_at_call 95; rw [<- hW0, <- hW]; refine (HC.out _ _ _ HW.out.2.1 HW.out.2.2.1).mono ?_))
 try rw [<- hW0, <- hW]
 unfold OldIs;rintro e w2 ⟨rfl, b2⟩;have H2 : Shh (Row w2 w.heap.size 27 [.int .u32 xc, .bool xs, .int .i64 32, .int .i64 xh, .int .i64 67] /\ Below w.heap.size w w2) := ⟨HW.out.1.go b2, Below.chain HW.out.2.2.2 b2⟩;clear HW hW b2 HC HW0 hW0;have e2 := H2.out.1.cell 2;have e4 := H2.out.1.cell 4;simp only [List.getElem?_cons_succ, List.getElem?_cons_zero] at e2 e4;have HR := Shh.mk H2.out.2;clear H2;go_wp2;go_ret2;exact ⟨_, rfl, Sl.nil_, HR.out⟩
theorem FromSig_any (x : S5) (hw : x.wf) (vs vm vg : Value) (seed m sig : List UInt8) (a : List UInt32) (ha : a.length = 8) (w : World) (hs : Sl w w.heap.size vs seed) (hm : Sl w w.heap.size vm m) (hg : Sl w w.heap.size vg sig) (ht : Tabs w) :
  Calls Tryz.prog 73 #[x.v, vs, vm, vg, adrV a] w (ResIs w (fsE x seed m sig) (fsB x seed m sig a)) := by
 by_cases hb : badE x [seed, m] = 0
 ·obtain ⟨hx, hall⟩ := badE_ok hb
  by_cases hl : (sig.length : Int) = x.l * x.n
  ·have hE : fsE x seed m sig = 0 := by unfold fsE; rw [if_pos hb, if_pos hl]
   have hB : fsB x seed m sig a = onB x.s x.n seed a (fun i => (dig10 m).getD i 0) sig x.l.toNat := by unfold fsB; rw [if_pos hE]
   rw [hE, hB];have h1 := hall seed (by simp);have h2 := hall m (by simp);have hn := S5.ok_is hx;obtain ⟨c, s, n, h, l⟩ := x;simp only at hn h1 h2 hl
   rcases hn with ⟨rfl, rfl⟩ | ⟨rfl, rfl⟩
   ·exact fromSig_24 c s h hw hx vs vm vg seed m sig a ha w hs hm hg ht (by omega) (by omega) (by omega)
   ·exact fromSig_32 c s h hw hx vs vm vg seed m sig a ha w hs hm hg ht (by omega) (by omega) (by omega)
  ·have hE : fsE x seed m sig = 1 := by unfold fsE; rw [if_pos hb, if_neg hl]
   have hB : fsB x seed m sig a = [] := by unfold fsB; rw [hE]; rfl
   rw [hE, hB];have hn := S5.ok_is hx;obtain ⟨c, s, n, h, l⟩ := x;simp only at hn hl
   rcases hn with ⟨rfl, rfl⟩ | ⟨rfl, rfl⟩
   ·exact fromSigL_24 c s h hw vs vm vg seed m sig a ha w hs hm hg hb (by omega)
   ·exact fromSigL_32 c s h hw vs vm vg seed m sig a ha w hs hm hg hb (by omega)
 ·have hE : fsE x seed m sig = badE x [seed, m] := by unfold fsE; rw [if_neg hb]
  have hB : fsB x seed m sig a = [] := by unfold fsB; rw [hE, if_neg hb]
  rw [hE, hB];exact fromSigB_any x hw vs vm vg seed m sig a ha w hs hm hg hb
end Go.Proofs.YtdakbipiifkmfaaGreatDoor
