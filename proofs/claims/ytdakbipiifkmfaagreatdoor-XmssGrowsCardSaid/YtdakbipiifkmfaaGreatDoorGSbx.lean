import Derived.WalkKit
import Derived.Test.YtdakbipiifkmfaaGreatDoorProg
import Derived.WalkSpells
import Derived.WalkLawsBesides
import Derived.Lib.UnsafeStr
import Derived.Lib.Hide
import Derived.Laws.BytesArg
import Derived.Deep.Draws
import Derived.RegionTactic
import Derived.ChangeAlike
import Derived.Laws.AppendOwnNone
import Derived.BigQuiet
import Derived.Deep.QuietTactic
import Derived.Lib.ConvBytes
import Derived.Lib.AtoiErrMem
import Derived.Laws.AppendOwn
import Derived.StillTailTactics
import Derived.BigRegion
import Derived.Deep.RegionWith
import Derived.Deep.RegionHeld
import Derived.Laws.Cover3
import Derived.Test.YtdakbipiifkmfaaGreatDoorRows
import Derived.ProofKit
import Derived.OpenShut
import Derived.JoinedCond
import Derived.SizedLaws
import Derived.Carry
import Derived.Deep.Grids
import Derived.Deep.RegionHeld3
import Derived.Laws.CopyOwn
import Derived.Deep.RegionLaw
import Derived.DeepKeys
import Derived.Lib.SmallJoins
import Derived.Deep.MidRow
import Derived.Deep.WholeRow
import Derived.Deep.Matrix
import Derived.WideKeyArr2
import Derived.Deep.Slices
import Derived.Deep.SlicePairs
import Derived.Test.YtdakbipiifkmfaaGreatDoorGSbm
import Derived.Test.YtdakbipiifkmfaaGreatDoorGX31
namespace Go.Proofs.YtdakbipiifkmfaaGreatDoor
open Go.RowKit
set_option maxRecDepth 100000
def rowB (s : Bool) (n : Int) (L H : Nat) (sd pb : List UInt8) (h : Nat) : List (List UInt8) := lvl (rwF s n pb) ((List.range (2 ^ H)).map fun i => leafB s n L sd pb i) h
def rootB (s : Bool) (n : Int) (L H : Nat) (sd pb : List UInt8) : List UInt8 := (rowB s n L H sd pb H).getD 0 []
end Go.Proofs.YtdakbipiifkmfaaGreatDoor
namespace Go.Proofs.YtdakbipiifkmfaaGreatDoor
open Go.RowKit
set_option maxRecDepth 100000
set_option maxHeartbeats 1000000 in
theorem refMay11_any (x : S5) (hw : x.wf) (v : Value) (bss : List (List UInt8)) (B g : Nat) (w : World) (hp : PartsO w B g v bss) (hB : B <= w.heap.size) (hn : bss.length <= 1000000) :
  Calls Tryz.prog 54 #[x.v, v] w (OldIs (.int .i64 (badE x bss)) w) := by
 unfold OldIs;obtain ⟨A, c, rfl⟩ := hp.form;have HM : Shh (∀ W, Calls Tryz.prog 48 #[x.v] W (OldIs (.bool x.ok) W)) := ⟨fun W => mayXmss_any x hw W⟩;unfold S5.v at HM ⊢;have HP := Shh.mk hp;clear hp;have HW : Shh (Row (w.alloc (.cells #[.int .u32 x.c, .bool x.s, .int .i64 x.n, .int .i64 x.h, .int .i64 x.l] 27)) w.heap.size 27 [.int .u32 x.c, .bool x.s, .int .i64 x.n, .int .i64 x.h, .int .i64 x.l] /\ Below w.heap.size w (w.alloc (.cells #[.int .u32 x.c, .bool x.s, .int .i64 x.n, .int .i64 x.h, .int .i64 x.l] 27))) := ⟨Row.new_ rfl rfl, below1 _ _⟩;cases hok : x.ok with
 | false =>
  have HE : Shh (badE x bss = 60) := ⟨by unfold badE; rw [hok]; rfl⟩;rw [HE.out];rw [hok] at HM;clear hok HE hw;generalize x.c = xc at *;generalize x.s = xs at *;generalize x.n = xn at *;generalize x.h = xh at *;generalize x.l = xl at *;go_enter Tryz.func54, Tryz.ntmps54
  go_wp2_with (go_at_call 48; refine (HM.out _).mono ?_)
  unfold OldIs;rintro e w2 ⟨rfl, b2⟩;have HB := Shh.mk (Below.chain HW.out.2 b2);clear b2 HW HM;go_wp2;go_ret;exact ⟨rfl, HB.out⟩
 | true =>
  obtain ⟨E, hE⟩ : ∃ E, E = badE x bss := ⟨_, rfl⟩;rw [<- hE];have HE : Shh (E = if bss.all (fun b => decide ((b.length : Int) = x.n)) then 0 else 1) := ⟨by rw [hE]; unfold badE; rw [hok]; rfl⟩;rw [hok] at HM;clear hok hE hw;generalize x.c = xc at *;generalize x.s = xs at *;generalize x.n = xn at *;generalize x.h = xh at *;generalize x.l = xl at *;go_enter Tryz.func54, Tryz.ntmps54
  go_wp2_with (go_at_call 48; refine (HM.out _).mono ?_)
  unfold OldIs;rintro e w2 ⟨rfl, b2⟩;have H2 : Shh (Row w2 w.heap.size 27 [.int .u32 xc, .bool xs, .int .i64 xn, .int .i64 xh, .int .i64 xl] /\ Below w.heap.size w w2) := ⟨HW.out.1.go b2, Below.chain HW.out.2 b2⟩;clear b2 HW HM;go_wp2;go_loopw [12] (fun i wr => ∃ k : Nat, k <= bss.length /\ i = .int .i64 (k : Int) /\ Shh (Row wr w.heap.size 27 [.int .u32 xc, .bool xs, .int .i64 xn, .int .i64 xh, .int .i64 xl] /\ Below w.heap.size w wr /\ ∀ j (h : j < bss.length), j < k -> (bss[j].length : Int) = xn)) (fun i _ => bss.length - (intOf i).toNat)
  case atStart => exact ⟨0, Nat.zero_le _, rfl, ⟨H2.out.1, H2.out.2, fun _ _ h => absurd h (Nat.not_lt_zero _)⟩⟩
  case round =>
   clear H2;obtain ⟨k, hk, rfl, HL⟩ := hrel
   by_cases hlt : k < bss.length
   ·obtain ⟨q, off, rfl, hq, hqg, hcc⟩ := HP.out.at_ (by omega);obtain ⟨u, hcu, hsu, _⟩ := hcc k hlt;obtain ⟨Au, cu, rfl, _, _⟩ := hsu.form;have hcx := (HL.out.2.1.cell (p := ⟨q, off + k, none⟩) (show q < w.heap.size by omega)).trans hcu;have e2 := HL.out.1.cell 2;simp only [List.getElem?_cons_succ, List.getElem?_cons_zero] at e2
    have HX : Shh (bss[k] ∈ bss /\ ∀ j (h : j < bss.length), j < k + 1 -> (bss[k].length : Int) = xn -> (bss[j].length : Int) = xn) := ⟨List.getElem_mem hlt, fun j hj hjk he => by
     by_cases e : j = k
     ·subst e; exact he
     ·exact HL.out.2.2 j hj (by omega)⟩
    clear hcu hsu hcc;obtain ⟨ln, hln⟩ : ∃ ln, ln = bss[k].length := ⟨_, rfl⟩;have HLN := Shh.mk hln;rw [<- hln] at hcx;clear hln
    by_cases heq : (ln : Int) = xn
    ·have hne : ((ln : Int) != xn) = false := by simp [heq]
     have HR : Shh (Row wr w.heap.size 27 [.int .u32 xc, .bool xs, .int .i64 xn, .int .i64 xh, .int .i64 xl] /\ Below w.heap.size w wr /\ ∀ j (h : j < bss.length), j < k + 1 -> (bss[j].length : Int) = xn) := ⟨HL.out.1, HL.out.2.1, fun j hj hjk => HX.out.2 j hj hjk (by rw [<- HLN.out]; exact heq)⟩;clear heq HL HX HLN;go_wp2
     go_round
     case rel => exact ⟨k + 1, by omega, by go_num, ⟨HR.out.1, HR.out.2.1, HR.out.2.2⟩⟩
     case measure => simp [intOf]; omega
    ·have hne : ((ln : Int) != xn) = true := by simp [heq]
     have HR : Shh (E = 1 /\ Below w.heap.size w wr) := ⟨by
      rw [HE.out, if_neg];intro hh
      exact heq (by rw [HLN.out]; exact of_decide_eq_true (List.all_eq_true.1 hh _ HX.out.1)), HL.out.2.1⟩
     clear heq HL HX HLN HE;go_wp2;go_ret;exact ⟨by rw [HR.out.1]; rfl, HR.out.2⟩
   ·obtain rfl : k = bss.length := by omega
    have HR : Shh (E = 0 /\ Below w.heap.size w wr) := ⟨by
     rw [HE.out, if_pos];rw [List.all_eq_true];intro b hb;obtain ⟨j, hj, rfl⟩ := List.getElem_of_mem hb
     exact decide_eq_true (HL.out.2.2 j hj hj), HL.out.2.1⟩
    clear HL HE;go_wp2;go_ret;exact ⟨by rw [HR.out.1]; rfl, HR.out.2⟩
def keyV (vs vp vb : Value) : Value := .agg #[vs, vp, vb]
set_option maxHeartbeats 2000000 in
theorem mayKey_any (x : S5) (hw : x.wf) (vs vp vb : Value) (sd pf pb : List UInt8) (w : World) (hs : Sl w w.heap.size vs sd) (hp : Sl w w.heap.size vp pf) (hb : Sl w w.heap.size vb pb) :
  Calls Tryz.prog 21 #[x.v, keyV vs vp vb] w (OldIs (.int .i64 (badE x [sd, pf, pb])) w) := by
 unfold OldIs;obtain ⟨A1, c1, rfl, _, _⟩ := hs.form;obtain ⟨A2, c2, rfl, _, _⟩ := hp.form;obtain ⟨A3, c3, rfl, _, _⟩ := hb.form;obtain ⟨E, hE⟩ : ∃ E, E = badE x [sd, pf, pb] := ⟨_, rfl⟩;rw [<- hE];have HM : Shh (∀ (v : Value) (B g : Nat) (W : World), PartsO W B g v [sd, pf, pb] -> B <= W.heap.size -> Calls Tryz.prog 54 #[x.v, v] W (OldIs (.int .i64 E) W)) := ⟨fun v B g W h1 h2 => by rw [hE]; exact refMay11_any x hw v _ B g W h1 h2 (by simp)⟩;clear hE hw;unfold S5.v at HM ⊢;unfold keyV;obtain ⟨W, hW⟩ : ∃ W, W = (w.alloc (.cells #[.int .u32 x.c, .bool x.s, .int .i64 x.n, .int .i64 x.h, .int .i64 x.l] 27)).alloc (.cells #[.slice A1 sd.length c1, .slice A2 pf.length c2, .slice A3 pb.length c3] 25) := ⟨_, rfl⟩;have HW : Shh (Row W w.heap.size 27 [.int .u32 x.c, .bool x.s, .int .i64 x.n, .int .i64 x.h, .int .i64 x.l] /\ Sl W W.heap.size (.slice A1 sd.length c1) sd /\ Sl W W.heap.size (.slice A2 pf.length c2) pf /\ Sl W W.heap.size (.slice A3 pb.length c3) pb /\ Below w.heap.size w W) := by
  rw [hW];exact ⟨(Row.new_ rfl rfl).alloc _, (hs.go (below1 _ _)).go (below1 _ _), (hp.go (below1 _ _)).go (below1 _ _), (hb.go (below1 _ _)).go (below1 _ _), Below.chain (below1 _ _) (below1 _ _)⟩
 clear hs hp hb;generalize x.c = xc at *;generalize x.s = xs at *;generalize x.n = xn at *;generalize x.h = xh at *;generalize x.l = xl at *;go_enter Tryz.func21, Tryz.ntmps21;have HZ : Shh (w.heap.size + 1 + 1 = W.heap.size) := ⟨by rw [hW, asz, asz]⟩
 go_wp2_with fail
 rw [<- hW];clear hW;refine (HM.out _ (W.heap.size + 1) (W.heap.size + 1) _ (PartsO.three (by rw [HZ.out]; exact Nat.lt_succ_self _) (by rw [HZ.out]; omega) (Row.new_ HZ.out rfl) ((HW.out.2.1.below (below1 _ _)).more (by omega)) (HW.out.2.1.off (by omega)) ((HW.out.2.2.1.below (below1 _ _)).more (by omega)) (HW.out.2.2.1.off (by omega)) ((HW.out.2.2.2.1.below (below1 _ _)).more (by omega)) (HW.out.2.2.2.1.off (by omega))) (by rw [asz]; exact Nat.le_refl _)).mono ?_;unfold OldIs;rintro e w2 ⟨rfl, b2⟩;have HB : Shh (Below w.heap.size w w2) := ⟨Below.chain HW.out.2.2.2.2 (Below.chain (below1 _ _) b2)⟩;clear b2 HW HM;go_wp2;go_ret;exact ⟨rfl, HB.out⟩
end Go.Proofs.YtdakbipiifkmfaaGreatDoor
namespace Go.Proofs.YtdakbipiifkmfaaGreatDoor
open Go.RowKit
set_option maxRecDepth 100000
theorem info_key11 : (Tryz.prog.info? 25).map (·.size) = some 3 := by kernel_rfl
end Go.Proofs.YtdakbipiifkmfaaGreatDoor
namespace Go.Proofs.YtdakbipiifkmfaaGreatDoor
open Go.RowKit
set_option maxRecDepth 100000
section
variable {a : Act} {x y : Operand} {op : Oper} {w : World}
theorem load_u {p : Addr} {n : Int} (ho : op.op = .load 22 x) (hc : w.cell? p = some (.int .u32 n)) (hx : a.eval x = .pointer (some p)) : (execOp a.eval op).run Tryz.prog w = .ok (.value (.int .u32 n)) w := by
 unfold execOp;simp only [ho, hx]
 go_simp
end
end Go.Proofs.YtdakbipiifkmfaaGreatDoor
namespace Go.Proofs.YtdakbipiifkmfaaGreatDoor
open Go.RowKit
set_option maxRecDepth 100000
set_option maxHeartbeats 1000000 in
theorem high_any (x : S5) (hw : x.wf) (w : World) : Calls Tryz.prog 17 #[x.v] w (OldIs (.bool (x.ok && decide (4 < x.h))) w) := by
 unfold OldIs;have HM : Shh (∀ W, Calls Tryz.prog 48 #[x.v] W (OldIs (.bool x.ok) W)) := ⟨fun W => mayXmss_any x hw W⟩;unfold S5.v at HM ⊢;have HW : Shh (Row (w.alloc (.cells #[.int .u32 x.c, .bool x.s, .int .i64 x.n, .int .i64 x.h, .int .i64 x.l] 27)) w.heap.size 27 [.int .u32 x.c, .bool x.s, .int .i64 x.n, .int .i64 x.h, .int .i64 x.l] /\ Below w.heap.size w (w.alloc (.cells #[.int .u32 x.c, .bool x.s, .int .i64 x.n, .int .i64 x.h, .int .i64 x.l] 27))) := ⟨Row.new_ rfl rfl, below1 _ _⟩;clear hw;generalize x.ok = ok at *;generalize x.c = xc at *;generalize x.s = xs at *;generalize x.n = xn at *;generalize x.h = xh at *;generalize x.l = xl at *;go_enter Tryz.func17, Tryz.ntmps17
 go_wp2_with (first | refine wpList_load_any rfl 27 (.tmp 1) rfl w.heap.size rfl 27 [.int .u32 xc, .bool xs, .int .i64 xn, .int .i64 xh, .int .i64 xl] _ HW.out.1 Tryz.underlying27 rfl info_xms ?_ | (go_at_call 48; refine (HM.out _).mono ?_))
 unfold OldIs;rintro e w2 ⟨rfl, b2⟩;have H2 : Shh (Row w2 w.heap.size 27 [.int .u32 xc, .bool xs, .int .i64 xn, .int .i64 xh, .int .i64 xl] /\ Below w.heap.size w w2) := ⟨HW.out.1.go b2, Below.chain HW.out.2 b2⟩;clear b2 HW HM;have c3 := H2.out.1.cell 3;simp only [List.getElem?_cons_succ, List.getElem?_cons_zero] at c3;cases ok with
 | false =>
  clear c3;go_wp2;go_ret;exact ⟨rfl, H2.out.2⟩
 | true =>
  by_cases hh : 4 < xh
  ·have HR : Shh (decide (4 < xh) = true) := ⟨decide_eq_true hh⟩;go_wp2;go_ret;exact ⟨by rw [Bool.true_and, HR.out]; try rfl, H2.out.2⟩
  ·have HR : Shh (decide (4 < xh) = false) := ⟨decide_eq_false hh⟩;go_wp2;go_ret;exact ⟨by rw [Bool.true_and, HR.out]; try rfl, H2.out.2⟩
end Go.Proofs.YtdakbipiifkmfaaGreatDoor
namespace Go.Proofs.YtdakbipiifkmfaaGreatDoor
open Go.RowKit
set_option maxRecDepth 100000
theorem bitN_le (n : Nat) : bitN n <= n := by
 induction n using Nat.strongRecOn with
 | _ n ih =>
  by_cases h : n = 0
  ·rw [h, bitN_zero]; omega
  ·rw [bitN_pos (by omega)];have := ih (n / 2) (by omega);omega
set_option maxHeartbeats 1000000 in
theorem bits_any (n : Nat) (hn : n < 4294967296) (w : World) : Calls Tryz.prog 38 #[.int .i64 (n : Int)] w (OldIs (.int .i64 (bitN n : Int)) w) := by
 unfold OldIs;obtain ⟨R, hR⟩ : ∃ R, R = bitN n := ⟨_, rfl⟩;have HR0 : Shh (0 + bitN n = R /\ n < 4294967296 /\ R < 4294967296) := ⟨by rw [hR, Nat.zero_add], hn, by have := bitN_le n; omega⟩;rw [<- hR];clear hR hn;go_enter Tryz.func38, Tryz.ntmps38;go_wp2;go_loopw [0, 3] (fun vn vk wr => ∃ m k : Nat, vn = .int .i64 (m : Int) /\ vk = .int .i64 (k : Int) /\ Shh (k + bitN m = R /\ m < 4294967296 /\ R < 4294967296) /\ wr = w) (fun vn _ _ => (intOf vn).toNat)
 case atStart => exact ⟨n, 0, rfl, rfl, HR0, rfl⟩
 case round =>
  obtain ⟨m, k, rfl, rfl, HL, rfl⟩ := hrel
  by_cases h0 : 0 < m
  ·have hc : (0 : Int) < (m : Int) := by omega
   have H2 : Shh ((k + m % 2) + bitN (m / 2) = R /\ m / 2 < 4294967296 /\ R < 4294967296) := ⟨by have := HL.out.1; rw [bitN_pos h0] at this; omega, by have := HL.out.2.1; omega, HL.out.2.2⟩;have HK : Shh (k < 4294967296 /\ m < 4294967296) := ⟨by have := HL.out; omega, HL.out.2.1⟩;clear HL HR0;go_wp2;have e1 : wrap64 ((m : Int) / 2) = ((m / 2 : Nat) : Int) := by have := HK.out; simp only [wrap64]; omega
   have e2 : wrap64 ((k : Int) + (m : Int) % 2) = ((k + m % 2 : Nat) : Int) := by have := HK.out; simp only [wrap64]; omega
   rw [e1, e2];refine ⟨⟨m / 2, k + m % 2, rfl, rfl, H2, trivial⟩, ?_⟩;simp only [intOf];omega
  ·obtain rfl : m = 0 := by omega
   have HR : Shh (k = R) := ⟨by have := HL.out.1; rw [bitN_zero] at this; omega⟩;go_wp2;go_ret;exact ⟨by rw [HR.out]; rfl, Below.refl _ _⟩
end Go.Proofs.YtdakbipiifkmfaaGreatDoor
namespace Go.Proofs.YtdakbipiifkmfaaGreatDoor
open Go.RowKit
set_option maxRecDepth 100000
theorem rowB_length (s : Bool) (n : Int) (L H : Nat) (sd pb : List UInt8) (h : Nat) (hh : h <= H) : (rowB s n L H sd pb h).length = 2 ^ (H - h) := by
 induction h with
 | zero => unfold rowB lvl; simp
 | succ h ih =>
  have e := lvl_len (rwF s n pb) ((List.range (2 ^ H)).map fun i => leafB s n L sd pb i) h;have i2 := ih (by omega);unfold rowB at i2 ⊢;rw [e, i2];have e2 : H - h = (H - (h + 1)) + 1 := by omega
  rw [e2, Nat.pow_succ];omega
theorem rowB_zero (s : Bool) (n : Int) (L H : Nat) (sd pb : List UInt8) : rowB s n L H sd pb 0 = (List.range (2 ^ H)).map fun i => leafB s n L sd pb i := rfl
theorem rowB_root (s : Bool) (n : Int) (L H : Nat) (sd pb : List UInt8) : (rowB s n L H sd pb H)[0]? = some (rootB s n L H sd pb) := by
 have h := rowB_length s n L H sd pb H (Nat.le_refl _);rw [Nat.sub_self] at h;have h0 : 0 < (rowB s n L H sd pb H).length := by rw [h]; decide
 unfold rootB;rw [List.getD_eq_getElem?_getD, List.getElem?_eq_getElem h0];rfl
theorem leafB_length {x : S5} (hx : x.ok = true) (sd pb : List UInt8) (i : Nat) : (leafB x.s x.n x.l.toNat sd pb i).length = x.n.toNat := by
 have hl := S5.ok_is hx;unfold leafB;exact ltreeB_length hx _ _ _ _ (by omega) (by rw [endsB_len hx, Nat.mul_comm])
end Go.Proofs.YtdakbipiifkmfaaGreatDoor
namespace Go.Proofs.YtdakbipiifkmfaaGreatDoor
open Go.RowKit
set_option maxRecDepth 100000
def rootR (x : S5) (sd pf pb : List UInt8) : List UInt8 := if badE x [sd, pf, pb] = 0 then rootB x.s x.n x.l.toNat x.h.toNat sd pb else []
end Go.Proofs.YtdakbipiifkmfaaGreatDoor
namespace Go.Proofs.YtdakbipiifkmfaaGreatDoor
open Go.RowKit
set_option maxRecDepth 100000
section
variable {a : Act} {x y : Operand} {op : Oper} {w : World}
theorem gtr_no {n m : Nat} (h : n <= m) (ho : op.op = .binOp .gtr 3 x y 3) (hx : a.eval x = .int .i64 (n : Int)) (hy : a.eval y = .int .i64 (m : Int)) : (execOp a.eval op).run Tryz.prog w = .ok (.value (.bool false)) w := by
 have hc : ¬ (m : Int) < (n : Int) := by omega
 unfold execOp;simp only [ho, hx, hy]
 go_simp
theorem neq_same {k : Int} (ho : op.op = .binOp .neq 3 x y 3) (hx : a.eval x = .int .i64 k) (hy : a.eval y = .int .i64 k) : (execOp a.eval op).run Tryz.prog w = .ok (.value (.bool false)) w := by
 unfold execOp;simp only [ho, hx, hy]
 go_simp
theorem conv_64 {k : Nat} (h : IntKind.u64.wrap (k : Int) = (k : Int)) (ho : op.op = .convert 3 56 x) (hx : a.eval x = .int .i64 (k : Int)) : (execOp a.eval op).run Tryz.prog w = .ok (.value (.int .u64 (k : Int))) w := by
 unfold execOp;simp only [ho, hx]
 go_simp
theorem shl_64 {k n : Nat} (hk : k <= 64) (h : IntKind.i64.wrap ((2 : Int) ^ k) = (n : Int)) (ho : op.op = .binOp .shl 3 (.const (.int .i64 1)) x 56) (hx : a.eval x = .int .u64 (k : Int)) : (execOp a.eval op).run Tryz.prog w = .ok (.value (.int .i64 (n : Int))) w := by
 have hc : a.eval (.const (.int .i64 1)) = .int .i64 1 := rfl;have hmin : min k 64 = k := Nat.min_eq_left hk;unfold execOp;simp only [ho, hx, hc]
 go_simp
end
theorem bitN_small (h : Nat) : ∀ n, n < 2 ^ h -> bitN n <= h := by
 induction h with
 | zero =>
  intro n hn;obtain rfl : n = 0 := by simp at hn; exact hn
  rw [bitN_zero];exact Nat.le_refl _
 | succ h ih =>
  intro n hn
  by_cases h0 : n = 0
  ·rw [h0, bitN_zero]; exact Nat.zero_le _
  ·rw [bitN_pos (by omega)];have := ih (n / 2) (by rw [Nat.pow_succ] at hn; omega);omega
theorem bitN_pow (h : Nat) : bitN (2 ^ h) = 1 := by
 induction h with
 | zero => rw [Nat.pow_zero, bitN_pos (by decide)]; show 1 % 2 + bitN 0 = 1; rw [bitN_zero]
 | succ h ih =>
  have hp : 0 < 2 ^ h := Nat.pow_pos (by decide);rw [Nat.pow_succ, bitN_pos (by omega), show 2 ^ h * 2 % 2 = 0 by omega, show 2 ^ h * 2 / 2 = 2 ^ h by omega, ih]
section
variable {Tb : World -> Prop} {T : S5 -> List UInt8 -> List UInt8 -> List UInt8 -> Nat -> World -> Value -> Nat -> Prop}
set_option maxHeartbeats 8000000 in
theorem xmssGrows_of (c : Nat) (hc : c < 4294967296) (vs vp vb : Value) (sd pf pb : List UInt8) (w : World) (hs : Sl w w.heap.size vs sd) (hp : Sl w w.heap.size vp pf) (hb : Sl w w.heap.size vb pb) (ht : Tb w)
  (hTb : ∀ w w', Tb w -> Below w.heap.size w w' -> Tb w')
  (hlive : ∀ W, Tb W -> Calls Tryz.prog 14 #[] W (TrueIs W))
  (hTgo : ∀ (x : S5) (sd pf pb : List UInt8) (B : Nat) (W W' : World) (v : Value) (n : Nat), T x sd pf pb B W v n -> Below W.heap.size W W' -> T x sd pf pb B W' v n)
  (hNew : ∀ (x : S5) (vs vp vb : Value) (sd pf pb : List UInt8) (W : World), x.wf -> (x.ok = true -> x.h <= 4) -> Tb W -> Sl W W.heap.size vs sd -> Sl W W.heap.size vp pf -> Sl W W.heap.size vb pb -> Calls Tryz.prog 34 #[x.v, keyV vs vp vb] W (fun e W' => ∃ v, e = .returned (.tuple #[v, .int .i64 (badE x [sd, pf, pb])]) /\ Below W.heap.size W W' /\ (badE x [sd, pf, pb] ≠ 0 -> v = .pointer none) /\ (badE x [sd, pf, pb] = 0 -> (∃ p, v = .pointer (some p)) /\ T x sd pf pb W.heap.size W' v 0)))
  (hTRoot : ∀ (x : S5) (sd pf pb : List UInt8) (B : Nat) (W : World) (v : Value) (n : Nat), badE x [sd, pf, pb] = 0 -> T x sd pf pb B W v n -> Tb W -> n <= 2 ^ x.h.toNat -> Calls Tryz.prog 35 #[v] W (if n < 2 ^ x.h.toNat then ResIs W 9 [] else ResIs W 0 (rootB x.s x.n x.l.toNat x.h.toNat sd pb)))
  (hTLeaves : ∀ (x : S5) (sd pf pb : List UInt8) (B : Nat) (W : World) (v : Value) (n : Nat), T x sd pf pb B W v n -> Calls Tryz.prog 36 #[v] W (OldIs (.int .i64 (n : Int)) W))
  (hTHeld : ∀ (x : S5) (sd pf pb : List UInt8) (B : Nat) (W : World) (v : Value) (n : Nat), T x sd pf pb B W v n -> n <= 2 ^ x.h.toNat -> Calls Tryz.prog 37 #[v] W (OldIs (.int .i64 (bitN n : Int)) W))
  (hTAdd : ∀ (x : S5) (sd pf pb : List UInt8) (B : Nat) (W : World) (v : Value) (n : Nat), badE x [sd, pf, pb] = 0 -> T x sd pf pb B W v n -> Tb W -> n <= 2 ^ x.h.toNat -> Calls Tryz.prog 39 #[v] W (fun e W' => e = .returned (.int .i64 (if n < 2 ^ x.h.toNat then 0 else 6)) /\ T x sd pf pb B W' v (if n < 2 ^ x.h.toNat then n + 1 else n) /\ Tb W' /\ Below B W W'))
  (hRoot : ∀ (x : S5) (vs vp vb : Value) (sd pf pb : List UInt8) (W : World), x.wf -> (x.ok = true -> x.h <= 4) -> Tb W -> Sl W W.heap.size vs sd -> Sl W W.heap.size vp pf -> Sl W W.heap.size vb pb -> Calls Tryz.prog 18 #[x.v, keyV vs vp vb] W (ResIs W (badE x [sd, pf, pb]) (rootR x sd pf pb))) :
  Calls Tryz.prog 8 #[.int .u32 (c : Int), keyV vs vp vb] w (TrueIs w) := by
 unfold TrueIs;obtain ⟨As, cs, rfl, _, _⟩ := hs.form;obtain ⟨Ap, cp, rfl, _, _⟩ := hp.form;obtain ⟨Ab, cb, rfl, _, _⟩ := hb.form;have hw := setX_wf c hc;have HS : Shh (∀ W, Calls Tryz.prog 11 #[.int .u32 (c : Int)] W (OldIs (setX c).v W)) := ⟨fun W => set11_any c hc W⟩;obtain ⟨x, hx⟩ : ∃ x, x = setX c := ⟨_, rfl⟩;rw [<- hx] at HS hw;clear hx;obtain ⟨hg, hhg⟩ : ∃ hg, hg = (x.ok && decide (4 < x.h)) := ⟨_, rfl⟩;have HH : Shh (∀ W, Calls Tryz.prog 17 #[x.v] W (OldIs (.bool hg) W)) := ⟨fun W => by rw [hhg]; exact high_any x hw W⟩;have HT : Shh (∀ W, Tb W -> Calls Tryz.prog 14 #[] W (TrueIs W)) := ⟨hlive⟩;have HTB := Shh.mk hTb;obtain ⟨be, hbe⟩ : ∃ be, be = badE x [sd, pf, pb] := ⟨_, rfl⟩;obtain ⟨ro, hro⟩ : ∃ ro, ro = rootR x sd pf pb := ⟨_, rfl⟩;obtain ⟨P, hP⟩ : ∃ P : Nat -> Value -> World -> Nat -> Prop, P = fun B v W n => T x sd pf pb B W v n := ⟨_, rfl⟩
 have hx4 : hg = false -> x.ok = true -> x.h <= 4 := fun h1 h2 => by
  rw [hhg, h2, Bool.true_and] at h1;have := of_decide_eq_false h1;omega
 have HM : Shh (∀ W, Sl W W.heap.size (.slice As sd.length cs) sd -> Sl W W.heap.size (.slice Ap pf.length cp) pf -> Sl W W.heap.size (.slice Ab pb.length cb) pb -> Calls Tryz.prog 21 #[x.v, keyV (.slice As sd.length cs) (.slice Ap pf.length cp) (.slice Ab pb.length cb)] W (OldIs (.int .i64 (be : Int)) W)) := ⟨fun W h1 h2 h3 => by rw [hbe]; exact mayKey_any x hw _ _ _ sd pf pb W h1 h2 h3⟩;have HN : Shh (hg = false -> ∀ W, Tb W -> Sl W W.heap.size (.slice As sd.length cs) sd -> Sl W W.heap.size (.slice Ap pf.length cp) pf -> Sl W W.heap.size (.slice Ab pb.length cb) pb -> Calls Tryz.prog 34 #[x.v, keyV (.slice As sd.length cs) (.slice Ap pf.length cp) (.slice Ab pb.length cb)] W (fun e W' => ∃ v, e = .returned (.tuple #[v, .int .i64 be]) /\ Below W.heap.size W W' /\ (be ≠ 0 -> v = .pointer none) /\ (be = 0 -> (∃ p, v = .pointer (some p)) /\ P W.heap.size v W' 0))) := ⟨fun h W h0 h1 h2 h3 => by rw [hbe, hP]; exact hNew x _ _ _ sd pf pb W hw (hx4 h) h0 h1 h2 h3⟩;have HPG : Shh (∀ B v W W' n, P B v W n -> Below W.heap.size W W' -> P B v W' n) := ⟨fun B v W W' n h b => by rw [hP] at h ⊢; exact hTgo _ _ _ _ _ _ _ _ _ h b⟩
 have HQ : Shh (hg = false -> be = 0 -> ∃ H N2 : Nat, x.h = (H : Int) /\ H <= 4 /\ N2 = 2 ^ H
   /\ (∀ W, Tb W -> Sl W W.heap.size (.slice As sd.length cs) sd -> Sl W W.heap.size (.slice Ap pf.length cp) pf -> Sl W W.heap.size (.slice Ab pb.length cb) pb -> Calls Tryz.prog 18 #[x.v, keyV (.slice As sd.length cs) (.slice Ap pf.length cp) (.slice Ab pb.length cb)] W (ResIs W 0 ro))
   /\ (∀ B v W n, P B v W n -> Calls Tryz.prog 36 #[v] W (OldIs (.int .i64 (n : Int)) W))
   /\ (∀ B v W n, P B v W n -> n <= N2 -> Calls Tryz.prog 37 #[v] W (OldIs (.int .i64 (bitN n : Int)) W))
   /\ (∀ B v W n, P B v W n -> Tb W -> n < N2 -> Calls Tryz.prog 35 #[v] W (ResIs W 9 []))
   /\ (∀ B v W, P B v W N2 -> Tb W -> Calls Tryz.prog 35 #[v] W (ResIs W 0 ro))
   /\ (∀ B v W n, P B v W n -> Tb W -> n < N2 -> Calls Tryz.prog 39 #[v] W (fun e W' => e = .returned (.int .i64 0) /\ P B v W' (n + 1) /\ Tb W' /\ Below B W W'))
   /\ (∀ B v W, P B v W N2 -> Tb W -> Calls Tryz.prog 39 #[v] W (fun e W' => e = .returned (.int .i64 6) /\ P B v W' N2 /\ Tb W' /\ Below B W W'))) := ⟨fun hg0 h0 => by
  have hb0 : badE x [sd, pf, pb] = 0 := by rw [<- hbe]; exact h0
  have hok := (badE_ok hb0).1;obtain ⟨H, hH, _⟩ := ok_h hok;have hh4 := hx4 hg0 hok;have hHt : x.h.toNat = H := by omega
  have ero : ro = rootB x.s x.n x.l.toNat x.h.toNat sd pb := by rw [hro]; unfold rootR; rw [if_pos hb0]
  rw [hP];refine ⟨H, 2 ^ H, hH, by omega, rfl, fun W h1 h2 h3 h4 => ?_, fun B v W n h => hTLeaves x sd pf pb B W v n h, fun B v W n h hn => hTHeld x sd pf pb B W v n h (by rw [hHt]; exact hn), fun B v W n h1 h2 hn => ?_, fun B v W h1 h2 => ?_, fun B v W n h1 h2 hn => ?_, fun B v W h1 h2 => ?_⟩
  ·have h := hRoot x _ _ _ sd pf pb W hw (hx4 hg0) h1 h2 h3 h4;rw [hb0, <- hro] at h;exact h
  ·have h := hTRoot x sd pf pb B W v n hb0 h1 h2 (by rw [hHt]; omega);rw [hHt, if_pos hn] at h;exact h
  ·have h := hTRoot x sd pf pb B W v (2 ^ H) hb0 h1 h2 (by rw [hHt]; exact Nat.le_refl _);rw [hHt, if_neg (by omega), <- hHt, <- ero] at h;exact h
  ·have h := hTAdd x sd pf pb B W v n hb0 h1 h2 (by rw [hHt]; omega);rw [hHt, if_pos hn, if_pos hn] at h;exact h
  ·have h := hTAdd x sd pf pb B W v (2 ^ H) hb0 h1 h2 (by rw [hHt]; exact Nat.le_refl _);rw [hHt, if_neg (by omega), if_neg (by omega)] at h
   exact h⟩
 clear hbe hro hP hhg hx4 hw hNew hTgo hTRoot hTLeaves hTHeld hTAdd hRoot hlive hTb hc;obtain ⟨W, hW⟩ : ∃ W, W = w.alloc (.cells #[.slice As sd.length cs, .slice Ap pf.length cp, .slice Ab pb.length cb] 25) := ⟨_, rfl⟩;have HW : Shh (Row W w.heap.size 25 [.slice As sd.length cs, .slice Ap pf.length cp, .slice Ab pb.length cb] /\ Sl W W.heap.size (.slice As sd.length cs) sd /\ Sl W W.heap.size (.slice Ap pf.length cp) pf /\ Sl W W.heap.size (.slice Ab pb.length cb) pb /\ Tb W /\ Below w.heap.size w W) := by
  rw [hW];exact ⟨Row.new_ rfl rfl, hs.go (below1 _ _), hp.go (below1 _ _), hb.go (below1 _ _), HTB.out _ _ ht (below1 _ _), below1 _ _⟩
 clear hs hp hb ht;unfold S5.v keyV at *;generalize x.c = xc at *;generalize x.s = xs at *;generalize x.n = xn at *;generalize x.h = xh at *;generalize x.l = xl at *;go_enter Tryz.func8, Tryz.ntmps8
 go_wp2_with fail
 rw [<- hW];clear hW
 go_at_call 11
 refine (HS.out _).mono ?_;unfold OldIs;rintro e w2 ⟨rfl, b2⟩;have H2 : Shh (Row w2 w.heap.size 25 [.slice As sd.length cs, .slice Ap pf.length cp, .slice Ab pb.length cb] /\ Sl w2 w2.heap.size (.slice As sd.length cs) sd /\ Sl w2 w2.heap.size (.slice Ap pf.length cp) pf /\ Sl w2 w2.heap.size (.slice Ab pb.length cb) pb /\ Tb w2 /\ Below w.heap.size w w2) := ⟨HW.out.1.go b2, HW.out.2.1.go b2, HW.out.2.2.1.go b2, HW.out.2.2.2.1.go b2, HTB.out _ _ HW.out.2.2.2.2.1 b2, Below.chain HW.out.2.2.2.2.2 b2⟩;clear b2 HW HS;obtain ⟨M, hM⟩ : ∃ M, Shh (M = w2.heap.size) := ⟨_, ⟨rfl⟩⟩
 go_wp2_with (refine wpList_store_any rfl 27 (.tmp 5) (.tmp 17) rfl M (by rw [hM.out]; rfl) [.int .u32 xc, .bool xs, .int .i64 xn, .int .i64 xh, .int .i64 xl] rfl 27 [.int .u32 0, .bool false, .int .i64 0, .int .i64 0, .int .i64 0] (Row.new_ hM.out rfl) info_xms rfl oneCell5 ?_)
 intro Z hr bt hsz;have H3 : Shh (Row Z M 27 [.int .u32 xc, .bool xs, .int .i64 xn, .int .i64 xh, .int .i64 xl] /\ Row Z w.heap.size 25 [.slice As sd.length cs, .slice Ap pf.length cp, .slice Ab pb.length cb] /\ Sl Z Z.heap.size (.slice As sd.length cs) sd /\ Sl Z Z.heap.size (.slice Ap pf.length cp) pf /\ Sl Z Z.heap.size (.slice Ab pb.length cb) pb /\ Tb Z /\ Below w.heap.size w Z) := by
  have hm := hM.out;have bb : Below w2.heap.size w2 Z := (below1 _ _).trans (bt.under (by first | omega | (rw [asz]; omega)) (by omega));exact ⟨hr, H2.out.1.go bb, H2.out.2.1.go bb, H2.out.2.2.1.go bb, H2.out.2.2.2.1.go bb, HTB.out _ _ H2.out.2.2.2.2.1 bb, Below.chain H2.out.2.2.2.2.2 bb⟩
 rw [<- hM.out];clear hr bt hsz H2 hM
 go_wp2_with (go_at_call 14; refine (HT.out _ H3.out.2.2.2.2.2.1).mono ?_)
 unfold TrueIs;rintro e w4 ⟨rfl, b4⟩;have H4 : Shh (Row w4 M 27 [.int .u32 xc, .bool xs, .int .i64 xn, .int .i64 xh, .int .i64 xl] /\ Row w4 w.heap.size 25 [.slice As sd.length cs, .slice Ap pf.length cp, .slice Ab pb.length cb] /\ Sl w4 w4.heap.size (.slice As sd.length cs) sd /\ Sl w4 w4.heap.size (.slice Ap pf.length cp) pf /\ Sl w4 w4.heap.size (.slice Ab pb.length cb) pb /\ Tb w4 /\ Below w.heap.size w w4) := ⟨H3.out.1.go b4, H3.out.2.1.go b4, H3.out.2.2.1.go b4, H3.out.2.2.2.1.go b4, H3.out.2.2.2.2.1.go b4, HTB.out _ _ H3.out.2.2.2.2.2.1 b4, Below.chain H3.out.2.2.2.2.2.2 b4⟩;clear b4 H3
 go_wp2_with (first | refine wl_loadW 27 (.tmp 5) rfl M rfl 27 [.int .u32 xc, .bool xs, .int .i64 xn, .int .i64 xh, .int .i64 xl] _ rfl H4.out.1 Tryz.underlying27 rfl info_xms ?_ | (go_at_call 17; refine (HH.out _).mono ?_))
 unfold OldIs;rintro e w5 ⟨rfl, b5⟩;have H5 : Shh (Row w5 M 27 [.int .u32 xc, .bool xs, .int .i64 xn, .int .i64 xh, .int .i64 xl] /\ Row w5 w.heap.size 25 [.slice As sd.length cs, .slice Ap pf.length cp, .slice Ab pb.length cb] /\ Sl w5 w5.heap.size (.slice As sd.length cs) sd /\ Sl w5 w5.heap.size (.slice Ap pf.length cp) pf /\ Sl w5 w5.heap.size (.slice Ab pb.length cb) pb /\ Tb w5 /\ Below w.heap.size w w5) := ⟨H4.out.1.go b5, H4.out.2.1.go b5, H4.out.2.2.1.go b5, H4.out.2.2.2.1.go b5, H4.out.2.2.2.2.1.go b5, HTB.out _ _ H4.out.2.2.2.2.2.1 b5, Below.chain H4.out.2.2.2.2.2.2 b5⟩;clear b5 H4 HH;cases hg with
 | true =>
  clear HM HQ HN HPG
  go_wp2_with (go_at_call 14; refine (HT.out _ H5.out.2.2.2.2.2.1).mono ?_)
  unfold TrueIs;rintro e w6 ⟨rfl, b6⟩;have HB : Shh (Below w.heap.size w w6) := ⟨Below.chain H5.out.2.2.2.2.2.2 b6⟩;clear b6 H5 HT;go_wp2;go_ret;exact ⟨rfl, HB.out⟩
 | false =>
  have HQQ := Shh.mk (HQ.out rfl);have HNN := Shh.mk (HN.out rfl);clear HQ HN HT
  go_wp2_with (first | refine wpList_load_any rfl 27 (.tmp 5) rfl M rfl 27 [.int .u32 xc, .bool xs, .int .i64 xn, .int .i64 xh, .int .i64 xl] _ H5.out.1 Tryz.underlying27 rfl info_xms ?_ | refine wpList_load_any rfl 25 (.tmp 3) rfl w.heap.size rfl 25 [.slice As sd.length cs, .slice Ap pf.length cp, .slice Ab pb.length cb] _ H5.out.2.1 Tryz.underlying25 rfl info_key11 ?_ | (go_at_call 34; refine (HNN.out _ H5.out.2.2.2.2.2.1 H5.out.2.2.1 H5.out.2.2.2.1 H5.out.2.2.2.2.1).mono ?_))
  rintro e w6 ⟨tv, rfl, b6, hbad, hgood⟩;obtain ⟨B, hB⟩ : ∃ B, B = w5.heap.size := ⟨_, rfl⟩;rw [<- hB] at hgood;have H6 : Shh (Row w6 M 27 [.int .u32 xc, .bool xs, .int .i64 xn, .int .i64 xh, .int .i64 xl] /\ Row w6 w.heap.size 25 [.slice As sd.length cs, .slice Ap pf.length cp, .slice Ab pb.length cb] /\ Sl w6 w6.heap.size (.slice As sd.length cs) sd /\ Sl w6 w6.heap.size (.slice Ap pf.length cp) pf /\ Sl w6 w6.heap.size (.slice Ab pb.length cb) pb /\ Tb w6 /\ Below w.heap.size w w6) := ⟨H5.out.1.go b6, H5.out.2.1.go b6, H5.out.2.2.1.go b6, H5.out.2.2.2.1.go b6, H5.out.2.2.2.2.1.go b6, HTB.out _ _ H5.out.2.2.2.2.2.1 b6, Below.chain H5.out.2.2.2.2.2.2 b6⟩;have HB6 : Shh (M < B /\ w.heap.size < B /\ B <= w6.heap.size /\ Sl w6 B (.slice As sd.length cs) sd /\ Sl w6 B (.slice Ap pf.length cp) pf /\ Sl w6 B (.slice Ab pb.length cb) pb) := by
   rw [hB];exact ⟨H5.out.1.lt, H5.out.2.1.lt, b6.size, H5.out.2.2.1.below b6, H5.out.2.2.2.1.below b6, H5.out.2.2.2.2.1.below b6⟩
  have HBAD := Shh.mk hbad;have HGOOD := Shh.mk hgood;clear b6 H5 HNN hB hbad hgood
  by_cases h0 : be = 0
  ·subst h0;obtain ⟨⟨pt, rfl⟩, hp0⟩ := HGOOD.out rfl;have HP0 := Shh.mk hp0;obtain ⟨H, N2, hh, hH4, hN2, hCR, hCL, hCH, hC9, hC0, hCA, hCF⟩ := HQQ.out rfl;have HCR := Shh.mk hCR;have HC := Shh.mk (And.intro hCL (And.intro hCH (And.intro hC9 (And.intro hC0 (And.intro hCA hCF)))));have hN16 : N2 <= 16 := by
    have h1 : 2 ^ H <= 2 ^ 4 := Nat.pow_le_pow_right (by decide) hH4;omega
   have HN2 := Shh.mk hN2;have hsh : IntKind.i64.wrap ((2 : Int) ^ H) = (N2 : Int) := by
    have e : (2 : Int) ^ H = ((2 ^ H : Nat) : Int) := by rw [Int.natCast_pow]; rfl
    rw [e, IntKind.wrap_i64, <- hN2];omega
   clear HQQ HBAD HGOOD hp0 hCR hCL hCH hC9 hC0 hCA hCF hN2;subst hh
   go_wp2_with (first | refine wpList_load_any rfl 27 (.tmp 5) rfl M rfl 27 [.int .u32 xc, .bool xs, .int .i64 xn, .int .i64 (H : Int), .int .i64 xl] _ H6.out.1 Tryz.underlying27 rfl info_xms ?_ | refine wpList_load_any rfl 25 (.tmp 3) rfl w.heap.size rfl 25 [.slice As sd.length cs, .slice Ap pf.length cp, .slice Ab pb.length cb] _ H6.out.2.1 Tryz.underlying25 rfl info_key11 ?_ | (go_at_call 21; refine (HM.out _ H6.out.2.2.1 H6.out.2.2.2.1 H6.out.2.2.2.2.1).mono ?_))
   unfold OldIs;rintro e w7 ⟨rfl, b7⟩;have H7 : Shh ((Row w7 M 27 [.int .u32 xc, .bool xs, .int .i64 xn, .int .i64 (H : Int), .int .i64 xl] /\ Row w7 w.heap.size 25 [.slice As sd.length cs, .slice Ap pf.length cp, .slice Ab pb.length cb] /\ Sl w7 B (.slice As sd.length cs) sd /\ Sl w7 B (.slice Ap pf.length cp) pf /\ Sl w7 B (.slice Ab pb.length cb) pb /\ Tb w7 /\ Below w.heap.size w w7 /\ B <= w7.heap.size) /\ P B (.pointer (some pt)) w7 0) := ⟨⟨H6.out.1.go b7, H6.out.2.1.go b7, HB6.out.2.2.2.1.below (b7.mono HB6.out.2.2.1), HB6.out.2.2.2.2.1.below (b7.mono HB6.out.2.2.1), HB6.out.2.2.2.2.2.below (b7.mono HB6.out.2.2.1), HTB.out _ _ H6.out.2.2.2.2.2.1 b7, Below.chain H6.out.2.2.2.2.2.2 b7, Nat.le_trans HB6.out.2.2.1 b7.size⟩, HPG.out _ _ _ _ _ HP0.out b7⟩;have hMB := HB6.out.1;have hwB := HB6.out.2.1;clear b7 H6 HB6 HM HP0;have k3 := H7.out.1.1.cell 3;simp only [List.getElem?_cons_succ, List.getElem?_cons_zero] at k3;go_wp2;clear k3;go_loopw [53] (fun k wr => ∃ n : Nat, n <= N2 /\ k = .int .i64 (n : Int) /\ Shh ((Row wr M 27 [.int .u32 xc, .bool xs, .int .i64 xn, .int .i64 (H : Int), .int .i64 xl] /\ Row wr w.heap.size 25 [.slice As sd.length cs, .slice Ap pf.length cp, .slice Ab pb.length cb] /\ Sl wr B (.slice As sd.length cs) sd /\ Sl wr B (.slice Ap pf.length cp) pf /\ Sl wr B (.slice Ab pb.length cb) pb /\ Tb wr /\ Below w.heap.size w wr /\ B <= wr.heap.size) /\ P B (.pointer (some pt)) wr n)) (fun k _ => N2 - (intOf k).toNat)
   case atStart => exact ⟨0, Nat.zero_le _, rfl, H7⟩
   case round =>
    clear H7;obtain ⟨n, hn, rfl, HL⟩ := hrel
    by_cases hlt : n < N2
    ·have hc : (n : Int) < (N2 : Int) := by omega
     go_wp2_with (go_at_call 35; refine (HC.out.2.2.1 B _ _ n HL.out.2 HL.out.1.2.2.2.2.2.1 hlt).mono ?_)
     unfold ResIs;rintro e w8 ⟨v8, rfl, h8, b8⟩;obtain ⟨Ae, ce, vEq, _, _⟩ := h8.form;have vEq2 : v8 = .slice Ae 0 ce := vEq;subst vEq2;have HR8 : Shh ((Row w8 M 27 [.int .u32 xc, .bool xs, .int .i64 xn, .int .i64 (H : Int), .int .i64 xl] /\ Row w8 w.heap.size 25 [.slice As sd.length cs, .slice Ap pf.length cp, .slice Ab pb.length cb] /\ Sl w8 B (.slice As sd.length cs) sd /\ Sl w8 B (.slice Ap pf.length cp) pf /\ Sl w8 B (.slice Ab pb.length cb) pb /\ Tb w8 /\ Below w.heap.size w w8 /\ B <= w8.heap.size) /\ P B (.pointer (some pt)) w8 n) := ⟨⟨HL.out.1.1.go b8, HL.out.1.2.1.go b8, HL.out.1.2.2.1.below ((b8).mono HL.out.1.2.2.2.2.2.2.2), HL.out.1.2.2.2.1.below ((b8).mono HL.out.1.2.2.2.2.2.2.2), HL.out.1.2.2.2.2.1.below ((b8).mono HL.out.1.2.2.2.2.2.2.2), HTB.out _ _ HL.out.1.2.2.2.2.2.1 b8, Below.chain HL.out.1.2.2.2.2.2.2.1 b8, Nat.le_trans HL.out.1.2.2.2.2.2.2.2 (b8).size⟩, HPG.out _ _ _ _ _ HL.out.2 b8⟩;clear vEq h8 b8 HL;obtain ⟨bn, hbn⟩ : ∃ bn, bn = bitN n := ⟨_, rfl⟩
     have HBN : Shh (bn = bitN n /\ bn <= H + 1 /\ n < 4294967296) := ⟨hbn, by
      have := bitN_small H n (by rw [<- HN2.out]; exact hlt)
      omega, by omega⟩
     clear hbn
     go_wp2_with fail
     refine wp_region_held_drew (S := fun w' => Row w' M 27 [.int .u32 xc, .bool xs, .int .i64 xn, .int .i64 (H : Int), .int .i64 xl]) (by kernel_rfl) HR8.out.1.1.drew (fun hS => ?_);obtain ⟨V, hV⟩ : ∃ V, V = World.drew w8 := ⟨_, rfl⟩;rw [<- hV] at hS ⊢;have HV : Row V M 27 [.int .u32 xc, .bool xs, .int .i64 xn, .int .i64 (H : Int), .int .i64 xl] /\ Row V w.heap.size 25 [.slice As sd.length cs, .slice Ap pf.length cp, .slice Ab pb.length cb] /\ Sl V B (.slice As sd.length cs) sd /\ Sl V B (.slice Ap pf.length cp) pf /\ Sl V B (.slice Ab pb.length cb) pb /\ Tb V /\ Below w.heap.size w V /\ B <= V.heap.size := by rw [hV]; exact ⟨HR8.out.1.1.drew, HR8.out.1.2.1.drew, HR8.out.1.2.2.1.drew, HR8.out.1.2.2.2.1.drew, HR8.out.1.2.2.2.2.1.drew, HTB.out _ _ HR8.out.1.2.2.2.2.2.1 (Below.refl _ _).drew, HR8.out.1.2.2.2.2.2.2.1.drew, HR8.out.1.2.2.2.2.2.2.2⟩
     have pV : P B (.pointer (some pt)) V n := by rw [hV]; exact HPG.out _ _ _ _ _ HR8.out.2 (Below.refl _ _).drew
     clear HR8;have rX := HV.1;have HVV := Shh.mk HV;have tV := HV.2.2.2.2.2.1;have hBV := HV.2.2.2.2.2.2.2;clear HV hV;refine hdv0 0 61 (.pointer (some pt)) (by rfl) (rX) ?_;refine hdv0 2 63 (.int .i64 (n : Int)) (by rfl) (rX) ?_;refine held_one 1 (by kernel_rfl) ?_;refine step_call 1 _ _ (some 62) 36 #[.pointer (some pt)] (by rfl) (by kernel_rfl) (by first | kernel_rfl | go_simp) ?_;refine (show Calls Tryz.prog 36 #[.pointer (some pt)] V (OldIs (.int .i64 (n : Int)) V) by exact HC.out.1 B _ V n (HPG.out _ _ _ _ _ pV (Below.refl _ _))).mono ?_;unfold OldIs; rintro e Y1 ⟨rfl, b4⟩;have bx : Below V.heap.size V Y1 := b4;clear b4;have b_V := bx;have m_Y1 : V.heap.size <= Y1.heap.size := bx.size;clear bx;refine ⟨_, rfl, (rX.go b_V), ?_⟩;simp only [Act.put, arr9, hd9, tl9];refine hdv 3 64 (.bool false) (by rfl) (fun w hS => neq_same (k := (n : Int)) rfl (by kernel_rfl) (by kernel_rfl)) ((rX.go b_V)) ?_;refine hdv0 4 65 (.bool false) (by rfl) ((rX.go b_V)) ?_;refine hdv0 5 66 (.pointer (some pt)) (by rfl) ((rX.go b_V)) ?_;refine hdv0 7 68 (.int .i64 (n : Int)) (by rfl) ((rX.go b_V)) ?_;refine held_one 6 (by kernel_rfl) ?_;refine step_call 6 _ _ (some 67) 37 #[.pointer (some pt)] (by rfl) (by kernel_rfl) (by first | kernel_rfl | go_simp) ?_;refine (show Calls Tryz.prog 37 #[.pointer (some pt)] Y1 (OldIs (.int .i64 (bn : Int)) Y1) by have h := HC.out.2.1 B _ Y1 n (HPG.out _ _ _ _ _ pV b_V) hn; rw [<- HBN.out.1] at h; exact h).mono ?_;unfold OldIs; rintro e Y2 ⟨rfl, b4⟩;have bx : Below Y1.heap.size Y1 Y2 := b4;clear b4;replace b_V := Below.chain b_V bx;have b_Y1 := bx;have m_Y2 : Y1.heap.size <= Y2.heap.size := bx.size;clear bx;refine ⟨_, rfl, (rX.go b_V), ?_⟩;simp only [Act.put, arr9, hd9, tl9];refine held_one 8 (by kernel_rfl) ?_;refine step_call 8 _ _ (some 69) 38 #[.int .i64 (n : Int)] (by rfl) (by kernel_rfl) (by first | kernel_rfl | go_simp) ?_;refine (show Calls Tryz.prog 38 #[.int .i64 (n : Int)] Y2 (OldIs (.int .i64 (bn : Int)) Y2) by rw [HBN.out.1]; exact bits_any n HBN.out.2.2 Y2).mono ?_;unfold OldIs; rintro e Y3 ⟨rfl, b4⟩;have bx : Below Y2.heap.size Y2 Y3 := b4;clear b4;replace b_V := Below.chain b_V bx;replace b_Y1 := Below.chain b_Y1 bx;have b_Y2 := bx;have m_Y3 : Y2.heap.size <= Y3.heap.size := bx.size;clear bx;refine ⟨_, rfl, (rX.go b_V), ?_⟩;simp only [Act.put, arr9, hd9, tl9];refine hdv 9 70 (.bool false) (by rfl) (fun w hS => neq_same (k := (bn : Int)) rfl (by kernel_rfl) (by kernel_rfl)) ((rX.go b_V)) ?_;refine hdv0 10 71 (.bool false) (by rfl) ((rX.go b_V)) ?_;refine hdv0 11 72 (.bool false) (by rfl) ((rX.go b_V)) ?_;refine hdv0 12 73 (.pointer (some pt)) (by rfl) ((rX.go b_V)) ?_;refine hdv0 14 75 (.pointer (some ⟨M, 3, none⟩)) (by rfl) ((rX.go b_V)) ?_;refine hdv 15 76 (.int .i64 (H : Int)) (by rfl) (fun w hS => load_i rfl (hS.cell 3) (by kernel_rfl)) ((rX.go b_V)) ?_;refine hdv 16 77 (.int .i64 ((H + 1 : Nat) : Int)) (by rfl) (fun w hS => add_one (by have := hH4; omega) rfl (by kernel_rfl)) ((rX.go b_V)) ?_;refine held_one 13 (by kernel_rfl) ?_;refine step_call 13 _ _ (some 74) 37 #[.pointer (some pt)] (by rfl) (by kernel_rfl) (by first | kernel_rfl | go_simp) ?_;refine (show Calls Tryz.prog 37 #[.pointer (some pt)] Y3 (OldIs (.int .i64 (bn : Int)) Y3) by have h := HC.out.2.1 B _ Y3 n (HPG.out _ _ _ _ _ pV b_V) hn; rw [<- HBN.out.1] at h; exact h).mono ?_;unfold OldIs; rintro e Y4 ⟨rfl, b4⟩;have bx : Below Y3.heap.size Y3 Y4 := b4;clear b4;replace b_V := Below.chain b_V bx;replace b_Y1 := Below.chain b_Y1 bx;replace b_Y2 := Below.chain b_Y2 bx;have b_Y3 := bx;have m_Y4 : Y3.heap.size <= Y4.heap.size := bx.size;clear bx;refine ⟨_, rfl, (rX.go b_V), ?_⟩;simp only [Act.put, arr9, hd9, tl9];refine hdv 17 78 (.bool false) (by rfl) (fun w hS => gtr_no HBN.out.2.1 rfl (by kernel_rfl) (by kernel_rfl)) ((rX.go b_V)) ?_;refine hdv0 18 79 (.bool false) (by rfl) ((rX.go b_V)) ?_;refine hdv0 19 80 (.bool false) (by rfl) ((rX.go b_V)) ?_;refine hdv0 20 81 (.int .i64 9) (by rfl) ((rX.go b_V)) ?_;refine hdv0 21 82 (.bool false) (by rfl) ((rX.go b_V)) ?_;refine hdv0 22 83 (.bool false) (by rfl) ((rX.go b_V)) ?_;refine hdv0 23 84 (.bool false) (by rfl) ((rX.go b_V)) ?_;refine hdv0 24 85 (.slice Ae 0 ce) (by rfl) ((rX.go b_V)) ?_;refine hdv0 25 86 (.int .i64 0) (by rfl) ((rX.go b_V)) ?_;refine hdv0 26 87 (.bool false) (by rfl) ((rX.go b_V)) ?_;refine hdv0 27 88 (.bool false) (by rfl) ((rX.go b_V)) ?_;refine hdv0 28 89 (.bool false) (by rfl) ((rX.go b_V)) ?_;refine hdv0 29 90 (.pointer (some pt)) (by rfl) ((rX.go b_V)) ?_;refine held_one 30 (by kernel_rfl) ?_;refine step_call 30 _ _ (some 91) 39 #[.pointer (some pt)] (by rfl) (by kernel_rfl) (by first | kernel_rfl | go_simp) ?_;refine (HC.out.2.2.2.2.1 B _ Y4 n (HPG.out _ _ _ _ _ pV b_V) (HTB.out _ _ tV b_V) hlt).mono ?_;rintro e Y5 ⟨rfl, pY, tY, bB⟩;have bVY : Below B V Y5 := ((b_V).mono hBV).trans bB;replace rX : Row Y5 M 27 [.int .u32 xc, .bool xs, .int .i64 xn, .int .i64 (H : Int), .int .i64 xl] := Row.below ((rX.go b_V)) bB hMB;refine ⟨_, rfl, rX, ?_⟩;simp only [Act.put, arr9, hd9, tl9];refine hdv0 31 92 (.bool false) (by rfl) (rX) ?_;refine hdv0 32 93 (.bool false) (by rfl) (rX) ?_;refine wpAnyH_done (by kernel_rfl) ?_ _;have rXX := rX;have bX : Below B V Y5 := bVY;have tX := tY;have pX := pY;have HR : Shh ((Row Y5 M 27 [.int .u32 xc, .bool xs, .int .i64 xn, .int .i64 (H : Int), .int .i64 xl] /\ Row Y5 w.heap.size 25 [.slice As sd.length cs, .slice Ap pf.length cp, .slice Ab pb.length cb] /\ Sl Y5 B (.slice As sd.length cs) sd /\ Sl Y5 B (.slice Ap pf.length cp) pf /\ Sl Y5 B (.slice Ab pb.length cb) pb /\ Tb Y5 /\ Below w.heap.size w Y5 /\ B <= Y5.heap.size) /\ P B (.pointer (some pt)) Y5 (n + 1)) := ⟨⟨rXX, HVV.out.2.1.below bX hwB, HVV.out.2.2.1.below bX, HVV.out.2.2.2.1.below bX, HVV.out.2.2.2.2.1.below bX, tX, HVV.out.2.2.2.2.2.2.1.trans (bX.mono (Nat.le_of_lt hwB)), Nat.le_trans hBV bX.size⟩, pX⟩;clear pX tX bX rXX;clear bVY bB m_Y4 b_Y3 m_Y3 b_Y2 m_Y2 b_Y1 m_Y1 b_V hS rX tV pV hBV HVV;clear HBN HC HN2;go_wp2
     go_roundw
     case rel => exact ⟨n + 1, by omega, by go_num, HR⟩
     case measure => simp [intOf]; omega
    ·obtain rfl : n = N2 := by omega
     have hc : ¬ (n : Int) < (n : Int) := by omega
     have HB1 : Shh (bitN n = 1) := ⟨by rw [HN2.out]; exact bitN_pow H⟩;clear HN2
     go_wp2_with (go_at_call 35; refine (HC.out.2.2.2.1 B _ _ HL.out.2 HL.out.1.2.2.2.2.2.1).mono ?_)
     unfold ResIs;rintro e w8 ⟨v8, rfl, h8, b8⟩;obtain ⟨A8, c8, rfl, _, _⟩ := h8.form;have H8 : Shh (((Row w8 M 27 [.int .u32 xc, .bool xs, .int .i64 xn, .int .i64 (H : Int), .int .i64 xl] /\ Row w8 w.heap.size 25 [.slice As sd.length cs, .slice Ap pf.length cp, .slice Ab pb.length cb] /\ Sl w8 B (.slice As sd.length cs) sd /\ Sl w8 B (.slice Ap pf.length cp) pf /\ Sl w8 B (.slice Ab pb.length cb) pb /\ Tb w8 /\ Below w.heap.size w w8 /\ B <= w8.heap.size) /\ P B (.pointer (some pt)) w8 n) /\ Sl w8 w8.heap.size (.slice A8 ro.length c8) ro) := ⟨⟨⟨HL.out.1.1.go b8, HL.out.1.2.1.go b8, HL.out.1.2.2.1.below ((b8).mono HL.out.1.2.2.2.2.2.2.2), HL.out.1.2.2.2.1.below ((b8).mono HL.out.1.2.2.2.2.2.2.2), HL.out.1.2.2.2.2.1.below ((b8).mono HL.out.1.2.2.2.2.2.2.2), HTB.out _ _ HL.out.1.2.2.2.2.2.1 b8, Below.chain HL.out.1.2.2.2.2.2.2.1 b8, Nat.le_trans HL.out.1.2.2.2.2.2.2.2 (b8).size⟩, HPG.out _ _ _ _ _ HL.out.2 b8⟩, h8⟩;clear h8 b8 HL
     go_wp2_with (first | refine wpList_load_any rfl 27 (.tmp 5) rfl M rfl 27 [.int .u32 xc, .bool xs, .int .i64 xn, .int .i64 (H : Int), .int .i64 xl] _ H8.out.1.1.1 Tryz.underlying27 rfl info_xms ?_ | refine wpList_load_any rfl 25 (.tmp 3) rfl w.heap.size rfl 25 [.slice As sd.length cs, .slice Ap pf.length cp, .slice Ab pb.length cb] _ H8.out.1.1.2.1 Tryz.underlying25 rfl info_key11 ?_ | (go_at_call 18; refine (HCR.out _ H8.out.1.1.2.2.2.2.2.1 (H8.out.1.1.2.2.1.more H8.out.1.1.2.2.2.2.2.2.2) (H8.out.1.1.2.2.2.1.more H8.out.1.1.2.2.2.2.2.2.2) (H8.out.1.1.2.2.2.2.1.more H8.out.1.1.2.2.2.2.2.2.2)).mono ?_))
     unfold ResIs;rintro e w9 ⟨v9, rfl, h9, b9⟩;obtain ⟨A9, c9, rfl, _, _⟩ := h9.form;have H9 : Shh (((Row w9 M 27 [.int .u32 xc, .bool xs, .int .i64 xn, .int .i64 (H : Int), .int .i64 xl] /\ Row w9 w.heap.size 25 [.slice As sd.length cs, .slice Ap pf.length cp, .slice Ab pb.length cb] /\ Sl w9 B (.slice As sd.length cs) sd /\ Sl w9 B (.slice Ap pf.length cp) pf /\ Sl w9 B (.slice Ab pb.length cb) pb /\ Tb w9 /\ Below w.heap.size w w9 /\ B <= w9.heap.size) /\ P B (.pointer (some pt)) w9 n) /\ Sl w9 w9.heap.size (.slice A8 ro.length c8) ro /\ Sl w9 w9.heap.size (.slice A9 ro.length c9) ro) := ⟨⟨⟨H8.out.1.1.1.go b9, H8.out.1.1.2.1.go b9, H8.out.1.1.2.2.1.below ((b9).mono H8.out.1.1.2.2.2.2.2.2.2), H8.out.1.1.2.2.2.1.below ((b9).mono H8.out.1.1.2.2.2.2.2.2.2), H8.out.1.1.2.2.2.2.1.below ((b9).mono H8.out.1.1.2.2.2.2.2.2.2), HTB.out _ _ H8.out.1.1.2.2.2.2.2.1 b9, Below.chain H8.out.1.1.2.2.2.2.2.2.1 b9, Nat.le_trans H8.out.1.1.2.2.2.2.2.2.2 (b9).size⟩, HPG.out _ _ _ _ _ H8.out.1.2 b9⟩, H8.out.2.go b9, h9⟩;clear h9 b9 H8 HCR;have hee : (ro == ro) = true := by simp
     have HEE := Shh.mk hee;have hw64 : IntKind.u64.wrap (H : Int) = (H : Int) := by rw [IntKind.wrap_u64]; omega
     clear hee
     go_wp2_with fail
     refine wp_region_held_drew (S := fun w' => Row w' M 27 [.int .u32 xc, .bool xs, .int .i64 xn, .int .i64 (H : Int), .int .i64 xl]) (by kernel_rfl) H9.out.1.1.1.drew (fun hS => ?_);obtain ⟨V, hV⟩ : ∃ V, V = World.drew w9 := ⟨_, rfl⟩;rw [<- hV] at hS ⊢;have HV : Row V M 27 [.int .u32 xc, .bool xs, .int .i64 xn, .int .i64 (H : Int), .int .i64 xl] /\ Row V w.heap.size 25 [.slice As sd.length cs, .slice Ap pf.length cp, .slice Ab pb.length cb] /\ Sl V B (.slice As sd.length cs) sd /\ Sl V B (.slice Ap pf.length cp) pf /\ Sl V B (.slice Ab pb.length cb) pb /\ Tb V /\ Below w.heap.size w V /\ B <= V.heap.size := by rw [hV]; exact ⟨H9.out.1.1.1.drew, H9.out.1.1.2.1.drew, H9.out.1.1.2.2.1.drew, H9.out.1.1.2.2.2.1.drew, H9.out.1.1.2.2.2.2.1.drew, HTB.out _ _ H9.out.1.1.2.2.2.2.2.1 (Below.refl _ _).drew, H9.out.1.1.2.2.2.2.2.2.1.drew, H9.out.1.1.2.2.2.2.2.2.2⟩
     have pV : P B (.pointer (some pt)) V n := by rw [hV]; exact HPG.out _ _ _ _ _ H9.out.1.2 (Below.refl _ _).drew
     have s8 : Sl V V.heap.size (.slice A8 ro.length c8) ro := by rw [hV]; exact H9.out.2.1.drew
     have s9 : Sl V V.heap.size (.slice A9 ro.length c9) ro := by rw [hV]; exact H9.out.2.2.drew
     clear H9;have rX := HV.1;have HVV := Shh.mk HV;have tV := HV.2.2.2.2.2.1;have hBV := HV.2.2.2.2.2.2.2;clear HV hV;refine hdv0 0 106 (.int .i64 0) (by rfl) (rX) ?_;refine hdv0 1 107 (.bool true) (by rfl) (rX) ?_;refine hdv0 2 108 (.bool true) (by rfl) (rX) ?_;refine hdv0 3 109 (.int .i64 0) (by rfl) (rX) ?_;refine hdv0 4 110 (.bool true) (by rfl) (rX) ?_;refine hdv0 5 111 (.bool true) (by rfl) (rX) ?_;refine hdv0 6 112 (.bool true) (by rfl) (rX) ?_;refine hdv0 7 113 (.slice A8 ro.length c8) (by rfl) (rX) ?_;refine hdv0 8 114 (.slice A9 ro.length c9) (by rfl) (rX) ?_;refine held_one 9 (by kernel_rfl) ?_;refine step_call 9 _ _ (some 115) 15 #[.slice A8 ro.length c8, .slice A9 ro.length c9] (by rfl) (by kernel_rfl) (by first | kernel_rfl | go_simp) ?_;refine (show Calls Tryz.prog 15 #[.slice A8 ro.length c8, .slice A9 ro.length c9] V (fun e w' => e = .returned (.bool true) /\ V = w') by have h := refEqual_any V.heap.size V.heap.size _ _ ro ro V (s8) (s9); rw [HEE.out] at h; exact h).mono ?_;rintro e Y1 ⟨rfl, hq⟩;obtain rfl : V = Y1 := hq;refine ⟨_, rfl, rX, ?_⟩;simp only [Act.put, arr9, hd9, tl9];refine hdv0 10 116 (.bool true) (by rfl) (rX) ?_;refine hdv0 11 117 (.bool true) (by rfl) (rX) ?_;refine hdv0 12 118 (.pointer (some pt)) (by rfl) (rX) ?_;refine held_one 13 (by kernel_rfl) ?_;refine step_call 13 _ _ (some 119) 37 #[.pointer (some pt)] (by rfl) (by kernel_rfl) (by first | kernel_rfl | go_simp) ?_;refine (show Calls Tryz.prog 37 #[.pointer (some pt)] V (OldIs (.int .i64 1) V) by have h := HC.out.2.1 B _ V n (HPG.out _ _ _ _ _ pV (Below.refl _ _)) (Nat.le_refl _); rw [HB1.out] at h; exact h).mono ?_;unfold OldIs; rintro e Y2 ⟨rfl, b4⟩;have bx : Below V.heap.size V Y2 := b4;clear b4;have b_V := bx;have m_Y2 : V.heap.size <= Y2.heap.size := bx.size;clear bx;refine ⟨_, rfl, (rX.go b_V), ?_⟩;simp only [Act.put, arr9, hd9, tl9];refine hdv0 14 120 (.bool true) (by rfl) ((rX.go b_V)) ?_;refine hdv0 15 121 (.bool true) (by rfl) ((rX.go b_V)) ?_;refine hdv0 16 122 (.bool true) (by rfl) ((rX.go b_V)) ?_;refine hdv0 17 123 (.pointer (some pt)) (by rfl) ((rX.go b_V)) ?_;refine held_one 18 (by kernel_rfl) ?_;refine step_call 18 _ _ (some 124) 39 #[.pointer (some pt)] (by rfl) (by kernel_rfl) (by first | kernel_rfl | go_simp) ?_;refine (HC.out.2.2.2.2.2 B _ Y2 (HPG.out _ _ _ _ _ pV b_V) (HTB.out _ _ tV b_V)).mono ?_;rintro e Y3 ⟨rfl, pY, tY, bB⟩;have bVY : Below B V Y3 := ((b_V).mono hBV).trans bB;replace rX : Row Y3 M 27 [.int .u32 xc, .bool xs, .int .i64 xn, .int .i64 (H : Int), .int .i64 xl] := Row.below ((rX.go b_V)) bB hMB;refine ⟨_, rfl, rX, ?_⟩;simp only [Act.put, arr9, hd9, tl9];refine hdv0 19 125 (.bool true) (by rfl) (rX) ?_;refine hdv0 20 126 (.bool true) (by rfl) (rX) ?_;refine hdv0 21 127 (.bool true) (by rfl) (rX) ?_;refine hdv0 22 128 (.pointer (some pt)) (by rfl) (rX) ?_;refine hdv0 24 130 (.pointer (some ⟨M, 3, none⟩)) (by rfl) (rX) ?_;refine hdv 25 131 (.int .i64 (H : Int)) (by rfl) (fun w hS => load_i rfl (hS.cell 3) (by kernel_rfl)) (rX) ?_;refine hdv 26 132 (.int .u64 (H : Int)) (by rfl) (fun w hS => conv_64 hw64 rfl (by kernel_rfl)) (rX) ?_;refine hdv 27 133 (.int .i64 (n : Int)) (by rfl) (fun w hS => shl_64 (by have := hH4; omega) hsh rfl (by kernel_rfl)) (rX) ?_;refine held_one 23 (by kernel_rfl) ?_;refine step_call 23 _ _ (some 129) 36 #[.pointer (some pt)] (by rfl) (by kernel_rfl) (by first | kernel_rfl | go_simp) ?_;refine (show Calls Tryz.prog 36 #[.pointer (some pt)] Y3 (OldIs (.int .i64 (n : Int)) Y3) by exact HC.out.1 B _ Y3 n pY).mono ?_;unfold OldIs; rintro e Y4 ⟨rfl, b4⟩;have bx : Below Y3.heap.size Y3 Y4 := b4;have bB2 := bVY.trans (b4.mono (Nat.le_trans hBV bVY.size));clear b4;have b_Y3 := bx;have m_Y4 : Y3.heap.size <= Y4.heap.size := bx.size;clear bx;refine ⟨_, rfl, (rX.go b_Y3), ?_⟩;simp only [Act.put, arr9, hd9, tl9];refine hdv 28 134 (.bool true) (by rfl) (fun w hS => eql_same (k := (n : Int)) rfl (by kernel_rfl) (by kernel_rfl)) ((rX.go b_Y3)) ?_;refine hdv0 29 135 (.bool true) (by rfl) ((rX.go b_Y3)) ?_;refine hdv0 30 4 (.bool true) (by rfl) ((rX.go b_Y3)) ?_;refine wpAnyH_done (by kernel_rfl) ?_ _;have HR : Shh (Below w.heap.size w Y4) := ⟨HVV.out.2.2.2.2.2.2.1.trans (bB2.mono (Nat.le_of_lt hwB))⟩;clear m_Y4 b_Y3 bB2 bVY bB m_Y2 b_V hS tV pV hBV HVV;clear HC HEE HB1 hw64;go_wp2;go_ret;exact ⟨rfl, HR.out⟩
  ·have hpn := HBAD.out h0;subst hpn;clear HQQ HGOOD HBAD HB6 HPG
   go_wp2_with (first | refine wpList_load_any rfl 27 (.tmp 5) rfl M rfl 27 [.int .u32 xc, .bool xs, .int .i64 xn, .int .i64 xh, .int .i64 xl] _ H6.out.1 Tryz.underlying27 rfl info_xms ?_ | refine wpList_load_any rfl 25 (.tmp 3) rfl w.heap.size rfl 25 [.slice As sd.length cs, .slice Ap pf.length cp, .slice Ab pb.length cb] _ H6.out.2.1 Tryz.underlying25 rfl info_key11 ?_ | (go_at_call 21; refine (HM.out _ H6.out.2.2.1 H6.out.2.2.2.1 H6.out.2.2.2.2.1).mono ?_))
   unfold OldIs;rintro e w7 ⟨rfl, b7⟩;have HB : Shh (Below w.heap.size w w7) := ⟨Below.chain H6.out.2.2.2.2.2.2 b7⟩;clear b7 H6 HM;go_wp2;go_ret;exact ⟨rfl, HB.out⟩
end
end Go.Proofs.YtdakbipiifkmfaaGreatDoor
namespace Go.Proofs.YtdakbipiifkmfaaGreatDoor
open Go.ChangeShapes Go.WideShapes Go.ChangeAt Go.RowKit
set_option maxRecDepth 100000
section
variable {H : Type} {enc : TypeId × Value -> H} {P : Program}
theorem trod_bytes11 {W : World} {n : Nat} {t e : TypeId} {v : Value} {y : DataW H × List MemPlace} (ht : P.underlying t = some (.slice e)) (he : P.underlying e = some (.int .u8)) (hc : P.cellsOf e = 1)
  (h : DataW.trod enc P W 0 (fun _ => true) true n t [v] = some y) : ∃ bs : List UInt8, Sl W W.heap.size v bs := by
 rcases open_ints ht he hc h with ⟨hcs, _⟩ | ⟨a, len, cap, zs, hcs, _, hl, hm, hz, _, hcell, hwz⟩
 ·simp only [List.cons.injEq, and_true] at hcs;subst hcs;exact ⟨[], Sl.nil_⟩
 ·simp only [List.cons.injEq, and_true] at hcs;subst hcs;have hzl : zs.length = cap := by simpa using hz
  have hbl : ((zs.take len).map fun z => UInt8.ofNat z.toNat).length = len := by simp; omega
  refine ⟨(zs.take len).map fun z => UInt8.ofNat z.toNat, ⟨some a, cap, by rw [hbl], by omega, hm, fun hn => ?_⟩⟩;rw [hbl] at hn;have h0 := hcell 0 (by omega);have hsp : a.spot = none := by
   simp only [Addr.add, if_true, World.cell?] at h0
   split at h0
   ·split at h0
    ·cases h0
    ·rename_i hns; simpa using hns
   ·cases h0
  obtain ⟨b, off, sp⟩ := a;simp only at hsp;subst hsp;have hb : b < W.heap.size := by
   have := World.block_lt_of_cell? W _ h0
   simpa [Addr.add] using this
  refine ⟨b, off, rfl, hb, fun k hk => ?_⟩;rw [hbl] at hk;have hck := hcell k (by omega);rw [addr_add] at hck;rw [hck];have hkz : k < zs.length := by omega
  have hwf := hwz zs[k] (List.getElem_mem hkz);have hg : zs.getD k 0 = zs[k] := by simp [List.getD, List.getElem?_eq_getElem hkz]
  have hr : 0 <= zs[k] /\ zs[k] <= 255 := by simpa [Lit.wf, IntKind.min, IntKind.max, IntKind.signed, IntKind.bits] using hwf
  have hu : ((UInt8.ofNat zs[k].toNat).toNat : Int) = zs[k] := by
   have : (UInt8.ofNat zs[k].toNat).toNat = zs[k].toNat := by simp; omega
   rw [this]; omega
  rw [hg];simp only [List.getElem_map, List.getElem_take];rw [hu]
theorem cells_sl11 : Tryz.prog.cellsOf 23 = 1 := by kernel_rfl
theorem cells_key11 : Tryz.prog.cellsOf 25 = 3 := by kernel_rfl
theorem open_key {W : World} {base : Nat} {v : Value} {d : DataW H} {ps : List MemPlace} (hval : Value.okWide Tryz.prog W .any base 25 v) (h : DataW.Trod enc Tryz.prog W 0 (fun _ => true) true 25 v d ps) :
  ∃ (vs vp vb : Value) (sd pf pb : List UInt8), v = keyV vs vp vb /\ Sl W W.heap.size vs sd /\ Sl W W.heap.size vp pf /\ Sl W W.heap.size vb pb := by
 simp only [Value.okWide, Tryz.underlying25] at hval;obtain ⟨xs, rfl, hsz, _⟩ := hval;rw [cells_key11] at hsz;obtain ⟨fuel, hf⟩ := h;obtain ⟨ys, k, hk, hxy, _, hxl, hfd⟩ := DataW.trod_struct Tryz.underlying25 hf;have hzs : xs.toList.length = 3 := by simpa using hsz
 have hag : Value.agg xs = .agg xs.toList.toArray := by simp
 rw [hag];simp only [Value.cells] at hfd;generalize xs.toList = L at hzs hfd ⊢
 match ys, hxl, L, hzs with
 | [y0, y1, y2], _, [u0, u1, u2], _ =>
  have g0 := hfd 0 _ rfl;have g1 := hfd 1 _ rfl;have g2 := hfd 2 _ rfl;simp [cells_sl11] at g0 g1 g2;obtain ⟨bs0, s0⟩ := trod_bytes11 Tryz.underlying23 Tryz.underlying5 cells_u8 g0;obtain ⟨bs1, s1⟩ := trod_bytes11 Tryz.underlying23 Tryz.underlying5 cells_u8 g1;obtain ⟨bs2, s2⟩ := trod_bytes11 Tryz.underlying23 Tryz.underlying5 cells_u8 g2;exact ⟨u0, u1, u2, bs0, bs1, bs2, rfl, s0, s1, s2⟩
end
end Go.Proofs.YtdakbipiifkmfaaGreatDoor
