import Derived.BigRegion
import Derived.Deep.RegionWith
import Derived.Deep.RegionHeld
import Derived.BigQuiet
import Derived.Deep.QuietTactic
import Derived.StillTailTactics
import Derived.WalkKit
import Derived.Test.YtdakbipiifkmfaaGreatDoorProg
import Derived.WalkSpells
import Derived.WalkLawsBesides
import Derived.Lib.UnsafeStr
import Derived.Lib.Hide
import Derived.Laws.BytesArg
import Derived.Deep.Draws
import Derived.RegionTactic
import Derived.ChangeAlike
import Derived.Laws.AppendOwnNone
import Derived.Laws.Cover3
import Derived.Deep.MidRow
import Derived.Deep.WholeRow
import Derived.Deep.RegionHeld3
import Derived.Test.YtdakbipiifkmfaaGreatDoorRows
import Derived.ProofKit
import Derived.OpenShut
import Derived.JoinedCond
import Derived.SizedLaws
import Derived.Carry
import Derived.Deep.Grids
import Derived.Lib.ConvBytes
import Derived.Lib.AtoiErrMem
import Derived.Laws.AppendOwn
import Derived.Deep.RegionLaw
import Derived.Laws.CopyOwn
import Derived.DeepKeys
import Derived.Lib.SmallJoins
import Derived.Test.YtdakbipiifkmfaaGreatDoorHSam
import Derived.Test.YtdakbipiifkmfaaGreatDoorHX31
namespace Go.Proofs.YtdakbipiifkmfaaGreatDoor
open Go.RowKit
set_option maxRecDepth 100000
theorem xmsLn_ok {x : S5} (hx : x.ok = true) : xmsLn true x.n x.h x.l = (lenX x : Int) := by
 obtain ⟨h, h1, h2⟩ := ok_h hx;unfold xmsLn lenX;rw [if_pos rfl];simp only [wrap64]
 rcases S5.ok_is hx with ⟨a1, a2⟩ | ⟨a1, a2⟩ <;> rw [a1, a2, h1]
 ·rw [show (24 : Int).toNat = 24 from rfl, show (51 : Int).toNat = 51 from rfl, Int.toNat_natCast]; omega
 ·rw [show (32 : Int).toNat = 32 from rfl, show (67 : Int).toNat = 67 from rfl, Int.toNat_natCast]; omega
theorem lenX_ge {x : S5} (hx : x.ok = true) : 28 <= lenX x /\ lenX x <= 100000 := by
 obtain ⟨h, h1, h2⟩ := ok_h hx;unfold lenX
 rcases S5.ok_is hx with ⟨a1, a2⟩ | ⟨a1, a2⟩ <;> rw [a1, a2, h1]
 ·rw [show (24 : Int).toNat = 24 from rfl, show (51 : Int).toNat = 51 from rfl, Int.toNat_natCast]; omega
 ·rw [show (32 : Int).toNat = 32 from rfl, show (67 : Int).toNat = 67 from rfl, Int.toNat_natCast]; omega
theorem ix_cases (x : S5) (sig : List UInt8) : (x.ok = false /\ ixE x sig = 60 /\ ixN x sig = 0) ∨ (x.ok = true /\ sig.length ≠ lenX x /\ ixE x sig = 70 /\ ixN x sig = 0) ∨
  (x.ok = true /\ sig.length = lenX x /\ ¬ bigN (sig.take 4) < 2 ^ x.h.toNat /\ ixE x sig = 70 /\ ixN x sig = 0) ∨ (x.ok = true /\ sig.length = lenX x /\ bigN (sig.take 4) < 2 ^ x.h.toNat /\ ixE x sig = 0 /\ ixN x sig = bigN (sig.take 4)) := by
 unfold ixN ixE;cases h : x.ok with
 | false => left; exact ⟨rfl, rfl, rfl⟩
 | true =>
  right
  by_cases h2 : sig.length = lenX x
  ·by_cases h3 : bigN (sig.take 4) < 2 ^ x.h.toNat
   ·right; right; simp [h2, h3]
   ·right; left; simp [h2, h3]
  ·left; simp [h2]
theorem slice_from11 {w : World} {B n c : Nat} {A : Option Addr} {bs : List UInt8} (h : Sl w B (.slice A n c) bs) (j : Nat) (hj : j <= n) (hn : n <= c) :
  ∃ A' c', (∀ u, (Instr.sliceAt 23 (.slice A n c) (some (.int .i64 (j : Int))) none none).run Tryz.prog u = .ok (.slice A' (bs.drop j).length c') u) /\ Sl w B (.slice A' (bs.drop j).length c') (bs.drop j) := by
 have hcut := h.cut j n hj (Nat.le_refl _) hn;have hl := h.len;rw [List.take_of_length_le (by omega)] at hcut;obtain ⟨A', c', hv, _⟩ := hcut.form;refine ⟨A', c', fun u => ?_, by rw [<- hv]; exact hcut⟩;rw [run_sliceAt_slice _ _ _ _ _ _ slice30, run_slice_l u 23 A n c slice30 .i64 (j : Int) (by omega) (by omega), elem30, run_sizeOf_u8, Result.andThen_ok, Int.toNat_natCast, hv]
theorem xS_ok {c : Nat} (h : xE c = 0) : (xS c).ok = true := by
 have h1 : xH c ≠ 0 := fun e => by unfold xE at h; rw [if_pos e] at h; exact absurd h (by decide)
 have h2 : xC c = (c : Int) := by unfold xC; rw [if_neg h1]
 have h3 : (xS c).c.toNat = c := by show (xC c).toNat = c; rw [h2]; rfl
 unfold S5.ok;refine decide_eq_true ?_;rw [h3];exact ⟨h, rfl, rfl, rfl, rfl, rfl⟩
theorem xmsPb_ok {x : S5} (hx : x.ok = true) : xmsPb true x.n = ((4 + 2 * x.n.toNat : Nat) : Int) := by
 unfold xmsPb;rw [if_pos rfl];simp only [wrap64]
 rcases S5.ok_is hx with ⟨a1, a2⟩ | ⟨a1, a2⟩ <;> rw [a1] <;> decide
section
variable {a : Act} {x y : Operand} {op : Oper} {w : World}
theorem load_u {p : Addr} {n : Int} (ho : op.op = .load 22 x) (hc : w.cell? p = some (.int .u32 n)) (hx : a.eval x = .pointer (some p)) : (execOp a.eval op).run Tryz.prog w = .ok (.value (.int .u32 n)) w := by
 unfold execOp;simp only [ho, hx]
 go_simp
end
def rootR (x : S5) (sd pf pb : List UInt8) : List UInt8 := if badE x [sd, pf, pb] = 0 then rootB x.s x.n x.l.toNat x.h.toNat sd pb else []
section
variable {Tb : World -> Prop}
set_option maxHeartbeats 4000000 in
theorem xmssOwn_of (c : Nat) (hc : c < 4294967296) (vs vp vb vm : Value) (sd pf pb : List UInt8) (i : Nat) (hi : i < 4294967296) (msg : List UInt8) (w : World) (hs : Sl w w.heap.size vs sd) (hp : Sl w w.heap.size vp pf) (hb : Sl w w.heap.size vb pb) (hm : Sl w w.heap.size vm msg) (ht : Tb w)
  (hTb : ∀ w w', Tb w -> Below w.heap.size w w' -> Tb w')
  (hlive : ∀ W, Tb W -> Calls Tryz.prog 14 #[] W (TrueIs W))
  (hSign : ∀ (x : S5) (vs vp vb vm : Value) (sd pf pb : List UInt8) (i : Nat) (msg : List UInt8) (W : World), x.wf -> (x.ok = true -> x.h <= 4) -> i < 4294967296 -> msg.length <= 3000 -> Tb W -> Sl W W.heap.size vs sd -> Sl W W.heap.size vp pf -> Sl W W.heap.size vb pb -> Sl W W.heap.size vm msg -> Calls Tryz.prog 26 #[x.v, keyV vs vp vb, .int .u32 (i : Int), vm] W (ResIs W (leafE x sd pf pb i) (signR x sd pf pb msg i)))
  (hPub : ∀ (x : S5) (vs vp vb : Value) (sd pf pb : List UInt8) (W : World), x.wf -> (x.ok = true -> x.h <= 4) -> Tb W -> Sl W W.heap.size vs sd -> Sl W W.heap.size vp pf -> Sl W W.heap.size vb pb -> Calls Tryz.prog 20 #[x.v, keyV vs vp vb] W (ResIs W (badE x [sd, pf, pb]) (pubR x sd pf pb)))
  (hIx : ∀ (x : S5) (vg : Value) (sig : List UInt8) (W : World), x.wf -> Tb W -> Sl W W.heap.size vg sig -> Calls Tryz.prog 28 #[x.v, vg] W (OldIs (.tuple #[.int .u32 (ixN x sig : Int), .int .i64 (ixE x sig)]) W))
  (hV : ∀ (vp vm vg : Value) (pub msg sig : List UInt8) (W : World), msg.length <= 3000 -> Tb W -> Sl W W.heap.size vp pub -> Sl W W.heap.size vm msg -> Sl W W.heap.size vg sig -> Calls Tryz.prog 30 #[vp, vm, vg] W (OldIs (.int .i64 (verE pub msg sig)) W)) :
  Calls Tryz.prog 7 #[.int .u32 (c : Int), keyV vs vp vb, .int .u32 (i : Int), vm] w (TrueIs w) := by
 unfold TrueIs;obtain ⟨As, cs, rfl, _, _⟩ := hs.form;obtain ⟨Ap, cp, rfl, _, _⟩ := hp.form;obtain ⟨Ab, cb, rfl, _, _⟩ := hb.form;obtain ⟨Am, cm, rfl, _, _⟩ := hm.form;have hw := setX_wf c hc;have HS : Shh (∀ W, Calls Tryz.prog 11 #[.int .u32 (c : Int)] W (OldIs (setX c).v W)) := ⟨fun W => set11_any c hc W⟩;obtain ⟨x, hx⟩ : ∃ x, x = setX c := ⟨_, rfl⟩;rw [<- hx] at HS hw;clear hx;obtain ⟨hg, hhg⟩ : ∃ hg, hg = (x.ok && decide (4 < x.h)) := ⟨_, rfl⟩;have HH : Shh (∀ W, Calls Tryz.prog 17 #[x.v] W (OldIs (.bool hg) W)) := ⟨fun W => by rw [hhg]; exact high_any x hw W⟩;have HT : Shh (∀ W, Tb W -> Calls Tryz.prog 14 #[] W (TrueIs W)) := ⟨hlive⟩;have HTB := Shh.mk hTb;obtain ⟨le, hle⟩ : ∃ le, le = leafE x sd pf pb i := ⟨_, rfl⟩;obtain ⟨se, hse⟩ : ∃ se, se = signR x sd pf pb msg i := ⟨_, rfl⟩;obtain ⟨pu, hpu⟩ : ∃ pu, pu = pubR x sd pf pb := ⟨_, rfl⟩;obtain ⟨LX, hLX⟩ : ∃ LX, LX = lenX x := ⟨_, rfl⟩;obtain ⟨LP, hLP⟩ : ∃ LP, LP = 4 + 2 * x.n.toNat := ⟨_, rfl⟩;have hx4 : hg = false -> x.ok = true -> x.h <= 4 := fun h1 h2 => by
  rw [hhg, h2, Bool.true_and] at h1;have := of_decide_eq_false h1;omega
 have HP : Shh (hg = false -> msg.length <= 3000 -> ∀ W, Tb W -> Sl W W.heap.size (.slice As sd.length cs) sd -> Sl W W.heap.size (.slice Ap pf.length cp) pf -> Sl W W.heap.size (.slice Ab pb.length cb) pb -> Sl W W.heap.size (.slice Am msg.length cm) msg -> Calls Tryz.prog 26 #[x.v, keyV (.slice As sd.length cs) (.slice Ap pf.length cp) (.slice Ab pb.length cb), .int .u32 (i : Int), .slice Am msg.length cm] W (ResIs W le se)) := ⟨fun h hm W h0 h1 h2 h3 h4 => by
  rw [hle, hse]
  exact hSign x _ _ _ _ sd pf pb i msg W hw (hx4 h) hi hm h0 h1 h2 h3 h4⟩
 have HM : Shh (∀ W, Sl W W.heap.size (.slice As sd.length cs) sd -> Sl W W.heap.size (.slice Ap pf.length cp) pf -> Sl W W.heap.size (.slice Ab pb.length cb) pb -> Calls Tryz.prog 13 #[x.v, keyV (.slice As sd.length cs) (.slice Ap pf.length cp) (.slice Ab pb.length cb), .int .u32 (i : Int)] W (OldIs (.int .i64 (le : Int)) W)) := ⟨fun W h1 h2 h3 => by rw [hle]; exact mayLeaf_any x hw _ _ _ sd pf pb i hi W h1 h2 h3⟩
 have HQ : Shh (hg = false -> msg.length <= 3000 -> le = 0 -> (∀ W, Tb W -> Sl W W.heap.size (.slice As sd.length cs) sd -> Sl W W.heap.size (.slice Ap pf.length cp) pf -> Sl W W.heap.size (.slice Ab pb.length cb) pb -> Calls Tryz.prog 20 #[x.v, keyV (.slice As sd.length cs) (.slice Ap pf.length cp) (.slice Ab pb.length cb)] W (ResIs W 0 pu)) /\ (∀ (A : Option Addr) (cg : Nat) W, Tb W -> Sl W W.heap.size (.slice A se.length cg) se -> Calls Tryz.prog 28 #[x.v, .slice A se.length cg] W (OldIs (.tuple #[.int .u32 (i : Int), .int .i64 0]) W)) /\ (∀ (A B : Option Addr) (ca cg : Nat) W, Tb W -> Sl W W.heap.size (.slice A pu.length ca) pu -> Sl W W.heap.size (.slice Am msg.length cm) msg -> Sl W W.heap.size (.slice B se.length cg) se -> Calls Tryz.prog 30 #[.slice A pu.length ca, .slice Am msg.length cm, .slice B se.length cg] W (OldIs (.int .i64 0) W)) /\ (∀ W, Calls Tryz.prog 32 #[x.v] W (OldIs (.int .i64 (LX : Int)) W)) /\ (∀ W, Calls Tryz.prog 33 #[x.v] W (OldIs (.int .i64 (LP : Int)) W))) := ⟨fun hg0 hml h0 => by
  obtain ⟨hb0, hok, hl1, hl2, hl3, hl4, hl5⟩ := leafE_own hw msg (show leafE x sd pf pb i = 0 by rw [<- hle]; exact h0);rw [<- hse] at hl1 hl2 hl3 hl5;rw [<- hpu] at hl5;have hmx : ∀ W, Calls Tryz.prog 48 #[x.v] W (OldIs (.bool true) W) := fun W => by have h := mayXmss_any x hw W; rw [hok] at h; exact h
  refine ⟨fun W h1 h2 h3 h4 => ?_, fun A cg W h1 h2 => ?_, fun A B ca cg W h1 h2 h3 h4 => ?_, fun W => ?_, fun W => ?_⟩
  ·have h := hPub x _ _ _ sd pf pb W hw (hx4 hg0) h1 h2 h3 h4;rw [hb0, <- hpu] at h;exact h
  ·have h := hIx x _ se W hw h1 h2;rw [hl2, hl3] at h;exact h
  ·have h := hV _ _ _ pu msg se W hml h1 h2 h3 h4;rw [hl5] at h;exact h
  ·have h2 := rXmssLen_of x.c x.s x.n x.h x.l true hmx W;rw [xmsLn_ok hok, <- hLX] at h2;exact h2
  ·have h2 := rXmssPub_of x.c x.s x.n x.h x.l true hmx W;rw [xmsPb_ok hok, <- hLP] at h2
   exact h2⟩
 have HL : Shh (le = 0 -> se.length = LX /\ pu.length = LP) := ⟨fun h0 => by
  obtain ⟨hb0, hok, hl1, hl2, hl3, hl4, hl5⟩ := leafE_own hw msg (show leafE x sd pf pb i = 0 by rw [<- hle]; exact h0)
  exact ⟨by rw [hse, hLX]; exact hl1, by rw [hpu, hLP]; exact hl4⟩⟩
 clear hle hse hpu hLX hLP hhg hx4 hw hSign hPub hIx hV hlive hTb hi hc;obtain ⟨W, hW⟩ : ∃ W, W = w.alloc (.cells #[.slice As sd.length cs, .slice Ap pf.length cp, .slice Ab pb.length cb] 25) := ⟨_, rfl⟩;have HW : Shh (Row W w.heap.size 25 [.slice As sd.length cs, .slice Ap pf.length cp, .slice Ab pb.length cb] /\ Sl W W.heap.size (.slice As sd.length cs) sd /\ Sl W W.heap.size (.slice Ap pf.length cp) pf /\ Sl W W.heap.size (.slice Ab pb.length cb) pb /\ Sl W W.heap.size (.slice Am msg.length cm) msg /\ Tb W /\ Below w.heap.size w W) := by
  rw [hW];exact ⟨Row.new_ rfl rfl, hs.go (below1 _ _), hp.go (below1 _ _), hb.go (below1 _ _), hm.go (below1 _ _), HTB.out _ _ ht (below1 _ _), below1 _ _⟩
 clear hs hp hb hm ht;unfold S5.v keyV at *;generalize x.c = xc at *;generalize x.s = xs at *;generalize x.n = xn at *;generalize x.h = xh at *;generalize x.l = xl at *;go_enter Tryz.func7, Tryz.ntmps7
 go_wp2_with fail
 rw [<- hW];clear hW
 go_at_call 11
 refine (HS.out _).mono ?_;unfold OldIs;rintro e w2 ⟨rfl, b2⟩;have H2 : Shh (Row w2 w.heap.size 25 [.slice As sd.length cs, .slice Ap pf.length cp, .slice Ab pb.length cb] /\ Sl w2 w2.heap.size (.slice As sd.length cs) sd /\ Sl w2 w2.heap.size (.slice Ap pf.length cp) pf /\ Sl w2 w2.heap.size (.slice Ab pb.length cb) pb /\ Sl w2 w2.heap.size (.slice Am msg.length cm) msg /\ Tb w2 /\ Below w.heap.size w w2) := ⟨HW.out.1.go b2, HW.out.2.1.go b2, HW.out.2.2.1.go b2, HW.out.2.2.2.1.go b2, HW.out.2.2.2.2.1.go b2, HTB.out _ _ HW.out.2.2.2.2.2.1 b2, Below.chain HW.out.2.2.2.2.2.2 b2⟩;clear b2 HW HS;obtain ⟨M, hM⟩ : ∃ M, Shh (M = w2.heap.size) := ⟨_, ⟨rfl⟩⟩
 go_wp2_with (refine wpList_store_any rfl 27 (.tmp 9) (.tmp 17) rfl M (by rw [hM.out]; rfl) [.int .u32 xc, .bool xs, .int .i64 xn, .int .i64 xh, .int .i64 xl] rfl 27 [.int .u32 0, .bool false, .int .i64 0, .int .i64 0, .int .i64 0] (Row.new_ hM.out rfl) info_xms rfl oneCell5 ?_)
 intro Z hr bt hsz;have H3 : Shh (Row Z M 27 [.int .u32 xc, .bool xs, .int .i64 xn, .int .i64 xh, .int .i64 xl] /\ Row Z w.heap.size 25 [.slice As sd.length cs, .slice Ap pf.length cp, .slice Ab pb.length cb] /\ Sl Z Z.heap.size (.slice As sd.length cs) sd /\ Sl Z Z.heap.size (.slice Ap pf.length cp) pf /\ Sl Z Z.heap.size (.slice Ab pb.length cb) pb /\ Sl Z Z.heap.size (.slice Am msg.length cm) msg /\ Tb Z /\ Below w.heap.size w Z) := by
  have hm := hM.out;have bb : Below w2.heap.size w2 Z := (below1 _ _).trans (bt.under (by first | omega | (rw [asz]; omega)) (by omega));exact ⟨hr, H2.out.1.go bb, H2.out.2.1.go bb, H2.out.2.2.1.go bb, H2.out.2.2.2.1.go bb, H2.out.2.2.2.2.1.go bb, HTB.out _ _ H2.out.2.2.2.2.2.1 bb, Below.chain H2.out.2.2.2.2.2.2 bb⟩
 rw [<- hM.out];clear hr bt hsz H2 hM
 go_wp2_with (go_at_call 14; refine (HT.out _ H3.out.2.2.2.2.2.2.1).mono ?_)
 unfold TrueIs;rintro e w4 ⟨rfl, b4⟩;have H4 : Shh (Row w4 M 27 [.int .u32 xc, .bool xs, .int .i64 xn, .int .i64 xh, .int .i64 xl] /\ Row w4 w.heap.size 25 [.slice As sd.length cs, .slice Ap pf.length cp, .slice Ab pb.length cb] /\ Sl w4 w4.heap.size (.slice As sd.length cs) sd /\ Sl w4 w4.heap.size (.slice Ap pf.length cp) pf /\ Sl w4 w4.heap.size (.slice Ab pb.length cb) pb /\ Sl w4 w4.heap.size (.slice Am msg.length cm) msg /\ Tb w4 /\ Below w.heap.size w w4) := ⟨H3.out.1.go b4, H3.out.2.1.go b4, H3.out.2.2.1.go b4, H3.out.2.2.2.1.go b4, H3.out.2.2.2.2.1.go b4, H3.out.2.2.2.2.2.1.go b4, HTB.out _ _ H3.out.2.2.2.2.2.2.1 b4, Below.chain H3.out.2.2.2.2.2.2.2 b4⟩;clear b4 H3
 go_wp2_with (first | refine wl_loadW 27 (.tmp 9) rfl M rfl 27 [.int .u32 xc, .bool xs, .int .i64 xn, .int .i64 xh, .int .i64 xl] _ rfl H4.out.1 Tryz.underlying27 rfl info_xms ?_ | (go_at_call 17; refine (HH.out _).mono ?_))
 unfold OldIs;rintro e w5 ⟨rfl, b5⟩;have H5 : Shh (Row w5 M 27 [.int .u32 xc, .bool xs, .int .i64 xn, .int .i64 xh, .int .i64 xl] /\ Row w5 w.heap.size 25 [.slice As sd.length cs, .slice Ap pf.length cp, .slice Ab pb.length cb] /\ Sl w5 w5.heap.size (.slice As sd.length cs) sd /\ Sl w5 w5.heap.size (.slice Ap pf.length cp) pf /\ Sl w5 w5.heap.size (.slice Ab pb.length cb) pb /\ Sl w5 w5.heap.size (.slice Am msg.length cm) msg /\ Tb w5 /\ Below w.heap.size w w5) := ⟨H4.out.1.go b5, H4.out.2.1.go b5, H4.out.2.2.1.go b5, H4.out.2.2.2.1.go b5, H4.out.2.2.2.2.1.go b5, H4.out.2.2.2.2.2.1.go b5, HTB.out _ _ H4.out.2.2.2.2.2.2.1 b5, Below.chain H4.out.2.2.2.2.2.2.2 b5⟩;clear b5 H4 HH;cases hg with
 | true =>
  clear HP HM HQ HL
  go_wp2_with (go_at_call 14; refine (HT.out _ H5.out.2.2.2.2.2.2.1).mono ?_)
  unfold TrueIs;rintro e w6 ⟨rfl, b6⟩;have HB : Shh (Below w.heap.size w w6) := ⟨Below.chain H5.out.2.2.2.2.2.2.2 b6⟩;clear b6 H5 HT;go_wp2;go_ret;exact ⟨rfl, HB.out⟩
 | false =>
  by_cases hl : 3000 < msg.length
  ·have hc : (3000 : Int) < (msg.length : Int) := by omega
   clear HP HM HQ HL hl
   go_wp2_with (go_at_call 14; refine (HT.out _ H5.out.2.2.2.2.2.2.1).mono ?_)
   unfold TrueIs;rintro e w6 ⟨rfl, b6⟩;have HB : Shh (Below w.heap.size w w6) := ⟨Below.chain H5.out.2.2.2.2.2.2.2 b6⟩;clear b6 H5 HT;go_wp2;go_ret;exact ⟨rfl, HB.out⟩
  ·have hc : ¬ (3000 : Int) < (msg.length : Int) := by omega
   have HPP := Shh.mk (HP.out rfl (by omega));have HQQ := Shh.mk (HQ.out rfl (by omega));clear HP HQ HT hl
   go_wp2_with (first | refine wpList_load_any rfl 27 (.tmp 9) rfl M rfl 27 [.int .u32 xc, .bool xs, .int .i64 xn, .int .i64 xh, .int .i64 xl] _ H5.out.1 Tryz.underlying27 rfl info_xms ?_ | refine wpList_load_any rfl 25 (.tmp 5) rfl w.heap.size rfl 25 [.slice As sd.length cs, .slice Ap pf.length cp, .slice Ab pb.length cb] _ H5.out.2.1 Tryz.underlying25 rfl info_key11 ?_ | (go_at_call 26; refine (HPP.out _ H5.out.2.2.2.2.2.2.1 H5.out.2.2.1 H5.out.2.2.2.1 H5.out.2.2.2.2.1 H5.out.2.2.2.2.2.1).mono ?_))
   unfold ResIs;rintro e w6 ⟨v6, rfl, h6, b6⟩;obtain ⟨A6, c6, rfl, _, _⟩ := h6.form;have H6 : Shh (Row w6 M 27 [.int .u32 xc, .bool xs, .int .i64 xn, .int .i64 xh, .int .i64 xl] /\ Row w6 w.heap.size 25 [.slice As sd.length cs, .slice Ap pf.length cp, .slice Ab pb.length cb] /\ Sl w6 w6.heap.size (.slice As sd.length cs) sd /\ Sl w6 w6.heap.size (.slice Ap pf.length cp) pf /\ Sl w6 w6.heap.size (.slice Ab pb.length cb) pb /\ Sl w6 w6.heap.size (.slice Am msg.length cm) msg /\ Tb w6 /\ Below w.heap.size w w6) := ⟨H5.out.1.go b6, H5.out.2.1.go b6, H5.out.2.2.1.go b6, H5.out.2.2.2.1.go b6, H5.out.2.2.2.2.1.go b6, H5.out.2.2.2.2.2.1.go b6, HTB.out _ _ H5.out.2.2.2.2.2.2.1 b6, Below.chain H5.out.2.2.2.2.2.2.2 b6⟩;have S6 : Shh (Sl w6 w6.heap.size (.slice A6 se.length c6) se) := ⟨h6⟩;clear h6 b6 H5 HPP hc
   by_cases h0 : le = 0
   ·subst h0;have R := Shh.mk (HQQ.out rfl);obtain ⟨hsl, hpl⟩ := HL.out rfl;have HSL := Shh.mk hsl;have HPL := Shh.mk hpl;clear HQQ HL HM hsl hpl
    go_wp2_with (first | refine wpList_load_any rfl 27 (.tmp 9) rfl M rfl 27 [.int .u32 xc, .bool xs, .int .i64 xn, .int .i64 xh, .int .i64 xl] _ H6.out.1 Tryz.underlying27 rfl info_xms ?_ | refine wpList_load_any rfl 25 (.tmp 5) rfl w.heap.size rfl 25 [.slice As sd.length cs, .slice Ap pf.length cp, .slice Ab pb.length cb] _ H6.out.2.1 Tryz.underlying25 rfl info_key11 ?_ | (go_at_call 20; refine (R.out.1 _ H6.out.2.2.2.2.2.2.1 H6.out.2.2.1 H6.out.2.2.2.1 H6.out.2.2.2.2.1).mono ?_))
    unfold ResIs;rintro e w7 ⟨v7, rfl, h7, b7⟩;obtain ⟨A7, c7, rfl, _, _⟩ := h7.form;have H7 : Shh (Row w7 M 27 [.int .u32 xc, .bool xs, .int .i64 xn, .int .i64 xh, .int .i64 xl] /\ Row w7 w.heap.size 25 [.slice As sd.length cs, .slice Ap pf.length cp, .slice Ab pb.length cb] /\ Sl w7 w7.heap.size (.slice As sd.length cs) sd /\ Sl w7 w7.heap.size (.slice Ap pf.length cp) pf /\ Sl w7 w7.heap.size (.slice Ab pb.length cb) pb /\ Sl w7 w7.heap.size (.slice Am msg.length cm) msg /\ Tb w7 /\ Below w.heap.size w w7) := ⟨H6.out.1.go b7, H6.out.2.1.go b7, H6.out.2.2.1.go b7, H6.out.2.2.2.1.go b7, H6.out.2.2.2.2.1.go b7, H6.out.2.2.2.2.2.1.go b7, HTB.out _ _ H6.out.2.2.2.2.2.2.1 b7, Below.chain H6.out.2.2.2.2.2.2.2 b7⟩;have S7 : Shh (Sl w7 w7.heap.size (.slice A6 se.length c6) se /\ Sl w7 w7.heap.size (.slice A7 pu.length c7) pu) := ⟨S6.out.go b7, h7⟩;clear h7 b7 H6 S6
    go_wp2_with (first | refine wpList_load_any rfl 27 (.tmp 9) rfl M rfl 27 [.int .u32 xc, .bool xs, .int .i64 xn, .int .i64 xh, .int .i64 xl] _ H7.out.1 Tryz.underlying27 rfl info_xms ?_ | refine wpList_load_any rfl 25 (.tmp 5) rfl w.heap.size rfl 25 [.slice As sd.length cs, .slice Ap pf.length cp, .slice Ab pb.length cb] _ H7.out.2.1 Tryz.underlying25 rfl info_key11 ?_ | (go_at_call 28; refine (R.out.2.1 _ _ _ H7.out.2.2.2.2.2.2.1 S7.out.1).mono ?_))
    unfold OldIs;rintro e w8 ⟨rfl, b8⟩;have H8 : Shh (Row w8 M 27 [.int .u32 xc, .bool xs, .int .i64 xn, .int .i64 xh, .int .i64 xl] /\ Row w8 w.heap.size 25 [.slice As sd.length cs, .slice Ap pf.length cp, .slice Ab pb.length cb] /\ Sl w8 w8.heap.size (.slice As sd.length cs) sd /\ Sl w8 w8.heap.size (.slice Ap pf.length cp) pf /\ Sl w8 w8.heap.size (.slice Ab pb.length cb) pb /\ Sl w8 w8.heap.size (.slice Am msg.length cm) msg /\ Tb w8 /\ Below w.heap.size w w8) := ⟨H7.out.1.go b8, H7.out.2.1.go b8, H7.out.2.2.1.go b8, H7.out.2.2.2.1.go b8, H7.out.2.2.2.2.1.go b8, H7.out.2.2.2.2.2.1.go b8, HTB.out _ _ H7.out.2.2.2.2.2.2.1 b8, Below.chain H7.out.2.2.2.2.2.2.2 b8⟩;have S8 : Shh (Sl w8 w8.heap.size (.slice A6 se.length c6) se /\ Sl w8 w8.heap.size (.slice A7 pu.length c7) pu) := ⟨S7.out.1.go b8, S7.out.2.go b8⟩;clear b8 H7 S7
    go_wp2_with (go_at_call 30; refine (R.out.2.2.1 _ _ _ _ _ H8.out.2.2.2.2.2.2.1 S8.out.2 H8.out.2.2.2.2.2.1 S8.out.1).mono ?_)
    unfold OldIs;rintro e w9 ⟨rfl, b9⟩;have H9 : Shh (Row w9 M 27 [.int .u32 xc, .bool xs, .int .i64 xn, .int .i64 xh, .int .i64 xl] /\ Below w.heap.size w w9) := ⟨H8.out.1.go b9, Below.chain H8.out.2.2.2.2.2.2.2 b9⟩;clear b9 H8 S8
    go_wp2_with (first | refine wl_loadW 27 (.tmp 9) rfl M rfl 27 [.int .u32 xc, .bool xs, .int .i64 xn, .int .i64 xh, .int .i64 xl] _ rfl H9.out.1 Tryz.underlying27 rfl info_xms ?_ | (go_at_call 32; refine (R.out.2.2.2.1 _).mono ?_))
    unfold OldIs;rintro e w10 ⟨rfl, b10⟩;have H10 : Shh (Row w10 M 27 [.int .u32 xc, .bool xs, .int .i64 xn, .int .i64 xh, .int .i64 xl] /\ Below w.heap.size w w10) := ⟨H9.out.1.go b10, Below.chain H9.out.2 b10⟩;clear b10 H9;have hsl : (se.length : Int) = (LX : Int) := by rw [HSL.out]
    go_wp2_with (first | refine wl_loadW 27 (.tmp 9) rfl M rfl 27 [.int .u32 xc, .bool xs, .int .i64 xn, .int .i64 xh, .int .i64 xl] _ rfl H10.out.1 Tryz.underlying27 rfl info_xms ?_ | (go_at_call 33; refine (R.out.2.2.2.2 _).mono ?_))
    unfold OldIs;rintro e w11 ⟨rfl, b11⟩;have H11 : Shh (Below w.heap.size w w11) := ⟨Below.chain H10.out.2 b11⟩;clear b11 H10 R;have hpl : (pu.length : Int) = (LP : Int) := by rw [HPL.out]
    go_wp2;go_ret;exact ⟨rfl, H11.out⟩
   ·clear HQQ HL
    go_wp2_with (first | refine wpList_load_any rfl 27 (.tmp 9) rfl M rfl 27 [.int .u32 xc, .bool xs, .int .i64 xn, .int .i64 xh, .int .i64 xl] _ H6.out.1 Tryz.underlying27 rfl info_xms ?_ | refine wpList_load_any rfl 25 (.tmp 5) rfl w.heap.size rfl 25 [.slice As sd.length cs, .slice Ap pf.length cp, .slice Ab pb.length cb] _ H6.out.2.1 Tryz.underlying25 rfl info_key11 ?_ | (go_at_call 13; refine (HM.out _ H6.out.2.2.1 H6.out.2.2.2.1 H6.out.2.2.2.2.1).mono ?_))
    unfold OldIs;rintro e w7 ⟨rfl, b7⟩;have H7 : Shh (Below w.heap.size w w7) := ⟨Below.chain H6.out.2.2.2.2.2.2.2 b7⟩;clear b7 H6 S6 HM;go_wp2;go_ret;exact ⟨rfl, H7.out⟩
end
section
variable {a : Act} {x y : Operand} {op : Oper} {w : World}
theorem eql_same {k : Int} (ho : op.op = .binOp .eql 3 x y 3) (hx : a.eval x = .int .i64 k) (hy : a.eval y = .int .i64 k) : (execOp a.eval op).run Tryz.prog w = .ok (.value (.bool true)) w := by
 unfold execOp;simp only [ho, hx, hy]
 go_simp
end
end Go.Proofs.YtdakbipiifkmfaaGreatDoor
