import Derived.BigQuiet
import Derived.Deep.QuietTactic
import Derived.StillTailTactics
import Derived.WalkKit
import Derived.Test.YtdakbipiifkmfaaGreatDoorProg
import Derived.WalkSpells
import Derived.WalkLawsBesides
import Derived.Lib.UnsafeStr
import Derived.Lib.Hide
import Derived.Laws.BytesArg
import Derived.Deep.Draws
import Derived.RegionTactic
import Derived.ChangeAlike
import Derived.Laws.AppendOwnNone
import Derived.Deep.MidRow
import Derived.Deep.WholeRow
import Derived.BigRegion
import Derived.Deep.RegionHeld3
import Derived.Lib.SliceRun
import Derived.Lib.ConvBytes
import Derived.Lib.AtoiErrMem
import Derived.Laws.AppendOwn
import Derived.Deep.RegionLaw
import Derived.Laws.EntriesVeiled
import Derived.Deep.RegionWith
import Derived.Deep.RegionHeld
import Derived.Maps.AppendAt
import Derived.Laws.Cover3
import Derived.RangeFuncNested
import Derived.RangeFuncBound
import Derived.RangeFuncCalls
import Derived.RangeFuncLeaves
import Derived.OwnWalkIn
import Derived.TacticsInMore
import Derived.LoopNIn
import Derived.LoopIn
import Derived.RangeFuncBox
import Derived.RangeFuncWrites
import Derived.Test.YtdakbipiifkmfaaGreatDoorRows
import Derived.ProofKit
import Derived.OpenShut
import Derived.JoinedCond
import Derived.SizedLaws
import Derived.Carry
import Derived.Deep.Grids
import Derived.Laws.CopyOwn
import Derived.DeepKeys
import Derived.Lib.SmallJoins
import Derived.Test.YtdakbipiifkmfaaGreatDoorHP22
import Derived.Test.YtdakbipiifkmfaaGreatDoorHSap
namespace Go.Proofs.YtdakbipiifkmfaaGreatDoor
open Go.RowKit
set_option maxRecDepth 100000
theorem isSize11 (n : Int) (w : World) (h1 : 1 <= n) (h2 : n <= 8) :
  Calls Tryz.prog 128 #[.int .i64 n] w fun e w' => e = .returned (.bool true) /\ w = w' := by
 go_enter Tryz.func128, Tryz.ntmps128;go_wp2;go_ret;exact ⟨rfl, rfl⟩
set_option maxHeartbeats 400000 in
theorem bigOf11 (B : Nat) (v : Value) (bs : List UInt8) (w : World) (hs : Sl w B v bs) (h1 : 1 <= bs.length) (h8 : bs.length <= 8) :
  Calls Tryz.prog 103 #[v] w fun e w' => e = .returned (.tuple #[.int .u64 (bigN bs : Int), .int .i64 0]) /\ w = w' := by
 obtain ⟨A, c, rfl, _, _⟩ := hs.form;obtain ⟨b, off, rfl, hb, hc⟩ := hs.at_ (by omega);go_enter Tryz.func103, Tryz.ntmps103
 go_wp2_with (go_at_call 128; refine (isSize11 _ _ (by omega) (by omega)).mono ?_; rintro e w' ⟨rfl, rfl⟩)
 go_loop [4, 13] (fun n i => ∃ k : Nat, k <= bs.length /\ i = .int .i64 k /\ n = .int .u64 (bigN (bs.take k))) (fun _ i => bs.length - (intOf i).toNat)
 case atStart => exact ⟨0, Nat.zero_le _, rfl, rfl⟩
 case round =>
  obtain ⟨k, hk, rfl, rfl⟩ := hrel
  by_cases hlt : k < bs.length
  ·have hc1 := hc k hlt;have HS := Lib.hid (bigN_step bs k hlt h8);clear hc;go_wp2
   go_round
   case rel => exact ⟨k + 1, by omega, by go_num, by rw [HS.out]⟩
   case measure => simp [intOf]; omega
  ·go_wp2;go_ret2;exact ⟨by rw [List.take_of_length_le (by omega)]; rfl, rfl⟩
theorem intOf_any (v : Value) (bs : List UInt8) (w : World) (hs : Sl w w.heap.size v bs) (h4 : bs.length = 4) : Calls Tryz.prog 68 #[v] w (OldIs (.int .u32 (bigN bs : Int)) w) := by
 unfold OldIs;have HB := Shh.mk (bigOf11 w.heap.size v bs w hs (by omega) (by omega));have hlt := bigN_lt bs;rw [h4] at hlt;obtain ⟨N, hN⟩ : ∃ N, N = bigN bs := ⟨_, rfl⟩;rw [<- hN] at HB hlt ⊢;have hw : IntKind.u32.wrap (N : Int) = (N : Int) := by rw [IntKind.wrap_u32]; omega
 obtain ⟨A, c, rfl, _, _⟩ := hs.form;clear hs h4 hN hlt;go_enter Tryz.func68, Tryz.ntmps68
 go_wp2_with (go_at_call 103; refine HB.out.mono ?_)
 rintro e w2 ⟨rfl, rfl⟩;go_wp2;go_ret;exact ⟨rfl, Below.refl _ _⟩
theorem isXmss11 (x : S5) (h : x.wf) (w : World) : Calls Tryz.prog 102 #[x.v] w (OldIs (.bool x.ok) w) := by
 obtain ⟨xc, xs, xn, xh, xl⟩ := x;have hn := c5_nat h;simp only at hn;have hw := xms_wf xc.toNat hn.2;exact isXmss_of xc xs xn xh xl (xC xc.toNat) (xSh xc.toNat) (xN xc.toNat) (xH xc.toNat : Int) (xL xc.toNat) (xE xc.toNat) h.1 h.2.1 h.2.2.1 h.2.2.2 hw.1 hw.2.1 hw.2.2.1 hw.2.2.2 (fun W => by have := xmss_any xc.toNat hn.2 W; rw [hn.1] at this; exact this) w
set_option maxHeartbeats 2000000 in
theorem Index11_any (x : S5) (hw : x.wf) (vg : Value) (sig : List UInt8) (w : World) (hg : Sl w w.heap.size vg sig) :
  Calls Tryz.prog 28 #[x.v, vg] w (OldIs (.tuple #[.int .u32 (ixN x sig : Int), .int .i64 (ixE x sig)]) w) := by
 unfold OldIs;obtain ⟨Ag, cg, rfl, hcg, hcm⟩ := hg.form;have hC := ix_cases x sig;obtain ⟨E, hE⟩ : ∃ E, E = ixE x sig := ⟨_, rfl⟩;obtain ⟨I, hI⟩ : ∃ I, I = ixN x sig := ⟨_, rfl⟩;rw [<- hE, <- hI] at hC ⊢;clear hE hI;have HM : Shh (∀ W, Calls Tryz.prog 66 #[x.v] W (OldIs (.bool x.ok) W)) := ⟨fun W => isSet11_any x hw W⟩
 have HL : Shh (x.ok = true -> ∀ W, Calls Tryz.prog 67 #[x.v] W (OldIs (.int .i64 (lenX x : Int)) W)) := ⟨fun h W => by
  have hb : ∀ W, Calls Tryz.prog 102 #[x.v] W (OldIs (.bool x.ok) W) := fun W => isXmss11 x hw W
  rw [h] at hb;have h2 := pXmssLen_of x.c x.s x.n x.h x.l true hb W;rw [xmsLn_ok h] at h2
  exact h2⟩
 have HLV : Shh (∀ h : Nat, x.h = (h : Int) -> h <= 20 -> ∀ W, Calls Tryz.prog 69 #[x.v] W (OldIs (.int .u32 ((2 ^ h : Nat) : Int)) W)) := ⟨fun h h1 h2 W => leaves_any x h h1 h2 W⟩;have HF : Shh (x.ok = true -> 28 <= lenX x /\ lenX x <= 100000 /\ ∃ h : Nat, x.h = (h : Int) /\ h <= 20) := ⟨fun h => ⟨(lenX_ge h).1, (lenX_ge h).2, ok_h h⟩⟩;have HC := Shh.mk hcg;clear hw hcg hcm;unfold S5.v at HM HL HLV ⊢;generalize lenX x = lx at *;generalize x.ok = ok at *;have HW : Shh (Row (w.alloc (.cells #[.int .u32 x.c, .bool x.s, .int .i64 x.n, .int .i64 x.h, .int .i64 x.l] 27)) w.heap.size 27 [.int .u32 x.c, .bool x.s, .int .i64 x.n, .int .i64 x.h, .int .i64 x.l] /\ Sl (w.alloc (.cells #[.int .u32 x.c, .bool x.s, .int .i64 x.n, .int .i64 x.h, .int .i64 x.l] 27)) (w.alloc (.cells #[.int .u32 x.c, .bool x.s, .int .i64 x.n, .int .i64 x.h, .int .i64 x.l] 27)).heap.size (.slice Ag sig.length cg) sig /\ Below w.heap.size w (w.alloc (.cells #[.int .u32 x.c, .bool x.s, .int .i64 x.n, .int .i64 x.h, .int .i64 x.l] 27))) := ⟨Row.new_ rfl rfl, hg.go (below1 _ _), below1 _ _⟩;clear hg;generalize x.c = xc at *;generalize x.s = xs at *;generalize x.n = xn at *;generalize x.h = xh at *;generalize x.l = xl at *;have HCC := Shh.mk hC;clear hC;go_enter Tryz.func28, Tryz.ntmps28
 go_wp2_with (first | refine wpList_load_any rfl 27 (.tmp 2) rfl w.heap.size rfl 27 [.int .u32 xc, .bool xs, .int .i64 xn, .int .i64 xh, .int .i64 xl] _ HW.out.1 Tryz.underlying27 rfl info_xms ?_ | (go_at_call 66; refine (HM.out _).mono ?_))
 unfold OldIs;rintro e w2 ⟨rfl, b2⟩;have H2 : Shh (Row w2 w.heap.size 27 [.int .u32 xc, .bool xs, .int .i64 xn, .int .i64 xh, .int .i64 xl] /\ Sl w2 w2.heap.size (.slice Ag sig.length cg) sig /\ Below w.heap.size w w2) := ⟨HW.out.1.go b2, HW.out.2.1.go b2, Below.chain HW.out.2.2 b2⟩;clear b2 HW HM;cases ok with
 | false =>
  have HR : Shh (E = 60 /\ I = 0) := ⟨by have := HCC.out; simp at this; omega⟩;clear HCC HL HF;have HB : Shh (Below w.heap.size w w2) := ⟨H2.out.2.2⟩;clear H2;go_wp2;go_ret2;exact ⟨by rw [HR.out.1, HR.out.2]; rfl, HB.out⟩
 | true =>
  obtain ⟨l28, l5, h, hh, h20⟩ := HF.out rfl;subst hh;have HLE := Shh.mk (HLV.out h rfl h20);clear HLV;have HLL := Shh.mk (HL.out rfl);have HF2 : Shh (28 <= lx /\ h <= 20) := ⟨l28, h20⟩;have H20 := Shh.mk h20;clear l28 l5 HF HL h20
  go_wp2_with (first | refine wpList_load_any rfl 27 (.tmp 2) rfl w.heap.size rfl 27 [.int .u32 xc, .bool xs, .int .i64 xn, .int .i64 (h : Int), .int .i64 xl] _ H2.out.1 Tryz.underlying27 rfl info_xms ?_ | (go_at_call 67; refine (HLL.out _).mono ?_))
  unfold OldIs;rintro e w3 ⟨rfl, b3⟩;have H3 : Shh (Row w3 w.heap.size 27 [.int .u32 xc, .bool xs, .int .i64 xn, .int .i64 (h : Int), .int .i64 xl] /\ Sl w3 w3.heap.size (.slice Ag sig.length cg) sig /\ Below w.heap.size w w3) := ⟨H2.out.1.go b3, H2.out.2.1.go b3, Below.chain H2.out.2.2 b3⟩;clear b3 H2 HLL
  by_cases hl : sig.length = lx
  ·have hq : ((sig.length : Int) == (lx : Int)) = true := by simp [hl]
   obtain ⟨hd, hhd⟩ : ∃ hd, hd = sig.take 4 := ⟨_, rfl⟩;obtain ⟨Ah, ch, runP, sP⟩ := slice_to10 H3.out.2.1 4 (by have := HF2.out.1; omega) HC.out;rw [<- hhd] at runP sP;have runP' : ∀ u, (Instr.sliceAt 23 (.slice Ag sig.length cg) none (some (.int .i64 4)) none).run Tryz.prog u = .ok (.slice Ah hd.length ch) u := runP;have HD : Shh (Sl w3 w3.heap.size (.slice Ah hd.length ch) hd /\ hd.length = 4 /\ bigN hd < 4294967296) := by
    have h4 : hd.length = 4 := by rw [hhd, List.length_take]; have := HF2.out.1; omega
    refine ⟨sP, h4, ?_⟩;have := bigN_lt hd;rw [h4] at this;exact this
   have HQ : Shh (sig.length = lx) := ⟨hl⟩;have HX : Shh (sig.take 4 = hd) := ⟨hhd.symm⟩;clear runP sP hhd hl
   go_wp2_with (go_at_call 68; refine (intOf_any _ hd _ HD.out.1 HD.out.2.1).mono ?_)
   unfold OldIs;rintro e w4 ⟨rfl, b4⟩;obtain ⟨N, hN⟩ : ∃ N, N = bigN hd := ⟨_, rfl⟩;rw [<- hN];have HNN : Shh (N < 4294967296 /\ bigN (sig.take 4) = N) := ⟨by rw [hN]; exact HD.out.2.2, by rw [HX.out, hN]⟩;clear hq runP' HD hN HX;obtain ⟨pw, hpw⟩ : ∃ pw, pw = 2 ^ h := ⟨_, rfl⟩;rw [<- hpw] at HLE;have HCD : Shh ((¬ N < pw -> E = 70 /\ I = 0) /\ (N < pw -> E = 0 /\ I = N)) := by
    have hc := HCC.out;rw [HNN.out.2, Int.toNat_natCast, <- hpw] at hc;have hq := HQ.out;simp [hq] at hc;exact ⟨fun h1 => by omega, fun h1 => by omega⟩
   have H4 : Shh (Row w4 w.heap.size 27 [.int .u32 xc, .bool xs, .int .i64 xn, .int .i64 (h : Int), .int .i64 xl] /\ Below w.heap.size w w4) := ⟨H3.out.1.go b4, Below.chain H3.out.2.2 b4⟩;clear hpw HCC HQ H3 HF2 b4
   go_wp2_with (first | refine wpList_load_any rfl 27 (.tmp 2) rfl w.heap.size rfl 27 [.int .u32 xc, .bool xs, .int .i64 xn, .int .i64 (h : Int), .int .i64 xl] _ H4.out.1 Tryz.underlying27 rfl info_xms ?_ | (go_at_call 69; refine (HLE.out _).mono ?_))
   unfold OldIs;rintro e w5 ⟨rfl, b5⟩;have HB : Shh (Below w.heap.size w w5) := ⟨Below.chain H4.out.2 b5⟩;clear H4 b5 HLE
   by_cases hlt : N < pw
   ·have hc : ¬ (pw : Int) <= (N : Int) := by omega
    have HR := Shh.mk (HCD.out.2 hlt);clear HCD HNN;go_wp2;go_ret2;exact ⟨by rw [HR.out.1, HR.out.2]; rfl, HB.out⟩
   ·have hc : (pw : Int) <= (N : Int) := by omega
    have HR := Shh.mk (HCD.out.1 hlt);clear HCD HNN;go_wp2;go_ret2;exact ⟨by rw [HR.out.1, HR.out.2]; rfl, HB.out⟩
  ·have hq : ((sig.length : Int) == (lx : Int)) = false := by simp; omega
   have HR : Shh (E = 70 /\ I = 0) := ⟨by have hc := HCC.out; simp [hl] at hc; omega⟩;have HB : Shh (Below w.heap.size w w3) := ⟨H3.out.2.2⟩;clear HCC H3 hl;go_wp2;go_ret2;exact ⟨by rw [HR.out.1, HR.out.2]; rfl, HB.out⟩
theorem held_skip {P : Program} {md : Region.Mode} {ops : Array Oper} {Q : Exit -> Act -> World -> Prop} {S : World -> Prop} {fuel : Nat} {listed : Array Bool} {a : Act} {w : World} (i : Nat) (dst : Option Tmp) (hside : mayTake md ops listed i = true)
 (hop : (ops[i]?).map (fun o => o.dst) = some dst) (hw : (ops[i]?).map (fun o => Region.wanted o (yielded ops a.tmps)) = some false)
 (hQ : ∀ c a w, Q (.panic c) (a.put dst undef) w -> Q (.panic c) a w) (hSw : S w)
 (h : wpAnyH P md ops Q S fuel (listed.setIfInBounds i true) (a.put dst undef) w) : wpAnyH P md ops Q S (fuel + 1) listed a w := by
 cases ho : ops[i]? with
 | none => rw [ho] at hop; cases hop
 | some op =>
  rw [ho] at hop hw;simp only [Option.map_some, Option.some.injEq] at hop hw;simp only [mayTake, Bool.and_eq_true] at hside;subst hop;exact wpAnyH_take ho hside.1.1 hside.1.2 hside.2 hQ (.inr ⟨hw, rfl⟩) hSw h
section
variable {a : Act} {x y : Operand} {op : Oper} {w : World}
theorem eql_dec {k j : Nat} {r : Bool} (h : r = decide (k = j)) (ho : op.op = .binOp .eql 3 x y 3) (hx : a.eval x = .int .i64 (k : Int)) (hy : a.eval y = .int .i64 (j : Int)) : (execOp a.eval op).run Tryz.prog w = .ok (.value (.bool r)) w := by
 by_cases hk : k = j
 ·subst hk;have hr : r = true := by rw [h]; exact decide_eq_true rfl
  subst hr;exact eql_same ho hx hy
 ·have hr : r = false := by rw [h]; exact decide_eq_false hk
  subst hr;have h1 : ¬ (k : Int) = (j : Int) := fun e => hk (Int.ofNat.inj e)
  clear h;generalize (k : Int) = kk at *;generalize (j : Int) = jj at *;unfold execOp;simp only [ho, hx, hy]
  go_simp
end
def SetIs (w : World) (pub : List UInt8) (e : Ending) (w' : World) : Prop := ∃ (X : S5) (ok : Bool), e = .returned (.tuple #[X.v, .bool ok]) /\ Below w.heap.size w w' /\ (ok = true ↔ (¬ pub.length < 4 /\ xE (bigN (pub.take 4)) = 0 /\ pub.length = 4 + 2 * (xS (bigN (pub.take 4))).n.toNat)) /\ (ok = true -> X = xS (bigN (pub.take 4)))
set_option maxHeartbeats 4000000 in
theorem setOf_any (vp : Value) (pub : List UInt8) (w : World) (hp : Sl w w.heap.size vp pub) : Calls Tryz.prog 71 #[vp] w (SetIs w pub) := by
 unfold SetIs;obtain ⟨Ap, cp, rfl, hcp, _⟩ := hp.form
 by_cases h4 : pub.length < 4
 ·have hc : (pub.length : Int) < 4 := by omega
  have HP : Shh (∀ ok : Bool, ok = false -> ((ok = true ↔ (¬ pub.length < 4 /\ xE (bigN (pub.take 4)) = 0 /\ pub.length = 4 + 2 * (xS (bigN (pub.take 4))).n.toNat)) /\ (ok = true -> (⟨0, false, 0, 0, 0⟩ : S5) = xS (bigN (pub.take 4))))) := ⟨fun ok h => by subst h; exact ⟨⟨fun h => (by cases h), fun h => absurd h4 h.1⟩, fun h => (by cases h)⟩⟩;clear hp h4 hcp;go_enter Tryz.func71, Tryz.ntmps71
  go_wp2_with (refine wpList_store_any rfl 27 (.tmp 2) (.tmp 9) rfl w.heap.size rfl [.int .u32 0, .bool false, .int .i64 0, .int .i64 0, .int .i64 0] rfl 27 [.int .u32 0, .bool false, .int .i64 0, .int .i64 0, .int .i64 0] (Row.new_ rfl rfl) info_xms rfl oneCell5 ?_)
  intro Z hr bt hsz;have HR : Shh (Row Z w.heap.size 27 [.int .u32 0, .bool false, .int .i64 0, .int .i64 0, .int .i64 0] /\ Below w.heap.size w Z) := ⟨hr, (below1 _ _).trans (bt.under (by first | omega | (rw [asz]; omega)) (Nat.le_refl _))⟩;clear hr bt hsz;go_wp2;exact ret_rs Tryz.results71 rfl rfl rfl HR.out.1 Tryz.underlying27 rfl info_xms ⟨⟨0, false, 0, 0, 0⟩, false, rfl, HR.out.2, HP.out false rfl⟩
 obtain ⟨hd, hhd⟩ : ∃ hd, hd = pub.take 4 := ⟨_, rfl⟩;obtain ⟨Ah, ch, runH, sH⟩ := slice_to10 hp 4 (by omega) hcp;rw [<- hhd] at runH sH ⊢;have runH' : ∀ u, (Instr.sliceAt 23 (.slice Ap pub.length cp) none (some (.int .i64 4)) none).run Tryz.prog u = .ok (.slice Ah hd.length ch) u := runH;have hd4 : hd.length = 4 := by rw [hhd, List.length_take]; omega
 obtain ⟨c, hcc⟩ : ∃ c, c = bigN hd := ⟨_, rfl⟩;have hc32 : c < 4294967296 := by
  have := bigN_lt hd;rw [hd4] at this;rw [hcc];exact this
 rw [<- hcc]
 have HN : Shh (∀ W, Sl W W.heap.size (.slice Ah hd.length ch) hd -> Calls Tryz.prog 68 #[.slice Ah hd.length ch] W (OldIs (.int .u32 (c : Int)) W)) := ⟨fun W h => by
  rw [hcc]
  exact intOf_any _ hd W h hd4⟩
 have HH : Shh (Sl w w.heap.size (.slice Ah hd.length ch) hd) := ⟨sH⟩;have hwf := xms_wf c hc32;have HX : Shh (∀ W, Calls Tryz.prog 101 #[.int .u32 (c : Int)] W (OldIs (.tuple #[(xS c).v, .int .i64 (xE c)]) W)) := ⟨fun W => xmss_any c hc32 W⟩;have hxok : xE c = 0 -> (xS c).ok = true := xS_ok;obtain ⟨x, hx⟩ : ∃ x, x = xS c := ⟨_, rfl⟩;rw [<- hx] at HX hxok ⊢;replace hwf : x.wf := by rw [hx]; exact hwf
 generalize xE c = E0 at HX hxok ⊢
 have HPB : Shh (E0 = 0 -> ∀ W, Calls Tryz.prog 104 #[x.v] W (OldIs (.int .i64 ((4 + 2 * x.n.toNat : Nat) : Int)) W)) := ⟨fun h W => by
  have hb : ∀ W, Calls Tryz.prog 102 #[x.v] W (OldIs (.bool x.ok) W) := fun W => isXmss11 x hwf W
  rw [hxok h] at hb;have h2 := pXmssPub_of x.c x.s x.n x.h x.l true hb W;rw [xmsPb_ok (hxok h)] at h2
  exact h2⟩
 have HP : Shh (¬ pub.length < 4 /\ True) := ⟨h4, trivial⟩;obtain ⟨pl, hpl⟩ : ∃ pl, pl = 4 + 2 * x.n.toNat := ⟨_, rfl⟩;rw [<- hpl] at HPB ⊢;clear runH sH hcc hhd hx hc32 hd4 hpl hxok hwf;have hc4 : ¬ (pub.length : Int) < 4 := by omega
 clear h4;obtain ⟨W, hW⟩ : ∃ W, W = w.alloc (.cells #[.int .u32 0, .bool false, .int .i64 0, .int .i64 0, .int .i64 0] 27) := ⟨_, rfl⟩;have HW : Shh (Row W w.heap.size 27 [.int .u32 0, .bool false, .int .i64 0, .int .i64 0, .int .i64 0] /\ Sl W W.heap.size (.slice Ah hd.length ch) hd /\ Below w.heap.size w W) := by
  rw [hW];exact ⟨Row.new_ rfl rfl, HH.out.go (below1 _ _), below1 _ _⟩
 clear hp HH;have HXE : Shh (∀ ok : Bool, (ok = true ↔ (E0 = 0 /\ pub.length = pl)) -> ∃ (X : S5) (ok2 : Bool), x.v = X.v /\ ok = ok2 /\ (ok2 = true ↔ (¬ pub.length < 4 /\ E0 = 0 /\ pub.length = pl)) /\ (ok2 = true -> X = x)) := ⟨fun ok h => ⟨x, ok, rfl, rfl, by rw [h]; exact ⟨fun h2 => ⟨HP.out.1, h2⟩, fun h2 => h2.2⟩, fun _ => rfl⟩⟩;unfold S5.v at HX HPB HXE;generalize x.c = xc at HX HPB HXE;generalize x.s = xs at HX HPB HXE;generalize x.n = xn at HX HPB HXE;generalize x.h = xh at HX HPB HXE;generalize x.l = xl at HX HPB HXE;obtain ⟨POST, hPOST⟩ : ∃ POST : Ending -> World -> Prop, POST = fun e w' => ∃ (X : S5) (ok : Bool), e = .returned (.tuple #[X.v, .bool ok]) /\ Below w.heap.size w w' /\ (ok = true ↔ (¬ pub.length < 4 /\ E0 = 0 /\ pub.length = pl)) /\ (ok = true -> X = x) := ⟨_, rfl⟩
 have HPO : Shh (∀ (ok : Bool) W, (ok = true ↔ (E0 = 0 /\ pub.length = pl)) -> Below w.heap.size w W -> POST (.returned (.tuple #[.agg #[.int .u32 xc, .bool xs, .int .i64 xn, .int .i64 xh, .int .i64 xl], .bool ok])) W) := ⟨fun ok W h b => by
  rw [hPOST];obtain ⟨X, ok2, h1, h2, h3, h4⟩ := HXE.out ok h
  exact ⟨X, ok2, by rw [h1, h2]; rfl, b, h3, h4⟩⟩
 suffices HC : Calls Tryz.prog 71 #[.slice Ap pub.length cp] w POST by rw [hPOST] at HC; exact HC
 clear hPOST HXE HP;go_enter Tryz.func71, Tryz.ntmps71
 go_wp2_with (go_at_call 68; rw [<- hW]; refine (HN.out _ HW.out.2.1).mono ?_)
 unfold OldIs;rintro e w2 ⟨rfl, b2⟩
 try rw [<- hW] at b2
 have H2 : Shh (Row w2 w.heap.size 27 [.int .u32 0, .bool false, .int .i64 0, .int .i64 0, .int .i64 0] /\ Below w.heap.size w w2) := ⟨HW.out.1.go b2, Below.chain HW.out.2.2 b2⟩;clear HN HW hW b2 runH'
 go_wp2_with (go_at_call 101; refine (HX.out _).mono ?_)
 unfold OldIs;rintro e w3 ⟨rfl, b3⟩;obtain ⟨M, hM⟩ : ∃ M, Shh (M = w3.heap.size) := ⟨_, ⟨rfl⟩⟩
 go_wp2_with (refine wpList_store_any rfl 27 (.tmp 4) (.tmp 15) rfl M (by rw [hM.out]; rfl) [.int .u32 xc, .bool xs, .int .i64 xn, .int .i64 xh, .int .i64 xl] rfl 27 [.int .u32 0, .bool false, .int .i64 0, .int .i64 0, .int .i64 0] (Row.new_ hM.out rfl) info_xms rfl oneCell5 ?_)
 intro Z hr bt hsz;have H3 : Shh (Row Z w.heap.size 27 [.int .u32 0, .bool false, .int .i64 0, .int .i64 0, .int .i64 0] /\ Row Z M 27 [.int .u32 xc, .bool xs, .int .i64 xn, .int .i64 xh, .int .i64 xl] /\ Below w.heap.size w Z /\ w.heap.size < M) := by
  have hm := hM.out;have bb : Below w3.heap.size w3 Z := (below1 _ _).trans (bt.under (by first | omega | (rw [asz]; omega)) (by omega));exact ⟨H2.out.1.go (Below.chain b3 bb), hr, Below.chain H2.out.2 (Below.chain b3 bb), by have := H2.out.1.lt; have := b3.size; omega⟩
 rw [<- hM.out];clear hr bt hsz b3 H2 hM HX;go_wp2
 by_cases her : E0 = 0
 ·subst her;obtain ⟨r, hr2⟩ : ∃ r : Bool, r = decide (pub.length = pl) := ⟨_, rfl⟩;have HR2 := Shh.mk hr2;clear hr2;refine wp_region_held_drew (S := fun w' => Row w' M 27 [.int .u32 xc, .bool xs, .int .i64 xn, .int .i64 xh, .int .i64 xl]) (by kernel_rfl) H3.out.2.1.drew (fun hS => ?_);clear hS;obtain ⟨V, hV⟩ : ∃ V, V = World.drew Z := ⟨_, rfl⟩;rw [<- hV];have bV : Below Z.heap.size Z V := by rw [hV]; exact (Below.refl _ _).drew
  have rA : Row V w.heap.size 27 [.int .u32 0, .bool false, .int .i64 0, .int .i64 0, .int .i64 0] := H3.out.1.go bV;have rM : Row V M 27 [.int .u32 xc, .bool xs, .int .i64 xn, .int .i64 xh, .int .i64 xl] := H3.out.2.1.go bV;have HBV : Shh (Below w.heap.size w V /\ w.heap.size < M) := ⟨Below.chain H3.out.2.2.1 bV, H3.out.2.2.2⟩;clear hV H3 bV;refine hdv0 1 18 (.int .i64 0) (by rfl) (rM) ?_;refine hdv0 2 19 (.bool true) (by rfl) (rM) ?_;refine hdv0 3 20 (.bool true) (by rfl) (rM) ?_;refine hdv0 4 21 (.slice Ap pub.length cp) (by rfl) (rM) ?_;refine hdv0 5 22 (.int .i64 (pub.length : Int)) (by rfl) (rM) ?_;refine held_load 0 27 (.tmp 4) (some 17) (by kernel_rfl) (by rfl) (by kernel_rfl) M 0 (by kernel_rfl) ([.int .u32 xc, .bool xs, .int .i64 xn, .int .i64 xh, .int .i64 xl]) _ (fun w h => h.range) Tryz.underlying27 rfl (info_xms) (fun _ _ _ _ h => h) (rM) ?_;simp only [Act.put, arr9, hd9, tl9];refine held_load 6 27 (.tmp 4) (some 23) (by kernel_rfl) (by rfl) (by kernel_rfl) M 0 (by kernel_rfl) ([.int .u32 xc, .bool xs, .int .i64 xn, .int .i64 xh, .int .i64 xl]) _ (fun w h => h.range) Tryz.underlying27 rfl (info_xms) (fun _ _ _ _ h => h) (rM) ?_;simp only [Act.put, arr9, hd9, tl9];refine held_one 7 (by kernel_rfl) ?_;refine step_call 7 _ _ (some 24) 104 #[.agg ([.int .u32 xc, .bool xs, .int .i64 xn, .int .i64 xh, .int .i64 xl]).toArray] (by rfl) (by kernel_rfl) (by first | kernel_rfl | go_simp) ?_;refine (HPB.out rfl V).mono ?_;unfold OldIs; rintro e Y1 ⟨rfl, b7⟩;have bx : Below V.heap.size V Y1 := b7;clear b7;have b_V := bx;have m_Y1 : V.heap.size <= Y1.heap.size := bx.size;clear bx;refine ⟨_, rfl, (rM.go b_V), ?_⟩;simp only [Act.put, arr9, hd9, tl9];refine hdv 8 25 (.bool r) (by rfl) (fun w hS => eql_dec HR2.out rfl (by kernel_rfl) (by kernel_rfl)) ((rM.go b_V)) ?_;refine hdv0 9 26 (.bool r) (by rfl) ((rM.go b_V)) ?_;refine held_one 10 (by kernel_rfl) ?_;refine step_storeRow 10 27 (.tmp 2) (.tmp 17) (by rfl) (by kernel_rfl) (w.heap.size) rfl ([.int .u32 xc, .bool xs, .int .i64 xn, .int .i64 xh, .int .i64 xl]) rfl 27 ([.int .u32 0, .bool false, .int .i64 0, .int .i64 0, .int .i64 0]) (rA.go b_V) (info_xms) (rfl) oneCell5 ?_;intro Y2 rA2 bt zt;have rM2 : Row Y2 M 27 [.int .u32 xc, .bool xs, .int .i64 xn, .int .i64 xh, .int .i64 xl] := bt.row (rM.go b_V) (rM.go b_V).lt (Nat.ne_of_gt HBV.out.2);have bY : Below w.heap.size w Y2 := (Below.chain HBV.out.1 b_V).trans (bt.under (Below.chain HBV.out.1 b_V).size (Nat.le_refl _));replace rM := rM2;refine ⟨rM2, ?_⟩;refine hdv0 11 3 (.bool r) (by rfl) (rM) ?_;refine wpAnyH_done (by kernel_rfl) ?_ _;have HR : Shh (Row Y2 w.heap.size 27 [.int .u32 xc, .bool xs, .int .i64 xn, .int .i64 xh, .int .i64 xl] /\ Below w.heap.size w Y2) := ⟨rA2, bY⟩;clear bY rM rA rA2 bt zt HBV b_V m_Y1;go_wp2;exact ret_rs Tryz.results71 rfl rfl rfl HR.out.1 Tryz.underlying27 rfl info_xms (HPO.out r _ (by rw [HR2.out, decide_eq_true_iff]; exact ⟨fun h => ⟨by trivial, h⟩, fun h => h.2⟩) HR.out.2)
 ·have HNE := Shh.mk her;have hne : (E0 == 0) = false := by simp [her]
  refine wp_region_held_drew (S := fun w' => Row w' M 27 [.int .u32 xc, .bool xs, .int .i64 xn, .int .i64 xh, .int .i64 xl]) (by kernel_rfl) H3.out.2.1.drew (fun hS => ?_);clear hS;obtain ⟨V, hV⟩ : ∃ V, V = World.drew Z := ⟨_, rfl⟩;rw [<- hV];have bV : Below Z.heap.size Z V := by rw [hV]; exact (Below.refl _ _).drew
  have rA : Row V w.heap.size 27 [.int .u32 0, .bool false, .int .i64 0, .int .i64 0, .int .i64 0] := H3.out.1.go bV;have rM : Row V M 27 [.int .u32 xc, .bool xs, .int .i64 xn, .int .i64 xh, .int .i64 xl] := H3.out.2.1.go bV;have HBV : Shh (Below w.heap.size w V /\ w.heap.size < M) := ⟨Below.chain H3.out.2.2.1 bV, H3.out.2.2.2⟩;clear hV H3 bV;refine hdv0 1 18 (.int .i64 E0) (by rfl) (rM) ?_;refine hdv 2 19 (.bool false) (by rfl) (fun w hS => by first | go_simp | kernel_rfl) (rM) ?_;refine hdv0 3 20 (.bool false) (by rfl) (rM) ?_;refine held_skip 4 (some 21) (by kernel_rfl) (by rfl) (by kernel_rfl) (fun _ _ _ h => h) (rM) ?_;simp only [Act.put, arr9, hd9, tl9];refine held_skip 5 (some 22) (by kernel_rfl) (by rfl) (by kernel_rfl) (fun _ _ _ h => h) (rM) ?_;simp only [Act.put, arr9, hd9, tl9];refine held_skip 6 (some 23) (by kernel_rfl) (by rfl) (by kernel_rfl) (fun _ _ _ h => h) (rM) ?_;simp only [Act.put, arr9, hd9, tl9];refine held_skip 7 (some 24) (by kernel_rfl) (by rfl) (by kernel_rfl) (fun _ _ _ h => h) (rM) ?_;simp only [Act.put, arr9, hd9, tl9];refine held_skip 8 (some 25) (by kernel_rfl) (by rfl) (by kernel_rfl) (fun _ _ _ h => h) (rM) ?_;simp only [Act.put, arr9, hd9, tl9];refine hdv0 9 26 (.bool false) (by rfl) (rM) ?_;refine held_load 0 27 (.tmp 4) (some 17) (by kernel_rfl) (by rfl) (by kernel_rfl) M 0 (by kernel_rfl) ([.int .u32 xc, .bool xs, .int .i64 xn, .int .i64 xh, .int .i64 xl]) _ (fun w h => h.range) Tryz.underlying27 rfl (info_xms) (fun _ _ _ _ h => h) (rM) ?_;simp only [Act.put, arr9, hd9, tl9];refine held_one 10 (by kernel_rfl) ?_;refine step_storeRow 10 27 (.tmp 2) (.tmp 17) (by rfl) (by kernel_rfl) (w.heap.size) rfl ([.int .u32 xc, .bool xs, .int .i64 xn, .int .i64 xh, .int .i64 xl]) rfl 27 ([.int .u32 0, .bool false, .int .i64 0, .int .i64 0, .int .i64 0]) rA (info_xms) (rfl) oneCell5 ?_;intro Y1 rA2 bt zt;have rM2 : Row Y1 M 27 [.int .u32 xc, .bool xs, .int .i64 xn, .int .i64 xh, .int .i64 xl] := bt.row (rM) (rM).lt (Nat.ne_of_gt HBV.out.2);have bY : Below w.heap.size w Y1 := (Below.chain HBV.out.1 (Below.refl _ _)).trans (bt.under HBV.out.1.size (Nat.le_refl _));replace rM := rM2;refine ⟨rM2, ?_⟩;refine hdv0 11 3 (.bool false) (by rfl) (rM) ?_;refine wpAnyH_done (by kernel_rfl) ?_ _;have HR : Shh (Row Y1 w.heap.size 27 [.int .u32 xc, .bool xs, .int .i64 xn, .int .i64 xh, .int .i64 xl] /\ Below w.heap.size w Y1) := ⟨rA2, bY⟩;clear bY rM rA rA2 bt zt HBV;go_wp2;exact ret_rs Tryz.results71 rfl rfl rfl HR.out.1 Tryz.underlying27 rfl info_xms (HPO.out false _ ⟨fun h => (by cases h), fun h => absurd h.1 HNE.out⟩ HR.out.2)
def CutIs (w : World) (p q : List UInt8) (e : Ending) (w' : World) : Prop := ∃ v1 v2, e = .returned (.tuple #[v1, v2]) /\ Sl w' w'.heap.size v1 p /\ Sl w' w'.heap.size v2 q /\ Below w.heap.size w w'
theorem cut_any (v : Value) (b : List UInt8) (n : Nat) (hn : n <= b.length) (w : World) (hs : Sl w w.heap.size v b) : Calls Tryz.prog 72 #[v, .int .i64 (n : Int)] w (CutIs w (b.take n) (b.drop n)) := by
 unfold CutIs;obtain ⟨A, c, rfl, hc, _⟩ := hs.form;obtain ⟨A1, c1, run1, s1⟩ := slice_to10 hs n hn hc;obtain ⟨A2, c2, run2, s2⟩ := slice_from11 hs n hn hc;have HS := Shh.mk (And.intro s1 s2);generalize b.take n = p at *;generalize b.drop n = q at *;clear hs hn hc s1 s2;go_enter Tryz.func72, Tryz.ntmps72
 go_wp2_with fail
 refine wp_region_held_drew (S := fun _ => True) (by kernel_rfl) trivial (fun hS => ?_);clear hS;obtain ⟨V, hV⟩ : ∃ V, V = World.drew w := ⟨_, rfl⟩;rw [<- hV];have HBV : Shh (Below w.heap.size w V) := ⟨by rw [hV]; exact (Below.refl _ _).drew⟩;clear hV;refine hdv0 0 6 (.slice A b.length c) (by rfl) (trivial) ?_;refine hdv0 1 7 (.int .i64 (n : Int)) (by rfl) (trivial) ?_;refine hdv 2 8 (.slice A1 p.length c1) (by rfl) (fun w hS => run_slice_op ⟨rfl, rfl⟩ (run1 w)) (trivial) ?_;refine hdv0 3 9 (.slice A b.length c) (by rfl) (trivial) ?_;refine hdv0 4 10 (.int .i64 (n : Int)) (by rfl) (trivial) ?_;refine hdv 5 11 (.slice A2 q.length c2) (by rfl) (fun w hS => run_slice_op_lo ⟨rfl, rfl⟩ (run2 w)) (trivial) ?_;refine hdv0 6 4 (.slice A1 p.length c1) (by rfl) (trivial) ?_;refine hdv0 7 5 (.slice A2 q.length c2) (by rfl) (trivial) ?_;refine wpAnyH_done (by kernel_rfl) ?_ _;have HR : Shh (Sl V V.heap.size (.slice A1 p.length c1) p /\ Sl V V.heap.size (.slice A2 q.length c2) q /\ Below w.heap.size w V) := ⟨HS.out.1.go HBV.out, HS.out.2.go HBV.out, HBV.out⟩;clear HS HBV run1 run2;go_wp2;go_ret2;exact ⟨_, _, rfl, HR.out⟩
def VerP (XV GV MV : Value) (Nn L I : Nat) (msg sig seed root : List UInt8) (bq : Bool) : Prop := ∃ (p4 g1 r g2 ots path m en lf came : List UInt8) (LB : List Value), (∀ W, Sl W W.heap.size GV sig -> Calls Tryz.prog 72 #[GV, .int .i64 4] W (CutIs W p4 g1)) /\ (∀ v W, Sl W W.heap.size v g1 -> Calls Tryz.prog 72 #[v, .int .i64 (Nn : Int)] W (CutIs W r g2)) /\ (∀ v W, Sl W W.heap.size v g2 -> Calls Tryz.prog 72 #[v, .int .i64 ((L * Nn : Nat) : Int)] W (CutIs W ots path)) /\ (∀ vr vt W, Tabs W -> Sl W W.heap.size vr r -> Sl W W.heap.size vt root -> Sl W W.heap.size MV msg -> Calls Tryz.prog 61 #[XV, vr, vt, .int .u32 (I : Int), MV] W (SlIs W m)) /\ (∀ W, Calls Tryz.prog 62 #[.int .u32 (I : Int)] W (OldIs (.agg LB.toArray) W)) /\ (∀ vs vm vo W, Tabs W -> Sl W W.heap.size vs seed -> Sl W W.heap.size vm m -> Sl W W.heap.size vo ots -> Calls Tryz.prog 73 #[XV, vs, vm, vo, .agg LB.toArray] W (ResIs W 0 en)) /\ (∀ vs ve W, Tabs W -> Sl W W.heap.size vs seed -> Sl W W.heap.size ve en -> Calls Tryz.prog 75 #[XV, vs, ve, .int .u32 (I : Int)] W (NewSl W lf)) /\ (∀ vs vl vp W, Tabs W -> Sl W W.heap.size vs seed -> Sl W W.heap.size vl lf -> Sl W W.heap.size vp path -> Calls Tryz.prog 57 #[XV, vs, .int .u32 (I : Int), vl, vp] W (SlIs W came)) /\ (∀ va vb W, Sl W W.heap.size va came -> Sl W W.heap.size vb root -> Calls Tryz.prog 74 #[va, vb] W (OldIs (.bool bq) W))
set_option maxHeartbeats 4000000 in
theorem Verify_any (vp vm vg : Value) (pub msg sig : List UInt8) (hml : msg.length <= 3000) (w : World) (hp : Sl w w.heap.size vp pub) (hm : Sl w w.heap.size vm msg) (hg : Sl w w.heap.size vg sig) (ht : Tabs w) : Calls Tryz.prog 30 #[vp, vm, vg] w (OldIs (.int .i64 (verE pub msg sig)) w) := by
 unfold OldIs;have hset := setOf_any vp pub w hp;unfold SetIs at hset;obtain ⟨Ap, cp, rfl, _, _⟩ := hp.form;obtain ⟨Am, cm, rfl, _, _⟩ := hm.form;obtain ⟨Ag, cg, rfl, _, _⟩ := hg.form;obtain ⟨x, hx⟩ : ∃ x, x = xS (bigN (pub.take 4)) := ⟨_, rfl⟩;rw [<- hx] at hset
 by_cases hc : ¬ pub.length < 4 /\ xE (bigN (pub.take 4)) = 0 /\ pub.length = 4 + 2 * x.n.toNat
 ·have hok : x.ok = true := by rw [hx]; exact xS_ok hc.2.1
  have hwf : x.wf := by
   rw [hx];refine xms_wf _ ?_;have hb := bigN_lt (pub.take 4);have hl : (pub.take 4).length <= 4 := by rw [List.length_take]; omega
   have h256 : 256 ^ (pub.take 4).length <= 256 ^ 4 := Nat.pow_le_pow_right (by decide) hl;have e256 : 256 ^ 4 = 4294967296 := by decide
   omega
  have hSET : Calls Tryz.prog 71 #[.slice Ap pub.length cp] w (OldIs (.tuple #[x.v, .bool true]) w) := hset.mono fun e w' h => by
   obtain ⟨X, ok, h1, h2, h3, h4⟩ := h;have h5 := h3.2 hc;rw [h1, h5, h4 h5];exact ⟨rfl, h2⟩
  have hIX : ∀ W, Sl W W.heap.size (.slice Ag sig.length cg) sig -> Calls Tryz.prog 28 #[x.v, .slice Ag sig.length cg] W (OldIs (.tuple #[.int .u32 (ixN x sig : Int), .int .i64 (ixE x sig)]) W) := fun W h => Index11_any x hwf _ sig W h
  have hn := S5.ok_is hok;obtain ⟨H, hxh, h20⟩ := ok_h hok;obtain ⟨Nn, hNn⟩ : ∃ Nn : Nat, x.n = (Nn : Int) := ⟨x.n.toNat, by omega⟩;obtain ⟨L, hL⟩ : ∃ L : Nat, x.l = (L : Int) := ⟨x.l.toNat, by omega⟩;have hNt : x.n.toNat = Nn := by omega
  have hLt : x.l.toNat = L := by omega
  have hHt : x.h.toNat = H := by omega
  have hLN : 0 < L /\ L <= 67 /\ Nn <= 32 := by omega
  have hpl : pub.length = 4 + 2 * Nn := by rw [<- hNt]; exact hc.2.2
  have hE : verE pub msg sig = if ixE x sig ≠ 0 then 70 else if cameP x pub msg sig == rootP x pub then 0 else 70 := by
   unfold verE;rw [<- hx, if_neg hc.1, if_neg (fun h => h hc.2.1), if_neg (fun h => h hc.2.2)]
  have hix := ix_cases x sig;obtain ⟨I, hI⟩ : ∃ I, I = ixN x sig := ⟨_, rfl⟩;obtain ⟨IE, hIE⟩ : ∃ IE, IE = ixE x sig := ⟨_, rfl⟩;rw [<- hI, <- hIE] at hIX;rw [hok, <- hI, <- hIE] at hix;rw [<- hIE] at hE;obtain ⟨root, hroot⟩ : ∃ root, root = rootP x pub := ⟨_, rfl⟩;obtain ⟨seed, hseed⟩ : ∃ seed, seed = pub.drop (4 + Nn) := ⟨_, rfl⟩;obtain ⟨rest, hrest⟩ : ∃ rest, rest = pub.drop 4 := ⟨_, rfl⟩;have hroot2 : root = rest.take Nn := by rw [hroot, hrest]; unfold rootP; rw [hNt, List.drop_take]; congr 1; omega
  have hseed2 : seed = rest.drop Nn := by rw [hseed, hrest, List.drop_drop]
  have hrl : root.length = Nn := by rw [hroot2, hrest, List.length_take, List.length_drop]; omega
  have hsl : seed.length = Nn := by rw [hseed, List.length_drop]; omega
  obtain ⟨came, hcame⟩ : ∃ came, came = cameP x pub msg sig := ⟨_, rfl⟩;rw [<- hroot, <- hcame] at hE;obtain ⟨E, hEE⟩ : ∃ E, E = verE pub msg sig := ⟨_, rfl⟩;rw [<- hEE] at hE ⊢;have HC1 : Shh (Calls Tryz.prog 71 #[.slice Ap pub.length cp] w (OldIs (.tuple #[x.v, .bool true]) w)) := ⟨hSET⟩;have HC2 : Shh (∀ W, Sl W W.heap.size (.slice Ap pub.length cp) pub -> Calls Tryz.prog 72 #[.slice Ap pub.length cp, .int .i64 4] W (CutIs W (pub.take 4) rest)) := ⟨fun W h => by rw [hrest]; exact cut_any _ pub 4 (by omega) W h⟩;have HC3 : Shh (∀ v W, Sl W W.heap.size v rest -> Calls Tryz.prog 72 #[v, .int .i64 (Nn : Int)] W (CutIs W root seed)) := ⟨fun v W h => by rw [hroot2, hseed2]; exact cut_any _ rest Nn (by rw [hrest, List.length_drop]; omega) W h⟩;have HC4 := Shh.mk hIX;obtain ⟨p4, hp4⟩ : ∃ p4, p4 = pub.take 4 := ⟨_, rfl⟩;rw [<- hp4] at HC2;obtain ⟨bq, hbq⟩ : ∃ bq, bq = (came == root) := ⟨_, rfl⟩;rw [<- hbq] at hE
  have HSG : Shh (IE = 0 -> VerP x.v (.slice Ag sig.length cg) (.slice Am msg.length cm) Nn L I msg sig seed root bq) := ⟨fun h0 => by
   have hix2 : sig.length = lenX x /\ bigN (sig.take 4) < 2 ^ x.h.toNat /\ I = bigN (sig.take 4) := by
    rcases hix with h | h | h | h
    ·exact absurd h.1 (by decide)
    ·exact absurd h.2.2.1 (by omega)
    ·exact absurd h.2.2.2.1 (by omega)
    ·exact ⟨h.2.1, h.2.2.1, h.2.2.2.2⟩
   have hI32 : I < 4294967296 := by
    have h1 := hix2.2.1;rw [hHt] at h1;have h2 : 2 ^ H <= 2 ^ 20 := Nat.pow_le_pow_right (by decide) h20;have h3 : 2 ^ 20 < 4294967296 := by decide
    omega
   have hlx := hix2.1;unfold lenX at hlx;rw [hNt, hLt, hHt, Nat.add_mul] at hlx;have hgn : (sig.drop 4).length = Nn + (L * Nn + H * Nn) := by rw [List.length_drop]; omega
   have hg2n : ((sig.drop 4).drop Nn).length = L * Nn + H * Nn := by rw [List.length_drop]; omega
   have hotl : (((sig.drop 4).drop Nn).take (L * Nn)).length = L * Nn := by rw [List.length_take]; omega
   have hpal : (((sig.drop 4).drop Nn).drop (L * Nn)).length = H * Nn := by rw [List.length_drop]; omega
   have hrrl : ((sig.drop 4).take Nn).length = Nn := by rw [List.length_take]; omega
   obtain ⟨r, hr⟩ : ∃ r, r = (sig.drop 4).take Nn := ⟨_, rfl⟩;obtain ⟨ots, hots⟩ : ∃ ots, ots = ((sig.drop 4).drop Nn).take (L * Nn) := ⟨_, rfl⟩;obtain ⟨path, hpath⟩ : ∃ path, path = ((sig.drop 4).drop Nn).drop (L * Nn) := ⟨_, rfl⟩;rw [<- hr] at hrrl;rw [<- hots] at hotl;rw [<- hpath] at hpal;obtain ⟨m, hmm⟩ : ∃ m, m = sumdB x.s x.n r root I msg := ⟨_, rfl⟩;have hmlen : m.length = Nn := by rw [hmm]; unfold sumdB; rw [keyd_length _ _ _ _ _ (by omega)]; exact hNt
   have hbad : badE x [seed, m] = 0 := by
    unfold badE;rw [hok];simp [hsl, hmlen, hNn]
   have hfs : fsE x seed m ots = 0 := by
    unfold fsE;rw [if_pos hbad, if_pos (by rw [hotl, hL, hNn, Int.natCast_mul])]
   have hen : ∃ en, en = onB x.s x.n seed (adr11 0 I 0 0) (fun j => (dig10 m).getD j 0) ots L := ⟨_, rfl⟩;obtain ⟨en, hen⟩ := hen;have henl : en.length = L * Nn := by rw [hen, onB_len hok _ _ _ _ L L (by rw [hNt]; exact hotl) (Nat.le_refl _), hNt, Nat.mul_comm]
   have hltl : (ltreeB x.s x.n L seed en I).length = x.n.toNat := ltreeB_length hok _ _ _ _ hLN.1 (by rw [hNt]; exact henl);have hce : came = upB x.s x.n seed path I (ltreeB x.s x.n L seed en I) H := by
    rw [hcame, hen, hmm];unfold cameP cameB;rw [hNt, hLt, hHt, <- hroot, <- hI, <- hseed];have e1 : (sig.take (4 + Nn)).drop 4 = r := by rw [hr, List.drop_take]; congr 1; omega
    have e2 : (sig.take (4 + Nn + L * Nn)).drop (4 + Nn) = ots := by rw [hots, List.drop_take, List.drop_drop]; congr 1; omega
    have e3 : sig.drop (4 + Nn + L * Nn) = path := by rw [hpath, List.drop_drop, List.drop_drop, Nat.add_assoc]
    rw [e1, e2, e3]
   refine ⟨sig.take 4, sig.drop 4, r, (sig.drop 4).drop Nn, ots, path, m, en, ltreeB x.s x.n L seed en I, came, wordCells (adr11 0 I 0 0), ?_, ?_, ?_, ?_, ?_, ?_, ?_, ?_, ?_⟩
   ·exact fun W h => cut_any _ sig 4 (by omega) W h
   ·exact fun v W h => by rw [hr]; exact cut_any _ _ Nn (by omega) W h
   ·exact fun v W h => by rw [hots, hpath]; exact cut_any _ _ (L * Nn) (by omega) W h
   ·exact fun vr vt W h1 h2 h3 h4 => by rw [hmm]; exact messageHash_any x hwf hok _ _ _ r root msg I hI32 W h2 h3 h4 (by omega) (by omega) (by omega) h1
   ·exact fun W => otsAdrs_any I hI32 W
   ·exact fun vs vm vo W h1 h2 h3 h4 => by
     have h5 := FromSig_any x hwf vs vm vo seed m ots (adr11 0 I 0 0) rfl W h2 h3 h4 h1;have e : fsB x seed m ots (adr11 0 I 0 0) = en := by unfold fsB; rw [if_pos hfs, hLt, hen]
     rw [hfs, e] at h5;exact h5
   ·exact fun vs ve W h1 h2 h3 => ltree_any x hwf hok vs ve seed en I hI32 L Nn hL hNn henl (by omega) W h2 h3 h1
   ·exact fun vs vl vp W h1 h2 h3 h4 => by
     rw [hce];exact climb_any x hwf hok vs vl vp seed _ path I H hxh h20 hI32 W h2 h3 h4 (by omega) hltl (by rw [hNt]; exact hpal) h1
   ·exact fun va vb W h1 h2 => (same_any W.heap.size W.heap.size va vb came root W h1 h2 (by rw [hce, upB_length hok _ _ _ _ hltl]; omega) (by omega)).mono fun e w' h => ⟨by rw [h.1, hbq], by rw [<- h.2]; exact Below.refl _ _⟩⟩
  have hIE2 : IE = 0 ∨ IE = 70 := by
   rcases hix with h | h | h | h
   ·exact absurd h.1 (by decide)
   ·exact .inr h.2.2.1
   ·exact .inr h.2.2.2.1
   ·exact .inl h.2.2.2.1
  have HE := Shh.mk (And.intro hE hIE2);have H0 : Shh (Sl w w.heap.size (.slice Ap pub.length cp) pub /\ Sl w w.heap.size (.slice Am msg.length cm) msg /\ Sl w w.heap.size (.slice Ag sig.length cg) sig /\ Tabs w) := ⟨hp, hm, hg, ht⟩;clear hSET hIX hset hp hm hg ht hE hIE2 hix hml hEE hbq hcame hseed hroot hroot2 hseed2 hrest hp4 hI hIE hpl hrl hsl hc hx hok hwf hLt hHt hNt h20 hn;unfold S5.v at HC1 HC4 HSG;rw [hNn, hxh, hL] at HC1 HC4 HSG;clear hNn hxh hL;generalize x.c = xc at HC1 HC4 HSG;generalize x.s = xs at HC1 HC4 HSG;go_enter Tryz.func30, Tryz.ntmps30
  go_wp2_with fail
  go_at_call 71
  refine (HC1.out).mono ?_;unfold OldIs;rintro e w2 ⟨rfl, b2⟩;obtain ⟨M, hM⟩ : ∃ M, Shh (M = w2.heap.size) := ⟨_, ⟨rfl⟩⟩
  go_wp2_with (refine wpList_store_any rfl 27 (.tmp 7) (.tmp 22) rfl M (by rw [hM.out]; rfl) [.int .u32 xc, .bool xs, .int .i64 (Nn : Int), .int .i64 (H : Int), .int .i64 (L : Int)] rfl 27 [.int .u32 0, .bool false, .int .i64 0, .int .i64 0, .int .i64 0] (Row.new_ hM.out rfl) info_xms rfl oneCell5 ?_)
  intro Z hr bt hsz;have bz : Below w.heap.size w Z := Below.chain b2 ((below1 _ _).trans (bt.under (by first | omega | (rw [asz]; omega)) (by have := hM.out; omega)));have rX : Shh (Row Z M 27 [.int .u32 xc, .bool xs, .int .i64 (Nn : Int), .int .i64 (H : Int), .int .i64 (L : Int)]) := ⟨hr⟩;have sP := Shh.mk (H0.out.1.go bz);have sM := Shh.mk (H0.out.2.1.go bz);have sG := Shh.mk (H0.out.2.2.1.go bz);have rT := Shh.mk (H0.out.2.2.2.go bz);have HB := Shh.mk bz;rw [<- hM.out];clear hr bt hsz b2 bz hM H0 HC1
  go_wp2_with (first | (go_at_call 72; refine (HC2.out _ sP.out).mono ?_))
  unfold CutIs;rintro e w3 ⟨v1, v2, rfl, s1, s2, b3⟩;have s4 := Shh.mk s1;have sRe := Shh.mk s2;obtain ⟨As4, cs4, rfl, _, _⟩ := s1.form;obtain ⟨AsRe, csRe, rfl, _, _⟩ := s2.form;replace rX := Shh.mk (rX.out.go b3);replace sP := Shh.mk (sP.out.go b3);replace sM := Shh.mk (sM.out.go b3);replace sG := Shh.mk (sG.out.go b3);replace rT := Shh.mk (rT.out.go b3);replace HB := Shh.mk (Below.chain HB.out b3);clear s1 s2 b3;have e2 := rX.out.cell 2;simp only [List.getElem?_cons_succ, List.getElem?_cons_zero] at e2
  go_wp2_with (first | (go_at_call 72; refine (HC3.out _ _ sRe.out).mono ?_))
  unfold CutIs;rintro e w4 ⟨v1, v2, rfl, s1, s2, b4⟩;have sR := Shh.mk s1;have sS := Shh.mk s2;obtain ⟨AsR, csR, rfl, _, _⟩ := s1.form;obtain ⟨AsS, csS, rfl, _, _⟩ := s2.form;replace rX := Shh.mk (rX.out.go b4);replace sM := Shh.mk (sM.out.go b4);replace sG := Shh.mk (sG.out.go b4);replace rT := Shh.mk (rT.out.go b4);replace HB := Shh.mk (Below.chain HB.out b4);clear s1 s2 b4;clear e2 sP s4 sRe HC2 HC3
  go_wp2_with (first | refine wpList_load_any rfl 27 (.tmp 7) rfl M rfl 27 [.int .u32 xc, .bool xs, .int .i64 (Nn : Int), .int .i64 (H : Int), .int .i64 (L : Int)] _ rX.out Tryz.underlying27 rfl info_xms ?_ | (go_at_call 28; refine (HC4.out _ sG.out).mono ?_))
  unfold OldIs;rintro e w5 ⟨rfl, b5⟩;replace rX := Shh.mk (rX.out.go b5);replace sM := Shh.mk (sM.out.go b5);replace sG := Shh.mk (sG.out.go b5);replace rT := Shh.mk (rT.out.go b5);replace sR := Shh.mk (sR.out.go b5);replace sS := Shh.mk (sS.out.go b5);replace HB := Shh.mk (Below.chain HB.out b5);clear b5 HC4
  by_cases h0 : IE = 0
  ·obtain ⟨p4', g1, r, g2, ots, path, m, en, lf, came, LB, HS1, HS2, HS3, HS4, HS5, HS6, HS7, HS8, HS9⟩ := HSG.out h0;have HEQ : Shh (E = if bq = true then 0 else 70) := ⟨by rw [HE.out.1, if_neg (fun h => h h0)]⟩;replace HS1 := Shh.mk HS1;replace HS2 := Shh.mk HS2;replace HS3 := Shh.mk HS3;replace HS4 := Shh.mk HS4;replace HS5 := Shh.mk HS5;replace HS6 := Shh.mk HS6;replace HS7 := Shh.mk HS7;replace HS8 := Shh.mk HS8;replace HS9 := Shh.mk HS9;have HMU : Shh (L * Nn <= 100000) := ⟨by have h1 := Nat.mul_le_mul hLN.2.1 hLN.2.2; omega⟩;subst h0;clear HE HSG
   go_wp2_with (first | (go_at_call 72; refine (HS1.out _ sG.out).mono ?_))
   unfold CutIs;rintro e w6 ⟨v1, v2, rfl, s1, s2, b6⟩;have s4 := Shh.mk s1;have sG1 := Shh.mk s2;obtain ⟨As4, cs4, rfl, _, _⟩ := s1.form;obtain ⟨AsG1, csG1, rfl, _, _⟩ := s2.form;replace rX := Shh.mk (rX.out.go b6);replace sM := Shh.mk (sM.out.go b6);replace sG := Shh.mk (sG.out.go b6);replace rT := Shh.mk (rT.out.go b6);replace sR := Shh.mk (sR.out.go b6);replace sS := Shh.mk (sS.out.go b6);replace HB := Shh.mk (Below.chain HB.out b6);clear s1 s2 b6;clear s4 sG HS1;have e2 := rX.out.cell 2;simp only [List.getElem?_cons_succ, List.getElem?_cons_zero] at e2
   go_wp2_with (first | (go_at_call 72; refine (HS2.out _ _ sG1.out).mono ?_))
   unfold CutIs;rintro e w7 ⟨v1, v2, rfl, s1, s2, b7⟩;have sr := Shh.mk s1;have sG2 := Shh.mk s2;obtain ⟨Asr, csr, rfl, _, _⟩ := s1.form;obtain ⟨AsG2, csG2, rfl, _, _⟩ := s2.form;replace rX := Shh.mk (rX.out.go b7);replace sM := Shh.mk (sM.out.go b7);replace rT := Shh.mk (rT.out.go b7);replace sR := Shh.mk (sR.out.go b7);replace sS := Shh.mk (sS.out.go b7);replace HB := Shh.mk (Below.chain HB.out b7);clear s1 s2 b7;clear e2 sG1 HS2;have e2 := rX.out.cell 2;simp only [List.getElem?_cons_succ, List.getElem?_cons_zero] at e2;have e4 := rX.out.cell 4;simp only [List.getElem?_cons_succ, List.getElem?_cons_zero] at e4
   go_wp2_with (first | refine wl_value (.int .i64 ((L * Nn : Nat) : Int)) rfl (mul_ii ⟨rfl, HMU.out⟩ rfl rfl rfl) ?_ | (go_at_call 72; refine (HS3.out _ _ sG2.out).mono ?_))
   unfold CutIs;rintro e w8 ⟨v1, v2, rfl, s1, s2, b8⟩;have sO := Shh.mk s1;have sPa := Shh.mk s2;obtain ⟨AsO, csO, rfl, _, _⟩ := s1.form;obtain ⟨AsPa, csPa, rfl, _, _⟩ := s2.form;replace rX := Shh.mk (rX.out.go b8);replace sM := Shh.mk (sM.out.go b8);replace rT := Shh.mk (rT.out.go b8);replace sR := Shh.mk (sR.out.go b8);replace sS := Shh.mk (sS.out.go b8);replace sr := Shh.mk (sr.out.go b8);replace HB := Shh.mk (Below.chain HB.out b8);clear s1 s2 b8;clear e2 e4 sG2 HS3 HMU;go_wp2;refine wp_region_held_drew (S := fun w' => Row w' M 27 [.int .u32 xc, .bool xs, .int .i64 (Nn : Int), .int .i64 (H : Int), .int .i64 (L : Int)]) (by kernel_rfl) rX.out.drew (fun hS => ?_);clear hS;obtain ⟨V, hV⟩ : ∃ V, V = World.drew w8 := ⟨_, rfl⟩;rw [<- hV];have bV : Below w8.heap.size w8 V := by rw [hV]; exact (Below.refl _ _).drew
   have qX : Row V M 27 [.int .u32 xc, .bool xs, .int .i64 (Nn : Int), .int .i64 (H : Int), .int .i64 (L : Int)] := rX.out.go bV;have qM : Sl V V.heap.size (.slice Am msg.length cm) msg := sM.out.go bV;have qT : Tabs V := rT.out.go bV;have qR : Sl V V.heap.size (.slice AsR root.length csR) root := sR.out.go bV;have qS : Sl V V.heap.size (.slice AsS seed.length csS) seed := sS.out.go bV;have qr : Sl V V.heap.size (.slice Asr r.length csr) r := sr.out.go bV;have qO : Sl V V.heap.size (.slice AsO ots.length csO) ots := sO.out.go bV;have qP : Sl V V.heap.size (.slice AsPa path.length csPa) path := sPa.out.go bV;have HBV : Shh (Below w.heap.size w V) := ⟨Below.chain HB.out bV⟩;clear hV bV rX sM rT sR sS sr sO sPa HB;refine hdv0 1 71 (.slice AsS seed.length csS) (by rfl) (qX) ?_;refine hdv0 3 73 (.slice Asr r.length csr) (by rfl) (qX) ?_;refine hdv0 4 74 (.slice AsR root.length csR) (by rfl) (qX) ?_;refine hdv0 5 75 (.int .u32 (I : Int)) (by rfl) (qX) ?_;refine hdv0 6 76 (.slice Am msg.length cm) (by rfl) (qX) ?_;refine hdv0 8 78 (.slice AsO ots.length csO) (by rfl) (qX) ?_;refine hdv0 9 79 (.int .u32 (I : Int)) (by rfl) (qX) ?_;refine held_load 0 27 (.tmp 7) (some 70) (by kernel_rfl) (by rfl) (by kernel_rfl) M 0 (by kernel_rfl) ([.int .u32 xc, .bool xs, .int .i64 (Nn : Int), .int .i64 (H : Int), .int .i64 (L : Int)]) _ (fun w h => h.range) Tryz.underlying27 rfl (info_xms) (fun _ _ _ _ h => h) (qX) ?_;simp only [Act.put, arr9, hd9, tl9];refine held_load 2 27 (.tmp 7) (some 72) (by kernel_rfl) (by rfl) (by kernel_rfl) M 0 (by kernel_rfl) ([.int .u32 xc, .bool xs, .int .i64 (Nn : Int), .int .i64 (H : Int), .int .i64 (L : Int)]) _ (fun w h => h.range) Tryz.underlying27 rfl (info_xms) (fun _ _ _ _ h => h) (qX) ?_;simp only [Act.put, arr9, hd9, tl9];refine held_one 7 (by kernel_rfl) ?_;refine step_call 7 _ _ (some 77) 61 #[.agg ([.int .u32 xc, .bool xs, .int .i64 (Nn : Int), .int .i64 (H : Int), .int .i64 (L : Int)]).toArray, .slice Asr r.length csr, .slice AsR root.length csR, .int .u32 (I : Int), .slice Am msg.length cm] (by rfl) (by kernel_rfl) (by first | kernel_rfl | go_simp) ?_;refine (HS4.out _ _ V (qT) (qr) (qR) (qM)).mono ?_;unfold SlIs; rintro e Y1 ⟨v, rfl, gv, bv⟩;have bx : Below V.heap.size V Y1 := bv;obtain ⟨Amm, cmm, vEq, _, _⟩ := gv.form;subst vEq;have qH := gv;clear gv;have b_V := bx;have m_Y1 : V.heap.size <= Y1.heap.size := bx.size;clear bx;refine ⟨_, rfl, (qX.go b_V), ?_⟩;simp only [Act.put, arr9, hd9, tl9];refine held_one 10 (by kernel_rfl) ?_;refine step_call 10 _ _ (some 80) 62 #[.int .u32 (I : Int)] (by rfl) (by kernel_rfl) (by first | kernel_rfl | go_simp) ?_;refine (HS5.out Y1).mono ?_;unfold OldIs; rintro e Y2 ⟨rfl, b9⟩;have bx : Below Y1.heap.size Y1 Y2 := b9;clear b9;replace b_V := Below.chain b_V bx;have b_Y1 := bx;have m_Y2 : Y1.heap.size <= Y2.heap.size := bx.size;clear bx;refine ⟨_, rfl, (qX.go b_V), ?_⟩;simp only [Act.put, arr9, hd9, tl9];refine held_one 11 (by kernel_rfl) ?_;refine step_call 11 _ _ (some 81) 73 #[.agg ([.int .u32 xc, .bool xs, .int .i64 (Nn : Int), .int .i64 (H : Int), .int .i64 (L : Int)]).toArray, .slice AsS seed.length csS, .slice Amm m.length cmm, .slice AsO ots.length csO, .agg LB.toArray] (by rfl) (by kernel_rfl) (by first | kernel_rfl | go_simp) ?_;refine (HS6.out _ _ _ Y2 ((qT.go b_V)) ((qS.go b_V)) ((qH.go b_Y1)) ((qO.go b_V))).mono ?_;unfold ResIs; rintro e Y3 ⟨v, rfl, gv, bv⟩;have bx : Below Y2.heap.size Y2 Y3 := bv;obtain ⟨Ae, ce, vEq, _, _⟩ := gv.form;subst vEq;have qE := gv;clear gv;replace b_V := Below.chain b_V bx;replace b_Y1 := Below.chain b_Y1 bx;have b_Y2 := bx;have m_Y3 : Y2.heap.size <= Y3.heap.size := bx.size;clear bx;refine ⟨_, rfl, (qX.go b_V), ?_⟩;simp only [Act.put, arr9, hd9, tl9];refine hdv0 12 69 (.tuple #[.slice Ae en.length ce, .int .i64 0]) (by rfl) ((qX.go b_V)) ?_;refine hdv0 13 82 (.slice Ae en.length ce) (by rfl) ((qX.go b_V)) ?_;refine hdv0 14 83 (.int .i64 0) (by rfl) ((qX.go b_V)) ?_;refine hdv0 15 18 (.slice Ae en.length ce) (by rfl) ((qX.go b_V)) ?_;refine hdv0 16 14 (.int .i64 0) (by rfl) ((qX.go b_V)) ?_;refine wpAnyH_done (by kernel_rfl) ?_ _;have H9 : Shh (Row Y3 M 27 [.int .u32 xc, .bool xs, .int .i64 (Nn : Int), .int .i64 (H : Int), .int .i64 (L : Int)] /\ Tabs Y3 /\ Sl Y3 Y3.heap.size (.slice AsR root.length csR) root /\ Sl Y3 Y3.heap.size (.slice AsS seed.length csS) seed /\ Sl Y3 Y3.heap.size (.slice AsPa path.length csPa) path /\ Sl Y3 Y3.heap.size (.slice Ae en.length ce) en /\ Below w.heap.size w Y3) := ⟨(qX.go b_V), (qT.go b_V), (qR.go b_V), (qS.go b_V), (qP.go b_V), qE, Below.chain HBV.out b_V⟩;clear m_Y3 b_Y2 qE m_Y2 b_Y1 m_Y1 b_V qH qX qM qT qR qS qr qO qP HBV HS4 HS5 HS6;generalize hq9 : Y3 = W9 at H9 ⊢;clear hq9;go_wp2;refine wp_region_held_drew (S := fun w' => Row w' M 27 [.int .u32 xc, .bool xs, .int .i64 (Nn : Int), .int .i64 (H : Int), .int .i64 (L : Int)]) (by kernel_rfl) H9.out.1.drew (fun hS => ?_);clear hS;obtain ⟨V2, hV⟩ : ∃ V2, V2 = World.drew W9 := ⟨_, rfl⟩;rw [<- hV];have bV : Below W9.heap.size W9 V2 := by rw [hV]; exact (Below.refl _ _).drew
   have qX : Row V2 M 27 [.int .u32 xc, .bool xs, .int .i64 (Nn : Int), .int .i64 (H : Int), .int .i64 (L : Int)] := H9.out.1.go bV;have qT : Tabs V2 := H9.out.2.1.go bV;have qR : Sl V2 V2.heap.size (.slice AsR root.length csR) root := H9.out.2.2.1.go bV;have qS : Sl V2 V2.heap.size (.slice AsS seed.length csS) seed := H9.out.2.2.2.1.go bV;have qP : Sl V2 V2.heap.size (.slice AsPa path.length csPa) path := H9.out.2.2.2.2.1.go bV;have qE : Sl V2 V2.heap.size (.slice Ae en.length ce) en := H9.out.2.2.2.2.2.1.go bV;have HBV : Shh (Below w.heap.size w V2) := ⟨Below.chain H9.out.2.2.2.2.2.2 bV⟩;clear hV bV H9;refine hdv0 0 84 (.int .i64 0) (by rfl) (qX) ?_;refine hdv0 1 85 (.bool false) (by rfl) (qX) ?_;refine hdv0 2 86 (.bool false) (by rfl) (qX) ?_;refine hdv0 4 88 (.slice AsS seed.length csS) (by rfl) (qX) ?_;refine hdv0 5 89 (.int .u32 (I : Int)) (by rfl) (qX) ?_;refine hdv0 7 91 (.slice AsS seed.length csS) (by rfl) (qX) ?_;refine hdv0 8 92 (.slice Ae en.length ce) (by rfl) (qX) ?_;refine hdv0 9 93 (.int .u32 (I : Int)) (by rfl) (qX) ?_;refine hdv0 11 95 (.slice AsPa path.length csPa) (by rfl) (qX) ?_;refine hdv0 13 97 (.slice AsR root.length csR) (by rfl) (qX) ?_;refine held_load 3 27 (.tmp 7) (some 87) (by kernel_rfl) (by rfl) (by kernel_rfl) M 0 (by kernel_rfl) ([.int .u32 xc, .bool xs, .int .i64 (Nn : Int), .int .i64 (H : Int), .int .i64 (L : Int)]) _ (fun w h => h.range) Tryz.underlying27 rfl (info_xms) (fun _ _ _ _ h => h) (qX) ?_;simp only [Act.put, arr9, hd9, tl9];refine held_load 6 27 (.tmp 7) (some 90) (by kernel_rfl) (by rfl) (by kernel_rfl) M 0 (by kernel_rfl) ([.int .u32 xc, .bool xs, .int .i64 (Nn : Int), .int .i64 (H : Int), .int .i64 (L : Int)]) _ (fun w h => h.range) Tryz.underlying27 rfl (info_xms) (fun _ _ _ _ h => h) (qX) ?_;simp only [Act.put, arr9, hd9, tl9];refine held_one 10 (by kernel_rfl) ?_;refine step_call 10 _ _ (some 94) 75 #[.agg ([.int .u32 xc, .bool xs, .int .i64 (Nn : Int), .int .i64 (H : Int), .int .i64 (L : Int)]).toArray, .slice AsS seed.length csS, .slice Ae en.length ce, .int .u32 (I : Int)] (by rfl) (by kernel_rfl) (by first | kernel_rfl | go_simp) ?_;refine (HS7.out _ _ V2 (qT) (qS) (qE)).mono ?_;unfold NewSl; rintro e Y1 ⟨v, rfl, gv, bv, _⟩;have bx : Below V2.heap.size V2 Y1 := bv;have qL := gv;clear gv;have b_V2 := bx;have m_Y1 : V2.heap.size <= Y1.heap.size := bx.size;clear bx;refine ⟨_, rfl, (qX.go b_V2), ?_⟩;simp only [Act.put, arr9, hd9, tl9];refine held_one 12 (by kernel_rfl) ?_;refine step_call 12 _ _ (some 96) 57 #[.agg ([.int .u32 xc, .bool xs, .int .i64 (Nn : Int), .int .i64 (H : Int), .int .i64 (L : Int)]).toArray, .slice AsS seed.length csS, .int .u32 (I : Int), v, .slice AsPa path.length csPa] (by rfl) (by kernel_rfl) (by first | kernel_rfl | go_simp) ?_;refine (HS8.out _ _ _ Y1 ((qT.go b_V2)) ((qS.go b_V2)) (qL) ((qP.go b_V2))).mono ?_;unfold SlIs; rintro e Y2 ⟨v2, rfl, gv, bv⟩;have bx : Below Y1.heap.size Y1 Y2 := bv;have qC := gv;clear gv;replace b_V2 := Below.chain b_V2 bx;have b_Y1 := bx;have m_Y2 : Y1.heap.size <= Y2.heap.size := bx.size;clear bx;refine ⟨_, rfl, (qX.go b_V2), ?_⟩;simp only [Act.put, arr9, hd9, tl9];refine held_one 14 (by kernel_rfl) ?_;refine step_call 14 _ _ (some 98) 74 #[v2, .slice AsR root.length csR] (by rfl) (by kernel_rfl) (by first | kernel_rfl | go_simp) ?_;refine (HS9.out _ _ Y2 (qC) ((qR.go b_V2))).mono ?_;unfold OldIs; rintro e Y3 ⟨rfl, bv⟩;have bx : Below Y2.heap.size Y2 Y3 := bv;replace b_V2 := Below.chain b_V2 bx;replace b_Y1 := Below.chain b_Y1 bx;have b_Y2 := bx;have m_Y3 : Y2.heap.size <= Y3.heap.size := bx.size;clear bx;refine ⟨_, rfl, (qX.go b_V2), ?_⟩;simp only [Act.put, arr9, hd9, tl9];refine hdv0 15 99 (.bool (!bq)) (by rfl) ((qX.go b_V2)) ?_;refine hdv0 16 100 (.bool (!bq)) (by rfl) ((qX.go b_V2)) ?_;refine wpAnyH_done (by kernel_rfl) ?_ _;have HR : Shh (Below w.heap.size w Y3) := ⟨Below.chain HBV.out b_V2⟩;clear m_Y3 b_Y2 m_Y2 b_Y1 qC m_Y1 b_V2 qL HBV qX qT qR qS qP qE HS7 HS8 HS9;cases bq with
   | false =>
    go_wp2;go_ret;exact ⟨by rw [HEQ.out]; rfl, HR.out⟩
   | true =>
    go_wp2;go_ret;exact ⟨by rw [HEQ.out]; rfl, HR.out⟩
  ·have hne : (IE != 0) = true := by simp [h0]
   have HR : Shh (E = IE) := ⟨by rw [HE.out.1, if_pos h0]; rcases HE.out.2 with h | h; exact absurd h h0; exact h.symm⟩;clear HSG HE rX sM sG rT sR sS h0 hLN;go_wp2;go_ret;exact ⟨by rw [HR.out]; rfl, HB.out⟩
 ·have hE : verE pub msg sig = 81 := by
   unfold verE;rw [<- hx]
   by_cases h1 : pub.length < 4
   ·rw [if_pos h1]
   rw [if_neg h1]
   by_cases h2 : xE (bigN (pub.take 4)) ≠ 0
   ·rw [if_pos h2]
   rw [if_neg h2]
   by_cases h3 : pub.length ≠ 4 + 2 * x.n.toNat
   ·rw [if_pos h3]
   exact absurd ⟨h1, Classical.not_not.1 h2, Classical.not_not.1 h3⟩ hc
  rw [hE];have HSET := Shh.mk hset;have HNC := Shh.mk hc;clear hset hE hx hp hm hg ht hml hc;go_enter Tryz.func30, Tryz.ntmps30
  go_wp2_with fail
  go_at_call 71
  refine (HSET.out).mono ?_;rintro e w2 ⟨X, ok, rfl, b2, hiff, _⟩;obtain rfl : ok = false := by
   cases ok with
   | false => rfl
   | true => exact absurd (hiff.1 rfl) HNC.out
  obtain ⟨qc, qs, qn, qh, ql⟩ := X;unfold S5.v
  dsimp only
  have HR : Shh (∀ o, Below w.heap.size w (w2.alloc o)) := ⟨fun o => Below.chain b2 (below1 _ _)⟩;clear HSET HNC b2 hiff;go_wp2;go_ret;exact ⟨rfl, HR.out _⟩
theorem own_law (c : Nat) (hc : c < 4294967296) (vs vp vb vm : Value) (sd pf pb : List UInt8) (i : Nat) (hi : i < 4294967296) (msg : List UInt8) (w : World) (hs : Sl w w.heap.size vs sd) (hp : Sl w w.heap.size vp pf) (hb : Sl w w.heap.size vb pb) (hm : Sl w w.heap.size vm msg) (ht : Tabs w) :
  Calls Tryz.prog 7 #[.int .u32 (c : Int), keyV vs vp vb, .int .u32 (i : Int), vm] w (TrueIs w) := by
 refine xmssOwn_of (Tb := Tabs) c hc vs vp vb vm sd pf pb i hi msg w hs hp hb hm ht (fun _ _ h b => h.go b) live11_any (fun x vs vp vb vm sd pf pb i msg W h1 _ h2 h3 h4 h5 h6 h7 h8 => Sign11_any x vs vp vb sd pf pb i vm msg h3 W h1 h2 h4 h5 h6 h7 h8) ?_ ?_ ?_
 all_goals first
  | exact (fun x vs vp vb sd pf pb W h1 _ h3 h4 h5 h6 => Public11_any x vs vp vb sd pf pb W h1 h3 h4 h5 h6)
  | exact (fun x vg sig W h1 _ h3 => Index11_any x h1 vg sig W h3)
  | exact (fun vp vm vg pub msg sig W h1 h2 h3 h4 h5 => Verify_any vp vm vg pub msg sig h1 W h3 h4 h5 h2)
end Go.Proofs.YtdakbipiifkmfaaGreatDoor
