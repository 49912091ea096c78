import Derived.BigQuiet
import Derived.Deep.QuietTactic
import Derived.StillTailTactics
import Derived.WalkKit
import Derived.Test.YtdakbipiifkmfaaGreatDoorProg
import Derived.WalkSpells
import Derived.WalkLawsBesides
import Derived.Lib.UnsafeStr
import Derived.Lib.Hide
import Derived.Laws.BytesArg
import Derived.Deep.Draws
import Derived.RegionTactic
import Derived.ChangeAlike
import Derived.Laws.AppendOwnNone
import Derived.Deep.MidRow
import Derived.Deep.WholeRow
import Derived.BigRegion
import Derived.Deep.RegionHeld3
import Derived.Lib.SliceRun
import Derived.Lib.ConvBytes
import Derived.Lib.AtoiErrMem
import Derived.Laws.AppendOwn
import Derived.Deep.RegionLaw
import Derived.Laws.EntriesVeiled
import Derived.Deep.RegionWith
import Derived.Deep.RegionHeld
import Derived.Maps.AppendAt
import Derived.Laws.Cover3
import Derived.RangeFuncNested
import Derived.RangeFuncBound
import Derived.RangeFuncCalls
import Derived.RangeFuncLeaves
import Derived.OwnWalkIn
import Derived.TacticsInMore
import Derived.LoopNIn
import Derived.LoopIn
import Derived.RangeFuncBox
import Derived.RangeFuncWrites
import Derived.Test.YtdakbipiifkmfaaGreatDoorRows
import Derived.ProofKit
import Derived.OpenShut
import Derived.JoinedCond
import Derived.SizedLaws
import Derived.Carry
import Derived.Deep.Grids
import Derived.Laws.CopyOwn
import Derived.DeepKeys
import Derived.Lib.SmallJoins
import Derived.Test.YtdakbipiifkmfaaGreatDoorHP11
import Derived.Test.YtdakbipiifkmfaaGreatDoorHP12
namespace Go.Proofs.YtdakbipiifkmfaaGreatDoor
open Go.RowKit
set_option maxRecDepth 100000
theorem StkP.lenV {P : Value -> Prop} {w : World} {base g : Nat} {T : TypeId} {pre : List Value} {r : Option Nat} {l : List (Nat × List UInt8)} (h : StkP P w base g T pre r l) : Go.Proofs.YtdakbipiifkmfaaGreatDoor.lenV ((w.cell? ⟨g, pre.length, none⟩).getD (.int .i64 0)) = l.length := by
 obtain ⟨rfl, A, c, hr⟩ | ⟨rb, cap, _, _, hr⟩ := h.form
 ·rw [cell_last hr]; rfl
 ·rw [cell_last hr]; rfl
theorem Stir.low {g : Nat} {r : Option Nat} {w w' w0 : World} {base : Nat} (h : Stir g r w w') (hb : Below w0.heap.size w0 w) (hg : w0.heap.size <= g) (hgb : g < base) (hr : ∀ k, r = some k -> base <= k) : Below w0.heap.size w0 w' := by
 have h1 : But w0.heap.size g w w' := h.but hb.size (fun k hk => by have := hr k hk; omega);exact hb.trans (h1.under (Nat.le_refl _) hg)
theorem Stir.thenBut {g k : Nat} {r : Option Nat} {w X Y : World} (h : Stir g r w X) (bt : But X.heap.size k X Y) (hk : w.heap.size <= k) : Stir g r w Y :=
 ⟨bt.os.trans h.os, bt.tape.trans h.tape, bt.output.trans h.output, Nat.le_trans h.size bt.size, fun i hi h1 h2 => (bt.block i (Nat.lt_of_lt_of_le hi h.size) (by omega)).trans (h.block i hi h1 h2)⟩
set_option maxHeartbeats 4000000 in
theorem store_any (x : S5) (hw : x.wf) (hx : x.ok = true) (vs vp vb : Value) (sd pf pb : List UInt8) (w0 : World) (hs : Sl w0 w0.heap.size vs sd) (hp : Sl w0 w0.heap.size vp pf) (hb : Sl w0 w0.heap.size vb pb) (hsl : (sd.length : Int) = x.n) (hbl : (pb.length : Int) = x.n) (ht : Tabs w0)
  (w : World) (base g : Nat) (T : TypeId) (pre : List Value) (r : Option Nat) (K j m : Nat) (hm : m < 2 ^ K) (hK : K <= 30) (hi : j * 2 ^ K + m < 4294967296) (hB : Below w0.heap.size w0 w) (hg0 : w0.heap.size <= g) (h : StkAt w base g T pre r (stkA x.s x.n x.l.toNat sd pb K j m)) :
  Calls Tryz.prog 81 #[.agg (srcL x vs vp vb).toArray, .pointer (some ⟨g, pre.length, none⟩), .int .u32 ((j * 2 ^ K + m : Nat) : Int)] w (PutS w base g T pre (stkA x.s x.n x.l.toNat sd pb K j (m + 1))) := by
 unfold PutS;obtain ⟨As, cs, rfl, _, _⟩ := hs.form;obtain ⟨Ap, cp, rfl, _, _⟩ := hp.form;obtain ⟨Ab, cb, rfl, _, _⟩ := hb.form;obtain ⟨I, hI⟩ : ∃ I, I = j * 2 ^ K + m := ⟨_, rfl⟩;obtain ⟨N, hN⟩ : ∃ N, N = nodeV x.s x.n x.l.toNat sd pb := ⟨_, rfl⟩;obtain ⟨S, hS⟩ : ∃ S, S = stkH x.s x.n x.l.toNat sd pb K j := ⟨_, rfl⟩;obtain ⟨R, hR⟩ : ∃ R, R = stkA x.s x.n x.l.toNat sd pb K j (m + 1) := ⟨_, rfl⟩;have hn := S5.ok_is hx;have HI : Shh (I < 4294967296 /\ K <= 30) := ⟨by omega, hK⟩
 have HLF : Shh (∀ W, Below w0.heap.size w0 W -> Calls Tryz.prog 44 #[.agg ([.int .u32 x.c, .bool x.s, .int .i64 x.n, .int .i64 x.h, .int .i64 x.l, .slice As sd.length cs, .slice Ap pf.length cp, .slice Ab pb.length cb] : List Value).toArray, .int .u32 (I : Int)] W (NewSl W (N 0 (offK K j 0 + m)))) := ⟨fun W b => by
  have h1 := leaf_any x hw hx _ _ _ sd pf pb I (by omega) W (hs.go b) (hp.go b) (hb.go b) hsl hbl (ht.go b);have e : offK K j 0 + m = I := by unfold offK; rw [Nat.sub_zero, hI]
  rw [e, hN]
  exact h1⟩
 have HST : Shh (∀ h q, m + 1 = 2 ^ h * (q + 1) -> q % 2 = 1 -> h < K /\ m + 1 = 2 ^ (h + 1) * (q / 2 + 1) /\ S h q = S (h + 1) (q / 2) ++ [(h, N h (offK K j h + q - 1))]) := ⟨fun h q h1 h2 => by
  have h3 := stk_step x.s x.n x.l.toNat sd pb K j m h q hm h1 h2;rw [hS, hN]
  exact ⟨h3.1, h3.2.1, h3.2.2.2.1⟩⟩
 have HEN : Shh (∀ h q, m + 1 = 2 ^ h * (q + 1) -> q % 2 = 0 -> S h q ++ [(h, N h (offK K j h + q))] = R /\ ∀ e ∈ S h q, e.1 ≠ h) := ⟨fun h q h1 h2 => by
  have h3 := stk_end x.s x.n x.l.toNat sd pb K j m h q hm h1 h2;rw [hS, hN, hR]
  exact h3⟩
 have HLN : Shh (∀ h q, (S h q).length <= 100) := ⟨fun h q => by
  have h3 := stk_count x.s x.n x.l.toNat sd pb K j h q;rw [hS]
  omega⟩
 have HIN : Shh (∀ h q vl vr W, m + 1 = 2 ^ h * (q + 1) -> q % 2 = 1 -> Below w0.heap.size w0 W -> Sl W W.heap.size vl (N h (offK K j h + q - 1)) -> Sl W W.heap.size vr (N h (offK K j h + q)) -> Calls Tryz.prog 93 #[x.v, .slice Ab pb.length cb, .int .i64 ((h + 1 : Nat) : Int), .int .u32 ((I / 2 ^ (h + 1) : Nat) : Int), vl, vr] W (NewSl W (N (h + 1) (offK K j (h + 1) + q / 2)))) := ⟨fun h q vl vr W h1 h2 b hl hr => by
  have h3 := stk_step x.s x.n x.l.toNat sd pb K j m h q hm h1 h2;have hd : I / 2 ^ (h + 1) <= I := Nat.div_le_self _ _;rw [hN] at hl hr ⊢;have h4 := inner_any x hw hx _ vl vr pb _ _ h (I / 2 ^ (h + 1)) (by have := h3.1; omega) (by omega) W (hb.go b) hl hr (by omega) (nodeV_length hx _ _ _ _) (nodeV_length hx _ _ _ _) (ht.go b);rw [hI, h3.2.2.1, h3.2.2.2.2] at h4;rw [hI, h3.2.2.1]
  exact h4⟩
 have hh0 : StkAt w base g T pre r (S 0 m) := by
  rw [hS];exact h
 have HG : Shh (g < base /\ base <= w.heap.size /\ (∀ k, r = some k -> base <= k /\ k < w.heap.size) /\ w0.heap.size <= g /\ Below w0.heap.size w0 w /\ (∀ W, Stir g r w W -> Below w0.heap.size w0 W)) := ⟨h.base_le.1, h.base_le.2, h.r_le, hg0, hB, fun W s => s.low hB hg0 h.base_le.1 (fun k hk => (h.r_le k hk).1)⟩;rw [<- hI, <- hR];obtain ⟨W, hW⟩ : ∃ W, W = w.alloc (.cells #[.int .u32 x.c, .bool x.s, .int .i64 x.n, .int .i64 x.h, .int .i64 x.l, .slice As sd.length cs, .slice Ap pf.length cp, .slice Ab pb.length cb] 70) := ⟨_, rfl⟩;have HW : Shh (Row W w.heap.size 70 [.int .u32 x.c, .bool x.s, .int .i64 x.n, .int .i64 x.h, .int .i64 x.l, .slice As sd.length cs, .slice Ap pf.length cp, .slice Ab pb.length cb] /\ StkAt W base g T pre r (S 0 m) /\ Below w.heap.size w W /\ W.heap.size = w.heap.size + 1) := by
  rw [hW];exact ⟨Row.new_ rfl rfl, hh0.go (below1 _ _), below1 _ _, asz _ _⟩
 have he0 : m + 1 = 2 ^ 0 * (m + 1) := by rw [Nat.pow_zero, Nat.one_mul]
 clear h hh0 hs hp hb ht hsl hbl hn hm hK hi hB hg0 hw hx hN hS hR hI;unfold srcL;unfold S5.v at HIN;generalize x.c = xc at *;generalize x.s = xs at *;generalize x.n = xn at *;generalize x.h = xh at *;generalize x.l = xl at *;obtain ⟨op, HOP⟩ : ∃ op, Shh (op = pre.length) := ⟨_, ⟨rfl⟩⟩;rw [<- HOP.out];go_enter Tryz.func81, Tryz.ntmps81
 go_wp2_with (go_at_call 44; rw [<- hW]; refine (HLF.out W (HG.out.2.2.2.2.1.trans (HW.out.2.2.1.mono HG.out.2.2.2.2.1.size))).mono ?_)
 unfold NewSl;rintro e w2 ⟨u, rfl, su, b2, ou⟩;obtain ⟨nb, hnb⟩ : ∃ nb, nb = N 0 (offK K j 0 + m) := ⟨_, rfl⟩;rw [<- hnb] at su;have HNB := Shh.mk hnb;clear hnb;obtain ⟨Au, cu, rfl, _, _⟩ := su.form;obtain ⟨kr, HKR⟩ : ∃ kr, Shh (kr = w2.heap.size) := ⟨_, ⟨rfl⟩⟩;have HK : Shh (w.heap.size < kr) := ⟨by have := b2.size; have := HW.out.2.2.2; have := HKR.out; omega⟩
 go_wp2_with (refine wpList_store_any rfl 108 (.tmp 6) (.tmp 13) rfl w2.heap.size rfl [.int .i64 0, .slice Au nb.length cu] rfl 108 [.int .i64 0, .slice none 0 0] (Row.new_ rfl rfl) info_node rfl oneNode ?_)
 intro Z hr bt hsz;have HL : Shh (StkP (Off kr) Z base g T pre r (S 0 m) /\ Row Z w.heap.size 70 [.int .u32 xc, .bool xs, .int .i64 xn, .int .i64 xh, .int .i64 xl, .slice As sd.length cs, .slice Ap pf.length cp, .slice Ab pb.length cb] /\ Row Z kr 108 [.int .i64 ((0 : Nat) : Int), .slice Au nb.length cu] /\ Sl Z Z.heap.size (.slice Au nb.length cu) (N 0 (offK K j 0 + m)) /\ (Off g (.slice Au nb.length cu) /\ ∀ k, r = some k -> Off k (.slice Au nb.length cu)) /\ Stir g r w Z) := by
  have bz : Below w2.heap.size w2 Z := (below1 _ _).trans (bt.under (by omega) (Nat.le_refl _));have bw : Below w.heap.size w Z := Below.chain (Below.chain HW.out.2.2.1 b2) bz;refine ⟨((HW.out.2.1.go b2).offK (Nat.le_of_eq HKR.out.symm)).go bz, HW.out.1.go (Below.chain b2 bz), by rw [HKR.out]; exact hr, by rw [<- HNB.out]; exact su.go bz, ⟨ou g (by have := HG.out; have := HW.out.2.2.2; omega), fun k hk => ou k (by have := HG.out.2.2.1 k hk; have := HW.out.2.2.2; omega)⟩, Stir.of bw⟩
 rw [<- HKR.out];clear hr bt hsz HKR su b2 ou HNB HW hW HLF;go_wp2;go_loopw [8] (fun ok wr => ∃ (h q : Nat) (u : Value), m + 1 = 2 ^ h * (q + 1) /\ Shh (StkP (Off kr) wr base g T pre r (S h q) /\ Row wr w.heap.size 70 [.int .u32 xc, .bool xs, .int .i64 xn, .int .i64 xh, .int .i64 xl, .slice As sd.length cs, .slice Ap pf.length cp, .slice Ab pb.length cb] /\ Row wr kr 108 [.int .i64 ((h : Nat) : Int), u] /\ Sl wr wr.heap.size (u) (N h (offK K j h + q)) /\ (Off g (u) /\ ∀ k, r = some k -> Off k (u)) /\ Stir g r w wr)) (fun ok wr => lenV ((wr.cell? ⟨g, op, none⟩).getD (.int .i64 0)))
 case atStart => exact ⟨0, m, _, he0, HL⟩
 case round =>
  clear HL he0;obtain ⟨h, q, u, he, HL⟩ := hrel;obtain ⟨nb, HNB⟩ : ∃ nb, Shh (nb = N h (offK K j h + q)) := ⟨_, ⟨rfl⟩⟩;rw [<- HNB.out] at HL;obtain ⟨Au, cu, rfl, _, _⟩ := HL.out.2.2.2.1.form
  by_cases hq : q % 2 = 1
  ·obtain ⟨lb, HLB⟩ : ∃ lb, Shh (lb = N h (offK K j h + q - 1)) := ⟨_, ⟨rfl⟩⟩;have HQ : Shh (h < K /\ m + 1 = 2 ^ (h + 1) * (q / 2 + 1) /\ S h q = S (h + 1) (q / 2) ++ [(h, lb)]) := ⟨by rw [HLB.out]; exact HST.out h q he hq⟩;have HIQ : Shh (∀ vl vr W, Below w0.heap.size w0 W -> Sl W W.heap.size vl lb -> Sl W W.heap.size vr nb -> Calls Tryz.prog 93 #[.agg ([.int .u32 xc, .bool xs, .int .i64 xn, .int .i64 xh, .int .i64 xl] : List Value).toArray, .slice Ab pb.length cb, .int .i64 ((h + 1 : Nat) : Int), .int .u32 ((I / 2 ^ (h + 1) : Nat) : Int), vl, vr] W (NewSl W (N (h + 1) (offK K j (h + 1) + q / 2)))) := ⟨fun vl vr W b hl hr => HIN.out h q vl vr W he hq b (by rw [<- HLB.out]; exact hl) (by rw [<- HNB.out]; exact hr)⟩;have HS2 : StkP (Off kr) wr base g T pre r (S (h + 1) (q / 2) ++ [(h, lb)]) := by rw [<- HQ.out.2.2]; exact HL.out.1
   have HMU : Shh (lenV ((wr.cell? ⟨g, op, none⟩).getD (.int .i64 0)) = (S (h + 1) (q / 2)).length + 1) := ⟨by rw [HOP.out]; rw [HS2.lenV, List.length_append, List.length_singleton]⟩;have HLA := Shh.mk (last_any wr base g T pre r _ h lb (by have := HLN.out (h + 1) (q / 2); omega) HS2);rw [<- HOP.out] at HLA;have HSL := Shh.mk HS2;clear HST HEN HIN he HS2 HLB HNB hq
   go_wp2_with (go_at_call 80; refine HLA.out.mono ?_)
   unfold LastIs;rintro e w2 ⟨ul, rfl, sl, ogl, orl, b2⟩;clear HLA;obtain ⟨Al, cl, rfl, _, _⟩ := sl.form;obtain ⟨kl, HKL⟩ : ∃ kl, Shh (kl = w2.heap.size) := ⟨_, ⟨rfl⟩⟩
   go_wp2_with (refine wpList_store_any rfl 108 (.tmp 7) (.tmp 17) rfl w2.heap.size rfl [.int .i64 (h : Int), .slice Al lb.length cl] rfl 108 [.int .i64 0, .slice none 0 0] (Row.new_ rfl rfl) info_node rfl oneNode ?_)
   intro Z hr bt hsz;have bz : Below w2.heap.size w2 Z := (below1 _ _).trans (bt.under (by omega) (Nat.le_refl _));have bw : Below wr.heap.size wr Z := Below.chain b2 bz;have HZ : Shh (StkP (Off kr) Z base g T pre r (S (h + 1) (q / 2) ++ [(h, lb)]) /\ Row Z w.heap.size 70 [.int .u32 xc, .bool xs, .int .i64 xn, .int .i64 xh, .int .i64 xl, .slice As sd.length cs, .slice Ap pf.length cp, .slice Ab pb.length cb] /\ Row Z kr 108 [.int .i64 (h : Int), .slice Au nb.length cu] /\ Row Z kl 108 [.int .i64 (h : Int), .slice Al lb.length cl] /\ Sl Z Z.heap.size (.slice Au nb.length cu) nb /\ Sl Z Z.heap.size (.slice Al lb.length cl) lb /\ Stir g r w Z /\ kr < kl /\ (Off g (.slice Al lb.length cl) /\ ∀ k, r = some k -> Off k (.slice Al lb.length cl))) := ⟨HSL.out.go bw, HL.out.2.1.go bw, HL.out.2.2.1.go bw, by rw [HKL.out]; exact hr, HL.out.2.2.2.1.go bw, sl.go bz, HL.out.2.2.2.2.2.trans (Stir.of bw), by rw [HKL.out]; exact Nat.lt_of_lt_of_le HL.out.2.2.1.lt b2.size, ogl, orl⟩;have HOU := Shh.mk HL.out.2.2.2.2.1;rw [<- HKL.out];clear hr bt hsz HKL sl ogl orl b2 bz bw HSL HL;have cr := HZ.out.2.2.1.cell 0;have cl0 := HZ.out.2.2.2.1.cell 0;simp only [List.getElem?_cons_zero] at cr cl0;have HTA := Shh.mk (take_any Z base g T pre r _ h lb (by have := HLN.out (h + 1) (q / 2); omega) HZ.out.1);rw [<- HOP.out] at HTA
   go_wp2_with (first | refine wl_value (.bool false) rfl (neq_same rfl rfl rfl) ?_ | (go_at_call 109; refine HTA.out.mono ?_))
   unfold StkIs;rintro e w4 ⟨⟨v4, rfl⟩, s4, t4⟩;have hkg : ∀ k, w.heap.size <= k -> k ≠ g /\ some k ≠ r := fun k hk => ⟨by have := HG.out; omega, fun e => by have := HG.out.2.2.1 k e.symm; omega⟩
   have h1 := (hkg w.heap.size (Nat.le_refl _));have h2 := (hkg kr (Nat.le_of_lt HK.out));have h3 := (hkg kl (by have := HK.out; have := HZ.out.2.2.2.2.2.2.2.1; omega));have H4 : Shh (StkP (Off kr) w4 base g T pre r (S (h + 1) (q / 2)) /\ Row w4 w.heap.size 70 [.int .u32 xc, .bool xs, .int .i64 xn, .int .i64 xh, .int .i64 xl, .slice As sd.length cs, .slice Ap pf.length cp, .slice Ab pb.length cb] /\ Row w4 kr 108 [.int .i64 (h : Int), .slice Au nb.length cu] /\ Row w4 kl 108 [.int .i64 (h : Int), .slice Al lb.length cl] /\ Sl w4 w4.heap.size (.slice Au nb.length cu) nb /\ Sl w4 w4.heap.size (.slice Al lb.length cl) lb /\ Stir g r w w4 /\ kr < kl) := ⟨s4, HZ.out.2.1.stir h1.1 h1.2 t4, HZ.out.2.2.1.stir h2.1 h2.2 t4, HZ.out.2.2.2.1.stir h3.1 h3.2 t4, HZ.out.2.2.2.2.1.stir HOU.out.1 HOU.out.2 t4, HZ.out.2.2.2.2.2.1.stir HZ.out.2.2.2.2.2.2.2.2.1 HZ.out.2.2.2.2.2.2.2.2.2 t4, HZ.out.2.2.2.2.2.2.1.trans t4, HZ.out.2.2.2.2.2.2.2.1⟩;have H2K := Shh.mk h2;clear HZ HTA s4 t4 h1 h2 h3 hkg cr cl0 HOU;have cr := H4.out.2.2.1.cell 0;simp only [List.getElem?_cons_zero] at cr
   go_wp2_with (refine wl_value (.int .i64 ((h + 1 : Nat) : Int)) rfl (add_one (by have := HQ.out.1; have := HI.out.2; omega) rfl rfl) ?_)
   clear cr;refine wp_region_held_drew (S := fun w' => Row w' w.heap.size 70 [.int .u32 xc, .bool xs, .int .i64 xn, .int .i64 xh, .int .i64 xl, .slice As sd.length cs, .slice Ap pf.length cp, .slice Ab pb.length cb] /\ Row w' kl 108 [.int .i64 (h : Int), .slice Al lb.length cl]) (by kernel_rfl) ⟨H4.out.2.1.drew, H4.out.2.2.2.1.drew⟩ (fun hS => ?_);clear hS;obtain ⟨V, hV⟩ : ∃ V, V = World.drew w4 := ⟨_, rfl⟩;rw [<- hV];have bV : Below w4.heap.size w4 V := by rw [hV]; exact (Below.refl _ _).drew
   have rB : Row V w.heap.size 70 [.int .u32 xc, .bool xs, .int .i64 xn, .int .i64 xh, .int .i64 xl, .slice As sd.length cs, .slice Ap pf.length cp, .slice Ab pb.length cb] := H4.out.2.1.go bV;have rL : Row V kl 108 [.int .i64 (h : Int), .slice Al lb.length cl] := H4.out.2.2.2.1.go bV;have rR : Row V kr 108 [.int .i64 (h : Int), .slice Au nb.length cu] := H4.out.2.2.1.go bV;have sK : StkP (Off kr) V base g T pre r (S (h + 1) (q / 2)) := H4.out.1.go bV;have sU : Sl V V.heap.size (.slice Au nb.length cu) nb := H4.out.2.2.2.2.1.go bV;have sL : Sl V V.heap.size (.slice Al lb.length cl) lb := H4.out.2.2.2.2.2.1.go bV;have HVS : Shh (Stir g r w V /\ kr < kl) := ⟨H4.out.2.2.2.2.2.2.1.trans (Stir.of bV), H4.out.2.2.2.2.2.2.2⟩;clear hV bV H4;refine hdv0 0 33 (.int .i64 ((h + 1 : Nat) : Int)) (by rfl) (⟨rB, rL⟩) ?_;refine hdv0 1 34 (.pointer (some ⟨w.heap.size, 0, none⟩)) (by rfl) (⟨rB, rL⟩) ?_;refine hdv0 3 36 (.pointer (some ⟨w.heap.size, 5, none⟩)) (by rfl) (⟨rB, rL⟩) ?_;refine hdv0 4 37 (.pointer (some ⟨w.heap.size, 7, none⟩)) (by rfl) (⟨rB, rL⟩) ?_;refine hdv 5 38 (.slice Ab pb.length cb) (by rfl) (fun w hS => load_p rfl (hS.1.cell 7) (by kernel_rfl)) (⟨rB, rL⟩) ?_;refine hdv0 6 39 (.int .i64 ((h + 1 : Nat) : Int)) (by rfl) (⟨rB, rL⟩) ?_;refine hdv0 7 40 (.int .u32 (I : Int)) (by rfl) (⟨rB, rL⟩) ?_;refine hdv0 8 41 (.int .i64 ((h + 1 : Nat) : Int)) (by rfl) (⟨rB, rL⟩) ?_;refine hdv 9 42 (.int .u32 ((I / 2 ^ (h + 1) : Nat) : Int)) (by rfl) (fun w hS => shr_32 rfl (by have := HQ.out.1; have := HI.out.2; omega) rfl (by kernel_rfl) (by kernel_rfl)) (⟨rB, rL⟩) ?_;refine hdv0 10 43 (.pointer (some ⟨kl, 1, none⟩)) (by rfl) (⟨rB, rL⟩) ?_;refine hdv 11 44 (.slice Al lb.length cl) (by rfl) (fun w hS => load_p rfl (hS.2.cell 1) (by kernel_rfl)) (⟨rB, rL⟩) ?_;refine hdv0 12 45 (.pointer (some ⟨kr, 1, none⟩)) (by rfl) (⟨rB, rL⟩) ?_;refine held_load 2 27 (.tmp 34) (some 35) (by kernel_rfl) (by rfl) (by kernel_rfl) w.heap.size 0 (by kernel_rfl) ([.int .u32 xc, .bool xs, .int .i64 xn, .int .i64 xh, .int .i64 xl]) _ (fun w h => Row.mid h.1 0 5) Tryz.underlying27 rfl (info_xms) (fun _ _ _ _ h => h) (⟨rB, rL⟩) ?_;simp only [Act.put, arr9, hd9, tl9];refine held_one 13 (by kernel_rfl) ?_;refine step_value 13 _ _ (some 46) (.slice Au nb.length cu) V (by rfl) (by kernel_rfl) (load_p rfl ((rR).cell 1) (by kernel_rfl)) (⟨rB, rL⟩) ?_;simp only [Act.put, arr9, hd9, tl9];refine held_one 14 (by kernel_rfl) ?_;refine step_call 14 _ _ (some 47) 93 #[.agg ([.int .u32 xc, .bool xs, .int .i64 xn, .int .i64 xh, .int .i64 xl]).toArray, .slice Ab pb.length cb, .int .i64 ((h + 1 : Nat) : Int), .int .u32 ((I / 2 ^ (h + 1) : Nat) : Int), .slice Al lb.length cl, .slice Au nb.length cu] (by rfl) (by kernel_rfl) (by first | kernel_rfl | go_simp) ?_;refine (HIQ.out _ _ V (HG.out.2.2.2.2.2 _ (HVS.out.1.trans (Stir.of (Below.refl _ _)))) (sL) (sU)).mono ?_;unfold NewSl; rintro e Y2 ⟨vn, rfl, sn, bn, on⟩;have bx : Below V.heap.size V Y2 := bn;obtain ⟨nn, HNN⟩ : ∃ nn, Shh (nn = N (h + 1) (offK K j (h + 1) + q / 2)) := ⟨_, ⟨rfl⟩⟩;rw [<- HNN.out] at sn;obtain ⟨An, cn, vEq, _, _⟩ := sn.form;subst vEq;have HON : Shh (Off g (.slice An nn.length cn) /\ (∀ k, r = some k -> Off k (.slice An nn.length cn)) /\ Off kr (.slice An nn.length cn)) := ⟨on g (by have := (rR).lt; have := HG.out; have := HK.out; omega), fun k hk => on k (by have := (rR).lt; have := HG.out.2.2.1 k hk; have := HK.out; omega), on kr (rR).lt⟩;have sN := sn;clear on sn;have b_V := bx;have m_Y2 : V.heap.size <= Y2.heap.size := bx.size;clear bx;refine ⟨_, rfl, ⟨(rB.go b_V), (rL.go b_V)⟩, ?_⟩;simp only [Act.put, arr9, hd9, tl9];refine hdv0 15 48 (.agg ([.int .i64 ((h + 1 : Nat) : Int), .slice An nn.length cn]).toArray) (by rfl) (⟨(rB.go b_V), (rL.go b_V)⟩) ?_;refine held_one 16 (by kernel_rfl) ?_;refine step_storeRow 16 108 (.tmp 6) (.tmp 48) (by rfl) (by kernel_rfl) (kr) rfl ([.int .i64 ((h + 1 : Nat) : Int), .slice An nn.length cn]) rfl 108 ([.int .i64 (h : Int), .slice Au nb.length cu]) (rR.go b_V) (info_node) (rfl) oneNode ?_;intro Y3 rR2 bt zt;have rB2 : Row Y3 w.heap.size 70 [.int .u32 xc, .bool xs, .int .i64 xn, .int .i64 xh, .int .i64 xl, .slice As sd.length cs, .slice Ap pf.length cp, .slice Ab pb.length cb] := bt.row (rB.go b_V) (rB.go b_V).lt (Nat.ne_of_lt HK.out);have rL2 : Row Y3 kl 108 [.int .i64 (h : Int), .slice Al lb.length cl] := bt.row (rL.go b_V) (rL.go b_V).lt (Nat.ne_of_gt HVS.out.2);have sK2 : StkP (Off kr) Y3 base g T pre r (S (h + 1) (q / 2)) := (sK.go b_V).other bt H2K.out.1 (fun e => H2K.out.2 e.symm);have sN2 : Sl Y3 Y3.heap.size (.slice An nn.length cn) nn := (sN.but HON.out.2.2 bt).more bt.size;have HT2 : Stir g r w Y3 := (HVS.out.1.trans (Stir.of b_V)).thenBut bt (Nat.le_of_lt HK.out);refine ⟨⟨rB2, rL2⟩, ?_⟩;refine wpAnyH_done (by kernel_rfl) ?_ _;have HR : Shh (StkP (Off kr) Y3 base g T pre r (S (h + 1) (q / 2)) /\ Row Y3 w.heap.size 70 [.int .u32 xc, .bool xs, .int .i64 xn, .int .i64 xh, .int .i64 xl, .slice As sd.length cs, .slice Ap pf.length cp, .slice Ab pb.length cb] /\ Row Y3 kr 108 [.int .i64 ((h + 1 : Nat) : Int), .slice An nn.length cn] /\ Sl Y3 Y3.heap.size (.slice An nn.length cn) (N (h + 1) (offK K j (h + 1) + q / 2)) /\ (Off g (.slice An nn.length cn) /\ ∀ k, r = some k -> Off k (.slice An nn.length cn)) /\ Stir g r w Y3) := ⟨sK2, rB2, rR2, by rw [<- HNN.out]; exact sN2, ⟨HON.out.1, HON.out.2.1⟩, HT2⟩;clear HT2 sN2 sK2 rL2 rB2 zt bt rR2 m_Y2 b_V sN HON rB rL rR sK sU sL HVS HNN H2K HIQ;go_wp2
   go_roundw
   case rel => exact ⟨h + 1, q / 2, _, HQ.out.2.1, HR⟩
   case measure => rw [HMU.out, HOP.out, HR.out.1.lenV]; omega
  ·have HE2 : Shh (S h q ++ [(h, nb)] = R) := ⟨by rw [HNB.out]; exact (HEN.out h q he (by omega)).1⟩;have hne := (HEN.out h q he (by omega)).2
   rcases List.eq_nil_or_concat (S h q) with h0 | ⟨l2, tb, h0⟩
   ·have HLA := Shh.mk (last_nil wr base g T pre r (by rw [<- h0]; exact HL.out.1));rw [<- HOP.out] at HLA;clear HST HEN HIN he HNB hq h0 hne
    go_wp2_with (go_at_call 80; refine HLA.out.mono ?_)
    unfold OldIs;rintro e w2 ⟨rfl, b2⟩;clear HLA;obtain ⟨kl, HKL⟩ : ∃ kl, Shh (kl = w2.heap.size) := ⟨_, ⟨rfl⟩⟩
    go_wp2_with (refine wpList_store_any rfl 108 (.tmp 7) (.tmp 17) rfl w2.heap.size rfl [.int .i64 0, .slice none 0 0] rfl 108 [.int .i64 0, .slice none 0 0] (Row.new_ rfl rfl) info_node rfl oneNode ?_)
    intro Z hr bt hsz;have bz : Below w2.heap.size w2 Z := (below1 _ _).trans (bt.under (by omega) (Nat.le_refl _));have bw : Below wr.heap.size wr Z := Below.chain b2 bz;have HZ : Shh (Row Z kr 108 [.int .i64 (h : Int), .slice Au nb.length cu] /\ Row Z kl 108 [.int .i64 0, .slice none 0 0] /\ Stir g r w Z) := ⟨HL.out.2.2.1.go bw, by rw [HKL.out]; exact hr, HL.out.2.2.2.2.2.trans (Stir.of bw)⟩;have HPU := Shh.mk (put_any Z base g T pre r (S h q) h _ nb (by have := HLN.out h q; omega) ((HL.out.1.go bw).mono fun _ _ => trivial) (HL.out.2.2.2.1.go bw) HL.out.2.2.2.2.1.1 HL.out.2.2.2.2.1.2);rw [<- HOP.out] at HPU;rw [<- HKL.out];clear hr bt hsz HKL b2 bz bw HL;have cr := HZ.out.1.cell 0;have cl0 := HZ.out.2.1.cell 0;simp only [List.getElem?_cons_zero] at cr cl0
    go_wp2_with (first | refine wpList_load_any rfl 108 (.tmp 6) rfl kr rfl 108 [.int .i64 (h : Int), .slice Au nb.length cu] _ HZ.out.1 Tryz.underlying108 rfl info_node ?_ | (go_at_call 110; refine HPU.out.mono ?_))
    unfold PutS;rintro e w5 ⟨⟨v5, rfl⟩, ⟨r5, s5⟩, b5⟩;have HR : Shh ((∃ r, StkAt w5 base g T pre r R) /\ But base g w w5) := ⟨⟨r5, by rw [<- HE2.out]; exact s5⟩, (HZ.out.2.2.but HG.out.2.1 (fun k hk => (HG.out.2.2.1 k hk).1)).trans b5⟩;clear HZ HPU cr cl0 s5 b5;go_wp2
    go_end0
    exact ⟨⟨_, rfl⟩, HR.out⟩
   ·obtain ⟨th, tv⟩ := tb;rw [List.concat_eq_append] at h0;have hth : th ≠ h := hne (th, tv) (by rw [h0]; simp);have hti : ((th : Int) != (h : Int)) = true := by simp only [bne_iff_ne, ne_eq]; omega
    have htj : ¬ (th : Int) = (h : Int) := by omega
    clear hth;have HLA := Shh.mk (last_any wr base g T pre r l2 th tv (by have h1 := HLN.out h q; rw [h0, List.length_append] at h1; omega) (by rw [<- h0]; exact HL.out.1));rw [<- HOP.out] at HLA;clear HST HEN HIN he HNB hq h0 hne
    go_wp2_with (go_at_call 80; refine HLA.out.mono ?_)
    unfold LastIs;rintro e w2 ⟨ul, rfl, sl, ogl, orl, b2⟩;obtain ⟨Al, cl, rfl, _, _⟩ := sl.form;clear HLA sl ogl orl;obtain ⟨kl, HKL⟩ : ∃ kl, Shh (kl = w2.heap.size) := ⟨_, ⟨rfl⟩⟩
    go_wp2_with (refine wpList_store_any rfl 108 (.tmp 7) (.tmp 17) rfl w2.heap.size rfl [.int .i64 (th : Int), .slice Al tv.length cl] rfl 108 [.int .i64 0, .slice none 0 0] (Row.new_ rfl rfl) info_node rfl oneNode ?_)
    intro Z hr bt hsz;have bz : Below w2.heap.size w2 Z := (below1 _ _).trans (bt.under (by omega) (Nat.le_refl _));have bw : Below wr.heap.size wr Z := Below.chain b2 bz;have HZ : Shh (Row Z kr 108 [.int .i64 (h : Int), .slice Au nb.length cu] /\ Row Z kl 108 [.int .i64 (th : Int), .slice Al tv.length cl] /\ Stir g r w Z) := ⟨HL.out.2.2.1.go bw, by rw [HKL.out]; exact hr, HL.out.2.2.2.2.2.trans (Stir.of bw)⟩;have HPU := Shh.mk (put_any Z base g T pre r (S h q) h _ nb (by have := HLN.out h q; omega) ((HL.out.1.go bw).mono fun _ _ => trivial) (HL.out.2.2.2.1.go bw) HL.out.2.2.2.2.1.1 HL.out.2.2.2.2.1.2);rw [<- HOP.out] at HPU;rw [<- HKL.out];clear hr bt hsz HKL b2 bz bw HL;have cr := HZ.out.1.cell 0;have cl0 := HZ.out.2.1.cell 0;simp only [List.getElem?_cons_zero] at cr cl0
    go_wp2_with (first | refine wpList_load_any rfl 108 (.tmp 6) rfl kr rfl 108 [.int .i64 (h : Int), .slice Au nb.length cu] _ HZ.out.1 Tryz.underlying108 rfl info_node ?_ | (go_at_call 110; refine HPU.out.mono ?_))
    unfold PutS;rintro e w5 ⟨⟨v5, rfl⟩, ⟨r5, s5⟩, b5⟩;have HR : Shh ((∃ r, StkAt w5 base g T pre r R) /\ But base g w w5) := ⟨⟨r5, by rw [<- HE2.out]; exact s5⟩, (HZ.out.2.2.but HG.out.2.1 (fun k hk => (HG.out.2.2.1 k hk).1)).trans b5⟩;clear HZ HPU cr cl0 s5 b5;go_wp2
    go_end0
    exact ⟨⟨_, rfl⟩, HR.out⟩
end Go.Proofs.YtdakbipiifkmfaaGreatDoor
