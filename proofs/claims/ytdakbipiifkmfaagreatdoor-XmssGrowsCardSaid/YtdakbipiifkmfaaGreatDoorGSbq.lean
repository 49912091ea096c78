import Derived.WalkKit
import Derived.Test.YtdakbipiifkmfaaGreatDoorProg
import Derived.WalkSpells
import Derived.WalkLawsBesides
import Derived.Lib.UnsafeStr
import Derived.Lib.Hide
import Derived.Laws.BytesArg
import Derived.Deep.Draws
import Derived.RegionTactic
import Derived.ChangeAlike
import Derived.Laws.AppendOwnNone
import Derived.BigQuiet
import Derived.Deep.QuietTactic
import Derived.Maps.AppendAt
import Derived.Test.YtdakbipiifkmfaaGreatDoorRows
import Derived.ProofKit
import Derived.OpenShut
import Derived.JoinedCond
import Derived.SizedLaws
import Derived.Carry
import Derived.Deep.Grids
import Derived.Deep.RegionHeld3
import Derived.Laws.EntriesVeiled
import Derived.StillTailTactics
import Derived.Lib.SliceRun
import Derived.Lib.ConvBytes
import Derived.Lib.AtoiErrMem
import Derived.Laws.AppendOwn
import Derived.RangeFuncNested
import Derived.RangeFuncBound
import Derived.RangeFuncCalls
import Derived.RangeFuncLeaves
import Derived.OwnWalkIn
import Derived.TacticsInMore
import Derived.LoopNIn
import Derived.LoopIn
import Derived.RangeFuncBox
import Derived.RangeFuncWrites
import Derived.Laws.CopyOwn
import Derived.Deep.RegionLaw
import Derived.DeepKeys
import Derived.Lib.SmallJoins
import Derived.BigRegion
import Derived.Deep.RegionWith
import Derived.Deep.RegionHeld
import Derived.Laws.Cover3
import Derived.Deep.MidRow
import Derived.Deep.WholeRow
import Derived.Test.YtdakbipiifkmfaaGreatDoorGP25
import Derived.Test.YtdakbipiifkmfaaGreatDoorGSbp
namespace Go.Proofs.YtdakbipiifkmfaaGreatDoor
open Go.RowKit
set_option maxRecDepth 100000
theorem isMade_any {x : S5} {sd pf pb : List UInt8} {B : Nat} {W : World} {v : Value} {n : Nat} (h : TreeAt x sd pf pb B W v n) : Calls Tryz.prog 78 #[v] W (OldIs (.bool true) W) := by
 unfold OldIs;obtain ⟨g, A, c, hh, vs, vp, vb, rfl, hx, hp, _, _, hr⟩ := h.cells;have c3 := hr.cell 3;simp only [List.getElem?_cons_succ, List.getElem?_cons_zero] at c3;rw [hx] at c3;have HPP := Shh.mk hp;clear h hr hx hp;go_enter Tryz.func78, Tryz.ntmps78;go_wp2;go_ret;exact ⟨by rw [decide_eq_true HPP.out]; rfl, Below.refl _ _⟩
theorem TLeaves_any {x : S5} {sd pf pb : List UInt8} {B : Nat} {W : World} {v : Value} {n : Nat} (h : TreeAt x sd pf pb B W v n) : Calls Tryz.prog 36 #[v] W (OldIs (.int .i64 (n : Int)) W) := by
 unfold OldIs;have HM := Shh.mk (isMade_any h);obtain ⟨g, A, c, hh, vs, vp, vb, rfl, hx, hp, h20, hn, hr⟩ := h.cells;have hw : IntKind.i64.wrap (n : Int) = (n : Int) := by
  have h1 : 2 ^ hh <= 2 ^ 20 := Nat.pow_le_pow_right (by decide) h20;have h2 : 2 ^ 20 = 1048576 := by decide
  rw [IntKind.wrap_i64];generalize 2 ^ hh = P at *;omega
 have HR := Shh.mk hr;clear h hr hx hp hn h20;go_enter Tryz.func36, Tryz.ntmps36
 go_wp2_with (go_at_call 78; refine HM.out.mono ?_)
 unfold OldIs;rintro e w2 ⟨rfl, b2⟩;have c8 := (HR.out.go b2).cell 8;simp only [List.getElem?_cons_succ, List.getElem?_cons_zero] at c8;go_wp2;go_ret;exact ⟨rfl, b2⟩
theorem THeld_any {x : S5} {sd pf pb : List UInt8} {B : Nat} {W : World} {v : Value} {n : Nat} (h : TreeAt x sd pf pb B W v n) : Calls Tryz.prog 37 #[v] W (OldIs (.int .i64 (bitN n : Int)) W) := by
 unfold OldIs;have HM := Shh.mk (isMade_any h);obtain ⟨g, A, c, hh, vs, vp, vb, rfl, hx, hp, h20, hn, hr⟩ := h.cells;have HR := Shh.mk hr;generalize bitN n = k at HR ⊢;clear h hr hx hp hn h20;go_enter Tryz.func37, Tryz.ntmps37
 go_wp2_with (go_at_call 78; refine HM.out.mono ?_)
 unfold OldIs;rintro e w2 ⟨rfl, b2⟩;have c9 := (HR.out.go b2).cell 9;simp only [List.getElem?_cons_succ, List.getElem?_cons_zero] at c9;go_wp2;go_ret;exact ⟨rfl, b2⟩
section
variable {a : Act} {x y : Operand} {op : Oper} {w : World}
theorem eql_u32 {k j : Nat} {r : Bool} (h : r = decide (k = j)) (ho : op.op = .binOp .eql 22 x y 22) (hx : a.eval x = .int .u32 (k : Int)) (hy : a.eval y = .int .u32 (j : Int)) : (execOp a.eval op).run Tryz.prog w = .ok (.value (.bool r)) w := by
 by_cases hk : k = j
 ·subst hk;have hr : r = true := by rw [h]; exact decide_eq_true rfl
  subst hr;clear h;generalize (k : Int) = kk at *;unfold execOp;simp only [ho, hx, hy]
  go_simp
 ·have hr : r = false := by rw [h]; exact decide_eq_false hk
  subst hr;have h1 : ¬ (k : Int) = (j : Int) := fun e => hk (Int.ofNat.inj e)
  clear h;generalize (k : Int) = kk at *;generalize (j : Int) = jj at *;unfold execOp;simp only [ho, hx, hy]
  go_simp
end
set_option maxHeartbeats 1000000 in
theorem isWhole_any {x : S5} {sd pf pb : List UInt8} {B : Nat} {W : World} {v : Value} {n : Nat} (h : TreeAt x sd pf pb B W v n) : Calls Tryz.prog 79 #[v] W (OldIs (.bool (decide (n = 2 ^ x.h.toNat))) W) := by
 unfold OldIs;obtain ⟨g, A, c, hh, vs, vp, vb, rfl, hx, hp, h20, hn, hr⟩ := h.cells;have ht : x.h.toNat = hh := by omega
 rw [ht];obtain ⟨r, hr2⟩ : ∃ r : Bool, r = decide (n = 2 ^ hh) := ⟨_, rfl⟩;have HLV : Shh (∀ W, Calls Tryz.prog 69 #[x.v] W (OldIs (.int .u32 ((2 ^ hh : Nat) : Int)) W)) := ⟨fun W => leaves_any x hh hx h20 W⟩;rw [<- hr2];generalize 2 ^ hh = P at HLV hr2;generalize bitN n = k at hr;have HR2 := Shh.mk hr2;rw [hx] at hr;unfold S5.v at HLV;rw [hx] at HLV;clear h hr2 hp h20 hn hx ht;generalize x.c = xc at HLV hr;generalize x.s = xs at HLV hr;generalize x.n = xn at HLV hr;generalize x.l = xl at HLV hr;have HW := Shh.mk hr;clear hr;go_enter Tryz.func79, Tryz.ntmps79
 go_wp2_with fail
 refine wp_region_held_drew (S := fun w' => Row w' g 106 [.int .u32 xc, .bool xs, .int .i64 xn, .int .i64 (hh : Int), .int .i64 xl, vs, vp, vb, .int .u32 (n : Int), .slice A k c]) (by kernel_rfl) HW.out.drew (fun hS => ?_);clear hS;obtain ⟨V, hV⟩ : ∃ V, V = World.drew W := ⟨_, rfl⟩;rw [<- hV];have rG : Row V g 106 [.int .u32 xc, .bool xs, .int .i64 xn, .int .i64 (hh : Int), .int .i64 xl, vs, vp, vb, .int .u32 (n : Int), .slice A k c] := by rw [hV]; exact HW.out.drew
 have HBV : Shh (Below W.heap.size W V) := ⟨by rw [hV]; exact (Below.refl _ _).drew⟩;clear hV HW;refine hdv0 0 3 (.pointer (some ⟨g, 0, none⟩)) (by rfl) (rG) ?_;refine hdv0 1 4 (.pointer (some ⟨g, 0, none⟩)) (by rfl) (rG) ?_;refine hdv0 2 5 (.pointer (some ⟨g, 8, none⟩)) (by rfl) (rG) ?_;refine hdv 3 6 (.int .u32 (n : Int)) (by rfl) (fun w hS => load_u rfl (hS.cell 8) (by kernel_rfl)) (rG) ?_;refine hdv0 4 7 (.pointer (some ⟨g, 0, none⟩)) (by rfl) (rG) ?_;refine hdv0 5 8 (.pointer (some ⟨g, 0, none⟩)) (by rfl) (rG) ?_;refine hdv0 6 9 (.pointer (some ⟨g, 0, none⟩)) (by rfl) (rG) ?_;refine hdv0 7 10 (.pointer (some ⟨g, 0, none⟩)) (by rfl) (rG) ?_;refine held_load 8 27 (.tmp 10) (some 11) (by kernel_rfl) (by rfl) (by kernel_rfl) g 0 (by kernel_rfl) ([.int .u32 xc, .bool xs, .int .i64 xn, .int .i64 (hh : Int), .int .i64 xl]) _ (fun w h => Row.mid h 0 5) Tryz.underlying27 rfl (info_xms) (fun _ _ _ _ h => h) (rG) ?_;simp only [Act.put, arr9, hd9, tl9];refine held_one 9 (by kernel_rfl) ?_;refine step_call 9 _ _ (some 12) 69 #[.agg ([.int .u32 xc, .bool xs, .int .i64 xn, .int .i64 (hh : Int), .int .i64 xl]).toArray] (by rfl) (by kernel_rfl) (by first | kernel_rfl | go_simp) ?_;refine (HLV.out V).mono ?_;unfold OldIs; rintro e Y1 ⟨rfl, b9⟩;have bx : Below V.heap.size V Y1 := b9;clear b9;have b_V := bx;have m_Y1 : V.heap.size <= Y1.heap.size := bx.size;clear bx;refine ⟨_, rfl, (rG.go b_V), ?_⟩;simp only [Act.put, arr9, hd9, tl9];refine hdv 10 13 (.bool r) (by rfl) (fun w hS => eql_u32 HR2.out rfl (by kernel_rfl) (by kernel_rfl)) ((rG.go b_V)) ?_;refine hdv0 11 2 (.bool r) (by rfl) ((rG.go b_V)) ?_;refine wpAnyH_done (by kernel_rfl) ?_ _;have HR : Shh (Below W.heap.size W Y1) := ⟨Below.chain HBV.out b_V⟩;clear m_Y1 b_V HBV rG HLV HR2;go_wp2;go_ret;exact ⟨rfl, HR.out⟩
set_option maxHeartbeats 1000000 in
theorem TRoot_any {x : S5} {sd pf pb : List UInt8} {B : Nat} {W : World} {v : Value} {n : Nat} (h : TreeAt x sd pf pb B W v n) : Calls Tryz.prog 35 #[v] W (if n < 2 ^ x.h.toNat then ResIs W 9 [] else ResIs W 0 (rootB x.s x.n x.l.toNat x.h.toNat sd pb)) := by
 have HM := Shh.mk (isMade_any h);have HWH : Shh (∀ W', Below W.heap.size W W' -> Calls Tryz.prog 79 #[v] W' (OldIs (.bool (decide (n = 2 ^ x.h.toNat))) W')) := ⟨fun W' b => isWhole_any (h.go b)⟩;obtain ⟨g, vs, vp, vb, r, w0, rfl, h2, h3, h4, h5, h6, h7, h8, h9, h10, h11, h12⟩ := h;have hok := (badE_ok h3).1;have hn := S5.ok_is hok
 by_cases hlt : n < 2 ^ x.h.toNat
 ·rw [if_pos hlt];unfold ResIs;have hd : decide (n = 2 ^ x.h.toNat) = false := decide_eq_false (by omega);rw [hd] at HWH;clear hlt hd h2 h3 h4 h5 h6 h7 h8 h9 h10 h11 h12 hok hn;go_enter Tryz.func35, Tryz.ntmps35
  go_wp2_with (go_at_call 78; refine HM.out.mono ?_)
  unfold OldIs;rintro e w2 ⟨rfl, b2⟩
  go_wp2_with (go_at_call 79; refine (HWH.out _ b2).mono ?_)
  unfold OldIs;rintro e w3 ⟨rfl, b3⟩;have HB := Shh.mk (Below.chain b2 b3);clear HM HWH b2 b3;go_wp2;go_ret2;exact ⟨_, rfl, Sl.nil_, HB.out⟩
 ·rw [if_neg hlt];unfold ResIs;have he : n = 2 ^ x.h.toNat := by omega
  have hd : decide (n = 2 ^ x.h.toNat) = true := decide_eq_true he;rw [hd] at HWH;obtain ⟨root, hroot⟩ : ∃ root, root = rootB x.s x.n x.l.toNat x.h.toNat sd pb := ⟨_, rfl⟩;have hrl : root.length = x.n.toNat := by rw [hroot, rootB_node, nodeV_length hok]
  have HRL : Shh (0 < root.length /\ root.length <= 100000) := ⟨by omega, by omega⟩
  have HLA : Shh (∀ W', Below W.heap.size W W' -> Calls Tryz.prog 80 #[.pointer (some ⟨g, 9, none⟩)] W' (LastIs W' g r x.h.toNat root)) := ⟨fun W' b => by
   have h13 := h12.go b;rw [show stkA x.s x.n x.l.toNat sd pb x.h.toNat 0 n = [] ++ [(x.h.toNat, root)] by rw [he, stk_full, <- rootB_node, <- hroot]; rfl] at h13;have h14 := last_any W' _ _ _ _ _ [] x.h.toNat root (Nat.zero_le _) h13
   exact h14⟩
  rw [<- hroot];clear hroot;clear hlt hd he h12 h11;generalize x.h.toNat = H at HLA HWH ⊢;clear h2 h3 h4 h5 h6 h7 h8 h9 h10 hok hn hrl;go_enter Tryz.func35, Tryz.ntmps35
  go_wp2_with (go_at_call 78; refine HM.out.mono ?_)
  unfold OldIs;rintro e w2 ⟨rfl, b2⟩
  go_wp2_with (go_at_call 79; refine (HWH.out _ b2).mono ?_)
  unfold OldIs;rintro e w3 ⟨rfl, b3⟩;have HB := Shh.mk (Below.chain b2 b3);clear HM HWH b2 b3
  go_wp2_with (go_at_call 80; refine (HLA.out _ HB.out).mono ?_)
  unfold LastIs;rintro e w4 ⟨ul, rfl, sl, _, _, b4⟩;obtain ⟨Al, cl, rfl, _, _⟩ := sl.form;obtain ⟨kl, HKL⟩ : ∃ kl, Shh (kl = w4.heap.size) := ⟨_, ⟨rfl⟩⟩
  go_wp2_with (refine wpList_store_any rfl 108 (.tmp 4) (.tmp 17) rfl w4.heap.size rfl [.int .i64 (H : Int), .slice Al root.length cl] rfl 108 [.int .i64 0, .slice none 0 0] (Row.new_ rfl rfl) info_node rfl oneNode ?_)
  intro Z hr bt hsz;have bz : Below w4.heap.size w4 Z := (below1 _ _).trans (bt.under (by omega) (Nat.le_refl _));have HZ : Shh (Sl Z Z.heap.size (.slice Al root.length cl) root /\ Below W.heap.size W Z) := ⟨sl.go bz, Below.chain (Below.chain HB.out b4) bz⟩;have c1 := hr.cell 1;simp only [List.getElem?_cons_succ, List.getElem?_cons_zero] at c1;rw [<- HKL.out] at c1 ⊢;clear hr bt hsz HKL bz sl b4 HB HLA
  go_wp2_with (go_at_call 77; refine (clone8_any _ root Z HZ.out.1 HRL.out.1 HRL.out.2).mono ?_)
  unfold NewSl;rintro e w6 ⟨v6, rfl, s6, b6, _⟩;have HR : Shh (Sl w6 w6.heap.size v6 root /\ Below W.heap.size W w6) := ⟨s6, Below.chain HZ.out.2 b6⟩;clear HZ c1 s6 b6 HRL;go_wp2;go_ret2;exact ⟨_, rfl, HR.out⟩
theorem StkP.setPre {P : Value -> Prop} {w : World} {base g : Nat} {T : TypeId} {pre : List Value} {r : Option Nat} {l : List (Nat × List UInt8)} (h : StkP P w base g T pre r l) (j : Nat) (hj : j < pre.length) (z : Value) : StkP P (w.setCell ⟨g, j, none⟩ z) base g T (pre.set j z) r l /\ But w.heap.size g w (w.setCell ⟨g, j, none⟩ z) := by
 obtain ⟨v, ns, hr, ho, hl, hg, hb, hw, hs⟩ := h;have hb2 : But w.heap.size g w (w.setCell ⟨g, j, none⟩ z) := (But.refl _ _ _).setCell _ _;have hr2 := hr.set_ j z;rw [List.set_append_left _ _ hj] at hr2;refine ⟨⟨v, ns, hr2, ho, hl, hg, Nat.le_trans hb hb2.size, ⟨hw.1, ?_⟩, fun e he => ⟨((hs e he).1.but (hs e he).2.1 hb2).more hb2.size, (hs e he).2⟩⟩, hb2⟩
 rcases hw.2 with h1 | ⟨gb, cap, cur, e, hgb, hrw, rest⟩
 ·exact .inl h1
 ·exact .inr ⟨gb, cap, cur, e, hgb, (hb2.block gb (Array.getElem?_eq_some_iff.1 hrw).1 (by omega)).trans hrw, rest⟩
theorem TreeAt.tabs {x : S5} {sd pf pb : List UInt8} {B : Nat} {W : World} {v : Value} {n : Nat} (h : TreeAt x sd pf pb B W v n) : Tabs W /\ B <= W.heap.size := by
 obtain ⟨g, vs, vp, vb, r, w0, h1, h2, h3, h4, h5, h6, h7, h8, h9, h10, h11, h12⟩ := h;exact ⟨h10.go h6, Nat.le_trans h4 h6.size⟩
set_option maxHeartbeats 2000000 in
theorem TAdd_any {x : S5} {sd pf pb : List UInt8} {B : Nat} {W : World} {v : Value} {n : Nat} (h : TreeAt x sd pf pb B W v n) : Calls Tryz.prog 39 #[v] W (fun e W' => e = .returned (.int .i64 (if n < 2 ^ x.h.toNat then 0 else 6)) /\ TreeAt x sd pf pb B W' v (if n < 2 ^ x.h.toNat then n + 1 else n) /\ Tabs W' /\ Below B W W') := by
 have HM := Shh.mk (isMade_any h);have HWH : Shh (∀ W', Below W.heap.size W W' -> Calls Tryz.prog 79 #[v] W' (OldIs (.bool (decide (n = 2 ^ x.h.toNat))) W')) := ⟨fun W' b => isWhole_any (h.go b)⟩;have HT := Shh.mk h;obtain ⟨g, vs, vp, vb, r, w0, rfl, h2, h3, h4, h5, h6, h7, h8, h9, h10, h11, h12⟩ := h
 by_cases hlt : n < 2 ^ x.h.toNat
 ·rw [if_pos hlt, if_pos hlt];have hd : decide (n = 2 ^ x.h.toNat) = false := decide_eq_false (by omega);rw [hd] at HWH;have hk := badE_ok h3;obtain ⟨H, hxh, h20⟩ := ok_h hk.1;have htn : x.h.toNat = H := by omega
  rw [htn] at hlt h12;have hp20 : 2 ^ H <= 2 ^ 20 := Nat.pow_le_pow_right (by decide) h20;have h20e : 2 ^ 20 = 1048576 := by decide
  have HST : Shh (∀ W', Below W.heap.size W W' -> Calls Tryz.prog 81 #[.agg (srcL x vs vp vb).toArray, .pointer (some ⟨g, 9, none⟩), .int .u32 (n : Int)] W' (PutS W' (g + 1) g 106 (srcL x vs vp vb ++ [.int .u32 (n : Int)]) (stkA x.s x.n x.l.toNat sd pb H 0 (n + 1)))) := ⟨fun W' b => by
   have h13 := store_any x h2 hk.1 vs vp vb sd pf pb w0 h7 h8 h9 (hk.2 sd (by simp)) (hk.2 pb (by simp)) h10 W' (g + 1) g 106 (srcL x vs vp vb ++ [.int .u32 (n : Int)]) r H 0 n hlt (by omega) (by omega) (h6.trans (b.mono h6.size)) h5 (h12.go b);rw [Nat.zero_mul, Nat.zero_add] at h13
   exact h13⟩
  have HN : Shh (n + 1 < 4294967296) := ⟨by omega⟩
  have HPO : Shh (∀ W' r', StkAt W' (g + 1) g 106 (srcL x vs vp vb ++ [.int .u32 ((n + 1 : Nat) : Int)]) r' (stkA x.s x.n x.l.toNat sd pb H 0 (n + 1)) -> But (g + 1) g W W' -> TreeAt x sd pf pb B W' (.pointer (some ⟨g, 0, none⟩)) (n + 1) /\ Tabs W' /\ Below B W W') := ⟨fun W' r' hs hb => by
   have b1 : Below w0.heap.size W W' := (hb.mono (by omega)).under (Nat.le_refl _) h5
   refine ⟨⟨g, vs, vp, vb, r', w0, rfl, h2, h3, h4, h5, h6.trans b1, h7, h8, h9, h10, by rw [htn]; exact hlt, by rw [htn]; exact hs⟩, h10.go (h6.trans b1), b1.mono h4⟩⟩
  have HRW : Shh (∃ z, Row W g 106 ((srcL x vs vp vb ++ [.int .u32 (n : Int)]) ++ [z])) := ⟨h12.row⟩;have HGL : Shh (g + 1 <= W.heap.size) := ⟨h12.base_le.2⟩;obtain ⟨PO, hPO⟩ : ∃ PO : World -> Prop, PO = fun W' => TreeAt x sd pf pb B W' (.pointer (some ⟨g, 0, none⟩)) (n + 1) /\ Tabs W' /\ Below B W W' := ⟨_, rfl⟩
  generalize stkA x.s x.n x.l.toNat sd pb H 0 (n + 1) = LST at HST HPO;have HPO2 : Shh (∀ W' r', StkAt W' (g + 1) g 106 (srcL x vs vp vb ++ [.int .u32 ((n + 1 : Nat) : Int)]) r' LST -> But (g + 1) g W W' -> PO W') := ⟨fun W' r' h1 h2 => by rw [hPO]; exact HPO.out W' r' h1 h2⟩;suffices HC : Calls Tryz.prog 39 #[.pointer (some ⟨g, 0, none⟩)] W (fun e W' => e = .returned (.int .i64 0) /\ PO W') by rw [hPO] at HC; exact HC
  clear hPO HPO HT hlt hd h2 h3 h4 h5 h6 h7 h8 h9 h10 h11 h12 hk htn hp20 h20e;generalize 2 ^ x.h.toNat = PP at HWH;clear hxh h20;unfold srcL at HST HPO2 HRW;generalize x.c = xc at HST HPO2 HRW;generalize x.s = xs at HST HPO2 HRW;generalize x.n = xn at HST HPO2 HRW;generalize x.h = xh at HST HPO2 HRW;generalize x.l = xl at HST HPO2 HRW;go_enter Tryz.func39, Tryz.ntmps39
  go_wp2_with (go_at_call 78; refine HM.out.mono ?_)
  unfold OldIs;rintro e w2 ⟨rfl, b2⟩
  go_wp2_with (go_at_call 79; refine (HWH.out _ b2).mono ?_)
  unfold OldIs;rintro e w3 ⟨rfl, b3⟩;have HB := Shh.mk (Below.chain b2 b3);clear HM HWH b2 b3;go_wp2;have hr3 : ∃ z, Row w3 g 106 (([.int .u32 xc, .bool xs, .int .i64 xn, .int .i64 xh, .int .i64 xl, vs, vp, vb, .int .u32 (n : Int)] : List Value) ++ [z]) := by
   obtain ⟨z, hz⟩ := HRW.out;exact ⟨z, hz.go HB.out⟩
  have hr4 : ∃ z, Row w3.drew g 106 (([.int .u32 xc, .bool xs, .int .i64 xn, .int .i64 xh, .int .i64 xl, vs, vp, vb, .int .u32 (n : Int)] : List Value) ++ [z]) := by
   obtain ⟨z, hz⟩ := hr3;exact ⟨z, hz.drew⟩
  refine wp_region_held_drew (S := fun w' => ∃ z, Row w' g 106 (([.int .u32 xc, .bool xs, .int .i64 xn, .int .i64 xh, .int .i64 xl, vs, vp, vb, .int .u32 (n : Int)] : List Value) ++ [z])) (by kernel_rfl) hr4 (fun hS => ?_);clear hS hr3;obtain ⟨V, hV⟩ : ∃ V, V = World.drew w3 := ⟨_, rfl⟩;rw [<- hV] at hr4 ⊢;have rG := hr4;have HBV : Shh (Below W.heap.size W V) := ⟨by rw [hV]; exact HB.out.drew⟩;clear hV HB HRW hr4;refine hdv0 0 8 (.pointer (some ⟨g, 0, none⟩)) (by rfl) (rG) ?_;refine hdv0 1 9 (.pointer (some ⟨g, 0, none⟩)) (by rfl) (rG) ?_;refine hdv0 2 10 (.pointer (some ⟨g, 0, none⟩)) (by rfl) (rG) ?_;refine hdv0 4 12 (.pointer (some ⟨g, 0, none⟩)) (by rfl) (rG) ?_;refine hdv0 5 13 (.pointer (some ⟨g, 0, none⟩)) (by rfl) (rG) ?_;refine hdv0 6 14 (.pointer (some ⟨g, 9, none⟩)) (by rfl) (rG) ?_;refine hdv0 7 15 (.pointer (some ⟨g, 0, none⟩)) (by rfl) (rG) ?_;refine hdv0 8 16 (.pointer (some ⟨g, 0, none⟩)) (by rfl) (rG) ?_;refine hdv0 9 17 (.pointer (some ⟨g, 8, none⟩)) (by rfl) (rG) ?_;refine hdv 10 18 (.int .u32 (n : Int)) (by rfl) (fun w hS => load_u rfl (hS.choose_spec.cell 8) (by kernel_rfl)) (rG) ?_;refine held_load 3 70 (.tmp 10) (some 11) (by kernel_rfl) (by rfl) (by kernel_rfl) g 0 (by kernel_rfl) (([.int .u32 xc, .bool xs, .int .i64 xn, .int .i64 xh, .int .i64 xl, vs, vp, vb] : List Value)) _ (fun w h => Row.mid h.choose_spec 0 8) Tryz.underlying70 rfl (info_src) (fun _ _ _ _ h => h) (rG) ?_;simp only [Act.put, arr9, hd9, tl9];refine held_one 11 (by kernel_rfl) ?_;refine step_call 11 _ _ (some 19) 81 #[.agg (([.int .u32 xc, .bool xs, .int .i64 xn, .int .i64 xh, .int .i64 xl, vs, vp, vb] : List Value)).toArray, .pointer (some ⟨g, 9, none⟩), .int .u32 (n : Int)] (by rfl) (by kernel_rfl) (by first | kernel_rfl | go_simp) ?_;refine (HST.out V HBV.out).mono ?_;unfold PutS; rintro e Y1 ⟨⟨v5, rfl⟩, ⟨r5, s5⟩, b5⟩;replace rG := s5.row;refine ⟨_, rfl, rG, ?_⟩;simp only [Act.put, arr9, hd9, tl9];refine wpAnyH_done (by kernel_rfl) ?_ _;obtain ⟨z2, hz2⟩ := s5.row;have c8 := hz2.cell 8;have f8 := hz2.free 8;simp only [List.cons_append, List.nil_append, List.getElem?_cons_succ, List.getElem?_cons_zero] at c8;have hs8 := s5.setPre 8 (show (8 : Nat) < 9 from by decide) (.int .u32 ((n + 1 : Nat) : Int));have HF : Shh (PO (Y1.setCell ⟨g, 8, none⟩ (.int .u32 ((n + 1 : Nat) : Int)))) := ⟨HPO2.out _ r5 hs8.1 ((((But.of HBV.out g).mono HGL.out).trans b5).trans (hs8.2.mono (Nat.le_trans (Nat.le_trans HGL.out HBV.out.size) b5.size)))⟩;clear hz2 hs8 s5 b5 rG HBV HST HPO2
  go_wp2_with (refine wl_value (.int .u32 ((n + 1 : Nat) : Int)) rfl (add_32 rfl HN.out rfl rfl rfl) ?_)
  go_ret;exact ⟨rfl, HF.out⟩
 ·rw [if_neg hlt, if_neg hlt];have he : n = 2 ^ x.h.toNat := by omega
  have hd : decide (n = 2 ^ x.h.toNat) = true := decide_eq_true he;rw [hd] at HWH;clear hlt hd he h2 h3 h4 h5 h6 h7 h8 h9 h10 h11 h12;have HB0 := Shh.mk (fun W' (b : Below W.heap.size W W') => (⟨HT.out.go b, (HT.out.go b).tabs.1, b.mono HT.out.tabs.2⟩ : TreeAt x sd pf pb B W' (.pointer (some ⟨g, 0, none⟩)) n /\ Tabs W' /\ Below B W W'));generalize 2 ^ x.h.toNat = PP at HWH;go_enter Tryz.func39, Tryz.ntmps39
  go_wp2_with (go_at_call 78; refine HM.out.mono ?_)
  unfold OldIs;rintro e w2 ⟨rfl, b2⟩
  go_wp2_with (go_at_call 79; refine (HWH.out _ b2).mono ?_)
  unfold OldIs;rintro e w3 ⟨rfl, b3⟩;have HB := Shh.mk (HB0.out _ (Below.chain b2 b3));clear HM HWH b2 b3 HB0 HT;go_wp2;go_ret;exact ⟨rfl, HB.out⟩
end Go.Proofs.YtdakbipiifkmfaaGreatDoor
