import Derived.BigRegion
import Derived.Deep.RegionWith
import Derived.Deep.RegionHeld
import Derived.BigQuiet
import Derived.Deep.QuietTactic
import Derived.StillTailTactics
import Derived.WalkKit
import Derived.Test.YtdakbipiifkmfaaGreatDoorProg
import Derived.WalkSpells
import Derived.WalkLawsBesides
import Derived.Lib.UnsafeStr
import Derived.Lib.Hide
import Derived.Laws.BytesArg
import Derived.Deep.Draws
import Derived.RegionTactic
import Derived.ChangeAlike
import Derived.Laws.AppendOwnNone
import Derived.Laws.Cover3
import Derived.RangeFuncNested
import Derived.RangeFuncBound
import Derived.RangeFuncCalls
import Derived.RangeFuncLeaves
import Derived.OwnWalkIn
import Derived.TacticsInMore
import Derived.LoopNIn
import Derived.LoopIn
import Derived.RangeFuncBox
import Derived.RangeFuncWrites
import Derived.Maps.AppendAt
import Derived.Deep.MidRow
import Derived.Deep.WholeRow
import Derived.Deep.RegionHeld3
import Derived.Test.YtdakbipiifkmfaaGreatDoorRows
import Derived.ProofKit
import Derived.OpenShut
import Derived.JoinedCond
import Derived.SizedLaws
import Derived.Carry
import Derived.Deep.Grids
import Derived.Lib.ConvBytes
import Derived.Lib.AtoiErrMem
import Derived.Laws.AppendOwn
import Derived.Deep.RegionLaw
import Derived.Laws.CopyOwn
import Derived.DeepKeys
import Derived.Lib.SmallJoins
import Derived.Laws.EntriesVeiled
import Derived.Test.YtdakbipiifkmfaaGreatDoorHP7
namespace Go.Proofs.YtdakbipiifkmfaaGreatDoor
open Go.RowKit
set_option maxRecDepth 100000
theorem otsAdrs_any (i : Nat) (hi : i < 4294967296) (w : World) : Calls Tryz.prog 62 #[.int .u32 (i : Int)] w (OldIs (adrV (adr11 0 i 0 0)) w) := by
 unfold OldIs
 have HE : Shh (adrV (adr11 0 i 0 0) = .agg ([.int .u32 0, .int .u32 0, .int .u32 0, .int .u32 0, .int .u32 (i : Int), .int .u32 0, .int .u32 0, .int .u32 0] : List Value).toArray) := ⟨by
  rw [ofNat_cell hi]
  rfl⟩
 rw [HE.out];clear HE hi;go_enter Tryz.func62, Tryz.ntmps62;go_wp2;exact ret_row (T := 64) (cs := [.int .u32 0, .int .u32 0, .int .u32 0, .int .u32 0, .int .u32 (i : Int), .int .u32 0, .int .u32 0, .int .u32 0]) Tryz.results62 rfl rfl (Row.new_ rfl rfl) Tryz.underlying64 rfl info_adr ⟨rfl, below1 _ _⟩
theorem leaves_any (x : S5) (h : Nat) (hh : x.h = (h : Int)) (h20 : h <= 20) (w : World) : Calls Tryz.prog 69 #[x.v] w (OldIs (.int .u32 ((2 ^ h : Nat) : Int)) w) := by
 unfold OldIs;obtain ⟨p, hp⟩ : ∃ p, p = 2 ^ h := ⟨_, rfl⟩;have h1 : 2 ^ h <= 2 ^ 20 := Nat.pow_le_pow_right (by decide) h20;have HP : Shh (p = 1 * 2 ^ h /\ p < 4294967296 /\ h <= 32) := ⟨by omega, by rw [hp]; exact Nat.lt_of_le_of_lt h1 (by decide), by omega⟩;rw [<- hp];clear hp h1;have HB : Shh (Below w.heap.size w (w.alloc (.cells #[.int .u32 x.c, .bool x.s, .int .i64 x.n, .int .i64 x.h, .int .i64 x.l] 27))) := ⟨below1 _ _⟩;unfold S5.v;generalize x.c = xc at *;generalize x.s = xs at *;generalize x.n = xn at *;generalize x.h = xh at *;generalize x.l = xl at *;subst hh;go_enter Tryz.func69, Tryz.ntmps69
 go_wp2_with (refine wl_value (.int .u32 (p : Int)) rfl (shl_32 HP.out.1 HP.out.2.2 HP.out.2.1 rfl rfl rfl) ?_)
 go_ret;exact ⟨rfl, HB.out⟩
theorem info_src : (Tryz.prog.info? 70).map (·.size) = some 8 := by kernel_rfl
theorem info_key3 : (Tryz.prog.info? 25).map (·.size) = some 3 := by kernel_rfl
theorem oneSrc {a : Int} {b : Bool} {c d e : Int} {A B C : Option Addr} {k l m n o p : Nat} : ∀ u ∈ [Value.int .u32 a, .bool b, .int .i64 c, .int .i64 d, .int .i64 e, .slice A k l, .slice B m n, .slice C o p], u.oneCell' = true := by
 intro u hu;simp only [List.mem_cons, List.not_mem_nil, or_false] at hu
 rcases hu with rfl | rfl | rfl | rfl | rfl | rfl | rfl | rfl <;> rfl
def srcL (x : S5) (vs vp vb : Value) : List Value := [.int .u32 x.c, .bool x.s, .int .i64 x.n, .int .i64 x.h, .int .i64 x.l, vs, vp, vb]
def srcZ : List Value := [.int .u32 0, .bool false, .int .i64 0, .int .i64 0, .int .i64 0, .slice none 0 0, .slice none 0 0, .slice none 0 0]
set_option maxHeartbeats 2000000 in
theorem sourceOf_any (x : S5) (vs vp vb : Value) (sd pf pb : List UInt8) (w : World) (hw : x.wf) (hs : Sl w w.heap.size vs sd) (hp : Sl w w.heap.size vp pf) (hb : Sl w w.heap.size vb pb) :
  Calls Tryz.prog 49 #[x.v, keyV vs vp vb] w (OldIs (.tuple #[.agg (if badE x [sd, pf, pb] = 0 then srcL x vs vp vb else srcZ).toArray, .int .i64 (badE x [sd, pf, pb])]) w) := by
 unfold OldIs;obtain ⟨As, cs, rfl, _, _⟩ := hs.form;obtain ⟨Ap, cp, rfl, _, _⟩ := hp.form;obtain ⟨Ab, cb, rfl, _, _⟩ := hb.form;have HC : Shh (∀ (v : Value) (B : Nat) W, PartsO W B B v [sd, pf, pb] -> B <= W.heap.size -> Calls Tryz.prog 82 #[x.v, v] W (OldIs (.int .i64 (badE x [sd, pf, pb])) W)) := ⟨fun v B W h hB => check11_any x hw v [sd, pf, pb] B B W h hB (by simp)⟩;generalize badE x [sd, pf, pb] = er at HC ⊢;obtain ⟨SV, hSV⟩ : ∃ SV : List Value, SV = if er = 0 then srcL x (.slice As sd.length cs) (.slice Ap pf.length cp) (.slice Ab pb.length cb) else srcZ := ⟨_, rfl⟩;rw [<- hSV];have HSV : Shh ((er = 0 -> SV = [.int .u32 x.c, .bool x.s, .int .i64 x.n, .int .i64 x.h, .int .i64 x.l, .slice As sd.length cs, .slice Ap pf.length cp, .slice Ab pb.length cb]) /\ (¬ er = 0 -> SV = [.int .u32 0, .bool false, .int .i64 0, .int .i64 0, .int .i64 0, .slice none 0 0, .slice none 0 0, .slice none 0 0])) := ⟨fun h => by rw [hSV, if_pos h]; rfl, fun h => by rw [hSV, if_neg h]; rfl⟩;clear hSV;unfold keyV;obtain ⟨W0, hW0⟩ : ∃ W0, W0 = ((w.alloc (.cells #[.int .u32 x.c, .bool x.s, .int .i64 x.n, .int .i64 x.h, .int .i64 x.l] 27)).alloc (.cells #[.slice As sd.length cs, .slice Ap pf.length cp, .slice Ab pb.length cb] 25)).alloc (.cells #[.int .u32 0, .bool false, .int .i64 0, .int .i64 0, .int .i64 0, .slice none 0 0, .slice none 0 0, .slice none 0 0] 70) := ⟨_, rfl⟩;have HW0 : Shh (Row W0 w.heap.size 27 [.int .u32 x.c, .bool x.s, .int .i64 x.n, .int .i64 x.h, .int .i64 x.l] /\ Row W0 (w.heap.size + 1) 25 [.slice As sd.length cs, .slice Ap pf.length cp, .slice Ab pb.length cb] /\ Row W0 (w.heap.size + 2) 70 [.int .u32 0, .bool false, .int .i64 0, .int .i64 0, .int .i64 0, .slice none 0 0, .slice none 0 0, .slice none 0 0] /\ W0.heap.size = w.heap.size + 3 /\ Below w.heap.size w W0) := by
  rw [hW0];exact ⟨((Row.new_ rfl rfl).alloc _).alloc _, (Row.new_ (by rw [asz]) rfl).alloc _, Row.new_ (by rw [asz, asz]) rfl, by rw [asz, asz, asz], Below.chain (Below.chain (below1 _ _) (below1 _ _)) (below1 _ _)⟩
 obtain ⟨W, hW⟩ : ∃ W, W = W0.alloc (.cells #[.slice As sd.length cs, .slice Ap pf.length cp, .slice Ab pb.length cb] 23) := ⟨_, rfl⟩;have HW : Shh (Row W w.heap.size 27 [.int .u32 x.c, .bool x.s, .int .i64 x.n, .int .i64 x.h, .int .i64 x.l] /\ Row W (w.heap.size + 1) 25 [.slice As sd.length cs, .slice Ap pf.length cp, .slice Ab pb.length cb] /\ Row W (w.heap.size + 2) 70 [.int .u32 0, .bool false, .int .i64 0, .int .i64 0, .int .i64 0, .slice none 0 0, .slice none 0 0, .slice none 0 0] /\ PartsO W (w.heap.size + 4) (w.heap.size + 4) (.slice (some ⟨w.heap.size + 3, 0, none⟩) 3 3) [sd, pf, pb] /\ w.heap.size + 4 <= W.heap.size /\ Below w.heap.size w W) := by
  have b0 : Below w.heap.size w W := by rw [hW]; exact Below.chain HW0.out.2.2.2.2 (below1 _ _)
  refine ⟨by rw [hW]; exact HW0.out.1.alloc _, by rw [hW]; exact HW0.out.2.1.alloc _, by rw [hW]; exact HW0.out.2.2.1.alloc _, ?_, by rw [hW, asz, HW0.out.2.2.2.1]; exact Nat.le_refl _, b0⟩;exact PartsO.three (by omega) (by omega) (by rw [hW]; exact Row.new_ HW0.out.2.2.2.1.symm rfl) ((hs.below b0).more (by omega)) (hs.off (by omega)) ((hp.below b0).more (by omega)) (hp.off (by omega)) ((hb.below b0).more (by omega)) (hb.off (by omega))
 clear hs hp hb hw;unfold S5.v at HC ⊢;generalize x.c = xc at *;generalize x.s = xs at *;generalize x.n = xn at *;generalize x.h = xh at *;generalize x.l = xl at *;go_enter Tryz.func49, Tryz.ntmps49
 go_wp2_with (go_at_call 82; rw [<- hW0, <- hW]; refine (HC.out _ _ _ HW.out.2.2.2.1 HW.out.2.2.2.2.1).mono ?_)
 unfold OldIs;rintro e w2 ⟨rfl, b2⟩;obtain ⟨M, hM⟩ : ∃ M, Shh (M = w.heap.size + 2) := ⟨_, ⟨rfl⟩⟩;have H2 : Shh (Row w2 w.heap.size 27 [.int .u32 xc, .bool xs, .int .i64 xn, .int .i64 xh, .int .i64 xl] /\ Row w2 (w.heap.size + 1) 25 [.slice As sd.length cs, .slice Ap pf.length cp, .slice Ab pb.length cb] /\ Row w2 M 70 [.int .u32 0, .bool false, .int .i64 0, .int .i64 0, .int .i64 0, .slice none 0 0, .slice none 0 0, .slice none 0 0] /\ Below w.heap.size w w2 /\ M + 2 <= w2.heap.size /\ w.heap.size + 2 = M) := ⟨HW.out.1.go b2, HW.out.2.1.go b2, by rw [hM.out]; exact HW.out.2.2.1.go b2, Below.chain HW.out.2.2.2.2.2 b2, by rw [hM.out]; have := b2.size; have := HW.out.2.2.2.2.1; omega, hM.out.symm⟩;clear HW hW b2 HC HW0 hW0 hM;rw [show w.heap.size + 1 + 1 = M by have := H2.out.2.2.2.2.2; omega]
 by_cases her : er = 0
 ·have HS1 := Shh.mk (HSV.out.1 her);subst her;clear HSV
  go_wp2_with (first | refine wpList_load_any rfl 27 (.tmp 2) rfl w.heap.size rfl 27 [.int .u32 xc, .bool xs, .int .i64 xn, .int .i64 xh, .int .i64 xl] _ H2.out.1 Tryz.underlying27 rfl info_xms ?_ | refine wpList_load_any rfl 25 (.tmp 3) rfl (w.heap.size + 1) rfl 25 [.slice As sd.length cs, .slice Ap pf.length cp, .slice Ab pb.length cb] _ H2.out.2.1 Tryz.underlying25 rfl info_key3 ?_ | refine wpList_store_any rfl 70 (.tmp 4) (.tmp 22) rfl M rfl [.int .u32 xc, .bool xs, .int .i64 xn, .int .i64 xh, .int .i64 xl, .slice As sd.length cs, .slice Ap pf.length cp, .slice Ab pb.length cb] rfl 70 [.int .u32 0, .bool false, .int .i64 0, .int .i64 0, .int .i64 0, .slice none 0 0, .slice none 0 0, .slice none 0 0] H2.out.2.2.1 info_src rfl oneSrc ?_)
  intro Z hr bt hsz;have HR : Shh (Row Z M 70 [.int .u32 xc, .bool xs, .int .i64 xn, .int .i64 xh, .int .i64 xl, .slice As sd.length cs, .slice Ap pf.length cp, .slice Ab pb.length cb] /\ Below w.heap.size w Z) := ⟨hr, H2.out.2.2.2.1.trans (bt.under (by have := H2.out.2.2.2.1.size; omega) (by have := H2.out.2.2.2.2.2; omega))⟩;clear hr bt hsz H2;go_wp2;exact ret_rs Tryz.results49 rfl rfl rfl HR.out.1 Tryz.underlying70 rfl info_src ⟨by rw [HS1.out]; rfl, HR.out.2⟩
 ·have hne : (er != 0) = true := by simp [her]
  have HS1 := Shh.mk (HSV.out.2 her);clear her HSV
  go_wp2_with (refine wpList_store_any rfl 70 (.tmp 4) (.tmp 18) rfl M rfl [.int .u32 0, .bool false, .int .i64 0, .int .i64 0, .int .i64 0, .slice none 0 0, .slice none 0 0, .slice none 0 0] rfl 70 [.int .u32 0, .bool false, .int .i64 0, .int .i64 0, .int .i64 0, .slice none 0 0, .slice none 0 0, .slice none 0 0] H2.out.2.2.1 info_src rfl oneSrc ?_)
  intro Z hr bt hsz;have HR : Shh (Row Z M 70 [.int .u32 0, .bool false, .int .i64 0, .int .i64 0, .int .i64 0, .slice none 0 0, .slice none 0 0, .slice none 0 0] /\ Below w.heap.size w Z) := ⟨hr, H2.out.2.2.2.1.trans (bt.under (by have := H2.out.2.2.2.1.size; omega) (by have := H2.out.2.2.2.2.2; omega))⟩;clear hr bt hsz H2;go_wp2;exact ret_rs Tryz.results49 rfl rfl rfl HR.out.1 Tryz.underlying70 rfl info_src ⟨by rw [HS1.out]; rfl, HR.out.2⟩
set_option maxHeartbeats 2000000 in
theorem leaf_any (x : S5) (hw : x.wf) (hx : x.ok = true) (vs vp vb : Value) (sd pf pb : List UInt8) (i : Nat) (hi : i < 4294967296) (w : World) (hs : Sl w w.heap.size vs sd) (hp : Sl w w.heap.size vp pf) (hb : Sl w w.heap.size vb pb) (hsl : (sd.length : Int) = x.n) (hbl : (pb.length : Int) = x.n) (ht : Tabs w) :
  Calls Tryz.prog 44 #[.agg (srcL x vs vp vb).toArray, .int .u32 (i : Int)] w (NewSl w (leafB x.s x.n x.l.toNat sd pb i)) := by
 unfold NewSl;obtain ⟨As, cs, rfl, _, _⟩ := hs.form;obtain ⟨Ap, cp, rfl, _, _⟩ := hp.form;obtain ⟨Ab, cb, rfl, _, _⟩ := hb.form;obtain ⟨en, hen⟩ : ∃ en, en = endsB x.s x.n sd pb (adr11 0 i 0 0) (dOf []) x.l.toNat := ⟨_, rfl⟩;obtain ⟨out, hout⟩ : ∃ out, out = leafB x.s x.n x.l.toNat sd pb i := ⟨_, rfl⟩;rw [<- hout];have hn := S5.ok_is hx;have hbad : badE x [sd, pb] = 0 := by
  unfold badE;rw [hx];simp [hsl, hbl]
 have HEN : Shh (∀ W, Sl W W.heap.size (.slice As sd.length cs) sd -> Sl W W.heap.size (.slice Ab pb.length cb) pb -> Tabs W -> Calls Tryz.prog 86 #[x.v, .slice As sd.length cs, .slice Ab pb.length cb, adrV (adr11 0 i 0 0)] W (ResIs W 0 en)) := ⟨fun W h1 h2 h3 => by
  have h := Public_any x hw _ _ sd pb (adr11 0 i 0 0) rfl W h1 h2 h3;rw [hbad] at h;have e : pubB x sd pb (adr11 0 i 0 0) = en := by unfold pubB; rw [if_pos hbad, hen]
  rw [e] at h
  exact h⟩
 have HLT : Shh (∀ ve W, Sl W W.heap.size (.slice Ab pb.length cb) pb -> Sl W W.heap.size ve en -> Tabs W -> Calls Tryz.prog 75 #[x.v, .slice Ab pb.length cb, ve, .int .u32 (i : Int)] W (NewSl W out)) := ⟨fun ve W h1 h2 h3 => by
  have e : out = ltreeB x.s x.n x.l.toNat pb en i := by rw [hout, hen]; rfl
  rw [e]
  exact ltree_any x hw hx _ ve pb en i hi x.l.toNat x.n.toNat (by omega) (by omega) (by rw [hen, endsB_len hx, Nat.mul_comm]) (by omega) W h1 h2 h3⟩
 have HI := Shh.mk hi;unfold srcL;obtain ⟨W, hW⟩ : ∃ W, W = w.alloc (.cells #[.int .u32 x.c, .bool x.s, .int .i64 x.n, .int .i64 x.h, .int .i64 x.l, .slice As sd.length cs, .slice Ap pf.length cp, .slice Ab pb.length cb] 70) := ⟨_, rfl⟩;have HW : Shh (Row W w.heap.size 70 [.int .u32 x.c, .bool x.s, .int .i64 x.n, .int .i64 x.h, .int .i64 x.l, .slice As sd.length cs, .slice Ap pf.length cp, .slice Ab pb.length cb] /\ Sl W W.heap.size (.slice As sd.length cs) sd /\ Sl W W.heap.size (.slice Ab pb.length cb) pb /\ Tabs W /\ Below w.heap.size w W) := by
  rw [hW];exact ⟨Row.new_ rfl rfl, hs.go (below1 _ _), hb.go (below1 _ _), ht.go (below1 _ _), below1 _ _⟩
 clear hen hout hs hp hb ht hsl hbl hn hbad hi hw hx;unfold adrV at HEN;unfold S5.v at HEN HLT;generalize x.c = xc at *;generalize x.s = xs at *;generalize x.n = xn at *;generalize x.h = xh at *;generalize x.l = xl at *;go_enter Tryz.func44, Tryz.ntmps44
 go_wp2_with fail
 rw [<- hW];clear hW;refine wp_region_held_drew (S := fun w' => Row w' w.heap.size 70 [.int .u32 xc, .bool xs, .int .i64 xn, .int .i64 xh, .int .i64 xl, .slice As sd.length cs, .slice Ap pf.length cp, .slice Ab pb.length cb]) (by kernel_rfl) HW.out.1.drew (fun hS => ?_);clear hS;obtain ⟨V, hV⟩ : ∃ V, V = World.drew W := ⟨_, rfl⟩;rw [<- hV];have rX : Row V w.heap.size 70 [.int .u32 xc, .bool xs, .int .i64 xn, .int .i64 xh, .int .i64 xl, .slice As sd.length cs, .slice Ap pf.length cp, .slice Ab pb.length cb] := by rw [hV]; exact HW.out.1.drew
 have sS : Sl V V.heap.size (.slice As sd.length cs) sd := by rw [hV]; exact HW.out.2.1.drew
 have sB : Sl V V.heap.size (.slice Ab pb.length cb) pb := by rw [hV]; exact HW.out.2.2.1.drew
 have rT : Tabs V := HW.out.2.2.2.1.go (by rw [hV]; exact (Below.refl _ _).drew);have HBV : Below w.heap.size w V := by rw [hV]; exact HW.out.2.2.2.2.drew
 clear hV HW;refine hdv0 0 8 (.pointer (some ⟨w.heap.size, 0, none⟩)) (by rfl) (rX) ?_;refine hdv0 2 10 (.pointer (some ⟨w.heap.size, 5, none⟩)) (by rfl) (rX) ?_;refine hdv0 3 11 (.pointer (some ⟨w.heap.size, 5, none⟩)) (by rfl) (rX) ?_;refine hdv 4 12 (.slice As sd.length cs) (by rfl) (fun w hS => load_p rfl (hS.cell 5) (by kernel_rfl)) (rX) ?_;refine hdv0 5 13 (.pointer (some ⟨w.heap.size, 5, none⟩)) (by rfl) (rX) ?_;refine hdv0 6 14 (.pointer (some ⟨w.heap.size, 7, none⟩)) (by rfl) (rX) ?_;refine hdv 7 15 (.slice Ab pb.length cb) (by rfl) (fun w hS => load_p rfl (hS.cell 7) (by kernel_rfl)) (rX) ?_;refine hdv0 8 16 (.int .u32 (i : Int)) (by rfl) (rX) ?_;refine held_load 1 27 (.tmp 8) (some 9) (by kernel_rfl) (by rfl) (by kernel_rfl) w.heap.size 0 (by kernel_rfl) ([.int .u32 xc, .bool xs, .int .i64 xn, .int .i64 xh, .int .i64 xl]) _ (fun w h => Row.mid h 0 5) Tryz.underlying27 rfl (info_xms) (fun _ _ _ _ h => h) (rX) ?_;simp only [Act.put, arr9, hd9, tl9];refine held_one 9 (by kernel_rfl) ?_;refine step_call 9 _ _ (some 17) 62 #[.int .u32 (i : Int)] (by rfl) (by kernel_rfl) (by first | kernel_rfl | go_simp) ?_;refine (otsAdrs_any i HI.out V).mono ?_;unfold OldIs adrV; rintro e Y1 ⟨rfl, b4⟩;have bx : Below V.heap.size V Y1 := b4;clear b4;have b_V := bx;have m_Y1 : V.heap.size <= Y1.heap.size := bx.size;clear bx;refine ⟨_, rfl, (rX.go b_V), ?_⟩;simp only [Act.put, arr9, hd9, tl9];refine held_one 10 (by kernel_rfl) ?_;refine step_call 10 _ _ (some 18) 86 #[.agg ([.int .u32 xc, .bool xs, .int .i64 xn, .int .i64 xh, .int .i64 xl]).toArray, .slice As sd.length cs, .slice Ab pb.length cb, .agg (wordCells (adr11 0 i 0 0)).toArray] (by rfl) (by kernel_rfl) (by first | kernel_rfl | go_simp) ?_;refine (HEN.out Y1 ((sS.go b_V)) ((sB.go b_V)) ((rT.go b_V))).mono ?_;unfold ResIs; rintro e Y2 ⟨v, rfl, gv, bv⟩;have bx : Below Y1.heap.size Y1 Y2 := bv;obtain ⟨Ae, ce, vEq, _, _⟩ := gv.form;subst vEq;have sE := gv;clear gv;replace b_V := Below.chain b_V bx;have b_Y1 := bx;have m_Y2 : Y1.heap.size <= Y2.heap.size := bx.size;clear bx;refine ⟨_, rfl, (rX.go b_V), ?_⟩;simp only [Act.put, arr9, hd9, tl9];refine hdv0 11 7 (.tuple #[.slice Ae en.length ce, .int .i64 0]) (by rfl) ((rX.go b_V)) ?_;refine hdv0 12 19 (.slice Ae en.length ce) (by rfl) ((rX.go b_V)) ?_;refine hdv0 13 20 (.int .i64 0) (by rfl) ((rX.go b_V)) ?_;refine hdv0 14 5 (.slice Ae en.length ce) (by rfl) ((rX.go b_V)) ?_;refine hdv0 15 6 (.int .i64 0) (by rfl) ((rX.go b_V)) ?_;refine wpAnyH_done (by kernel_rfl) ?_ _;have H2 : Shh (Row Y2 w.heap.size 70 [.int .u32 xc, .bool xs, .int .i64 xn, .int .i64 xh, .int .i64 xl, .slice As sd.length cs, .slice Ap pf.length cp, .slice Ab pb.length cb] /\ Sl Y2 Y2.heap.size (.slice Ab pb.length cb) pb /\ Sl Y2 Y2.heap.size (.slice Ae en.length ce) en /\ Tabs Y2 /\ Below w.heap.size w Y2) := ⟨(rX.go b_V), (sB.go b_V), sE, (rT.go b_V), Below.chain HBV b_V⟩;clear m_Y2 b_Y1 sE m_Y1 b_V HBV rX sS sB rT HEN;generalize hq9 : Y2 = W9 at H2 ⊢;clear hq9;have e7 := H2.out.1.cell 7;simp only [List.getElem?_cons_succ, List.getElem?_cons_zero] at e7
 go_wp2_with (first | refine wpList_load_mid rfl 27 (.tmp 21) rfl w.heap.size 0 rfl [.int .u32 xc, .bool xs, .int .i64 xn, .int .i64 xh, .int .i64 xl] _ (Row.mid H2.out.1 0 5) Tryz.underlying27 rfl info_xms ?_ | (go_at_call 75; refine (HLT.out _ _ H2.out.2.1 H2.out.2.2.1 H2.out.2.2.2.1).mono ?_))
 unfold NewSl;rintro e w3 ⟨v3, rfl, s3, b3, o3⟩;have HR : Shh (Sl w3 w3.heap.size v3 out /\ Below w.heap.size w w3 /\ ∀ g, g < w.heap.size -> Off g v3) := ⟨s3, Below.chain H2.out.2.2.2.2 b3, fun g hg => o3 g (Nat.lt_of_lt_of_le hg H2.out.2.2.2.2.size)⟩;clear H2 s3 b3 o3 HLT HI e7;go_wp2;go_ret;exact ⟨_, rfl, HR.out⟩
end Go.Proofs.YtdakbipiifkmfaaGreatDoor
