import Derived.WalkKit
import Derived.Test.YtdakbipiifkmfaaGreatDoorProg
import Derived.WalkSpells
import Derived.WalkLawsBesides
import Derived.Lib.UnsafeStr
import Derived.Lib.Hide
import Derived.Laws.BytesArg
import Derived.Deep.Draws
import Derived.RegionTactic
import Derived.ChangeAlike
import Derived.Laws.AppendOwnNone
import Derived.BigQuiet
import Derived.Deep.QuietTactic
import Derived.Lib.ConvBytes
import Derived.Lib.AtoiErrMem
import Derived.Laws.AppendOwn
import Derived.Test.YtdakbipiifkmfaaGreatDoorRows
import Derived.ProofKit
import Derived.OpenShut
import Derived.JoinedCond
import Derived.SizedLaws
import Derived.Carry
import Derived.Deep.Grids
import Derived.Deep.RegionHeld3
import Derived.Laws.CopyOwn
import Derived.Deep.RegionLaw
import Derived.DeepKeys
import Derived.Lib.SmallJoins
import Derived.StillTailTactics
import Derived.BigRegion
import Derived.Deep.RegionWith
import Derived.Deep.RegionHeld
import Derived.Laws.Cover3
import Derived.Deep.MidRow
import Derived.Deep.WholeRow
import Derived.Laws.EntriesVeiled
import Derived.Lib.SliceRun
import Derived.Test.YtdakbipiifkmfaaGreatDoorGK
import Derived.Test.YtdakbipiifkmfaaGreatDoorGY
namespace Go.Proofs.YtdakbipiifkmfaaGreatDoor
open Go.RowKit
set_option maxRecDepth 100000
def nodeV (s : Bool) (n : Int) (L : Nat) (sd pb : List UInt8) : Nat -> Nat -> List UInt8
 | 0, i => leafB s n L sd pb i
 | h + 1, i => rwF s n pb h i (nodeV s n L sd pb h (2 * i)) (nodeV s n L sd pb h (2 * i + 1))
def stkL (V : Nat -> Nat -> List UInt8) (o : Nat -> Nat) : Nat -> Nat -> Nat -> List (Nat × List UInt8)
 | 0, _, _ => []
 | f + 1, h, q => stkL V o f (h + 1) (q / 2) ++ if q % 2 = 1 then [(h, V h (o h + q - 1))] else []
section
variable {V : Nat -> Nat -> List UInt8} {o : Nat -> Nat}
theorem stk_zero : ∀ f h, stkL V o f h 0 = []
 | 0, _ => rfl
 | f + 1, h => by
  show stkL V o f (h + 1) (0 / 2) ++ _ = _;rw [Nat.zero_div, stk_zero f (h + 1)];rfl
theorem stk_even (f h q : Nat) (hq : q % 2 = 0) : stkL V o (f + 1) h q = stkL V o f (h + 1) (q / 2) := by
 show stkL V o f (h + 1) (q / 2) ++ _ = _;rw [if_neg (by omega), List.append_nil]
theorem stk_odd (f h q : Nat) (hq : q % 2 = 1) : stkL V o (f + 1) h q = stkL V o f (h + 1) (q / 2) ++ [(h, V h (o h + q - 1))] := by
 show stkL V o f (h + 1) (q / 2) ++ _ = _;rw [if_pos hq]
theorem stk_len : ∀ f h q, q < 2 ^ f -> (stkL V o f h q).length = bitN q
 | 0, _, q, hq => by
  obtain rfl : q = 0 := by simp at hq; exact hq
  rw [bitN_zero]; rfl
 | f + 1, h, q, hq => by
  rw [Nat.pow_succ] at hq
  by_cases h0 : q = 0
  ·subst h0;rw [stk_zero, bitN_zero]; rfl
  ·rw [bitN_pos (by omega)]
   by_cases hp : q % 2 = 1
   ·rw [stk_odd f h q hp, List.length_append, stk_len f (h + 1) (q / 2) (by omega), hp, List.length_singleton, Nat.add_comm]
   ·rw [stk_even f h q (by omega), stk_len f (h + 1) (q / 2) (by omega)]; omega
end
def offK (K i h : Nat) : Nat := i * 2 ^ (K - h)
def stkA (s : Bool) (n : Int) (L : Nat) (sd pb : List UInt8) (K i m : Nat) : List (Nat × List UInt8) := stkL (nodeV s n L sd pb) (offK K i) (K + 1) 0 m
theorem stk_bits (s : Bool) (n : Int) (L : Nat) (sd pb : List UInt8) (K i m : Nat) (hm : m <= 2 ^ K) : (stkA s n L sd pb K i m).length = bitN m := stk_len _ _ _ (by rw [Nat.pow_succ]; have := Nat.two_pow_pos K; omega)
end Go.Proofs.YtdakbipiifkmfaaGreatDoor
namespace Go.Proofs.YtdakbipiifkmfaaGreatDoor
open Go.RowKit
set_option maxRecDepth 100000
theorem isSet11_of (xc : Int) (xs : Bool) (xn xh xl : Int) (yc : Int) (ys : Bool) (yn yh yl : Int) (ee : Int) (hxc : (Lit.int .u32 xc).wf = true) (hxn : (Lit.int .i64 xn).wf = true) (hxh : (Lit.int .i64 xh).wf = true) (hxl : (Lit.int .i64 xl).wf = true) (hyc : (Lit.int .u32 yc).wf = true) (hyn : (Lit.int .i64 yn).wf = true) (hyh : (Lit.int .i64 yh).wf = true) (hyl : (Lit.int .i64 yl).wf = true) (hset : ∀ W, Calls Tryz.prog 101 #[.int .u32 xc] W (OldIs (.tuple #[.agg #[.int .u32 yc, .bool ys, .int .i64 yn, .int .i64 yh, .int .i64 yl], .int .i64 ee]) W)) (w : World) :
  Calls Tryz.prog 66 #[.agg #[.int .u32 xc, .bool xs, .int .i64 xn, .int .i64 xh, .int .i64 xl]] w (OldIs (.bool (decide (ee = 0 /\ (xc = yc /\ xs = ys /\ xn = yn /\ xh = yh /\ xl = yl)))) w) := by
 unfold OldIs;have HW : Shh (Row (w.alloc (.cells #[.int .u32 xc, .bool xs, .int .i64 xn, .int .i64 xh, .int .i64 xl] 27)) w.heap.size 27 [.int .u32 xc, .bool xs, .int .i64 xn, .int .i64 xh, .int .i64 xl] /\ Below w.heap.size w (w.alloc (.cells #[.int .u32 xc, .bool xs, .int .i64 xn, .int .i64 xh, .int .i64 xl] 27))) := ⟨Row.new_ rfl rfl, Below.alloc (Below.refl _ _) (Nat.le_refl _) _⟩
 by_cases he : ee = 0
 ·subst he;have hres : decide ((0 : Int) = 0 /\ (xc = yc /\ xs = ys /\ xn = yn /\ xh = yh /\ xl = yl)) = decide (xc = yc /\ xs = ys /\ xn = yn /\ xh = yh /\ xl = yl) := by
   refine decide_eq_decide.2 ⟨fun h => ?_, fun h => ?_⟩
   ·obtain ⟨_, rfl, rfl, rfl, rfl, rfl⟩ := h;exact ⟨rfl, rfl, rfl, rfl, rfl⟩
   ·obtain ⟨rfl, rfl, rfl, rfl, rfl⟩ := h;exact ⟨rfl, rfl, rfl, rfl, rfl, rfl⟩
  have heq := fun W : World => eq_xms xc xs xn xh xl yc ys yn yh yl hxc hxn hxh hxl hyc hyn hyh hyl W
  rw [hres];generalize decide (xc = yc /\ xs = ys /\ xn = yn /\ xh = yh /\ xl = yl) = r at heq ⊢;clear hres;go_enter Tryz.func66, Tryz.ntmps66
  go_wp2_with (go_at_call 101; refine (hset _).mono ?_)
  unfold OldIs;rintro e w2 ⟨rfl, b2⟩;have F2 : Shh (Row w2 w.heap.size 27 [.int .u32 xc, .bool xs, .int .i64 xn, .int .i64 xh, .int .i64 xl] /\ Below w.heap.size w w2) := ⟨HW.out.1.go b2, Below.chain HW.out.2 b2⟩;clear HW b2 hset;obtain ⟨G, hG⟩ : ∃ G, Shh (G = w2.heap.size) := ⟨_, ⟨rfl⟩⟩
  go_wp2_with (refine wpList_store_any rfl 27 (.tmp 3) (.tmp 9) rfl G (by rw [hG.out]; rfl) [.int .u32 yc, .bool ys, .int .i64 yn, .int .i64 yh, .int .i64 yl] rfl 27 _ (Row.new_ hG.out rfl) info_xms rfl oneCell5 ?_)
  intro Z hr bt _;have F3 : Shh (Row Z w.heap.size 27 [.int .u32 xc, .bool xs, .int .i64 xn, .int .i64 xh, .int .i64 xl] /\ Row Z G 27 [.int .u32 yc, .bool ys, .int .i64 yn, .int .i64 yh, .int .i64 yl] /\ Below w.heap.size w Z) := by
   have hl := F2.out.1.lt;refine ⟨bt.row (F2.out.1.alloc _) (by first | omega | (simp only [asz]; omega)) (by have := hG.out; omega), hr, Below.chain F2.out.2 ?_⟩;exact (Below.alloc (Below.refl _ _) (Nat.le_refl _) _).trans (bt.under (by first | omega | (simp only [asz]; omega)) (by have := hG.out; omega))
  rw [<- hG.out];clear hr bt F2 hG
  go_wp2_with (first | refine wl_loadW 27 (.tmp 1) rfl w.heap.size rfl 27 [.int .u32 xc, .bool xs, .int .i64 xn, .int .i64 xh, .int .i64 xl] _ rfl F3.out.1 Tryz.underlying27 rfl info_xms ?_ | refine wl_loadW 27 (.tmp 3) rfl G rfl 27 [.int .u32 yc, .bool ys, .int .i64 yn, .int .i64 yh, .int .i64 yl] _ rfl F3.out.2.1 Tryz.underlying27 rfl info_xms ?_ | refine wl_eqlW 27 27 (.tmp 14) (.tmp 15) rfl #[.int .u32 xc, .bool xs, .int .i64 xn, .int .i64 xh, .int .i64 xl] #[.int .u32 yc, .bool ys, .int .i64 yn, .int .i64 yh, .int .i64 yl] rfl rfl rfl (by kernel_rfl) r (heq _) ?_)
  go_ret;exact ⟨rfl, F3.out.2.2⟩
 ·have hres : (decide (ee = 0 /\ (xc = yc /\ xs = ys /\ xn = yn /\ xh = yh /\ xl = yl))) = false := decide_eq_false fun h => he h.1
  rw [hres];clear hres;go_enter Tryz.func66, Tryz.ntmps66
  go_wp2_with (go_at_call 101; refine (hset _).mono ?_)
  unfold OldIs;rintro e w2 ⟨rfl, b2⟩;have F2 : Shh (Row w2 w.heap.size 27 [.int .u32 xc, .bool xs, .int .i64 xn, .int .i64 xh, .int .i64 xl] /\ Below w.heap.size w w2) := ⟨HW.out.1.go b2, Below.chain HW.out.2 b2⟩;clear HW b2 hset;obtain ⟨G, hG⟩ : ∃ G, Shh (G = w2.heap.size) := ⟨_, ⟨rfl⟩⟩
  go_wp2_with (refine wpList_store_any rfl 27 (.tmp 3) (.tmp 9) rfl G (by rw [hG.out]; rfl) [.int .u32 yc, .bool ys, .int .i64 yn, .int .i64 yh, .int .i64 yl] rfl 27 _ (Row.new_ hG.out rfl) info_xms rfl oneCell5 ?_)
  intro Z hr bt _;have F3 : Shh (True /\ Below w.heap.size w Z) := by
   refine ⟨trivial, Below.chain F2.out.2 ?_⟩;exact (Below.alloc (Below.refl _ _) (Nat.le_refl _) _).trans (bt.under (by first | omega | (simp only [asz]; omega)) (by have := hG.out; omega))
  clear hr bt F2 hG;go_wp2;go_ret;exact ⟨rfl, F3.out.2⟩
theorem isSet11_any (x : S5) (h : x.wf) (w : World) : Calls Tryz.prog 66 #[x.v] w (OldIs (.bool x.ok) w) := by
 obtain ⟨xc, xs, xn, xh, xl⟩ := x;have hn := c5_nat h;simp only at hn;have hw := xms_wf xc.toNat hn.2;exact isSet11_of xc xs xn xh xl (xC xc.toNat) (xSh xc.toNat) (xN xc.toNat) (xH xc.toNat : Int) (xL xc.toNat) (xE xc.toNat) h.1 h.2.1 h.2.2.1 h.2.2.2 hw.1 hw.2.1 hw.2.2.1 hw.2.2.2 (fun W => by have := xmss_any xc.toNat hn.2 W; rw [hn.1] at this; exact this) w
set_option maxHeartbeats 1000000 in
theorem check11_any (x : S5) (hw : x.wf) (v : Value) (bss : List (List UInt8)) (B g : Nat) (w : World) (hp : PartsO w B g v bss) (hB : B <= w.heap.size) (hn : bss.length <= 1000000) :
  Calls Tryz.prog 82 #[x.v, v] w (OldIs (.int .i64 (badE x bss)) w) := by
 unfold OldIs;obtain ⟨A, c, rfl⟩ := hp.form;have HM : Shh (∀ W, Calls Tryz.prog 66 #[x.v] W (OldIs (.bool x.ok) W)) := ⟨fun W => isSet11_any x hw W⟩;unfold S5.v at HM ⊢;have HP := Shh.mk hp;clear hp;have HW : Shh (Row (w.alloc (.cells #[.int .u32 x.c, .bool x.s, .int .i64 x.n, .int .i64 x.h, .int .i64 x.l] 27)) w.heap.size 27 [.int .u32 x.c, .bool x.s, .int .i64 x.n, .int .i64 x.h, .int .i64 x.l] /\ Below w.heap.size w (w.alloc (.cells #[.int .u32 x.c, .bool x.s, .int .i64 x.n, .int .i64 x.h, .int .i64 x.l] 27))) := ⟨Row.new_ rfl rfl, below1 _ _⟩;cases hok : x.ok with
 | false =>
  have HE : Shh (badE x bss = 60) := ⟨by unfold badE; rw [hok]; rfl⟩;rw [HE.out];rw [hok] at HM;clear hok HE hw;generalize x.c = xc at *;generalize x.s = xs at *;generalize x.n = xn at *;generalize x.h = xh at *;generalize x.l = xl at *;go_enter Tryz.func82, Tryz.ntmps82
  go_wp2_with (go_at_call 66; refine (HM.out _).mono ?_)
  unfold OldIs;rintro e w2 ⟨rfl, b2⟩;have HB := Shh.mk (Below.chain HW.out.2 b2);clear b2 HW HM;go_wp2;go_ret;exact ⟨rfl, HB.out⟩
 | true =>
  obtain ⟨E, hE⟩ : ∃ E, E = badE x bss := ⟨_, rfl⟩;rw [<- hE];have HE : Shh (E = if bss.all (fun b => decide ((b.length : Int) = x.n)) then 0 else 1) := ⟨by rw [hE]; unfold badE; rw [hok]; rfl⟩;rw [hok] at HM;clear hok hE hw;generalize x.c = xc at *;generalize x.s = xs at *;generalize x.n = xn at *;generalize x.h = xh at *;generalize x.l = xl at *;go_enter Tryz.func82, Tryz.ntmps82
  go_wp2_with (go_at_call 66; refine (HM.out _).mono ?_)
  unfold OldIs;rintro e w2 ⟨rfl, b2⟩;have H2 : Shh (Row w2 w.heap.size 27 [.int .u32 xc, .bool xs, .int .i64 xn, .int .i64 xh, .int .i64 xl] /\ Below w.heap.size w w2) := ⟨HW.out.1.go b2, Below.chain HW.out.2 b2⟩;clear b2 HW HM;go_wp2;go_loopw [12] (fun i wr => ∃ k : Nat, k <= bss.length /\ i = .int .i64 (k : Int) /\ Shh (Row wr w.heap.size 27 [.int .u32 xc, .bool xs, .int .i64 xn, .int .i64 xh, .int .i64 xl] /\ Below w.heap.size w wr /\ ∀ j (h : j < bss.length), j < k -> (bss[j].length : Int) = xn)) (fun i _ => bss.length - (intOf i).toNat)
  case atStart => exact ⟨0, Nat.zero_le _, rfl, ⟨H2.out.1, H2.out.2, fun _ _ h => absurd h (Nat.not_lt_zero _)⟩⟩
  case round =>
   clear H2;obtain ⟨k, hk, rfl, HL⟩ := hrel
   by_cases hlt : k < bss.length
   ·obtain ⟨q, off, rfl, hq, hqg, hcc⟩ := HP.out.at_ (by omega);obtain ⟨u, hcu, hsu, _⟩ := hcc k hlt;obtain ⟨Au, cu, rfl, _, _⟩ := hsu.form;have hcx := (HL.out.2.1.cell (p := ⟨q, off + k, none⟩) (show q < w.heap.size by omega)).trans hcu;have e2 := HL.out.1.cell 2;simp only [List.getElem?_cons_succ, List.getElem?_cons_zero] at e2
    have HX : Shh (bss[k] ∈ bss /\ ∀ j (h : j < bss.length), j < k + 1 -> (bss[k].length : Int) = xn -> (bss[j].length : Int) = xn) := ⟨List.getElem_mem hlt, fun j hj hjk he => by
     by_cases e : j = k
     ·subst e; exact he
     ·exact HL.out.2.2 j hj (by omega)⟩
    clear hcu hsu hcc;obtain ⟨ln, hln⟩ : ∃ ln, ln = bss[k].length := ⟨_, rfl⟩;have HLN := Shh.mk hln;rw [<- hln] at hcx;clear hln
    by_cases heq : (ln : Int) = xn
    ·have hne : ((ln : Int) != xn) = false := by simp [heq]
     have HR : Shh (Row wr w.heap.size 27 [.int .u32 xc, .bool xs, .int .i64 xn, .int .i64 xh, .int .i64 xl] /\ Below w.heap.size w wr /\ ∀ j (h : j < bss.length), j < k + 1 -> (bss[j].length : Int) = xn) := ⟨HL.out.1, HL.out.2.1, fun j hj hjk => HX.out.2 j hj hjk (by rw [<- HLN.out]; exact heq)⟩;clear heq HL HX HLN;go_wp2
     go_round
     case rel => exact ⟨k + 1, by omega, by go_num, ⟨HR.out.1, HR.out.2.1, HR.out.2.2⟩⟩
     case measure => simp [intOf]; omega
    ·have hne : ((ln : Int) != xn) = true := by simp [heq]
     have HR : Shh (E = 1 /\ Below w.heap.size w wr) := ⟨by
      rw [HE.out, if_neg];intro hh
      exact heq (by rw [HLN.out]; exact of_decide_eq_true (List.all_eq_true.1 hh _ HX.out.1)), HL.out.2.1⟩
     clear heq HL HX HLN HE;go_wp2;go_ret;exact ⟨by rw [HR.out.1]; rfl, HR.out.2⟩
   ·obtain rfl : k = bss.length := by omega
    have HR : Shh (E = 0 /\ Below w.heap.size w wr) := ⟨by
     rw [HE.out, if_pos];rw [List.all_eq_true];intro b hb;obtain ⟨j, hj, rfl⟩ := List.getElem_of_mem hb
     exact decide_eq_true (HL.out.2.2 j hj hj), HL.out.2.1⟩
    clear HL HE;go_wp2;go_ret;exact ⟨by rw [HR.out.1]; rfl, HR.out.2⟩
end Go.Proofs.YtdakbipiifkmfaaGreatDoor
namespace Go.Proofs.YtdakbipiifkmfaaGreatDoor
open Go.RowKit
set_option maxRecDepth 100000
theorem off_none {n : Nat} : ∀ g, g < n -> Off g (.slice none 0 0) := fun g _ x l c h hl => by cases h
theorem ksumN_any (x : S5) (hw : x.wf) (kind : Nat) (hk : kind <= 4) (vk vm : Value) (key m : List UInt8) (w : World) (hkey : Sl w w.heap.size vk key) (hm : Sl w w.heap.size vm m) (ht : Tabs w) (hl1 : key.length <= 100000) (hl2 : m.length <= 100000) :
  Calls Tryz.prog 94 #[x.v, .int .u8 (kind : Int), vk, vm] w (NewSl w (sumK x kind key m)) := by
 unfold NewSl;obtain ⟨A1, c1, rfl, _, _⟩ := hkey.form;obtain ⟨A2, c2, rfl, _, _⟩ := hm.form;have HM : Shh (∀ W, Calls Tryz.prog 120 #[x.v] W (OldIs (.bool x.ok) W)) := ⟨fun W => isSet_any x hw W⟩;obtain ⟨W, hW⟩ : ∃ W, W = w.alloc (.cells #[.int .u32 x.c, .bool x.s, .int .i64 x.n, .int .i64 x.h, .int .i64 x.l] 27) := ⟨_, rfl⟩;have HW : Shh (Row W w.heap.size 27 [.int .u32 x.c, .bool x.s, .int .i64 x.n, .int .i64 x.h, .int .i64 x.l] /\ Sl W W.heap.size (.slice A1 key.length c1) key /\ Sl W W.heap.size (.slice A2 m.length c2) m /\ Tabs W /\ Below w.heap.size w W) := by
  rw [hW];exact ⟨Row.new_ rfl rfl, hkey.go (below1 _ _), hm.go (below1 _ _), ht.go (below1 _ _), below1 _ _⟩
 clear hkey hm ht;unfold S5.v at HM ⊢;cases hok : x.ok with
 | false =>
  have HS : Shh (sumK x kind key m = []) := ⟨by unfold sumK; rw [hok]; rfl⟩;rw [HS.out];rw [hok] at HM;clear hok HS hw;generalize x.c = xc at *;generalize x.s = xs at *;generalize x.n = xn at *;generalize x.h = xh at *;generalize x.l = xl at *;go_enter Tryz.func94, Tryz.ntmps94
  go_wp2_with (first | (rw [<- hW]; refine wpList_load_any rfl 27 (.tmp 4) rfl w.heap.size rfl 27 [.int .u32 xc, .bool xs, .int .i64 xn, .int .i64 xh, .int .i64 xl] _ HW.out.1 Tryz.underlying27 rfl info_xms ?_) | (go_at_call 120; refine (HM.out _).mono ?_))
  rw [<- hW];unfold OldIs;rintro e w2 ⟨rfl, b2⟩;have HB : Shh (Below w.heap.size w w2) := ⟨Below.chain HW.out.2.2.2.2 b2⟩;clear b2 HW hW HM;go_wp2;go_ret;exact ⟨_, rfl, Sl.nil_, HB.out, off_none⟩
 | true =>
  have HK : Shh (∀ W, Sl W W.heap.size (.slice A1 key.length c1) key -> Tabs W -> w.heap.size < W.heap.size -> Calls Tryz.prog 121 #[x.v, .int .u8 (kind : Int), .slice A1 key.length c1] W (KeyIs W w.heap.size x.s x.n kind key)) := ⟨fun W h1 h2 h3 => keyed_any x hok kind hk _ key W h1 hl1 h2 w.heap.size h3⟩;have HS : Shh (sumK x kind key m = keyd x.s x.n kind key m) := ⟨by unfold sumK; rw [hok]; rfl⟩;rw [HS.out];unfold S5.v at HK;rw [hok] at HM;clear hok hw HS;generalize x.c = xc at *;generalize x.s = xs at *;generalize x.n = xn at *;generalize x.h = xh at *;generalize x.l = xl at *;go_enter Tryz.func94, Tryz.ntmps94
  go_wp2_with (first | (rw [<- hW]; refine wpList_load_any rfl 27 (.tmp 4) rfl w.heap.size rfl 27 [.int .u32 xc, .bool xs, .int .i64 xn, .int .i64 xh, .int .i64 xl] _ HW.out.1 Tryz.underlying27 rfl info_xms ?_) | (go_at_call 120; refine (HM.out _).mono ?_))
  rw [<- hW];unfold OldIs;rintro e w2 ⟨rfl, b2⟩;have H2 : Shh (Row w2 w.heap.size 27 [.int .u32 xc, .bool xs, .int .i64 xn, .int .i64 xh, .int .i64 xl] /\ Sl w2 w2.heap.size (.slice A1 key.length c1) key /\ Sl w2 w2.heap.size (.slice A2 m.length c2) m /\ Tabs w2 /\ Below w.heap.size w w2) := ⟨HW.out.1.go b2, HW.out.2.1.go b2, HW.out.2.2.1.go b2, HW.out.2.2.2.1.go b2, Below.chain HW.out.2.2.2.2 b2⟩;clear b2 HW hW HM
  go_wp2_with (first | refine wpList_load_any rfl 27 (.tmp 4) rfl w.heap.size rfl 27 [.int .u32 xc, .bool xs, .int .i64 xn, .int .i64 xh, .int .i64 xl] _ H2.out.1 Tryz.underlying27 rfl info_xms ?_ | (go_at_call 121; refine (HK.out _ H2.out.2.1 H2.out.2.2.2.1 H2.out.1.lt).mono ?_))
  unfold KeyIs;rintro e w3 ⟨v3, rfl, k3, b3⟩;obtain ⟨F, q1, q2, rfl, hcf, kf⟩ := k3;have KF := Shh.mk kf;have H3 : Shh (Sl w3 w3.heap.size (.slice A2 m.length c2) m /\ Tabs w3 /\ Below w.heap.size w w3) := ⟨H2.out.2.2.1.go b3, H2.out.2.2.2.1.go b3, Below.chain H2.out.2.2.2.2 b3⟩;clear H2 b3 HK kf
  go_wp2_with (with_reducible show Calls Tryz.prog F _ _ _; refine (KF.out w3 _ m (But.refl _ _ _) H3.out.2.1 H3.out.1 hl2).mono ?_)
  unfold NewSl;rintro e w4 ⟨v, rfl, s4, b4, o4⟩;have HR : Shh (Sl w4 w4.heap.size v (keyd xs xn kind key m) /\ Below w.heap.size w w4 /\ ∀ g, g < w.heap.size -> Off g v) := ⟨s4, Below.chain H3.out.2.2 b4, fun g hg => o4 g (Nat.lt_of_lt_of_le hg H3.out.2.2.size)⟩;clear H3 s4 b4 o4 KF hcf;go_wp2;go_ret;exact ⟨_, rfl, HR.out⟩
theorem HN_any (x : S5) (hw : x.wf) (vk vm : Value) (key m : List UInt8) (w : World) (hkey : Sl w w.heap.size vk key) (hm : Sl w w.heap.size vm m) (ht : Tabs w) (hl1 : key.length <= 100000) (hl2 : m.length <= 100000) :
  Calls Tryz.prog 113 #[x.v, vk, vm] w (NewSl w (sumK x 1 key m)) := by
 unfold NewSl;have HK : Shh (∀ W, Sl W W.heap.size vk key -> Sl W W.heap.size vm m -> Tabs W -> Calls Tryz.prog 94 #[x.v, .int .u8 (1 : Int), vk, vm] W (NewSl W (sumK x 1 key m))) := ⟨fun W h1 h2 h3 => ksumN_any x hw 1 (by decide) vk vm key m W h1 h2 h3 hl1 hl2⟩;obtain ⟨A1, c1, rfl, _, _⟩ := hkey.form;obtain ⟨A2, c2, rfl, _, _⟩ := hm.form;obtain ⟨W, hW⟩ : ∃ W, W = w.alloc (.cells #[.int .u32 x.c, .bool x.s, .int .i64 x.n, .int .i64 x.h, .int .i64 x.l] 27) := ⟨_, rfl⟩;have HW : Shh (Row W w.heap.size 27 [.int .u32 x.c, .bool x.s, .int .i64 x.n, .int .i64 x.h, .int .i64 x.l] /\ Sl W W.heap.size (.slice A1 key.length c1) key /\ Sl W W.heap.size (.slice A2 m.length c2) m /\ Tabs W /\ Below w.heap.size w W) := by
  rw [hW];exact ⟨Row.new_ rfl rfl, hkey.go (below1 _ _), hm.go (below1 _ _), ht.go (below1 _ _), below1 _ _⟩
 clear hkey hm ht;unfold S5.v at HK ⊢;generalize sumK x 1 key m = out at HK ⊢;clear hw;generalize x.c = xc at *;generalize x.s = xs at *;generalize x.n = xn at *;generalize x.h = xh at *;generalize x.l = xl at *;go_enter Tryz.func113, Tryz.ntmps113
 go_wp2_with (first | (rw [<- hW]; refine wpList_load_any rfl 27 (.tmp 3) rfl w.heap.size rfl 27 [.int .u32 xc, .bool xs, .int .i64 xn, .int .i64 xh, .int .i64 xl] _ HW.out.1 Tryz.underlying27 rfl info_xms ?_) | (go_at_call 94; rw [<- hW]; refine (HK.out _ HW.out.2.1 HW.out.2.2.1 HW.out.2.2.2.1).mono ?_))
 clear hW;unfold NewSl;rintro e w2 ⟨v, rfl, s2, b2, o2⟩;have HR : Shh (Sl w2 w2.heap.size v out /\ Below w.heap.size w w2 /\ ∀ g, g < w.heap.size -> Off g v) := ⟨s2, Below.chain HW.out.2.2.2.2 b2, fun g hg => o2 g (Nat.lt_of_lt_of_le hg HW.out.2.2.2.2.size)⟩;clear HW s2 b2 o2 HK;go_wp2;go_ret;exact ⟨_, rfl, HR.out⟩
theorem PrfN_any (x : S5) (hw : x.wf) (vk vm : Value) (key m : List UInt8) (w : World) (hkey : Sl w w.heap.size vk key) (hm : Sl w w.heap.size vm m) (ht : Tabs w) (hl1 : key.length <= 100000) (hl2 : m.length <= 100000) :
  Calls Tryz.prog 58 #[x.v, vk, vm] w (NewSl w (sumK x 3 key m)) := by
 unfold NewSl;have HK : Shh (∀ W, Sl W W.heap.size vk key -> Sl W W.heap.size vm m -> Tabs W -> Calls Tryz.prog 94 #[x.v, .int .u8 (3 : Int), vk, vm] W (NewSl W (sumK x 3 key m))) := ⟨fun W h1 h2 h3 => ksumN_any x hw 3 (by decide) vk vm key m W h1 h2 h3 hl1 hl2⟩;obtain ⟨A1, c1, rfl, _, _⟩ := hkey.form;obtain ⟨A2, c2, rfl, _, _⟩ := hm.form;obtain ⟨W, hW⟩ : ∃ W, W = w.alloc (.cells #[.int .u32 x.c, .bool x.s, .int .i64 x.n, .int .i64 x.h, .int .i64 x.l] 27) := ⟨_, rfl⟩;have HW : Shh (Row W w.heap.size 27 [.int .u32 x.c, .bool x.s, .int .i64 x.n, .int .i64 x.h, .int .i64 x.l] /\ Sl W W.heap.size (.slice A1 key.length c1) key /\ Sl W W.heap.size (.slice A2 m.length c2) m /\ Tabs W /\ Below w.heap.size w W) := by
  rw [hW];exact ⟨Row.new_ rfl rfl, hkey.go (below1 _ _), hm.go (below1 _ _), ht.go (below1 _ _), below1 _ _⟩
 clear hkey hm ht;unfold S5.v at HK ⊢;generalize sumK x 3 key m = out at HK ⊢;clear hw;generalize x.c = xc at *;generalize x.s = xs at *;generalize x.n = xn at *;generalize x.h = xh at *;generalize x.l = xl at *;go_enter Tryz.func58, Tryz.ntmps58
 go_wp2_with (first | (rw [<- hW]; refine wpList_load_any rfl 27 (.tmp 3) rfl w.heap.size rfl 27 [.int .u32 xc, .bool xs, .int .i64 xn, .int .i64 xh, .int .i64 xl] _ HW.out.1 Tryz.underlying27 rfl info_xms ?_) | (go_at_call 94; rw [<- hW]; refine (HK.out _ HW.out.2.1 HW.out.2.2.1 HW.out.2.2.2.1).mono ?_))
 clear hW;unfold NewSl;rintro e w2 ⟨v, rfl, s2, b2, o2⟩;have HR : Shh (Sl w2 w2.heap.size v out /\ Below w.heap.size w w2 /\ ∀ g, g < w.heap.size -> Off g v) := ⟨s2, Below.chain HW.out.2.2.2.2 b2, fun g hg => o2 g (Nat.lt_of_lt_of_le hg HW.out.2.2.2.2.size)⟩;clear HW s2 b2 o2 HK;go_wp2;go_ret;exact ⟨_, rfl, HR.out⟩
end Go.Proofs.YtdakbipiifkmfaaGreatDoor
namespace Go.Proofs.YtdakbipiifkmfaaGreatDoor
open Go.RowKit
set_option maxRecDepth 100000
structure Stir (g : Nat) (r : Option Nat) (w w' : World) : Prop where
 os : w'.os = w.os
 tape : w'.tape = w.tape
 output : w'.output = w.output
 size : w.heap.size <= w'.heap.size
 block : ∀ k, k < w.heap.size -> k ≠ g -> some k ≠ r -> w'.heap[k]? = w.heap[k]?
section
variable {w w' : World} {g B : Nat} {r : Option Nat} {v : Value} {bs : List UInt8} {T : TypeId} {cs : List Value}
theorem Stir.but (h : Stir g r w w') (hB : B <= w.heap.size) (hr : ∀ k, r = some k -> B <= k) : But B g w w' := ⟨h.os, h.tape, h.output, h.size, fun k hk hne => h.block k (by omega) hne (fun e => by have := hr k e.symm; omega)⟩
theorem Stir.trans {a b c : World} (h : Stir g r a b) (k : Stir g r b c) : Stir g r a c := ⟨k.os.trans h.os, k.tape.trans h.tape, k.output.trans h.output, Nat.le_trans h.size k.size, fun i hi hne hr => (k.block i (Nat.lt_of_lt_of_le hi h.size) hne hr).trans (h.block i hi hne hr)⟩
theorem Stir.of (b : Below w.heap.size w w') : Stir g r w w' := ⟨b.os, b.tape, b.output, b.size, fun k hk _ _ => b.block k hk⟩
theorem Sl.stir (h : Sl w w.heap.size v bs) (hg : Off g v) (hr : ∀ b, r = some b -> Off b v) (s : Stir g r w w') : Sl w' w'.heap.size v bs := by
 obtain ⟨A, c, hv, h1, h2, hc⟩ := h;refine ⟨A, c, hv, h1, h2, fun hn => ?_⟩;obtain ⟨b, off, hA, hb, hk⟩ := hc hn;refine ⟨b, off, hA, Nat.lt_of_lt_of_le hb s.size, fun k h => ?_⟩;have e1 : b ≠ g := hg ⟨b, off, none⟩ bs.length c (hv.trans (by rw [hA])) hn;have e2 : some b ≠ r := fun e => hr b e.symm ⟨b, off, none⟩ bs.length c (hv.trans (by rw [hA])) hn rfl
 rw [World.cell?_of_block (w := w) (s.block b hb e1 e2)];exact hk k h
theorem Row.stir {b : Nat} (h : Row w b T cs) (h1 : b ≠ g) (h2 : some b ≠ r) (s : Stir g r w w') : Row w' b T cs := (s.block b h.lt h1 h2).trans h
end
def ndC (ns : List (Nat × List UInt8 × Value)) : List Value := ns.flatMap fun e => [.int .i64 (e.1 : Int), e.2.2]
def ndL (ns : List (Nat × List UInt8 × Value)) : List (Nat × List UInt8) := ns.map fun e => (e.1, e.2.1)
theorem ndC_snoc (ns : List (Nat × List UInt8 × Value)) (e : Nat × List UInt8 × Value) : ndC (ns ++ [e]) = ndC ns ++ [.int .i64 (e.1 : Int), e.2.2] := by simp [ndC]
theorem ndC_length (ns : List (Nat × List UInt8 × Value)) : (ndC ns).length = ns.length * 2 := by
 induction ns with
 | nil => rfl
 | cons e ns ih =>
  have h : ndC (e :: ns) = [.int .i64 (e.1 : Int), e.2.2] ++ ndC ns := rfl;rw [h, List.length_append, ih];simp only [List.length_cons, List.length_nil];omega
def StkP (P : Value -> Prop) (w : World) (base g : Nat) (T : TypeId) (pre : List Value) (r : Option Nat) (l : List (Nat × List UInt8)) : Prop :=
 ∃ v ns, Row w g T (pre ++ [v]) /\ v.ownBlock = r /\ ndL ns = l /\ g < base /\ base <= w.heap.size /\ w.ownsRow base 108 2 v ns.length (ndC ns) /\ ∀ e ∈ ns, Sl w w.heap.size e.2.2 e.2.1 /\ Off g e.2.2 /\ (∀ b, r = some b -> Off b e.2.2) /\ P e.2.2
abbrev StkAt := StkP (fun _ => True)
theorem own_step2 {w w' : World} {base s : Nat} {e : TypeId} {v : Value} {n : Nat} {xs : List Value} (h : w.ownsRow base e s v n xs) (hb : Below w.heap.size w w') : w'.ownsRow base e s v n xs := by
 refine ⟨h.1, ?_⟩
 rcases h.2 with hn | ⟨g, cap, cur, rfl, h1, hgg, rest⟩
 ·exact .inl hn
 ·exact .inr ⟨g, cap, cur, rfl, h1, (hb.block g (Array.getElem?_eq_some_iff.1 hgg).1).trans hgg, rest⟩
section
variable {w w' : World} {base g : Nat} {T : TypeId} {pre : List Value} {r : Option Nat} {l : List (Nat × List UInt8)} {hh : Nat} {b : List UInt8} {P : Value -> Prop}
theorem StkP.go (h : StkP P w base g T pre r l) (bl : Below w.heap.size w w') : StkP P w' base g T pre r l := by
 obtain ⟨v, ns, hr, ho, hl, hg, hb, hw, hs⟩ := h;exact ⟨v, ns, hr.go bl, ho, hl, hg, Nat.le_trans hb bl.size, own_step2 hw bl, fun e he => ⟨(hs e he).1.go bl, (hs e he).2⟩⟩
theorem StkP.drew (h : StkP P w base g T pre r l) : StkP P w.drew base g T pre r l := h
theorem StkP.row (h : StkP P w base g T pre r l) : ∃ v, Row w g T (pre ++ [v]) := by
 obtain ⟨v, ns, hr, _⟩ := h;exact ⟨v, hr⟩
theorem StkAt.made (w : World) (T : TypeId) : StkAt (w.alloc (.cells #[.slice none 0 0] T)) (w.alloc (.cells #[.slice none 0 0] T)).heap.size w.heap.size T [] none [] :=
 ⟨.slice none 0 0, [], Row.new_ rfl rfl, rfl, rfl, by rw [asz]; omega, Nat.le_refl _, World.ownsRow_nil _ _ _ _, fun e he => by cases he⟩
theorem StkP.form (h : StkP P w base g T pre r l) : (l = [] /\ ∃ A c, Row w g T (pre ++ [.slice A 0 c])) ∨ (∃ rb cap, r = some rb /\ 0 < l.length /\ Row w g T (pre ++ [.slice (some ⟨rb, 0, none⟩) l.length cap])) := by
 obtain ⟨v, ns, hr, ho, hl, hg, hb, hw, hs⟩ := h;have hn : ns.length = l.length := by rw [<- hl]; simp [ndL]
 rcases hw.2 with ⟨rfl, h0⟩ | ⟨gb, cap, cur, rfl, _⟩
 ·exact .inl ⟨List.eq_nil_of_length_eq_zero (by omega), _, _, hr⟩
 ·by_cases h0 : l.length = 0
  ·refine .inl ⟨List.eq_nil_of_length_eq_zero h0, some ⟨gb, 0, none⟩, cap, ?_⟩;rw [hn, h0] at hr;exact hr
  ·refine .inr ⟨gb, cap, ho.symm, by omega, ?_⟩;rw [<- hn]; exact hr
theorem StkAt.push {v' : Value} {w2 : World} {u : Value} {v : Value} {ns : List (Nat × List UInt8 × Value)} (hr : Row w g T (pre ++ [v])) (hl : ndL ns = l) (hg : g < base) (hb : base <= w.heap.size) (hs : ∀ e ∈ ns, Sl w w.heap.size e.2.2 e.2.1 /\ Off g e.2.2 /\ ∀ b, v.ownBlock = some b -> Off b e.2.2)
  (hu : Sl w w.heap.size u b) (hug : Off g u) (hur : ∀ k, v.ownBlock = some k -> Off k u) (how : w.ownsRow base 108 2 v ns.length (ndC ns)) (how2 : w2.ownsRow base 108 2 v' (ns.length + 1) (ndC ns ++ [.int .i64 (hh : Int), u])) (hgr : w.grownBy w2 v.ownBlock) (hnew : ∀ k, v'.ownBlock = some k -> v.ownBlock = some k ∨ w.heap.size <= k) :
  ∃ r', StkAt (w2.setCell ⟨g, pre.length, none⟩ v') base g T pre r' (l ++ [(hh, b)]) /\ But base g w (w2.setCell ⟨g, pre.length, none⟩ v') := by
 have hgv : ∀ k, v.ownBlock = some k -> base <= k := fun k hk => (how.lt k hk).1
 have hb2 : But w2.heap.size g w2 (w2.setCell ⟨g, pre.length, none⟩ v') := (But.refl _ _ _).setCell _ _;have hst : Stir g v.ownBlock w (w2.setCell ⟨g, pre.length, none⟩ v') := ⟨hb2.os.trans hgr.os, hb2.tape.trans hgr.tape, hb2.output.trans hgr.output, Nat.le_trans hgr.size hb2.size, fun k hk h1 h2 => (hb2.block k (Nat.lt_of_lt_of_le hk hgr.size) h1).trans (hgr.block k hk h2)⟩;have hr2 : Row w2 g T (pre ++ [v]) := (hgr.block g hr.lt (fun e => by have := hgv g e.symm; omega)).trans hr;have hr3 := hr2.set_ pre.length v';rw [List.set_append_right _ _ (Nat.le_refl _), Nat.sub_self] at hr3;have hoff : ∀ x : Value, ∀ bs, Sl w w.heap.size x bs -> (∀ k, v.ownBlock = some k -> Off k x) -> ∀ k, v'.ownBlock = some k -> Off k x := fun x bs hx h1 k hk => by
  rcases hnew k hk with h2 | h2
  ·exact h1 k h2
  ·exact hx.off h2
 refine ⟨v'.ownBlock, ⟨v', ns ++ [(hh, b, u)], hr3, rfl, by unfold ndL at hl ⊢; rw [List.map_append, hl]; rfl, hg, Nat.le_trans hb hst.size, ?_, fun e he => ?_⟩, hst.but hb hgv⟩
 ·rw [List.length_append, List.length_singleton, ndC_snoc];refine ⟨by rw [List.length_append, ndC_length]; simp only [List.length_cons, List.length_nil]; omega, ?_⟩
  rcases how2.2 with ⟨_, h0⟩ | ⟨gb, cap, cur, e, hgb, hrw, rest⟩
  ·omega
  ·refine .inr ⟨gb, cap, cur, e, hgb, (hb2.block gb (Array.getElem?_eq_some_iff.1 hrw).1 (by omega)).trans hrw, rest⟩
 ·rcases List.mem_append.1 he with h1 | h1
  ·have h2 := hs e h1;exact ⟨h2.1.stir h2.2.1 h2.2.2 hst, h2.2.1, hoff _ _ h2.1 h2.2.2, trivial⟩
  ·rw [List.mem_singleton.1 h1];exact ⟨hu.stir hug hur hst, hug, hoff _ _ hu hur, trivial⟩
theorem StkP.mono {Q : Value -> Prop} (h : StkP P w base g T pre r l) (hq : ∀ v, P v -> Q v) : StkP Q w base g T pre r l := by
 obtain ⟨v, ns, hr, ho, hl, hg, hb, hw, hs⟩ := h;exact ⟨v, ns, hr, ho, hl, hg, hb, hw, fun e he => ⟨(hs e he).1, (hs e he).2.1, (hs e he).2.2.1, hq _ (hs e he).2.2.2⟩⟩
theorem StkP.other {k : Nat} (h : StkP (Off k) w base g T pre r l) (hb : But w.heap.size k w w') (hkg : k ≠ g) (hkr : r ≠ some k) : StkP (Off k) w' base g T pre r l := by
 obtain ⟨v, ns, hr, ho, hl, hg, hbs, hw, hs⟩ := h;have hst : Stir k none w w' := ⟨hb.os, hb.tape, hb.output, hb.size, fun i hi h1 _ => hb.block i hi h1⟩;refine ⟨v, ns, (hb.block g hr.lt (Ne.symm hkg)).trans hr, ho, hl, hg, Nat.le_trans hbs hb.size, ⟨hw.1, ?_⟩, fun e he => ⟨(hs e he).1.stir (hs e he).2.2.2 (fun b h => by cases h) hst, (hs e he).2⟩⟩
 rcases hw.2 with h1 | ⟨gb, cap, cur, e, hgb, hrw, rest⟩
 ·exact .inl h1
 ·exact .inr ⟨gb, cap, cur, e, hgb, (hb.block gb (Array.getElem?_eq_some_iff.1 hrw).1 (fun e2 => hkr (by rw [<- ho, e, <- e2]; rfl))).trans hrw, rest⟩
end
end Go.Proofs.YtdakbipiifkmfaaGreatDoor
