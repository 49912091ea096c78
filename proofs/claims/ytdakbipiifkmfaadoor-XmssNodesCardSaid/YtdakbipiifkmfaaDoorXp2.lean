/-
 THE PROGRAM'S OWN isSet and check of package xmss.
-/
import Derived.Test.YtdakbipiifkmfaaDoorWR
import Derived.Test.YtdakbipiifkmfaaDoorXZ
namespace Go.Proofs.YtdakbipiifkmfaaDoor
open Go.RowKit
set_option maxRecDepth 100000
theorem isSet11_of (xc : Int) (xs : Bool) (xn xh xl : Int) (yc : Int) (ys : Bool) (yn yh yl : Int) (ee : Int) (hxc : (Lit.int .u32 xc).wf = true) (hxn : (Lit.int .i64 xn).wf = true) (hxh : (Lit.int .i64 xh).wf = true) (hxl : (Lit.int .i64 xl).wf = true) (hyc : (Lit.int .u32 yc).wf = true) (hyn : (Lit.int .i64 yn).wf = true) (hyh : (Lit.int .i64 yh).wf = true) (hyl : (Lit.int .i64 yl).wf = true) (hset : ∀ W, Calls Tryd.prog 37 #[.int .u32 xc] W (OldIs (.tuple #[.agg #[.int .u32 yc, .bool ys, .int .i64 yn, .int .i64 yh, .int .i64 yl], .int .i64 ee]) W)) (w : World) :
  Calls Tryd.prog 25 #[.agg #[.int .u32 xc, .bool xs, .int .i64 xn, .int .i64 xh, .int .i64 xl]] w (OldIs (.bool (decide (ee = 0 ∧ (xc = yc ∧ xs = ys ∧ xn = yn ∧ xh = yh ∧ xl = yl)))) w) := by
 unfold OldIs
 have HW : Shh (Row (w.alloc (.cells #[.int .u32 xc, .bool xs, .int .i64 xn, .int .i64 xh, .int .i64 xl] 27)) w.heap.size 27 [.int .u32 xc, .bool xs, .int .i64 xn, .int .i64 xh, .int .i64 xl] ∧ Below w.heap.size w (w.alloc (.cells #[.int .u32 xc, .bool xs, .int .i64 xn, .int .i64 xh, .int .i64 xl] 27))) := ⟨Row.new_ rfl rfl, Below.alloc (Below.refl _ _) (Nat.le_refl _) _⟩
 by_cases he : ee = 0
 ·subst he
  have hres : decide ((0 : Int) = 0 ∧ (xc = yc ∧ xs = ys ∧ xn = yn ∧ xh = yh ∧ xl = yl)) = decide (xc = yc ∧ xs = ys ∧ xn = yn ∧ xh = yh ∧ xl = yl) := by
   refine decide_eq_decide.2 ⟨fun h => ?_, fun h => ?_⟩
   ·obtain ⟨_, rfl, rfl, rfl, rfl, rfl⟩ := h
    exact ⟨rfl, rfl, rfl, rfl, rfl⟩
   ·obtain ⟨rfl, rfl, rfl, rfl, rfl⟩ := h
    exact ⟨rfl, rfl, rfl, rfl, rfl, rfl⟩
  have heq := fun W : World => eq_xms xc xs xn xh xl yc ys yn yh yl hxc hxn hxh hxl hyc hyn hyh hyl W
  rw [hres]
  generalize decide (xc = yc ∧ xs = ys ∧ xn = yn ∧ xh = yh ∧ xl = yl) = r at heq ⊢
  clear hres
  go_enter Tryd.func25, Tryd.ntmps25
  go_wp2_with (go_at_call 37; refine (hset _).mono ?_)
  unfold OldIs
  rintro e w2 ⟨rfl, b2⟩
  have F2 : Shh (Row w2 w.heap.size 27 [.int .u32 xc, .bool xs, .int .i64 xn, .int .i64 xh, .int .i64 xl] ∧ Below w.heap.size w w2) := ⟨HW.out.1.go b2, Below.chain HW.out.2 b2⟩
  clear HW b2 hset
  obtain ⟨G, hG⟩ : ∃ G, Shh (G = w2.heap.size) := ⟨_, ⟨rfl⟩⟩
  go_wp2_with (refine wpList_store_any rfl 27 (.tmp 3) (.tmp 9) rfl G (by rw [hG.out]; rfl) [.int .u32 yc, .bool ys, .int .i64 yn, .int .i64 yh, .int .i64 yl] rfl 27 _ (Row.new_ hG.out rfl) info_xms rfl oneCell5 ?_)
  intro Z hr bt _
  have F3 : Shh (Row Z w.heap.size 27 [.int .u32 xc, .bool xs, .int .i64 xn, .int .i64 xh, .int .i64 xl] ∧ Row Z G 27 [.int .u32 yc, .bool ys, .int .i64 yn, .int .i64 yh, .int .i64 yl] ∧ Below w.heap.size w Z) := by
   have hl := F2.out.1.lt
   refine ⟨bt.row (F2.out.1.alloc _) (by first | omega | (simp only [asz]; omega)) (by have := hG.out; omega), hr, Below.chain F2.out.2 ?_⟩
   exact (Below.alloc (Below.refl _ _) (Nat.le_refl _) _).trans (bt.under (by first | omega | (simp only [asz]; omega)) (by have := hG.out; omega))
  rw [← hG.out]
  clear hr bt F2 hG
  go_wp2_with (first | refine wl_loadW 27 (.tmp 1) rfl w.heap.size rfl 27 [.int .u32 xc, .bool xs, .int .i64 xn, .int .i64 xh, .int .i64 xl] _ rfl F3.out.1 Tryd.underlying27 rfl info_xms ?_ | refine wl_loadW 27 (.tmp 3) rfl G rfl 27 [.int .u32 yc, .bool ys, .int .i64 yn, .int .i64 yh, .int .i64 yl] _ rfl F3.out.2.1 Tryd.underlying27 rfl info_xms ?_ | refine wl_eqlW 27 27 (.tmp 14) (.tmp 15) rfl #[.int .u32 xc, .bool xs, .int .i64 xn, .int .i64 xh, .int .i64 xl] #[.int .u32 yc, .bool ys, .int .i64 yn, .int .i64 yh, .int .i64 yl] rfl rfl rfl (by kernel_rfl) r (heq _) ?_)
  go_ret
  exact ⟨rfl, F3.out.2.2⟩
 ·have hres : (decide (ee = 0 ∧ (xc = yc ∧ xs = ys ∧ xn = yn ∧ xh = yh ∧ xl = yl))) = false := decide_eq_false fun h => he h.1
  rw [hres]
  clear hres
  go_enter Tryd.func25, Tryd.ntmps25
  go_wp2_with (go_at_call 37; refine (hset _).mono ?_)
  unfold OldIs
  rintro e w2 ⟨rfl, b2⟩
  have F2 : Shh (Row w2 w.heap.size 27 [.int .u32 xc, .bool xs, .int .i64 xn, .int .i64 xh, .int .i64 xl] ∧ Below w.heap.size w w2) := ⟨HW.out.1.go b2, Below.chain HW.out.2 b2⟩
  clear HW b2 hset
  obtain ⟨G, hG⟩ : ∃ G, Shh (G = w2.heap.size) := ⟨_, ⟨rfl⟩⟩
  go_wp2_with (refine wpList_store_any rfl 27 (.tmp 3) (.tmp 9) rfl G (by rw [hG.out]; rfl) [.int .u32 yc, .bool ys, .int .i64 yn, .int .i64 yh, .int .i64 yl] rfl 27 _ (Row.new_ hG.out rfl) info_xms rfl oneCell5 ?_)
  intro Z hr bt _
  have F3 : Shh (True ∧ Below w.heap.size w Z) := by
   refine ⟨trivial, Below.chain F2.out.2 ?_⟩
   exact (Below.alloc (Below.refl _ _) (Nat.le_refl _) _).trans (bt.under (by first | omega | (simp only [asz]; omega)) (by have := hG.out; omega))
  clear hr bt F2 hG
  go_wp2
  go_ret
  exact ⟨rfl, F3.out.2⟩
theorem isSet11_any (x : S5) (h : x.wf) (w : World) : Calls Tryd.prog 25 #[x.v] w (OldIs (.bool x.ok) w) := by
 obtain ⟨xc, xs, xn, xh, xl⟩ := x
 have hn := c5_nat h
 simp only at hn
 have hw := xms_wf xc.toNat hn.2
 exact isSet11_of xc xs xn xh xl (xC xc.toNat) (xSh xc.toNat) (xN xc.toNat) (xH xc.toNat : Int) (xL xc.toNat) (xE xc.toNat) h.1 h.2.1 h.2.2.1 h.2.2.2 hw.1 hw.2.1 hw.2.2.1 hw.2.2.2 (fun W => by have := xmss_any xc.toNat hn.2 W; rw [hn.1] at this; exact this) w
set_option maxHeartbeats 1000000 in
theorem check11_any (x : S5) (hw : x.wf) (v : Value) (bss : List (List UInt8)) (B g : Nat) (w : World) (hp : PartsO w B g v bss) (hB : B ≤ w.heap.size) (hn : bss.length ≤ 1000000) :
  Calls Tryd.prog 14 #[x.v, v] w (OldIs (.int .i64 (badE x bss)) w) := by
 unfold OldIs
 obtain ⟨A, c, rfl⟩ := hp.form
 have HM : Shh (∀ W, Calls Tryd.prog 25 #[x.v] W (OldIs (.bool x.ok) W)) := ⟨fun W => isSet11_any x hw W⟩
 unfold S5.v at HM ⊢
 have HP := Shh.mk hp
 clear hp
 have HW : Shh (Row (w.alloc (.cells #[.int .u32 x.c, .bool x.s, .int .i64 x.n, .int .i64 x.h, .int .i64 x.l] 27)) w.heap.size 27 [.int .u32 x.c, .bool x.s, .int .i64 x.n, .int .i64 x.h, .int .i64 x.l] ∧ Below w.heap.size w (w.alloc (.cells #[.int .u32 x.c, .bool x.s, .int .i64 x.n, .int .i64 x.h, .int .i64 x.l] 27))) := ⟨Row.new_ rfl rfl, below1 _ _⟩
 cases hok : x.ok with
 | false =>
  have HE : Shh (badE x bss = 60) := ⟨by unfold badE; rw [hok]; rfl⟩
  rw [HE.out]
  rw [hok] at HM
  clear hok HE hw
  generalize x.c = xc at *
  generalize x.s = xs at *
  generalize x.n = xn at *
  generalize x.h = xh at *
  generalize x.l = xl at *
  go_enter Tryd.func14, Tryd.ntmps14
  go_wp2_with (go_at_call 25; refine (HM.out _).mono ?_)
  unfold OldIs
  rintro e w2 ⟨rfl, b2⟩
  have HB := Shh.mk (Below.chain HW.out.2 b2)
  clear b2 HW HM
  go_wp2
  go_ret
  exact ⟨rfl, HB.out⟩
 | true =>
  obtain ⟨E, hE⟩ : ∃ E, E = badE x bss := ⟨_, rfl⟩
  rw [← hE]
  have HE : Shh (E = if bss.all (fun b => decide ((b.length : Int) = x.n)) then 0 else 1) := ⟨by rw [hE]; unfold badE; rw [hok]; rfl⟩
  rw [hok] at HM
  clear hok hE hw
  generalize x.c = xc at *
  generalize x.s = xs at *
  generalize x.n = xn at *
  generalize x.h = xh at *
  generalize x.l = xl at *
  go_enter Tryd.func14, Tryd.ntmps14
  go_wp2_with (go_at_call 25; refine (HM.out _).mono ?_)
  unfold OldIs
  rintro e w2 ⟨rfl, b2⟩
  have H2 : Shh (Row w2 w.heap.size 27 [.int .u32 xc, .bool xs, .int .i64 xn, .int .i64 xh, .int .i64 xl] ∧ Below w.heap.size w w2) := ⟨HW.out.1.go b2, Below.chain HW.out.2 b2⟩
  clear b2 HW HM
  go_wp2
  go_loopw [12] (fun i wr => ∃ k : Nat, k ≤ bss.length ∧ i = .int .i64 (k : Int) ∧ Shh (Row wr w.heap.size 27 [.int .u32 xc, .bool xs, .int .i64 xn, .int .i64 xh, .int .i64 xl] ∧ Below w.heap.size w wr ∧ ∀ j (h : j < bss.length), j < k → (bss[j].length : Int) = xn)) (fun i _ => bss.length - (intOf i).toNat)
  case atStart => exact ⟨0, Nat.zero_le _, rfl, ⟨H2.out.1, H2.out.2, fun _ _ h => absurd h (Nat.not_lt_zero _)⟩⟩
  case round =>
   clear H2
   obtain ⟨k, hk, rfl, HL⟩ := hrel
   by_cases hlt : k < bss.length
   ·obtain ⟨q, off, rfl, hq, hqg, hcc⟩ := HP.out.at_ (by omega)
    obtain ⟨u, hcu, hsu, _⟩ := hcc k hlt
    obtain ⟨Au, cu, rfl, _, _⟩ := hsu.form
    have hcx := (HL.out.2.1.cell (p := ⟨q, off + k, none⟩) (show q < w.heap.size by omega)).trans hcu
    have e2 := HL.out.1.cell 2
    simp only [List.getElem?_cons_succ, List.getElem?_cons_zero] at e2
    have HX : Shh (bss[k] ∈ bss ∧ ∀ j (h : j < bss.length), j < k + 1 → (bss[k].length : Int) = xn → (bss[j].length : Int) = xn) := ⟨List.getElem_mem hlt, fun j hj hjk he => by
     by_cases e : j = k
     ·subst e; exact he
     ·exact HL.out.2.2 j hj (by omega)⟩
    clear hcu hsu hcc
    obtain ⟨ln, hln⟩ : ∃ ln, ln = bss[k].length := ⟨_, rfl⟩
    have HLN := Shh.mk hln
    rw [← hln] at hcx
    clear hln
    by_cases heq : (ln : Int) = xn
    ·have hne : ((ln : Int) != xn) = false := by simp [heq]
     have HR : Shh (Row wr w.heap.size 27 [.int .u32 xc, .bool xs, .int .i64 xn, .int .i64 xh, .int .i64 xl] ∧ Below w.heap.size w wr ∧ ∀ j (h : j < bss.length), j < k + 1 → (bss[j].length : Int) = xn) := ⟨HL.out.1, HL.out.2.1, fun j hj hjk => HX.out.2 j hj hjk (by rw [← HLN.out]; exact heq)⟩
     clear heq HL HX HLN
     go_wp2
     go_round
     case rel => exact ⟨k + 1, by omega, by go_num, ⟨HR.out.1, HR.out.2.1, HR.out.2.2⟩⟩
     case measure => simp [intOf]; omega
    ·have hne : ((ln : Int) != xn) = true := by simp [heq]
     have HR : Shh (E = 1 ∧ Below w.heap.size w wr) := ⟨by
      rw [HE.out, if_neg]
      intro hh
      exact heq (by rw [HLN.out]; exact of_decide_eq_true (List.all_eq_true.1 hh _ HX.out.1)), HL.out.2.1⟩
     clear heq HL HX HLN HE
     go_wp2
     go_ret
     exact ⟨by rw [HR.out.1]; rfl, HR.out.2⟩
   ·obtain rfl : k = bss.length := by omega
    have HR : Shh (E = 0 ∧ Below w.heap.size w wr) := ⟨by
     rw [HE.out, if_pos]
     rw [List.all_eq_true]
     intro b hb
     obtain ⟨j, hj, rfl⟩ := List.getElem_of_mem hb
     exact decide_eq_true (HL.out.2.2 j hj hj), HL.out.2.1⟩
    clear HL HE
    go_wp2
    go_ret
    exact ⟨by rw [HR.out.1]; rfl, HR.out.2⟩
end Go.Proofs.YtdakbipiifkmfaaDoor
