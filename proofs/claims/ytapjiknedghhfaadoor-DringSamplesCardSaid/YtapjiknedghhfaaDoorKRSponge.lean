/-
 WALK: the document's own Sponge.
-/
import Derived.Test.YtapjiknedghhfaaDoorKRa
import Derived.Test.YtapjiknedghhfaaDoorKSp
namespace Go.Proofs.YtapjiknedghhfaaDoor
open Go.RowKit
set_option maxRecDepth 100000

theorem run_indexSc {a : Act} {x y : Operand} {op : Oper} (b k n c : Nat) (hk : k < n) (ho : op.op = .indexAddr 22 x y) (hx : a.eval x = .slice (some ⟨b, 0, none⟩) n c) (hy : a.eval y = .int .i64 (k : Int)) (w : World) :
  (execOp a.eval op).run Tryd.prog w = .ok (.value (.pointer (some ⟨b, k, none⟩))) w := by
 have h0 : (0 : Int) ≤ (k : Int) := by omega
 have h1 : (k : Int) < (n : Int) := by omega
 unfold execOp
 simp only [ho, hx, hy]
 go_simp
theorem run_shlU {a : Act} {x y : Operand} {op : Oper} {t u : TypeId} (b : UInt8) (r : Nat) (hr : r < 64) (ho : op.op = .binOp .shl t x y u) (hx : a.eval x = .int .u64 (b.toNat : Int)) (hy : a.eval y = .int .u64 (r : Int)) (w : World) :
  (execOp a.eval op).run Tryd.prog w = .ok (.value (.int .u64 ((UInt64.ofNat (b.toNat * 2 ^ r)).toNat : Int))) w := by
 have h0 : (0 : Int) ≤ (r : Int) := by omega
 have h1 : (r : Int) < 64 := by omega
 have hn : ((r : Int)).toNat = r := by omega
 unfold execOp
 simp only [ho, hx, hy]
 clear hx hy ho
 generalize hq : (2 : Nat) ^ r = q
 simp [go_sem, hn]
 all_goals
  rw [IntKind.wrap_u64, ← hq]
  simp
theorem own_below {w w' : World} {base e n : Nat} {v : Value} {xs : List Value} (h : w.ownsRow base e 1 v n xs) (hb : Below w.heap.size w w') : w'.ownsRow base e 1 v n xs := by
 refine ⟨h.1, ?_⟩
 rcases h.2 with h0 | ⟨q, cap, cur, h1, h2, h3, h4⟩
 ·exact .inl h0
 ·exact .inr ⟨q, cap, cur, h1, h2, (hb.block q (Array.getElem?_eq_some_iff.1 h3).1).trans h3, h4⟩
theorem own_but {w w' : World} {base e n g : Nat} {v : Value} {xs : List Value} (h : w.ownsRow base e 1 v n xs) (hb : But w.heap.size g w w') (hg : g < base) : w'.ownsRow base e 1 v n xs := by
 refine ⟨h.1, ?_⟩
 rcases h.2 with h0 | ⟨q, cap, cur, h1, h2, h3, h4⟩
 ·exact .inl h0
 ·exact .inr ⟨q, cap, cur, h1, h2, (hb.block q (Array.getElem?_eq_some_iff.1 h3).1 (by omega)).trans h3, h4⟩
def kslLen : Value → Nat
 | .slice _ n _ => n
 | _ => 0
/-- the last byte turned -/
def turnLast (p : List UInt8) : List UInt8 := p.set (p.length - 1) (p.getD (p.length - 1) 0 ^^^ 128)
theorem turnLast_length (p : List UInt8) : (turnLast p).length = p.length := List.length_set
theorem turned_blocks (rate : Nat) (hr : 0 < rate) (x : List UInt8) (q z : Nat) (hz : x.length + z = q * rate + rate) (hq : q * rate < x.length) :
  (turnLast (x ++ List.replicate z 0)).drop (q * rate) = kpadB rate (x.drop (q * rate)) ∧ (turnLast (x ++ List.replicate z 0)).take (q * rate) = x.take (q * rate) := by
 have hT : (x ++ List.replicate z (0 : UInt8)).length = q * rate + rate := by simp; omega
 have hd : (x ++ List.replicate z (0 : UInt8)).drop (q * rate) = x.drop (q * rate) ++ List.replicate (rate - (x.drop (q * rate)).length) 0 := by
  rw [List.drop_append, show q * rate - x.length = 0 by omega, List.drop_zero, List.length_drop, show rate - (x.length - q * rate) = z by omega]
 constructor
 ·unfold turnLast kpadB
  rw [hT, List.drop_set, if_neg (by omega), hd, show q * rate + rate - 1 - q * rate = rate - 1 by omega, ← hd]
  congr 2
  rw [List.getD, List.getD, List.getElem?_drop, show q * rate + (rate - 1) = q * rate + rate - 1 by omega]
 ·unfold turnLast
  rw [hT, List.take_set_of_le (by omega), List.take_append_of_le_length (by omega)]
/-- what is squeezed from comes out of the blocks -/
theorem perm_blocks (rate : Nat) (hr : 0 < rate) (hr2 : rate ≤ 200) (suf : UInt8) (m : List UInt8) (q z : Nat) (hz : (m ++ [suf]).length + z = q * rate + rate) (hq : q * rate < (m ++ [suf]).length) :
  ∃ F, absorbL rate suf m = ⟨F, rate⟩ ∧ F.length = 25 ∧ permL F = absJ rate (turnLast ((m ++ [suf]) ++ List.replicate z 0)) (q + 1) := by
 have hb := turned_blocks rate hr (m ++ [suf]) q z hz hq
 have hl : (m ++ [suf]).length = m.length + 1 := by simp
 refine ⟨_, absorbL_block rate hr hr2 suf m q (by omega) (by rw [Nat.succ_mul]; omega), by rw [layX_length, absJ_length], ?_⟩
 rw [absJ, hb.1, List.take_of_length_le (by rw [kpadB_length _ _ (by rw [List.length_drop]; omega)]; exact Nat.le_refl _), absJ_prefix rate _ (m ++ [suf]) (q * rate) q hb.2 (Nat.le_refl _)]
theorem mod_at (q rate r : Nat) (h : r < rate) : (q * rate + r) % rate = r := by
 rw [Nat.mul_comm, Nat.mul_add_mod]
 exact Nat.mod_eq_of_lt h
theorem block_get (P : List UInt8) (a rate k : Nat) (h : k < ((P.drop a).take rate).length) (h2 : a + k < P.length) : ((P.drop a).take rate)[k] = P[a + k] := by simp

set_option maxHeartbeats 4000000 in
theorem refSponge_any (rate : Nat) (hr : 0 < rate) (hr2 : rate ≤ 200) (suf : UInt8) (n : Nat) (hn : n ≤ 1048576) (B : Nat) (v : Value) (m : List UInt8) (w : World) (hs : Sl w B v m) (hB : B ≤ w.heap.size) (hl : m.length ≤ 1000000) :
  Calls Tryd.prog 36 #[.int .i64 (rate : Int), .int .u8 (suf.toNat : Int), v, .int .i64 (n : Int)] w (OwnIs w (spongeL rate suf m n)) := by
 unfold OwnIs
 obtain ⟨A, c, rfl, _, _⟩ := hs.form
 obtain ⟨i0, hi, hz0, hz1, hz2⟩ := info_parts info_u8
 obtain ⟨q, hq⟩ : ∃ q, q = m.length / rate := ⟨_, rfl⟩
 obtain ⟨x, hx⟩ : ∃ x, x = m ++ [suf] := ⟨_, rfl⟩
 have hxl : x.length = m.length + 1 := by rw [hx]; simp
 have hdm := Nat.div_add_mod m.length rate
 have hml := Nat.mod_lt m.length hr
 rw [← hq, Nat.mul_comm] at hdm
 obtain ⟨T, hT⟩ : ∃ T, T = q * rate + rate := ⟨_, rfl⟩
 have hq1 : q * rate < x.length := by omega
 have hxT : x.length ≤ T := by omega
 have hTb : T ≤ 1000400 := by omega
 obtain ⟨F, hF, hFl, hFp⟩ := perm_blocks rate hr hr2 suf m q (T - x.length) (by rw [← hx]; omega) (by rw [← hx]; exact hq1)
 rw [← hx] at hFp
 have HSP : Shh (∀ k, spongeL rate suf m k = (Sp.mk F rate).outs rate k) := Shh.mk (fun k => by rw [← hF]; rfl)
 have HFP := Shh.mk hFp
 have HXE := Shh.mk hx
 clear hF hFp hdm hml hq
 have HMOD : Shh (∀ k, x.length + k < T → ¬ (x.length + k) % rate = 0) := Shh.mk (fun k hk => by
  obtain ⟨r, hr'⟩ : ∃ r, x.length + k = q * rate + r := ⟨x.length + k - q * rate, by omega⟩
  rw [hr', mod_at q rate r (by omega)]
  omega)
 have HMOD0 : Shh (T % rate = 0) := Shh.mk (by rw [hT]; have := mod_at (q + 1) rate 0 hr; rw [Nat.succ_mul, Nat.add_zero] at this; exact this)
 have HT := Shh.mk hT
 have HQ1 := Shh.mk hq1
 have HXL := Shh.mk hxl
 have hx2 : x.length ≤ 1000001 := by omega
 clear hT hq1 hx hxl
 have hx1 : 1 ≤ x.length := by have := HXL.out; omega
 generalize hN : w.heap.size = N at *
 have hb2 : ∀ o o2, Below N w ((w.alloc o).alloc o2) := fun o o2 => ((Below.refl N w).alloc (by omega) _).alloc (by rw [asz]; omega) _
 go_enter Tryd.func36, Tryd.ntmps36
 go_wp2_with (go_at_call 45; refine (refJoin_any (N + 2) (N + 2) _ [m, [suf]] _ (PartsO.two (Nat.lt_succ_self _) (by omega) (Row.new_ (by rw [asz, hN]) rfl) ((hs.below ((hb2 _ _).mono hB)).more (by omega)) (hs.off (by omega)) (Sl.of_bytes (T := 5) ((Row.new_ hN.symm rfl).alloc _) (by omega) rfl (by simp)) (Off.at_ (by omega))) (by rw [asz, asz, hN]; exact Nat.le_refl _) (by rw [two_flat, ← HXE.out]; omega) (by simp)).mono ?_)
 rintro e w1 ⟨v1, rfl, g1⟩
 rw [two_flat, ← HXE.out] at g1
 have o1 := g1.1
 have b1 : Below N w w1 := (hb2 _ _).trans (g1.2.mono (by rw [asz, asz, hN]; omega))
 have hs1 := g1.2.size
 rw [asz, asz, hN] at o1 hs1
 clear g1 hb2 hs
 obtain ⟨A1, c1, rfl⟩ := own_form o1
 have hr0 : ¬ rate = 0 := by omega
 have hri : ¬ (rate : Int) = 0 := by omega
 go_wp2
 go_loopw [9] (fun o wr => ∃ k : Nat, x.length + k ≤ T ∧ wr.ownsRow (N + 2) 5 1 o (x.length + k) (Lib.byteCells (x ++ List.replicate k 0)) ∧ Below N w wr ∧ N + 2 ≤ wr.heap.size) (fun o _ => T - kslLen o)
 case atStart => exact ⟨0, by omega, by rw [List.replicate_zero, List.append_nil, Nat.add_zero]; exact o1, b1, hs1⟩
 case round =>
  clear o1 b1 hs1
  obtain ⟨k, hk, o1, b1, hs1⟩ := hrel
  obtain ⟨A1, c1, rfl⟩ := own_form o1
  obtain ⟨L, hL⟩ : ∃ L, L = x.length + k := ⟨_, rfl⟩
  obtain ⟨R, hR⟩ : ∃ R, R = (x.length + k) % rate := ⟨_, rfl⟩
  have qa : (L : Int).tmod (rate : Int) = (R : Int) := (show (L : Int).tmod (rate : Int) = ((L % rate : Nat) : Int) from rfl).trans (by rw [hR, hL])
  have qa2 : (L : Int) % (rate : Int) = (R : Int) := (show (L : Int) % (rate : Int) = ((L % rate : Nat) : Int) from rfl).trans (by rw [hR, hL])
  have HR := Shh.mk hR
  clear hR
  rw [← hL] at o1 ⊢
  by_cases hlt : L < T
  ·have hne : ¬ R = 0 := by rw [HR.out]; exact HMOD.out k (by omega)
   have HL := Shh.mk hL
   clear hL
   go_wp2_with (at_builtin; refine wp_append1 _ 22 5 i0 (.int .u8 0) Tryd.underlying22 hi hz0 hz1 hz2 rfl rfl _ _ rfl o1 rfl rfl rfl (by omega) hs1 ?_)
   intro v' w2 o2 _ b2
   have HO : Shh (w2.ownsRow (N + 2) 5 1 v' (x.length + (k + 1)) (Lib.byteCells (x ++ List.replicate (k + 1) 0))) := Shh.mk (by
    have e2 : Lib.byteCells (x ++ List.replicate (k + 1) (0 : UInt8)) = Lib.byteCells (x ++ List.replicate k 0) ++ [.int .u8 0] := by
     rw [List.replicate_succ', ← List.append_assoc]
     simp [Lib.byteCells]
    rw [e2, show x.length + (k + 1) = L + 1 by have := HL.out; omega]
    exact o2)
   have hs2 := (b2 _ (Nat.le_refl _)).size
   obtain ⟨A2, c2, rfl⟩ := own_form o2
   have HL2 := HL.out
   clear o2 o1
   go_wp2
   go_roundw
   case rel => exact ⟨k + 1, by omega, HO.out, b1.trans (b2 _ (by omega)), by omega⟩
   case measure => simp only [kslLen]; omega
  ·have hLT : L = T := by omega
   have hne : R = 0 := by rw [HR.out, ← hL, hLT]; exact HMOD0.out
   have HK : Shh (k = T - x.length) := Shh.mk (by omega)
   obtain ⟨P0, hP0⟩ : ∃ P, P = x ++ List.replicate k (0 : UInt8) := ⟨_, rfl⟩
   have hP0l : P0.length = T := by rw [hP0]; simp; omega
   rw [← hP0] at o1
   have HP1 : Shh (permL F = absJ rate (turnLast P0) (q + 1)) := Shh.mk (by rw [hP0, HK.out]; exact HFP.out)
   have qz : (L : Int).tmod (rate : Int) = 0 := by rw [qa, hne]; rfl
   have qz2 : (L : Int) % (rate : Int) = 0 := by rw [qa2, hne]; rfl
   clear HMOD HMOD0 HXE HR qa qa2 hk hP0
   subst hLT
   clear hL HK hne
   rcases o1.2 with ⟨h0, hT0⟩ | ⟨g, cap, cur, hv, hg, hh, hnc, hcm, hsz, hcur⟩
   ·exfalso; omega
   cases hv
   have hrg : Row wr g 5 cur.toList := by simpa [Row] using hh
   have hcells : ∀ i (h : i < P0.length), cur.toList[i]? = some (.int .u8 (P0[i].toNat : Int)) := fun i h => by
    have h2 := congrArg (fun l : List Value => l[i]?) hcur
    simp only [byteCells_get P0 i h] at h2
    rwa [List.getElem?_take_of_lt (by omega)] at h2
   have hgl := hrg.lt
   clear o1 hh hcur
   obtain ⟨t1, ht1⟩ : ∃ t, t = L - 1 := ⟨_, rfl⟩
   have hL1 : 1 ≤ L := by omega
   have qt : (L : Int) - 1 = (t1 : Int) := by omega
   have wt : IntKind.i64.wrap (t1 : Int) = (t1 : Int) := by rw [IntKind.wrap_i64]; omega
   have htl : t1 < L := by omega
   obtain ⟨y, hy⟩ : ∃ y, y = P0[t1]'(by omega) := ⟨_, rfl⟩
   have hcb := (hrg.cell t1).trans (hcells t1 (by omega))
   rw [← hy] at hcb
   have hfb := hrg.free t1
   have hxo := u8_xor y 128
   rw [show ((128 : UInt8).toNat : Int) = 128 from rfl] at hxo
   have hrg2 := hrg.set_ t1 (.int .u8 ((y ^^^ 128).toNat : Int))
   obtain ⟨cs, hcs⟩ : ∃ cs, cs = cur.toList.set t1 (.int .u8 ((y ^^^ 128).toNat : Int)) := ⟨_, rfl⟩
   obtain ⟨P1, hP1⟩ : ∃ P, P = turnLast P0 := ⟨_, rfl⟩
   have hP1l : P1.length = L := by rw [hP1, turnLast_length, hP0l]
   have HCS : Shh (∀ i (h : i < P1.length), cs[i]? = some (.int .u8 (P1[i].toNat : Int))) := Shh.mk (fun i h => by
    have hP1' : P1 = P0.set t1 (y ^^^ 128) := by
     rw [hP1, turnLast, hP0l, ← ht1, kgetD_get P0 t1 0 (by omega), hy]
    subst hP1'
    rw [hcs, List.getElem_set]
    by_cases hi : t1 = i
    ·subst hi
     rw [List.getElem?_set_self (by rw [Array.length_toList]; omega), if_pos rfl]
    ·rw [List.getElem?_set_ne hi, if_neg hi]
     exact hcells i (by omega))
   rw [← hcs] at hrg2
   rw [← hP1] at HP1
   have b2 := b1.setCell (p := ⟨g, t1, none⟩) (show N ≤ g by omega) (.int .u8 ((y ^^^ 128).toNat : Int))
   clear hrg b1 hcells hcs hP1 hy hP0l ht1
   generalize (y ^^^ 128).toNat = yn at *
   have hYs : (wr.setCell ⟨g, t1, none⟩ (.int .u8 (yn : Int))).heap.size = wr.heap.size := by simp [World.setCell]
   obtain ⟨nA, hnA⟩ : ∃ nA, wr.heap.size = nA := ⟨_, rfl⟩
   rw [hnA] at hYs hs1 hgl
   have hrA : Row ((wr.setCell ⟨g, t1, none⟩ (.int .u8 (yn : Int))).alloc (.cells (laneCells (List.replicate 25 0)).toArray 57)) nA 57 (laneCells (absJ rate P1 0)) := Row.new_ hYs.symm rfl
   have hrG := hrg2.alloc (.cells (laneCells (List.replicate 25 0)).toArray 57)
   have hbN := b2.alloc (by rw [hYs]; omega) (.cells (laneCells (List.replicate 25 0)).toArray 57)
   clear hrg2 b2 hYs
   go_wp2
   go_loopw [11, 12, 43] (fun at_ _ _ wr => ∃ j : Nat, j ≤ q + 1 ∧ at_ = .int .i64 ((j * rate : Nat) : Int) ∧ Row wr nA 57 (laneCells (absJ rate P1 j)) ∧ Row wr g 5 cs ∧ Below N w wr) (fun at_ _ _ _ => L - (intOf at_).toNat)
   case atStart => exact ⟨0, Nat.zero_le _, by rw [Nat.zero_mul]; rfl, hrA, hrG, hbN⟩
   case round =>
    clear hrA hrG hbN hcb hfb hxo qz qz2
    obtain ⟨j, hj, rfl, hrA, hrG, hbN⟩ := hrel
    obtain ⟨at0, hat⟩ : ∃ a, a = j * rate := ⟨_, rfl⟩
    rw [← hat]
    have HAT := Shh.mk hat
    have haL : Lib.byteCells P1 = Lib.byteCells P1 := rfl
    clear haL
    have HJS : Shh (at0 < L → at0 + rate ≤ L) := Shh.mk (fun h => by
     have h1 : j < q + 1 := Nat.lt_of_mul_lt_mul_right (a := rate) (by rw [Nat.succ_mul]; have := HT.out; omega)
     have h2 := Nat.mul_le_mul_right rate (show j + 1 ≤ q + 1 from h1)
     rw [Nat.succ_mul, Nat.succ_mul] at h2
     have := HT.out
     omega)
    have HJL : Shh (at0 < L → j < q + 1) := Shh.mk (fun h => Nat.lt_of_mul_lt_mul_right (a := rate) (by rw [Nat.succ_mul]; have := HT.out; omega))
    have HJE : Shh (¬ at0 < L → j = q + 1) := Shh.mk (fun h => by
     have h2 := Nat.mul_le_mul_right rate hj
     rw [Nat.succ_mul] at h2
     have h3 : j * rate = (q + 1) * rate := by rw [Nat.succ_mul]; have := HT.out; omega
     exact Nat.mul_right_cancel hr h3)
    clear hat
    by_cases hlt2 : at0 < L
    ·have hfull := HJS.out hlt2
     have hjq := HJL.out hlt2
     obtain ⟨X0, hX⟩ : ∃ X, X = (P1.drop at0).take rate := ⟨_, rfl⟩
     have hXl : X0.length = rate := by rw [hX]; simp; omega
     have HXG : Shh (∀ k (h : k < X0.length), X0[k] = P1[at0 + k]'(by omega)) := Shh.mk (fun k h => by subst hX; exact block_get P1 at0 rate k h (by omega))
     have hal := absJ_length rate P1 j
     have HNX : Shh (absJ rate P1 (j + 1) = permL (layX (absJ rate P1 j) 0 X0)) := Shh.mk (by rw [absJ, hX, HAT.out])
     obtain ⟨a0, ha0⟩ : ∃ a, a = absJ rate P1 j := ⟨_, rfl⟩
     rw [← ha0] at hal HNX hrA
     clear hX ha0 HJS HJL HJE
     go_wp2
     go_loopw [12, 43] (fun _ i wr => ∃ k : Nat, k ≤ rate ∧ i = .int .i64 (k : Int) ∧ Row wr nA 57 (laneCells (layX a0 0 (X0.take k))) ∧ Row wr g 5 cs ∧ Below N w wr) (fun _ i _ => rate - (intOf i).toNat)
     case atStart => exact ⟨0, Nat.zero_le _, rfl, hrA, hrG, hbN⟩
     case round =>
      clear hrA hrG hbN
      obtain ⟨k, hk, rfl, hrA, hrG, hbN⟩ := hrel
      have hcl : (layX a0 0 (X0.take k)).length = 25 := by rw [layX_length, hal]
      by_cases hlk : k < rate
      ·have HLS : Shh (layX a0 0 (X0.take (k + 1)) = maskL (layX a0 0 (X0.take k)) k (X0[k]'(by omega))) := Shh.mk (by rw [layX_take X0 a0 0 k (by omega), Nat.zero_add])
       obtain ⟨cu, hcu⟩ : ∃ c, c = layX a0 0 (X0.take k) := ⟨_, rfl⟩
       rw [← hcu] at HLS hcl hrA
       obtain ⟨y, hy⟩ : ∃ y, y = X0[k]'(by omega) := ⟨_, rfl⟩
       rw [← hy] at HLS
       obtain ⟨j2, hj2e⟩ : ∃ j2, j2 = at0 + k := ⟨_, rfl⟩
       have hj2 : j2 < L := by omega
       have hgy : cs[j2]? = some (.int .u8 (y.toNat : Int)) := by
        rw [HCS.out j2 (by omega), hy, HXG.out k (by omega)]
        subst hj2e
        rfl
       have qj2 : (at0 : Int) + (k : Int) = (j2 : Int) := by omega
       have wj2 : IntKind.i64.wrap (j2 : Int) = (j2 : Int) := by rw [IntKind.wrap_i64]; omega
       obtain ⟨p, hp⟩ : ∃ p, p = k / 8 := ⟨_, rfl⟩
       obtain ⟨r, hr8⟩ : ∃ r, r = k % 8 := ⟨_, rfl⟩
       obtain ⟨r8, hrr⟩ : ∃ r', r' = 8 * r := ⟨_, rfl⟩
       have qp : (k : Int).tdiv 8 = (p : Int) := (show (k : Int).tdiv 8 = ((k / 8 : Nat) : Int) from rfl).trans (by rw [hp])
       have qp' : (k : Int) / 8 = (p : Int) := by omega
       have qr : (k : Int).tmod 8 = (r : Int) := (show (k : Int).tmod 8 = ((k % 8 : Nat) : Int) from rfl).trans (by rw [hr8])
       have qr' : (k : Int) % 8 = (r : Int) := by omega
       have qs : (8 : Int) * (r : Int) = (r8 : Int) := by omega
       have wp : IntKind.i64.wrap (p : Int) = (p : Int) := by rw [IntKind.wrap_i64]; omega
       have ws : IntKind.i64.wrap (r8 : Int) = (r8 : Int) := by rw [IntKind.wrap_i64]; omega
       have wu : IntKind.u64.wrap (r8 : Int) = (r8 : Int) := by rw [IntKind.wrap_u64]; omega
       have hy8 : y.toNat < 256 := y.toNat_lt
       have wy : IntKind.u64.wrap (y.toNat : Int) = (y.toNat : Int) := by rw [IntKind.wrap_u64]; omega
       have hp25 : p < 25 := by omega
       have hrb : r8 < 64 := by omega
       have HME : Shh (layX a0 0 (X0.take (k + 1)) = cu.set p (lane cu p ^^^ UInt64.ofNat (y.toNat * 2 ^ r8))) := Shh.mk (by rw [HLS.out, maskL, hrr, hr8, hp])
       obtain ⟨z, hz⟩ : ∃ z, Shh (z = UInt64.ofNat (y.toNat * 2 ^ r8)) := ⟨_, Shh.mk rfl⟩
       obtain ⟨vz, hvz⟩ : ∃ z', Shh (z' = lane cu p ^^^ z) := ⟨_, Shh.mk rfl⟩
       clear HLS
       have HLS : Shh (layX a0 0 (X0.take (k + 1)) = cu.set p vz) := Shh.mk (by rw [HME.out, hvz.out, hz.out])
       clear HME hcu hy hj2e hp hr8 hrr
       replace hrA := hrA.drew
       replace hrG := hrG.drew
       replace hbN := hbN.drew
       have hca := (hrA.cell p).trans (laneCells_lane cu p (by omega))
       generalize lane cu p = v at *
       have hfa := hrA.free p
       have hra2 := hrA.set_ p (.int .u64 (vz.toNat : Int))
       rw [laneCells_set] at hra2
       have hrg2 := hrG.other ⟨nA, p, none⟩ (.int .u64 (vz.toNat : Int)) (by show g ≠ nA; omega)
       have hbel2 := hbN.setCell (p := ⟨nA, p, none⟩) (show N ≤ nA by omega) (.int .u64 (vz.toNat : Int))
       go_wp2
       refine wp_region_held_drew (S := fun w' => w'.cell? ⟨g, j2, none⟩ = some (.int .u8 (y.toNat : Int))) (by kernel_rfl) ((hrG.cell j2).trans hgy) (fun hSX => ?_)
       generalize wr.drew = X at *
       refine hdv 0 46 (.int .i64 (k : Int)) (by rfl) (fun w hS => by kernel_rfl) hSX ?_
       refine hdv 1 47 (.int .i64 (p : Int)) (by rfl) (fun w hS => by go_simp) hSX ?_
       refine hdv 2 48 (.pointer (some ⟨nA, p, none⟩)) (by rfl) (fun w hS => run_index25 nA p hp25 rfl (by kernel_rfl) (by kernel_rfl) w) hSX ?_
       refine hdv 4 50 (.slice (some ⟨g, 0, none⟩) L c1) (by rfl) (fun w hS => by kernel_rfl) hSX ?_
       refine hdv 5 51 (.int .i64 (at0 : Int)) (by rfl) (fun w hS => by kernel_rfl) hSX ?_
       refine hdv 6 52 (.int .i64 (k : Int)) (by rfl) (fun w hS => by kernel_rfl) hSX ?_
       refine hdv 7 53 (.int .i64 (j2 : Int)) (by rfl) (fun w hS => by go_simp) hSX ?_
       refine hdv 8 54 (.pointer (some ⟨g, j2, none⟩)) (by rfl) (fun w hS => run_indexSc g j2 L c1 hj2 rfl (by kernel_rfl) (by kernel_rfl) w) hSX ?_
       refine hdv 9 55 (.int .u8 (y.toNat : Int)) (by rfl) (fun w hS => run_load1 rfl Tryd.underlying5 (by kernel_rfl) hS) hSX ?_
       refine hdv 10 56 (.int .u64 (y.toNat : Int)) (by rfl) (fun w hS => by go_simp) hSX ?_
       refine hdv 11 57 (.int .i64 (k : Int)) (by rfl) (fun w hS => by kernel_rfl) hSX ?_
       refine hdv 12 58 (.int .i64 (r : Int)) (by rfl) (fun w hS => by go_simp) hSX ?_
       refine hdv 13 59 (.int .i64 (r8 : Int)) (by rfl) (fun w hS => by go_simp) hSX ?_
       refine hdv 14 60 (.int .u64 (r8 : Int)) (by rfl) (fun w hS => by go_simp) hSX ?_
       refine hdv 15 61 (.int .u64 (z.toNat : Int)) (by rfl) (fun w hS => by rw [hz.out]; exact run_shlU y r8 hrb rfl (by kernel_rfl) (by kernel_rfl) w) hSX ?_
       refine held_one 3 (by kernel_rfl) ?_
       refine step_value 3 (Op.load 56 (Operand.tmp 48)) 56 (some 49) (.int .u64 (v.toNat : Int)) _ (by kernel_rfl) (by kernel_rfl) (run_load1 rfl Tryd.underlying56 (by kernel_rfl) hca) hSX ?_
       simp only [Act.put, arr9, hd9, tl9]
       refine hdv 16 62 (.int .u64 (vz.toNat : Int)) (by rfl) (fun w hS => by rw [hvz.out]; exact run_xorL (p := v) (q := z) rfl (by kernel_rfl) (by kernel_rfl)) hSX ?_
       refine hdv 17 63 (.pointer (some ⟨nA, p, none⟩)) (by rfl) (fun w hS => run_index25 nA p hp25 rfl (by kernel_rfl) (by kernel_rfl) w) hSX ?_
       refine held_one 18 (by kernel_rfl) ?_
       refine step_store1 18 (Op.store 56 (Operand.tmp 63) (Operand.tmp 62)) (by kernel_rfl) (by kernel_rfl) (X.setCell ⟨nA, p, none⟩ (.int .u64 (vz.toNat : Int))) (run_store64 vz nA p rfl (by kernel_rfl) (by kernel_rfl) hca hfa) ⟨(hrg2.cell j2).trans hgy, ?_⟩
       refine wpAnyH_done (by kernel_rfl) ?_ _
       clear hSX hca hfa
       generalize X.setCell ⟨nA, p, none⟩ (.int .u64 (vz.toNat : Int)) = Y at *
       go_wp2
       go_roundw
       case rel => exact ⟨k + 1, by omega, by go_num, by rw [HLS.out]; exact hra2, hrg2, hbel2⟩
       case measure => simp [intOf]; omega
      ·obtain ⟨nx, HNE⟩ : ∃ l, Shh (l = layX a0 0 X0) := ⟨_, Shh.mk rfl⟩
       have hkr : k = rate := by omega
       rw [show X0.take k = X0 by rw [hkr, ← hXl, List.take_length], ← HNE.out] at hrA hcl
       rw [← HNE.out] at HNX
       have hpl := permL_length nx hcl
       have hPm := refPermute_any nx hcl
       obtain ⟨px, HPX⟩ : ∃ l, Shh (l = permL nx) := ⟨_, Shh.mk rfl⟩
       rw [← HPX.out] at hpl hPm HNX
       have hkk := Shh.mk hkr
       clear hkr
       go_wp2_with (first
        | refine wpList_load_any rfl 57 (.tmp 10) rfl nA rfl 57 (laneCells nx) (.array 25 56) hrA Tryd.underlying57 rfl (info_l25.trans (size_lanes _ _ hcl)) ?_
        | (go_at_call 46; refine (hPm _).mono ?_))
       rintro e w3 ⟨rfl, b3⟩
       replace hrA := hrA.below b3 hrA.lt
       replace hrG := hrG.below b3 hrG.lt
       replace hbN := hbN.trans (b3.mono (by have := hbN.size; omega))
       clear b3
       go_wp2_with (refine wpList_store_any rfl 57 (.tmp 10) (.tmp 66) rfl nA rfl (laneCells px) rfl 57 _ hrA (info_l25.trans (size_lanes _ _ hpl)) (by rw [laneCells_length, laneCells_length, hcl, hpl]) (cell_oneLane _) ?_)
       intro w4 hrA4 b4 z4
       have hrG4 := b4.row hrG hrG.lt (by omega)
       have hbN4 := hbN.trans (b4.under (by have := hrA.lt; omega) (by omega))
       obtain ⟨at1, hat1⟩ : ∃ a, a = at0 + rate := ⟨_, rfl⟩
       have q1 : (at0 : Int) + (rate : Int) = (at1 : Int) := by omega
       have w1' : IntKind.i64.wrap (at1 : Int) = (at1 : Int) := by rw [IntKind.wrap_i64]; omega
       have HAT1 : Shh (at1 = (j + 1) * rate) := Shh.mk (by rw [hat1, Nat.succ_mul, HAT.out])
       have HM := Shh.mk hat1
       rw [← HNX.out] at hrA4
       clear hrA hrG hbN b4 z4 hat1 hPm
       go_wp2
       go_roundw
       case rel => exact ⟨j + 1, by omega, by rw [HAT1.out], hrA4, hrG4, hbN4⟩
       case measure => simp [intOf]; have := HM.out; omega
    ·have hje := HJE.out hlt2
     rw [hje, ← HP1.out] at hrA
     have hpl0 := permL_length F hFl
     have hgl2 := hrA.lt
     obtain ⟨a0, HA0⟩ : ∃ a, Shh (a = permL F) := ⟨_, Shh.mk rfl⟩
     rw [← HA0.out] at hrA hpl0
     obtain ⟨nO, hnO⟩ : ∃ nO, wr.heap.size = nO := ⟨_, rfl⟩
     rw [hnO] at hgl2
     have hrA1 := hrA.alloc (.cells #[] 5)
     have hbN1 := hbN.alloc (by omega) (.cells #[] 5)
     have ho : (wr.alloc (.cells #[] 5)).ownsRow nO 5 1 (.slice (some ⟨nO, 0, none⟩) 0 0) 0 [] := by
      have := World.ownsRow_made (base := nO) (e := 5) (size := 1) wr #[] 0 (by omega) (Nat.zero_le _) rfl
      rw [hnO] at this
      exact this
     have hzO : (wr.alloc (.cells #[] 5)).heap.size = nO + 1 := by rw [asz, hnO]
     clear HJS HJL HJE hje hrG hrA hbN HCS HAT
     go_wp2
     go_loopw [13] (fun o wr => ∃ (cc : Nat) (l' a : List UInt64), cc ≤ n ∧ l'.length = 25 ∧ a.length = 25 ∧ Row wr nA 57 (laneCells a) ∧ wr.ownsRow nO 5 1 o cc (Lib.byteCells ((Sp.mk F rate).outs rate cc)) ∧ Below N w wr ∧ nO ≤ wr.heap.size ∧ Shh (cc < n → (Sp.mk F rate).behind rate cc = ⟨l', rate⟩) ∧ Shh (cc = 0 → a = permL l') ∧ Shh (0 < cc → a = l')) (fun o _ => n - kslLen o)
     case atStart => exact ⟨0, F, a0, Nat.zero_le _, hFl, hpl0, hrA1, ho, hbN1, by omega, Shh.mk (fun _ => rfl), Shh.mk (fun _ => HA0.out), Shh.mk (fun h => by omega)⟩
     case round =>
      clear hrA1 ho hbN1 hzO hpl0
      obtain ⟨cc, l', a, hcn, hll, hal, hrA, hown, hbN, hsz, HB, H0, H1⟩ := hrel
      obtain ⟨Ao, co, rfl⟩ := own_form hown
      have hol : ((Sp.mk F rate).outs rate cc).length = cc := Sp.outs_length _ _ _
      by_cases hlt4 : cc < n
      ·obtain ⟨nc, hnc⟩ : ∃ k, k = n - cc := ⟨_, rfl⟩
       obtain ⟨d, hd⟩ : ∃ d, d = min rate nc := ⟨_, rfl⟩
       have hd0 : 0 < d := by omega
       have hdr : d ≤ rate := by omega
       have hdn : cc + d ≤ n := by omega
       have HDF : Shh (cc + d < n → d = rate) := Shh.mk (fun h => by omega)
       have qn : (n : Int) - (cc : Int) = (nc : Int) := by omega
       have wn : IntKind.i64.wrap (nc : Int) = (nc : Int) := by rw [IntKind.wrap_i64]; omega
       have m1 : (if (nc : Int) < (rate : Int) then (nc : Int) else (rate : Int)) = (d : Int) := by split <;> omega
       have m2 : (if nc < rate then (nc : Int) else (rate : Int)) = (d : Int) := by split <;> omega
       have m3 : (if (rate : Int) < (nc : Int) then (rate : Int) else (nc : Int)) = (d : Int) := by split <;> omega
       have m4 : (if rate < nc then (rate : Int) else (nc : Int)) = (d : Int) := by split <;> omega
       clear hnc hd
       have hpl := permL_length l' hll
       have hBy := refBytes_any (permL l') hpl d (by omega)
       have HOE : Shh ((Sp.mk F rate).outs rate (cc + d) = (Sp.mk F rate).outs rate cc ++ (List.range d).map (byteL (permL l'))) := Shh.mk (by rw [outs_app, HB.out hlt4, (outs_full rate l' d hd0 hdr).1])
       have HBE : Shh (cc + d < n → (Sp.mk F rate).behind rate (cc + d) = ⟨permL l', rate⟩) := Shh.mk (fun h => by rw [behind_app, HB.out hlt4, (outs_full rate l' d hd0 hdr).2, HDF.out h])
       have hPm := refPermute_any l' hll
       obtain ⟨px, HPX⟩ : ∃ l, Shh (l = permL l') := ⟨_, Shh.mk rfl⟩
       rw [← HPX.out] at hpl hBy HOE hPm
       have HB2 : Shh (cc + d < n → (Sp.mk F rate).behind rate (cc + d) = ⟨px, rate⟩) := Shh.mk (fun h => by rw [HPX.out]; exact HBE.out h)
       have hln : ((List.range d).map (byteL px)).length = d := by simp
       generalize hbl : (List.range d).map (byteL px) = by_ at *
       generalize hou : (Sp.mk F rate).outs rate cc = ou at *
       clear hbl hou HBE
       by_cases hc0 : 0 < cc
       ·have hgt : (0 : Int) < (cc : Int) := by omega
        have hae := H1.out hc0
        subst hae
        clear H0 H1 HB HDF
        go_wp2_with (first
         | refine wpList_load_any rfl 57 (.tmp 10) rfl nA rfl 57 (laneCells a) (.array 25 56) hrA Tryd.underlying57 rfl (info_l25.trans (size_lanes _ _ hal)) ?_
         | (go_at_call 46; refine (hPm _).mono ?_))
        rintro e w3 ⟨rfl, b3⟩
        have hrA3 := hrA.below b3 hrA.lt
        have hown3 := own_below hown b3
        have hbN3 := hbN.trans (b3.mono (by have := hbN.size; omega))
        have hsz3 : nO ≤ w3.heap.size := by have := b3.size; omega
        clear b3 hrA hown hbN
        go_wp2_with (refine wpList_store_any rfl 57 (.tmp 10) (.tmp 76) rfl nA rfl (laneCells px) rfl 57 _ hrA3 (info_l25.trans (size_lanes _ _ hpl)) (by rw [laneCells_length, laneCells_length, hal, hpl]) (cell_oneLane _) ?_)
        intro w4 hrA b4 z4
        have hown := own_but hown3 b4 hgl2
        have hbN := hbN3.trans (b4.under (by omega) (by omega))
        have hsz4 : nO ≤ w4.heap.size := by omega
        clear hrA3 hown3 hbN3 b4 z4 hsz hsz3
        go_wp2_with (first
         | refine wpList_load_any rfl 57 (.tmp 10) rfl nA rfl 57 (laneCells px) (.array 25 56) hrA Tryd.underlying57 rfl (info_l25.trans (size_lanes _ _ hpl)) ?_
         | (go_at_call 47; refine (hBy _).mono ?_))
        rintro e w5 ⟨v5, rfl, g5⟩
        have s5 := gives_sl g5
        obtain ⟨A5, c5, rfl, _, _⟩ := s5.form
        rw [hln] at s5
        have b5 := g5.2
        have hrA5 := hrA.below b5 hrA.lt
        have hbN5 := hbN.trans (b5.mono (by have := hbN.size; omega))
        have hown5 := own_len (own_below hown b5) hol.symm
        have hsz5 : nO ≤ w5.heap.size := by have := b5.size; omega
        clear g5 hown b5 hrA hbN
        go_wp2_with (at_builtin; refine wp_appendSl _ 22 5 i0 Tryd.underlying22 hi hz0 hz1 hz2 rfl _ _ rfl hown5 s5 rfl rfl (by rw [hol, hln]; omega) hsz5 ?_)
        intro v' w6 o6 _ b6
        rw [← HOE.out] at o6
        have o7 := own_len o6 (show _ = cc + d by first | rfl | rw [Sp.outs_length])
        obtain ⟨A6, c6, rfl⟩ := own_form o7
        have hrA6 := hrA5.below (b6 _ (Nat.le_refl _)) (by omega)
        have hbN6 := hbN5.trans (b6 _ (by omega))
        have hsz6 : nO ≤ w6.heap.size := by have := (b6 _ (Nat.le_refl _)).size; omega
        have HOO := Shh.mk o7
        clear o6 o7 b6 hown5 s5 hrA5 hbN5
        go_wp2
        go_roundw
        case rel => exact ⟨cc + d, px, px, by omega, hpl, hpl, hrA6, HOO.out, hbN6, hsz6, HB2, Shh.mk (fun h => by omega), Shh.mk (fun _ => rfl)⟩
        case measure => simp only [kslLen]; omega
       ·have hgt : ¬ (0 : Int) < (cc : Int) := by omega
        have hae := (H0.out (by omega)).trans HPX.out.symm
        rw [hae] at hrA
        clear H0 H1 HB HDF
        go_wp2_with (first
         | refine wpList_load_any rfl 57 (.tmp 10) rfl nA rfl 57 (laneCells px) (.array 25 56) hrA Tryd.underlying57 rfl (info_l25.trans (size_lanes _ _ hpl)) ?_
         | (go_at_call 47; refine (hBy _).mono ?_))
        rintro e w5 ⟨v5, rfl, g5⟩
        have s5 := gives_sl g5
        obtain ⟨A5, c5, rfl, _, _⟩ := s5.form
        rw [hln] at s5
        have b5 := g5.2
        have hrA5 := hrA.below b5 hrA.lt
        have hbN5 := hbN.trans (b5.mono (by have := hbN.size; omega))
        have hown5 := own_len (own_below hown b5) hol.symm
        have hsz5 : nO ≤ w5.heap.size := by have := b5.size; omega
        clear g5 hown b5 hrA hbN
        go_wp2_with (at_builtin; refine wp_appendSl _ 22 5 i0 Tryd.underlying22 hi hz0 hz1 hz2 rfl _ _ rfl hown5 s5 rfl rfl (by rw [hol, hln]; omega) hsz5 ?_)
        intro v' w6 o6 _ b6
        rw [← HOE.out] at o6
        have o7 := own_len o6 (show _ = cc + d by first | rfl | rw [Sp.outs_length])
        obtain ⟨A6, c6, rfl⟩ := own_form o7
        have hrA6 := hrA5.below (b6 _ (Nat.le_refl _)) (by omega)
        have hbN6 := hbN5.trans (b6 _ (by omega))
        have hsz6 : nO ≤ w6.heap.size := by have := (b6 _ (Nat.le_refl _)).size; omega
        have HOO := Shh.mk o7
        clear o6 o7 b6 hown5 s5 hrA5 hbN5
        go_wp2
        go_roundw
        case rel => exact ⟨cc + d, px, px, by omega, hpl, hpl, hrA6, HOO.out, hbN6, hsz6, HB2, Shh.mk (fun h => by omega), Shh.mk (fun _ => rfl)⟩
        case measure => simp only [kslLen]; omega
      ·have hcn' : cc = n := by omega
       have HO : Shh (wr.ownsRow N 5 1 (.slice Ao cc co) (spongeL rate suf m n).length (Lib.byteCells (spongeL rate suf m n))) := Shh.mk (by
        rw [HSP.out n, ← hcn', hol]
        exact kown_mono (base := N) hown (by omega))
       clear hown hcn'
       go_wp2
       go_ret
       refine ⟨_, rfl, ?_⟩
       unfold Gives
       rw [hN]
       exact ⟨HO.out, hbN⟩
end Go.Proofs.YtapjiknedghhfaaDoor
