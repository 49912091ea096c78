/-
 THE ITERATOR over picked writes; which are picked.
-/
import Derived.Test.YtpajdmbajopofaaDk10
namespace Go.Proofs.Ytpajdmbajopofaa
open Go.RowKit
set_option maxRecDepth 100000
attribute [local go_sem] Oper.semAt_some
theorem sync1_any (i : Int) (w : World) : Calls Try.prog 50 #[.int .i64 i] w (AnsIs w (.bool true)) := by
 unfold AnsIs
 go_enter Try.func50, Try.ntmps50
 go_wp2
 go_ret
 exact ⟨rfl, rfl⟩
theorem crash1_any (bP B : Nat) (v : Value) (l : List Bool) (i : Nat) (w : World) (hb : Boxed w bP 34 v) (hs : Slb w B v l) : Calls Try.prog 46 #[.int .i64 (i : Int), .pointer (some ⟨bP, 0, none⟩)] w (AnsIs w (.bool (pkF l i))) := by
 unfold AnsIs
 obtain ⟨A, c, rfl, _, _⟩ := hs.form
 have c0 := hb.cell
 by_cases hi : i < l.length
 ·obtain ⟨b, off, rfl, _, hc⟩ := hs.at_ (by omega)
  have c1 := hc i hi
  have HE : Shh (pkF l i = l[i]) := ⟨by unfold pkF; simp [List.getD, hi]⟩
  have h1 : (i : Int) < (l.length : Int) := by omega
  have hz : (0 : Int) ≤ (i : Int) := by omega
  clear hb hs hc
  go_enter Try.func46, Try.ntmps46
  go_wp2
  go_ret
  exact ⟨by rw [HE.out]; rfl, rfl⟩
 ·have HE : Shh (pkF l i = false) := ⟨by unfold pkF; simp [List.getD]; rw [List.getElem?_eq_none (by omega)]; rfl⟩
  have h1 : ¬ (i : Int) < (l.length : Int) := by omega
  clear hb hs hi
  generalize l.length = n at *
  go_enter Try.func46, Try.ntmps46
  go_wp2
  go_ret
  exact ⟨by rw [HE.out]; rfl, rfl⟩
/-- the first t indices that are picked -/
def pkL (p : Nat → Bool) (n t : Nat) : List (Fin n) := (List.range t).filterMap fun i => if h : i < n then (if p i then some ⟨i, h⟩ else none) else none
theorem pkL_yes {p : Nat → Bool} {n t : Nat} (h : p t = true) (ht : t < n) : pkL p n (t + 1) = pkL p n t ++ [⟨t, ht⟩] := by
 unfold pkL
 rw [List.range_succ, List.filterMap_append]
 simp [h, ht]
theorem pkL_no {p : Nat → Bool} {n t : Nat} (h : p t = false) : pkL p n (t + 1) = pkL p n t := by
 unfold pkL
 rw [List.range_succ, List.filterMap_append]
 simp [h]
theorem pkL_length {p : Nat → Bool} {n t : Nat} : (pkL p n t).length ≤ t := by
 unfold pkL
 refine Nat.le_trans (List.length_filterMap_le _ _) ?_
 simp
theorem pkL_map {p : Nat → Bool} {l : List (Nat × List UInt8)} {n t : Nat} (hn : n = l.length) (ht : t ≤ n) : (pkL p n t).map (fun k => l.getD k.val (0, [])) = pickU p l t := by
 induction t with
 | zero => rfl
 | succ t ih =>
  have htl : t < l.length := by omega
  cases h : p t with
  | true =>
   rw [pkL_yes h (by omega), pickU_yes h htl, List.map_append, ih (by omega)]
   simp [List.getD, htl]
  | false => rw [pkL_no h, pickU_no h, ih (by omega)]
theorem wlIn_loadW {n : Nat} {P : Program} {ops : Array Oper} {rest : List Oper} {o : Oper} {a : Act} {w : World} {Q : Exit → Act → World → Prop} (ty : TypeId) (x : Operand) (ho : o.op = .load ty x)
 (g : Nat) (hx : a.eval x = .pointer (some ⟨g, 0, none⟩)) (t : TypeId) (cs : List Value) (d : TypeDesc) (hw : Region.wanted o (yielded ops a.tmps) = true) (hr : Row w g t cs)
 (hu : P.underlying ty = some d) (hd : (match d with | .struct _ | .array _ _ => true | _ => false) = true) (hi : (P.info? ty).map (·.size) = some cs.length)
 (h : wpListIn Fence.wide n P ops Q rest (a.put o.dst (.agg cs.toArray)) w) : wpListIn Fence.wide n P ops Q (o :: rest) a w := by
 refine wpListIn_step fun K hK => ?_
 rw [if_pos hw]
 refine wpIn_of_wp ?_ (wp_load_row ty x ho g hx t cs.toArray (0, 0) d hr hu hd (by simpa using hi) (hK _ _ h))
 intro row args w'
 unfold execOp
 simp only [ho]
 intro e
 revert e
 simp only [Sem.run_bind]
 cases (Instr.loadAt ty (a.eval x)).run P w with
 | ok v w2 => intro e; cases e
 | halt c w2 => intro e; cases e
set_option maxHeartbeats 4000000 in
theorem pickC_in (l bD bF g p q cap bP : Nat) (A : Option Addr) (pk : Nat → Bool) (lv : List (Nat × Value)) (hlen : lv.length ≤ 1000000) (hone : ∀ k (h : k < lv.length), ∃ a n c, lv[k].2 = .slice a n c) (W0 : World) (J Jx : List (Fin lv.length) → World → Prop) (W : World) (hW : But W0.heap.size q W0 W) (hJ : AbidesFrom W.heap.size J)
 (hY : ∀ pre x W1, J pre W1 → pre.length < lv.length + 1 → YieldAt Fence.wide 2 Try.prog l #[.agg (wcC lv[x]).toArray] W1 fun e W' =>
  (e = .returned (.bool true) ∧ J (pre ++ [x]) W' ∧ But W0.heap.size q W1 W') ∨ (e = .returned (.bool false) ∧ Jx (pre ++ [x]) W'))
 (hD : Boxed W0 bD 23 (.pointer (some ⟨g, 0, none⟩))) (hF : Boxed W0 bF 60 (.func (.func 46) #[] #[.pointer (some ⟨bP, 0, none⟩)])) (hg : W0.cell? ⟨g, 1, none⟩ = some (.slice A lv.length cap)) (hw : WAt W0 A p lv)
 (hne : bD ≠ q ∧ bF ≠ q ∧ g ≠ q ∧ p ≠ q) (hpk : ∀ Z, But W0.heap.size q W0 Z → ∀ k, k < lv.length → Calls Try.prog 46 #[.int .i64 (k : Int), .pointer (some ⟨bP, 0, none⟩)] Z (AnsIs Z (.bool (pk k)))) (h0 : J [] W) :
 CallsIn Fence.wide 3 Try.prog 55 (#[.func (.yield l) #[] #[]] ++ #[.pointer (some ⟨bD, 0, none⟩), .pointer (some ⟨bF, 0, none⟩)]) W fun e W' => (∃ v, e = .returned v) ∧ ((∃ xs, xs = pkL pk lv.length lv.length ∧ J xs W') ∨ (∃ pre : List (Fin lv.length), True ∧ Jx pre W')) := by
 have H0 : Shh (J (pkL pk lv.length 0) W ∧ But W0.heap.size q W0 W ∧ W.heap.size ≤ W.heap.size) := ⟨h0, hW, Nat.le_refl _⟩
 have hgl : g < W0.heap.size := World.block_lt_of_cell? W0 _ hg
 have HC : Shh (∀ Z, But W0.heap.size q W0 Z → Z.cell? ⟨bD, 0, none⟩ = some (.pointer (some ⟨g, 0, none⟩)) ∧ Z.cell? ⟨bF, 0, none⟩ = some (.func (.func 46) #[] #[.pointer (some ⟨bP, 0, none⟩)]) ∧ Z.cell? ⟨g, 1, none⟩ = some (.slice A lv.length cap) ∧ WAt Z A p lv ∧ bF < Z.heap.size ∧ p < Z.heap.size) :=
  ⟨fun Z hZ => ⟨(hZ.cell (p := ⟨bD, 0, none⟩) hD.lt hne.1).trans hD.cell, (hZ.cell (p := ⟨bF, 0, none⟩) hF.lt hne.2.1).trans hF.cell, (hZ.cell (p := ⟨g, 1, none⟩) hgl hne.2.2.1).trans hg, hw.same hZ.size (hZ.block p hw.1 hne.2.2.2), Nat.lt_of_lt_of_le hF.lt hZ.size, Nat.lt_of_lt_of_le hw.1 hZ.size⟩⟩
 have HY := Shh.mk hY
 have HJ := Shh.mk hJ
 have HP := Shh.mk hpk
 have HO := Shh.mk hone
 obtain ⟨cD, cF, cg, _, _, _⟩ := HC.out W hW
 clear hY hJ h0 hF hg hD hw hpk hone hW hgl
 refine callsIn_of_wp Try.func55 rfl trivial ?_ rfl
 simp only [Try.ntmps55, List.size_toArray, List.length_cons, List.length_nil, Nat.reduceAdd, Nat.reduceSub, Array.replicate_succ, Array.replicate_zero, List.push_toArray, List.append_toArray, List.nil_append, List.cons_append]
 gi_wp2
 gi_loopw [11] (fun i wr => ∃ k : Nat, k ≤ lv.length ∧ i = .int .i64 (k : Int) ∧ Shh (J (pkL pk lv.length k) wr ∧ But W0.heap.size q W0 wr ∧ W.heap.size ≤ wr.heap.size)) (fun i _ => lv.length - (intOf i).toNat)
 case atStart => exact ⟨0, Nat.zero_le _, rfl, H0⟩
 case round =>
  clear H0 cD cF cg
  obtain ⟨k, hk, rfl, H⟩ := hrel
  by_cases hlt : k < lv.length
  ·obtain ⟨_, cF, _, hwa, hbF, hpl⟩ := HC.out wr H.out.2.1
   obtain ⟨hA, hrg⟩ := hwa.2 k hlt
   have hlt2 : (k : Int) < (lv.length : Int) := by omega
   have hz : (0 : Int) ≤ (k : Int) := by omega
   obtain ⟨y, hy⟩ : ∃ y, y = lv[k] := ⟨_, rfl⟩
   have HYY := Shh.mk hy
   have h1 : ∀ u ∈ wcC y, u.oneCell' = true := by
    intro u hu
    obtain ⟨a, n, c, e⟩ := HO.out k hlt
    rw [← hy] at e
    simp only [wcC, List.mem_cons, List.not_mem_nil, or_false] at hu
    rcases hu with rfl | rfl
    ·rfl
    ·rw [e]; rfl
   rw [← hy] at hrg
   subst hA
   clear hwa hy
   have hRZ : Row (w := wr.alloc (.cells #[.int .i64 0, .slice none 0 0] 71)) (g := wr.heap.size) (T := 71) (cs := [.int .i64 0, .slice none 0 0]) := Row.new_ rfl rfl
   have hrg2 : (wr.alloc (.cells #[.int .i64 0, .slice none 0 0] 71)).rangeAt p (k * 2) (wcC y) := range_below hrg (Below.alloc (Below.refl _ wr) (Nat.le_refl _) _) hpl
   gi_wp2_with (first | refine wlIn_load_mid rfl 71 (.tmp 14) rfl p (k * 2) (by go_num) (wcC y) _ hrg Try.underlying71 rfl info_wr ?_ | refine wlIn_store_any rfl 71 (.tmp 5) (.tmp 15) rfl wr.heap.size rfl (wcC y) rfl 71 _ hRZ info_wr rfl h1 ?_)
   intro Z hr bt hz2
   have bZ : Below wr.heap.size wr Z := (Below.alloc (Below.refl _ _) (Nat.le_refl _) _).trans (bt.under (by omega) (Nat.le_refl _))
   have F : Shh (J (pkL pk lv.length k) Z ∧ But W0.heap.size q W0 Z ∧ W.heap.size ≤ Z.heap.size) :=
    ⟨HJ.out _ _ _ none H.out.1 (grow_of bZ) (fun r e => by cases e), H.out.2.1.trans (But.of (bZ.mono H.out.2.1.size) q), Nat.le_trans H.out.2.2 bZ.size⟩
   have HR := Shh.mk hr
   have cF2 : Z.cell? ⟨bF, 0, none⟩ = some (.func (.func 46) #[] #[.pointer (some ⟨bP, 0, none⟩)]) := (bZ.cell (p := ⟨bF, 0, none⟩) hbF).trans cF
   have HPk := Shh.mk (HP.out Z F.out.2.1 k hlt)
   have HL := Shh.mk hlt
   clear hr bt hz2 bZ H hrg hrg2 hRZ cF h1
   cases hpk : pk k with
   | true =>
    rw [hpk] at HPk
    gi_wp2_with (refine ⟨trivial, ?_⟩; gi_at_call 46; refine (callsIn_wide.2 (HPk.out)).mono ?_)
    unfold AnsIs
    rintro e w2 ⟨rfl, rfl⟩
    obtain ⟨fn, tmps, assign, body, hyd, hR⟩ := HY.out _ ⟨k, hlt⟩ Z F.out.1 (Nat.lt_of_le_of_lt pkL_length (by omega))
    have hyd2 : (Instr.yield l #[.agg (wcC y).toArray]).run Try.prog Z = .ok (.round l fn tmps assign body) Z := by rw [HYY.out]; exact hyd
    have HRR := Shh.mk hR
    clear hyd hR
    gi_wp2_with (refine wlIn_loadW 71 (.tmp 5) rfl wr.heap.size rfl 71 (wcC y) _ (by kernel_rfl) HR.out Try.underlying71 rfl info_wr ?_)
    refine HRR.out.mono ?_
    rintro e W3 (⟨rfl, hJ3, hk3⟩ | ⟨rfl, hJx3⟩)
    ·have F3 : Shh (J (pkL pk lv.length (k + 1)) W3 ∧ But W0.heap.size q W0 W3 ∧ W.heap.size ≤ W3.heap.size) := ⟨by rw [pkL_yes hpk HL.out]; exact hJ3, F.out.2.1.trans hk3, Nat.le_trans F.out.2.2 hk3.size⟩
     have hw2 : wrap64 ((k : Int) + 1) = (k : Int) + 1 := by unfold wrap64; omega
     clear F HRR hyd2 hJ3 hk3 HR cF2 HPk
     gi_wp2
     go_roundw
     case rel => exact ⟨k + 1, by omega, by go_num, F3⟩
     case measure => simp [intOf]; omega
    ·have F3 := Shh.mk hJx3
     clear F HRR hyd2 hJx3 HR cF2 HPk
     gi_wp2
     refine bodyPost_ret (results_none rfl _ _ _) rfl ?_
     exact ⟨⟨_, rfl⟩, .inr ⟨_, trivial, F3.out⟩⟩
   | false =>
    rw [hpk] at HPk
    have F3 : Shh (J (pkL pk lv.length (k + 1)) Z ∧ But W0.heap.size q W0 Z ∧ W.heap.size ≤ Z.heap.size) := ⟨by rw [pkL_no hpk]; exact F.out.1, F.out.2⟩
    clear F
    gi_wp2_with (refine ⟨trivial, ?_⟩; gi_at_call 46; refine (callsIn_wide.2 (HPk.out)).mono ?_)
    unfold AnsIs
    rintro e w2 ⟨rfl, rfl⟩
    have hw2 : wrap64 ((k : Int) + 1) = (k : Int) + 1 := by unfold wrap64; omega
    clear HR cF2 HPk
    gi_wp2
    refine ⟨fun _ h => (by cases h), ?_⟩
    gi_wp2
    go_roundw
    case rel => exact ⟨k + 1, by omega, by go_num, F3⟩
    case measure => simp [intOf]; omega
  ·obtain rfl : k = lv.length := by omega
   have HE : Shh (J (pkL pk lv.length lv.length) wr) := ⟨H.out.1⟩
   clear H
   have hlt2 : ¬ (lv.length : Int) < (lv.length : Int) := by omega
   gi_wp2
   go_end0
   exact ⟨⟨_, rfl⟩, .inl HE.out⟩
set_option maxHeartbeats 4000000 in
theorem pickS_in (l bD bF g p q cap : Nat) (A : Option Addr) (pk : Nat → Bool) (lv : List (Nat × Value)) (hlen : lv.length ≤ 1000000) (hone : ∀ k (h : k < lv.length), ∃ a n c, lv[k].2 = .slice a n c) (W0 : World) (J Jx : List (Fin lv.length) → World → Prop) (W : World) (hW : But W0.heap.size q W0 W) (hJ : AbidesFrom W.heap.size J)
 (hY : ∀ pre x W1, J pre W1 → pre.length < lv.length + 1 → YieldAt Fence.wide 2 Try.prog l #[.agg (wcC lv[x]).toArray] W1 fun e W' =>
  (e = .returned (.bool true) ∧ J (pre ++ [x]) W' ∧ But W0.heap.size q W1 W') ∨ (e = .returned (.bool false) ∧ Jx (pre ++ [x]) W'))
 (hD : Boxed W0 bD 23 (.pointer (some ⟨g, 0, none⟩))) (hF : Boxed W0 bF 60 (.func (.func 50) #[] #[])) (hg : W0.cell? ⟨g, 1, none⟩ = some (.slice A lv.length cap)) (hw : WAt W0 A p lv)
 (hne : bD ≠ q ∧ bF ≠ q ∧ g ≠ q ∧ p ≠ q) (hpk : ∀ Z, But W0.heap.size q W0 Z → ∀ k, k < lv.length → Calls Try.prog 50 #[.int .i64 (k : Int)] Z (AnsIs Z (.bool (pk k)))) (h0 : J [] W) :
 CallsIn Fence.wide 3 Try.prog 55 (#[.func (.yield l) #[] #[]] ++ #[.pointer (some ⟨bD, 0, none⟩), .pointer (some ⟨bF, 0, none⟩)]) W fun e W' => (∃ v, e = .returned v) ∧ ((∃ xs, xs = pkL pk lv.length lv.length ∧ J xs W') ∨ (∃ pre : List (Fin lv.length), True ∧ Jx pre W')) := by
 have H0 : Shh (J (pkL pk lv.length 0) W ∧ But W0.heap.size q W0 W ∧ W.heap.size ≤ W.heap.size) := ⟨h0, hW, Nat.le_refl _⟩
 have hgl : g < W0.heap.size := World.block_lt_of_cell? W0 _ hg
 have HC : Shh (∀ Z, But W0.heap.size q W0 Z → Z.cell? ⟨bD, 0, none⟩ = some (.pointer (some ⟨g, 0, none⟩)) ∧ Z.cell? ⟨bF, 0, none⟩ = some (.func (.func 50) #[] #[]) ∧ Z.cell? ⟨g, 1, none⟩ = some (.slice A lv.length cap) ∧ WAt Z A p lv ∧ bF < Z.heap.size ∧ p < Z.heap.size) :=
  ⟨fun Z hZ => ⟨(hZ.cell (p := ⟨bD, 0, none⟩) hD.lt hne.1).trans hD.cell, (hZ.cell (p := ⟨bF, 0, none⟩) hF.lt hne.2.1).trans hF.cell, (hZ.cell (p := ⟨g, 1, none⟩) hgl hne.2.2.1).trans hg, hw.same hZ.size (hZ.block p hw.1 hne.2.2.2), Nat.lt_of_lt_of_le hF.lt hZ.size, Nat.lt_of_lt_of_le hw.1 hZ.size⟩⟩
 have HY := Shh.mk hY
 have HJ := Shh.mk hJ
 have HP := Shh.mk hpk
 have HO := Shh.mk hone
 obtain ⟨cD, cF, cg, _, _, _⟩ := HC.out W hW
 clear hY hJ h0 hF hg hD hw hpk hone hW hgl
 refine callsIn_of_wp Try.func55 rfl trivial ?_ rfl
 simp only [Try.ntmps55, List.size_toArray, List.length_cons, List.length_nil, Nat.reduceAdd, Nat.reduceSub, Array.replicate_succ, Array.replicate_zero, List.push_toArray, List.append_toArray, List.nil_append, List.cons_append]
 gi_wp2
 gi_loopw [11] (fun i wr => ∃ k : Nat, k ≤ lv.length ∧ i = .int .i64 (k : Int) ∧ Shh (J (pkL pk lv.length k) wr ∧ But W0.heap.size q W0 wr ∧ W.heap.size ≤ wr.heap.size)) (fun i _ => lv.length - (intOf i).toNat)
 case atStart => exact ⟨0, Nat.zero_le _, rfl, H0⟩
 case round =>
  clear H0 cD cF cg
  obtain ⟨k, hk, rfl, H⟩ := hrel
  by_cases hlt : k < lv.length
  ·obtain ⟨_, cF, _, hwa, hbF, hpl⟩ := HC.out wr H.out.2.1
   obtain ⟨hA, hrg⟩ := hwa.2 k hlt
   have hlt2 : (k : Int) < (lv.length : Int) := by omega
   have hz : (0 : Int) ≤ (k : Int) := by omega
   obtain ⟨y, hy⟩ : ∃ y, y = lv[k] := ⟨_, rfl⟩
   have HYY := Shh.mk hy
   have h1 : ∀ u ∈ wcC y, u.oneCell' = true := by
    intro u hu
    obtain ⟨a, n, c, e⟩ := HO.out k hlt
    rw [← hy] at e
    simp only [wcC, List.mem_cons, List.not_mem_nil, or_false] at hu
    rcases hu with rfl | rfl
    ·rfl
    ·rw [e]; rfl
   rw [← hy] at hrg
   subst hA
   clear hwa hy
   have hRZ : Row (w := wr.alloc (.cells #[.int .i64 0, .slice none 0 0] 71)) (g := wr.heap.size) (T := 71) (cs := [.int .i64 0, .slice none 0 0]) := Row.new_ rfl rfl
   have hrg2 : (wr.alloc (.cells #[.int .i64 0, .slice none 0 0] 71)).rangeAt p (k * 2) (wcC y) := range_below hrg (Below.alloc (Below.refl _ wr) (Nat.le_refl _) _) hpl
   gi_wp2_with (first | refine wlIn_load_mid rfl 71 (.tmp 14) rfl p (k * 2) (by go_num) (wcC y) _ hrg Try.underlying71 rfl info_wr ?_ | refine wlIn_store_any rfl 71 (.tmp 5) (.tmp 15) rfl wr.heap.size rfl (wcC y) rfl 71 _ hRZ info_wr rfl h1 ?_)
   intro Z hr bt hz2
   have bZ : Below wr.heap.size wr Z := (Below.alloc (Below.refl _ _) (Nat.le_refl _) _).trans (bt.under (by omega) (Nat.le_refl _))
   have F : Shh (J (pkL pk lv.length k) Z ∧ But W0.heap.size q W0 Z ∧ W.heap.size ≤ Z.heap.size) :=
    ⟨HJ.out _ _ _ none H.out.1 (grow_of bZ) (fun r e => by cases e), H.out.2.1.trans (But.of (bZ.mono H.out.2.1.size) q), Nat.le_trans H.out.2.2 bZ.size⟩
   have HR := Shh.mk hr
   have cF2 : Z.cell? ⟨bF, 0, none⟩ = some (.func (.func 50) #[] #[]) := (bZ.cell (p := ⟨bF, 0, none⟩) hbF).trans cF
   have HPk := Shh.mk (HP.out Z F.out.2.1 k hlt)
   have HL := Shh.mk hlt
   clear hr bt hz2 bZ H hrg hrg2 hRZ cF h1
   cases hpk : pk k with
   | true =>
    rw [hpk] at HPk
    gi_wp2_with (refine ⟨trivial, ?_⟩; gi_at_call 50; refine (callsIn_wide.2 (HPk.out)).mono ?_)
    unfold AnsIs
    rintro e w2 ⟨rfl, rfl⟩
    obtain ⟨fn, tmps, assign, body, hyd, hR⟩ := HY.out _ ⟨k, hlt⟩ Z F.out.1 (Nat.lt_of_le_of_lt pkL_length (by omega))
    have hyd2 : (Instr.yield l #[.agg (wcC y).toArray]).run Try.prog Z = .ok (.round l fn tmps assign body) Z := by rw [HYY.out]; exact hyd
    have HRR := Shh.mk hR
    clear hyd hR
    gi_wp2_with (refine wlIn_loadW 71 (.tmp 5) rfl wr.heap.size rfl 71 (wcC y) _ (by kernel_rfl) HR.out Try.underlying71 rfl info_wr ?_)
    refine HRR.out.mono ?_
    rintro e W3 (⟨rfl, hJ3, hk3⟩ | ⟨rfl, hJx3⟩)
    ·have F3 : Shh (J (pkL pk lv.length (k + 1)) W3 ∧ But W0.heap.size q W0 W3 ∧ W.heap.size ≤ W3.heap.size) := ⟨by rw [pkL_yes hpk HL.out]; exact hJ3, F.out.2.1.trans hk3, Nat.le_trans F.out.2.2 hk3.size⟩
     have hw2 : wrap64 ((k : Int) + 1) = (k : Int) + 1 := by unfold wrap64; omega
     clear F HRR hyd2 hJ3 hk3 HR cF2 HPk
     gi_wp2
     go_roundw
     case rel => exact ⟨k + 1, by omega, by go_num, F3⟩
     case measure => simp [intOf]; omega
    ·have F3 := Shh.mk hJx3
     clear F HRR hyd2 hJx3 HR cF2 HPk
     gi_wp2
     refine bodyPost_ret (results_none rfl _ _ _) rfl ?_
     exact ⟨⟨_, rfl⟩, .inr ⟨_, trivial, F3.out⟩⟩
   | false =>
    rw [hpk] at HPk
    have F3 : Shh (J (pkL pk lv.length (k + 1)) Z ∧ But W0.heap.size q W0 Z ∧ W.heap.size ≤ Z.heap.size) := ⟨by rw [pkL_no hpk]; exact F.out.1, F.out.2⟩
    clear F
    gi_wp2_with (refine ⟨trivial, ?_⟩; gi_at_call 50; refine (callsIn_wide.2 (HPk.out)).mono ?_)
    unfold AnsIs
    rintro e w2 ⟨rfl, rfl⟩
    have hw2 : wrap64 ((k : Int) + 1) = (k : Int) + 1 := by unfold wrap64; omega
    clear HR cF2 HPk
    gi_wp2
    refine ⟨fun _ h => (by cases h), ?_⟩
    gi_wp2
    go_roundw
    case rel => exact ⟨k + 1, by omega, by go_num, F3⟩
    case measure => simp [intOf]; omega
  ·obtain rfl : k = lv.length := by omega
   have HE : Shh (J (pkL pk lv.length lv.length) wr) := ⟨H.out.1⟩
   clear H
   have hlt2 : ¬ (lv.length : Int) < (lv.length : Int) := by omega
   gi_wp2
   go_end0
   exact ⟨⟨_, rfl⟩, .inl HE.out⟩
end Go.Proofs.Ytpajdmbajopofaa
