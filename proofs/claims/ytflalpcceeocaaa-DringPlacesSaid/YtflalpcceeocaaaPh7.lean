/-
 THE LAW DringPlaces.
-/
import Derived.Test.YtflalpcceeocaaaPh6
import Derived.Test.YtflalpcceeocaaaDq4
namespace Go.Proofs.Ytflalpcceeocaaa
open Go.RowKit
set_option maxRecDepth 100000
theorem HintsAt.drew {w : World} {B n : Nat} {v : Value} {L : Nat → Nat → Bool} (h : HintsAt w B v n L) : HintsAt w.drew B v n L := h
theorem HintsAt.range {w : World} {B n c g o k : Nat} {L : Nat → Nat → Bool} (h : HintsAt w B (.slice (some ⟨g, o, none⟩) n c) n L) (hk : k < n) : w.rangeAt g (o + k * 256) (hc (L k)) := by
 obtain ⟨g', o', e, _, h4⟩ := h.at_ (by omega)
 cases e
 exact h4 k hk
theorem run_loadMidH {P : Program} {a : Act} {w : World} {dst : Option Tmp} {ty ty2 : TypeId} {x : Operand} {g k : Nat} {cs : List Value} {d : TypeDesc} (hx : a.eval x = .pointer (some ⟨g, k, none⟩)) (hr : w.rangeAt g k cs)
 (hu : P.underlying ty = some d) (hd : d.isRow = true) (hi : (P.info? ty).map (·.size) = some cs.length) : (execOp a.eval ⟨dst, .load ty x, ty2, "", #[], none⟩).run P w = .ok (.value (.agg cs.toArray)) w := by
 unfold execOp
 simp only [hx, Instr.loadAt, Instr.sureAddr, Sem.run_bind, Sem.run_pure, Result.andThen_ok, run_loadVar_mid w g k ty cs d hr hu hd hi]
def SaysIs (w : World) (b : Bool) (e : Ending) (w' : World) : Prop := e = .returned (.bool b) ∧ Below w.heap.size w w'
set_option maxHeartbeats 4000000 in
theorem same_any (n B C : Nat) (u v : Value) (L : Nat → Nat → Bool) (w : World) (h1 : HintsAt w B u n L) (h2 : HintsAt w C v n L) (hB : B ≤ w.heap.size) (hC : C ≤ w.heap.size) (hn : n ≤ 1000) : Calls Try.prog 10 #[u, v] w (SaysIs w true) := by
 unfold SaysIs
 generalize hN : w.heap.size = N at *
 obtain ⟨A, c1, rfl⟩ := h1.form
 obtain ⟨A2, c2, rfl⟩ := h2.form
 have HEQ := Shh.mk eq_hint
 have FA : Shh (HintsAt w B (.slice A n c1) n L ∧ HintsAt w C (.slice A2 n c2) n L ∧ Below N w w ∧ B ≤ N ∧ C ≤ N ∧ N ≤ w.heap.size) := ⟨h1, h2, Below.refl _ _, hB, hC, by rw [hN]; exact Nat.le_refl _⟩
 have HN1 := Shh.mk hn
 clear h1 h2 hB hC hn
 go_enter Try.func10, Try.ntmps10
 go_wp2
 go_loopw [13] (fun i wr => ∃ k : Nat, k ≤ n ∧ i = .int .i64 (k : Int) ∧ Shh (HintsAt wr (B) (.slice A n c1) (n) (L) ∧ HintsAt wr (C) (.slice A2 n c2) (n) (L) ∧ Below N w wr ∧ B ≤ N ∧ C ≤ N ∧ N ≤ wr.heap.size)) (fun i _ => n - (intOf i).toNat)
 case atStart => exact ⟨0, Nat.zero_le _, rfl, ⟨by skip; exact FA.out⟩⟩
 case round =>
  clear FA
  obtain ⟨k, hk, rfl, HI⟩ := hrel
  by_cases hlt : k < n
  ·have hlt2 : (k : Int) < (n : Int) := by omega
   have hn16 := HN1.out
   obtain ⟨g, o, rfl, hg, _⟩ := (HI.out.1).at_ (by omega)
   obtain ⟨g2, o2, rfl, hg2, _⟩ := (HI.out.2.1).at_ (by omega)
   clear hg hg2
   go_wp2
   refine wp_region_held_drew (S := fun w' => HintsAt w' (B) (.slice (some ⟨g, o, none⟩) n c1) (n) (L) ∧ HintsAt w' (C) (.slice (some ⟨g2, o2, none⟩) n c2) (n) (L)) (by kernel_rfl) ⟨HI.out.1.drew, HI.out.2.1.drew⟩ (fun hS => ?_)
   clear hS
   obtain ⟨X1, hX1⟩ : ∃ V, V = World.drew wr := ⟨_, rfl⟩
   rw [← hX1]
   have HJ : Shh (HintsAt X1 (B) (.slice (some ⟨g, o, none⟩) n c1) (n) (L) ∧ HintsAt X1 (C) (.slice (some ⟨g2, o2, none⟩) n c2) (n) (L) ∧ Below N w X1 ∧ B ≤ N ∧ C ≤ N ∧ N ≤ X1.heap.size) := by
    obtain ⟨h0, h1, h2, h3, h4, h5⟩ := HI.out
    rw [hX1]
    exact ⟨h0.drew, h1.drew, h2.drew, h3, h4, h5⟩
   clear hX1 HI
   refine hdv0 0 16 (.slice (some ⟨g, o, none⟩) n c1) (by rfl) ⟨HJ.out.1, HJ.out.2.1⟩ ?_
   refine hdv0 1 17 (.int .i64 (k : Int)) (by rfl) ⟨HJ.out.1, HJ.out.2.1⟩ ?_
   refine hdv 2 18 (.pointer (some ⟨g, o + k * 256, none⟩)) (by rfl) (fun w hS => at_hl (n := n) (c := c1) (k := k) (g := g) (oo := o) hlt rfl (by kernel_rfl) (by kernel_rfl)) ⟨HJ.out.1, HJ.out.2.1⟩ ?_
   refine hdv 3 19 (.agg (hc (L k)).toArray) (by rfl) (fun w hS => run_loadMidH (g := g) (k := o + k * 256) (by kernel_rfl) (hS.1.range hlt) Try.underlying39 rfl (info_dH.trans (size_hc _))) ⟨HJ.out.1, HJ.out.2.1⟩ ?_
   refine hdv0 4 20 (.slice (some ⟨g2, o2, none⟩) n c2) (by rfl) ⟨HJ.out.1, HJ.out.2.1⟩ ?_
   refine hdv0 5 21 (.int .i64 (k : Int)) (by rfl) ⟨HJ.out.1, HJ.out.2.1⟩ ?_
   refine hdv 6 22 (.pointer (some ⟨g2, o2 + k * 256, none⟩)) (by rfl) (fun w hS => at_hl (n := n) (c := c2) (k := k) (g := g2) (oo := o2) hlt rfl (by kernel_rfl) (by kernel_rfl)) ⟨HJ.out.1, HJ.out.2.1⟩ ?_
   refine hdv 7 23 (.agg (hc (L k)).toArray) (by rfl) (fun w hS => run_loadMidH (g := g2) (k := o2 + k * 256) (by kernel_rfl) (hS.2.range hlt) Try.underlying39 rfl (info_dH.trans (size_hc _))) ⟨HJ.out.1, HJ.out.2.1⟩ ?_
   refine hdv 8 24 (.bool false) (by rfl) (fun w hS => run_neq_agg (r := true) (by kernel_rfl) (HEQ.out (L k) w) (by kernel_rfl) (by kernel_rfl)) ⟨HJ.out.1, HJ.out.2.1⟩ ?_
   refine wpAnyH_done (by kernel_rfl) ?_ _
   go_wp2
   go_roundw
   case rel => exact ⟨k + 1, by omega, by go_num, HJ⟩
   case measure => simp [intOf]; omega
  ·have hlt2 : ¬ (k : Int) < (n : Int) := by omega
   go_wp2
   go_ret
   exact ⟨rfl, HI.out.2.2.1⟩
/-- what the four functions answer -/
theorem packs_any (n : Nat) (most : Int) (L : Nat → Nat → Bool) : ∃ E bs, ∀ (B : Nat) (v : Value) (w : World), HintsAt w B v n L → B ≤ w.heap.size → Calls Try.prog 5 #[v, .int .i64 most] w (BytesErr w E bs) ∧ Calls Try.prog 6 #[v, .int .i64 most] w (BytesErr w E bs) := by
 cases hb : mayB (n : Int) most with
 | false => exact ⟨1, [], fun B v w h hB => by
   obtain ⟨A, c, rfl⟩ := h.form
   exact ⟨PackHints_bad n most hb A c w, refPackHints_bad n most hb A c w⟩⟩
 | true =>
  have h5 : (n : Int) ≤ 16 ∧ 0 ≤ most ∧ most ≤ 255 := by
   unfold mayB at hb
   simp at hb
   omega
  obtain ⟨m, rfl⟩ : ∃ m : Nat, most = (m : Int) := ⟨most.toNat, by omega⟩
  exact ⟨pkE L n m, pkB L n m, fun B v w h hB => ⟨PackHints_ok n m (by omega) (by omega) B v L w h hB, refPackHints_ok n m (by omega) (by omega) B v L w h hB⟩⟩
theorem unpacks_any (n most : Int) (bs : List UInt8) : ∃ E m L, m ≤ 16 ∧ ∀ (B : Nat) (v : Value) (w : World), Sl w B v bs → B ≤ w.heap.size → Calls Try.prog 7 #[.int .i64 n, .int .i64 most, v] w (HintsErr w E m L) ∧ Calls Try.prog 8 #[.int .i64 n, .int .i64 most, v] w (HintsErr w E m L) := by
 by_cases hb : mayB n most = false ∨ (mayB n most = true ∧ (bs.length : Int) ≠ most + n)
 ·exact ⟨1, 0, fun _ _ => false, by omega, fun B v w h hB => ⟨UnpackHints_bad n most B v bs w h hb _, refUnpackHints_bad n most B v bs w h hb _⟩⟩
 ·have hb2 : mayB n most = true := by
   cases h : mayB n most with
   | false => exact absurd (.inl h) hb
   | true => rfl
  have hl : (bs.length : Int) = most + n := by
   by_cases h : (bs.length : Int) = most + n
   ·exact h
   ·exact absurd (.inr ⟨hb2, h⟩) hb
  have h5 : 0 ≤ n ∧ n ≤ 16 ∧ 0 ≤ most ∧ most ≤ 255 := by
   unfold mayB at hb2
   simp at hb2
   omega
  obtain ⟨k, rfl⟩ : ∃ m : Nat, most = (m : Int) := ⟨most.toNat, by omega⟩
  obtain ⟨n, rfl⟩ : ∃ m : Nat, n = (m : Int) := ⟨n.toNat, by omega⟩
  obtain ⟨E, m, hE⟩ := UnR.some_ bs k n
  refine ⟨E, m, unL bs k, ?_, fun B v w h hB => ⟨UnpackHints_ok n k (by omega) (by omega) B v bs (by omega) w h hB E m hE, refUnpackHints_ok n k (by omega) (by omega) B v bs (by omega) w h hB E m hE⟩⟩
  by_cases h : okAll bs k n
  ·have := (hE.1 h).2
   omega
  ·have := (hE.2 h).2
   omega
set_option maxHeartbeats 8000000 in
theorem dringPlaces_law (n : Nat) (L : Nat → Nat → Bool) (num most : Int) (v1 v2 : Value) (bs : List UInt8) (w : World) (h1 : HintsAt w w.heap.size v1 n L) (h2 : Sl w w.heap.size v2 bs) : Calls Try.prog 3 #[v1, .int .i64 num, .int .i64 most, v2] w (TrueIs w) := by
 unfold TrueIs
 generalize hN : w.heap.size = N at *
 have HLV : Shh (∀ W, Calls Try.prog 4 #[] W (TrueIs W)) := ⟨fun W => live15 W⟩
 obtain ⟨PE, PB, hP⟩ := packs_any n most L
 obtain ⟨UE, m, M, hm, hU⟩ := unpacks_any num most bs
 obtain ⟨A, c1, rfl⟩ := h1.form
 have HP := Shh.mk hP
 have HU := Shh.mk hU
 have HM := Shh.mk hm
 have FA : Shh (HintsAt w N (.slice A n c1) n L ∧ Sl w N v2 bs ∧ Below N w w ∧ N ≤ w.heap.size) := ⟨h1, h2, Below.refl _ _, by rw [hN]; exact Nat.le_refl _⟩
 clear hP hU hm h1 h2
 by_cases hlen : 100 < n
 ·have hi : (100 : Int) < (n : Int) := by omega
  go_enter Try.func3, Try.ntmps3
  go_wp2_with (go_at_call 4; refine (HLV.out _).mono ?_)
  rintro e w1 ⟨rfl, b1⟩
  rw [hN] at b1
  go_wp2
  go_ret
  exact ⟨rfl, b1⟩
 ·have hi : ¬ (100 : Int) < (n : Int) := by omega
  have HC := Shh.mk (HP.out N _ w (FA.out.1) (FA.out.2.2.2)).1
  go_enter Try.func3, Try.ntmps3
  go_wp2_with ((go_at_call 5; refine (HC.out).mono ?_))
  rintro e w1 ⟨x1, rfl, hx1, b1⟩
  have FB : Shh (HintsAt w1 (N) (.slice A n c1) (n) (L) ∧ Sl w1 (N) (v2) (bs) ∧ Below N w w1 ∧ N ≤ w1.heap.size ∧ Sl w1 w1.heap.size (x1) (PB)) := by
   obtain ⟨h0, h1, h2, h3⟩ := FA.out
   have := b1.size
   exact ⟨h0.below (b1.mono (by omega)), h1.below (b1.mono (by omega)), h2.trans (b1.mono (by omega)), (by omega), hx1⟩
  clear b1 FA hx1 HC
  have HC := Shh.mk (HP.out N _ w1 (FB.out.1) (FB.out.2.2.2.1)).2
  go_wp2_with ((go_at_call 6; refine (HC.out).mono ?_))
  rintro e w2 ⟨x2, rfl, hx2, b2⟩
  have FC : Shh (HintsAt w2 (N) (.slice A n c1) (n) (L) ∧ Sl w2 (N) (v2) (bs) ∧ Below N w w2 ∧ N ≤ w2.heap.size ∧ Sl w2 w2.heap.size (x1) (PB) ∧ Sl w2 w2.heap.size (x2) (PB)) := by
   obtain ⟨h0, h1, h2, h3, h4⟩ := FB.out
   have := b2.size
   exact ⟨h0.below (b2.mono (by omega)), h1.below (b2.mono (by omega)), h2.trans (b2.mono (by omega)), (by omega), h4.go b2, hx2⟩
  clear b2 FB hx2 HC
  have HC := Shh.mk (HU.out N _ w2 (FC.out.2.1) (FC.out.2.2.2.1)).1
  go_wp2_with ((go_at_call 7; refine (HC.out).mono ?_))
  rintro e w3 ⟨x3, rfl, hx3, b3⟩
  have FD : Shh (HintsAt w3 (N) (.slice A n c1) (n) (L) ∧ Sl w3 (N) (v2) (bs) ∧ Below N w w3 ∧ N ≤ w3.heap.size ∧ Sl w3 w3.heap.size (x1) (PB) ∧ Sl w3 w3.heap.size (x2) (PB) ∧ HintsAt w3 w3.heap.size (x3) (m) (M)) := by
   obtain ⟨h0, h1, h2, h3, h4, h5⟩ := FC.out
   have := b3.size
   exact ⟨h0.below (b3.mono (by omega)), h1.below (b3.mono (by omega)), h2.trans (b3.mono (by omega)), (by omega), h4.go b3, h5.go b3, hx3⟩
  clear b3 FC hx3 HC
  have HC := Shh.mk (HU.out N _ w3 (FD.out.2.1) (FD.out.2.2.2.1)).2
  go_wp2_with ((go_at_call 8; refine (HC.out).mono ?_))
  rintro e w4 ⟨x4, rfl, hx4, b4⟩
  have FE : Shh (HintsAt w4 (N) (.slice A n c1) (n) (L) ∧ Sl w4 (N) (v2) (bs) ∧ Below N w w4 ∧ N ≤ w4.heap.size ∧ Sl w4 w4.heap.size (x1) (PB) ∧ Sl w4 w4.heap.size (x2) (PB) ∧ HintsAt w4 w4.heap.size (x3) (m) (M) ∧ HintsAt w4 w4.heap.size (x4) (m) (M)) := by
   obtain ⟨h0, h1, h2, h3, h4, h5, h6⟩ := FD.out
   have := b4.size
   exact ⟨h0.below (b4.mono (by omega)), h1.below (b4.mono (by omega)), h2.trans (b4.mono (by omega)), (by omega), h4.go b4, h5.go b4, h6.go b4, hx4⟩
  clear b4 FD hx4 HC
  go_wp2_with ((go_at_call 4; refine (HLV.out _).mono ?_))
  rintro e w5 ⟨rfl, b5⟩
  have FF : Shh (HintsAt w5 (N) (.slice A n c1) (n) (L) ∧ Sl w5 (N) (v2) (bs) ∧ Below N w w5 ∧ N ≤ w5.heap.size ∧ Sl w5 w5.heap.size (x1) (PB) ∧ Sl w5 w5.heap.size (x2) (PB) ∧ HintsAt w5 w5.heap.size (x3) (m) (M) ∧ HintsAt w5 w5.heap.size (x4) (m) (M)) := by
   obtain ⟨h0, h1, h2, h3, h4, h5, h6, h7⟩ := FE.out
   have := b5.size
   exact ⟨h0.below (b5.mono (by omega)), h1.below (b5.mono (by omega)), h2.trans (b5.mono (by omega)), (by omega), h4.go b5, h5.go b5, h6.go b5, h7.go b5⟩
  clear b5 FE
  have HC := Shh.mk (refEqual_any _ _ _ _ _ _ w5 (FF.out.2.2.2.2.1) (FF.out.2.2.2.2.2.1))
  rw [show (PB == PB) = true by simp] at HC
  go_wp2_with ((go_at_call 9; refine (HC.out).mono ?_))
  rintro e w6 ⟨rfl, rfl⟩
  clear HC
  have HC := Shh.mk (same_any m _ _ _ _ M w5 (FF.out.2.2.2.2.2.2.1) (FF.out.2.2.2.2.2.2.2) (Nat.le_refl _) (Nat.le_refl _) (by have := HM.out; omega))
  go_wp2_with ((go_at_call 10; refine (HC.out).mono ?_))
  rintro e w7 ⟨rfl, b7⟩
  have FG : Shh (HintsAt w7 (N) (.slice A n c1) (n) (L) ∧ Sl w7 (N) (v2) (bs) ∧ Below N w w7 ∧ N ≤ w7.heap.size ∧ Sl w7 w7.heap.size (x1) (PB) ∧ Sl w7 w7.heap.size (x2) (PB) ∧ HintsAt w7 w7.heap.size (x3) (m) (M) ∧ HintsAt w7 w7.heap.size (x4) (m) (M)) := by
   obtain ⟨h0, h1, h2, h3, h4, h5, h6, h7⟩ := FF.out
   have := b7.size
   exact ⟨h0.below (b7.mono (by omega)), h1.below (b7.mono (by omega)), h2.trans (b7.mono (by omega)), (by omega), h4.go b7, h5.go b7, h6.go b7, h7.go b7⟩
  clear b7 FF HC
  go_wp2
  go_ret
  exact ⟨rfl, FG.out.2.2.1⟩
end Go.Proofs.Ytflalpcceeocaaa
