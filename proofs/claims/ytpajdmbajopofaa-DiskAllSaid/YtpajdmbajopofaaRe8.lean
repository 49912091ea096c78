/-
 WALKS: the document's Sync and Crash.
-/
import Derived.Test.YtpajdmbajopofaaRe7
namespace Go.Proofs.Ytpajdmbajopofaa
open Go.RowKit
set_option maxRecDepth 100000
theorem RAt.open0 {col : Nat → Nat} {c g : Nat} {w : World} {s : DS} (h : RAt col c w g s) : ∃ p cp cur, w.cell? ⟨g, 0, none⟩ = some (.slice (some ⟨p, 0, none⟩) s.good.length cp) ∧ col p = c ∧ p ≠ g ∧ w.heap[p]? = some (.cells cur 33 (0, 0)) ∧ s.good.length ≤ cur.size := by
 obtain ⟨h0, h1, gv, wv, h3, ⟨xs, h4, h5, h6⟩, h7⟩ := h
 rcases h4.2 with ⟨rfl, e⟩ | ⟨p, cap, cur, rfl, _, hp, hn, hm, hs, ht⟩
 ·have := h0.lo; omega
 ·refine ⟨p, cap, cur, h3.cell 0, h5 p rfl, fun e => ?_, hp, by omega⟩
  rw [e, show w.heap[g]? = _ from h3] at hp
  injection hp with hp
  injection hp with _ hp
  exact absurd hp (by decide)
theorem RAt.put {col : Nat → Nat} {c g p cp n i : Nat} {w : World} {s : DS} {u : Value} {bs : List UInt8} (h : RAt col c w g s) (hc : c ≠ 0) (hp : w.cell? ⟨g, 0, none⟩ = some (.slice (some ⟨p, 0, none⟩) n cp)) (hd : Dat col w u bs) (hb : bs.length = 256) : RAt col c (w.setCell ⟨p, i, none⟩ u) g { s with good := s.good.set i bs } := by
 obtain ⟨p', cp', cur, e1, e2, e3, e4, e5⟩ := h.open0
 rw [hp] at e1
 injection e1 with e1
 injection e1 with e1
 injection e1 with e1
 injection e1 with e1
 subst e1
 obtain ⟨h0, h1, gv, wv, h3, ⟨xs, h4, h5, h6⟩, h7⟩ := h
 have bt : But w.heap.size p w (w.setCell ⟨p, i, none⟩ u) := but_set w p i u
 have hrp : Row w p 33 cur.toList := by show w.heap[p]? = _; rw [e4]
 have hcp : col p ≠ 0 := by rw [e2]; exact hc
 have hgv : ∃ cq, gv = .slice (some ⟨p, 0, none⟩) s.good.length cq := by
  have e := h3.cell 0
  rw [hp] at e
  injection e with e
  rcases h4.2 with ⟨rfl, k⟩ | ⟨q, cap, cu, rfl, _⟩
  ·have := h0.lo; omega
  ·have e' : Value.slice (some ⟨p, 0, none⟩) n cp = .slice (some ⟨q, 0, none⟩) s.good.length cap := e
   injection e' with e1 e2 e3
   rw [← e1]
   exact ⟨_, rfl⟩
 obtain ⟨cq, rfl⟩ := hgv
 refine ⟨h0.set _ _ _ _ _ (List.length_set ..) (fun b hb2 => ?_) h0.wt h0.f0 h0.f1, h1, .slice (some ⟨p, 0, none⟩) s.good.length cq, wv, h3.other _ _ (Ne.symm e3), ⟨xs.set i u, ?_, h5, fun j hj => ?_⟩, h7.but bt hrp (by decide) hcp⟩
 ·rcases List.mem_or_eq_of_mem_set hb2 with hb3 | rfl
  ·exact h0.sec b hb3
  ·exact hb
 ·have := (h4.stored i u).1
  show World.ownsRow _ _ _ _ _ (s.good.set i bs).length _
  rw [List.length_set]
  exact this
 ·have hj' : j < s.good.length := by have e : (s.good.set i bs).length = s.good.length := List.length_set ..; have hj2 : j < (s.good.set i bs).length := hj; omega
  show ∃ u', (xs.set i u)[j]? = some u' ∧ Dat col _ u' ((s.good.set i bs)[j]'_)
  have hxl : xs.length = s.good.length := by have := h4.1; omega
  by_cases hij : i = j
  ·subst hij
   refine ⟨u, by rw [List.getElem?_set_self (by omega)], ?_⟩
   rw [List.getElem_set_self]
   exact hd.but bt hcp
  ·obtain ⟨u', k1, k2⟩ := h6 j hj'
   refine ⟨u', by rw [List.getElem?_set_ne hij]; exact k1, ?_⟩
   rw [List.getElem_set_ne hij]
   exact k2.but bt hcp
theorem RAt.unwait {col : Nat → Nat} {c g : Nat} {w : World} {s : DS} (h : RAt col c w g s) (hc : c ≠ 0) : Ext col c w (w.setCell ⟨g, 1, none⟩ (.slice none 0 0)) col ∧ RAt col c (w.setCell ⟨g, 1, none⟩ (.slice none 0 0)) g { s with wait := [] } := by
 obtain ⟨h0, h1, gv, wv, h3, h4, h5⟩ := h
 have bt : But w.heap.size g w (w.setCell ⟨g, 1, none⟩ (.slice none 0 0)) := but_set w g 1 _
 exact ⟨Ext.of_but bt h1, h0.set _ _ _ _ _ rfl h0.sec (fun x hx => by cases hx) h0.f0 h0.f1, h1, gv, _, h3.set_ 1 _, h4.but bt h3 (by decide) (by rw [h1]; exact hc), [], World.ownsRow_nil _ _ _ _, (fun k hk => by cases hk), (fun j hj => by cases hj)⟩
/-- some of the pending writes lie in their sectors -/
def gk (s : DS) (pk : Nat → Bool) (k : Nat) : DS := { s with good := applyL s.good (pickU pk s.wait k) }
def RsI (col : Nat → Nat) (c g p : Nat) (w : World) (s : DS) (pk : Nat → Bool) (k : Nat) (W : World) : Prop := RAt col c W g (gk s pk k) ∧ But w.heap.size p w W
section
variable {col : Nat → Nat} {c g p n cp k : Nat} {w W Z : World} {s : DS} {pk : Nat → Bool}
theorem RsI.start (h : RAt col c w g s) : RsI col c g p w s pk 0 w := by
 refine ⟨?_, But.refl _ _ _⟩
 have e : gk s pk 0 = s := rfl
 rw [e]
 exact h
theorem RsI.skip (h : RsI col c g p w s pk k W) (hk : pk k = false) (b : Below W.heap.size W Z) : RsI col c g p w s pk (k + 1) Z := by
 have e : gk s pk (k + 1) = gk s pk k := by unfold gk; rw [pickU_no hk]
 refine ⟨?_, h.2.trans (But.of (b.mono h.2.size) p)⟩
 rw [e]
 exact h.1.go b
theorem RsI.good_len : (gk s pk k).good.length = s.good.length := applyL_length _ _
theorem RsI.step {u : Value} (h : RsI col c g p w s pk k W) (hc : c ≠ 0) (hk : pk k = true) (hkl : k < s.wait.length) (b : Below W.heap.size W Z) (hp : w.cell? ⟨g, 0, none⟩ = some (.slice (some ⟨p, 0, none⟩) n cp)) (hgl : g < w.heap.size) (hpl : p < w.heap.size) (hgp : g ≠ p) (hcp : col p = c) (hd : Dat col w u s.wait[k].2) (hwt : s.wait[k].2.length = 256) :
  RsI col c g p w s pk (k + 1) (Z.setCell ⟨p, s.wait[k].1, none⟩ u) ∧ ∃ cs, Row Z p 33 cs ∧ s.good.length ≤ cs.length := by
 have hb2 := h.2.trans (But.of (b.mono h.2.size) p)
 have hpZ : Z.cell? ⟨g, 0, none⟩ = some (.slice (some ⟨p, 0, none⟩) n cp) := (hb2.cell (p := ⟨g, 0, none⟩) hgl hgp).trans hp
 have hR := h.1.go b
 have e : gk s pk (k + 1) = { gk s pk k with good := (gk s pk k).good.set s.wait[k].1 s.wait[k].2 } := by unfold gk; rw [pickU_yes hk hkl, applyL_snoc]
 obtain ⟨p', cp', cur, e1, e2, e3, e4, e5⟩ := hR.open0
 rw [hpZ] at e1
 injection e1 with e1
 injection e1 with e1
 injection e1 with e1
 injection e1 with e1
 subst e1
 rw [RsI.good_len] at e5
 refine ⟨⟨?_, hb2.setCell _ _⟩, cur.toList, by show Z.heap[p]? = _; rw [e4], by simpa using e5⟩
 rw [e]
 exact hR.put hc hpZ (hd.but hb2 (by rw [hcp]; exact hc)) hwt
end
theorem idx_rs {a : Act} {x y : Operand} {op : Oper} {w : World} {p n cp i : Nat} (hi : i < n) (ho : op.op = .indexAddr 61 x y) (hx : a.eval x = .slice (some ⟨p, 0, none⟩) n cp) (hy : a.eval y = .int .i64 (i : Int)) : (execOp a.eval op).run Try.prog w = .ok (.value (.pointer (some ⟨p, i, none⟩))) w := by
 have h1 : (i : Int) < (n : Int) := by omega
 have h2 : (0 : Int) ≤ (i : Int) := by omega
 unfold execOp
 simp only [ho, hx, hy]
 go_simp
end Go.Proofs.Ytpajdmbajopofaa
