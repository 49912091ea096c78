/-
 WALKS: the document's disk: May, burnt, Arm, looks.
-/
import Derived.Test.YtpajdmbajopofaaDk20
namespace Go.Proofs.Ytpajdmbajopofaa
open Go.RowKit
set_option maxRecDepth 100000
theorem May_any (n : Int) (w : World) : Calls Try.prog 37 #[.int .i64 n] w (AnsIs w (.bool (decide (8 ≤ n ∧ n ≤ 2048)))) := by
 unfold AnsIs
 by_cases h1 : 8 ≤ n
 ·have HR : Shh (decide (8 ≤ n ∧ n ≤ 2048) = decide (n ≤ 2048)) := ⟨by simp [h1]⟩
  rw [HR.out]
  go_enter Try.func37, Try.ntmps37
  go_wp2
  go_ret
  exact ⟨rfl, rfl⟩
 ·have HR : Shh (decide (8 ≤ n ∧ n ≤ 2048) = false) := ⟨by simp; omega⟩
  rw [HR.out]
  go_enter Try.func37, Try.ntmps37
  go_wp2
  go_ret
  exact ⟨rfl, rfl⟩
theorem RAt.cells {col : Nat → Nat} {c g : Nat} {w : World} {s : DS} (h : RAt col c w g s) : w.cell? ⟨g, 2, none⟩ = some (.bool (!s.on)) ∧ w.cell? ⟨g, 3, none⟩ = some (.int .i64 s.fuse) ∧ w.cell? ⟨g, 4, none⟩ = some (.int .i64 s.done) ∧ (∃ A cap, w.cell? ⟨g, 0, none⟩ = some (.slice A s.good.length cap)) ∧ (∃ A cap, w.cell? ⟨g, 1, none⟩ = some (.slice A s.wait.length cap)) := by
 obtain ⟨h0, h1, gv, wv, h3, ⟨xs, h4, _⟩, ys, h5, _⟩ := h
 refine ⟨h3.cell 2, h3.cell 3, h3.cell 4, ?_, ?_⟩
 ·rcases h4.2 with ⟨rfl, e⟩ | ⟨p, cap, cur, rfl, _⟩
  ·exact ⟨none, 0, by rw [e]; exact h3.cell 0⟩
  ·exact ⟨_, _, h3.cell 0⟩
 ·rcases h5.2 with ⟨rfl, e⟩ | ⟨p, cap, cur, rfl, _⟩
  ·exact ⟨none, 0, by rw [e]; exact h3.cell 1⟩
  ·exact ⟨_, _, h3.cell 1⟩
theorem ownsRow_but {w w' : World} {T U : TypeId} {sz n g : Nat} {v : Value} {xs cs : List Value} (h : w.ownsRow 0 T sz v n xs) (b : But w.heap.size g w w') (hr : Row w g U cs) (hT : U ≠ T) : w'.ownsRow 0 T sz v n xs := by
 refine ⟨h.1, ?_⟩
 rcases h.2 with h4 | ⟨p, cap, cur, hv', hb, hp, rest⟩
 ·exact .inl h4
 ·refine .inr ⟨p, cap, cur, hv', hb, (b.block p (Array.getElem?_eq_some_iff.1 hp).1 (fun e => ?_)).trans hp, rest⟩
  rw [e, show w.heap[g]? = _ from hr] at hp
  injection hp with hp
  injection hp with _ hp
  exact hT hp
theorem Dat.but {col : Nat → Nat} {w w' : World} {g : Nat} {u : Value} {bs : List UInt8} (h : Dat col w u bs) (b : But w.heap.size g w w') (hg : col g ≠ 0) : Dat col w' u bs := by
 obtain ⟨b', off, cp, k1, k2, k3, k4, k5, k6⟩ := h
 exact ⟨b', off, cp, k1, k2, Nat.lt_of_lt_of_le k3 b.size, k4, k5, fun k hk => (World.cell?_of_block (a := ⟨b', off + k, none⟩) (b.block b' k3 (fun e => hg (by rw [← e]; exact k2)))).trans (k6 k hk)⟩
theorem GAt.but {col : Nat → Nat} {w w' : World} {U : TypeId} {d g : Nat} {v : Value} {l : List (List UInt8)} {cs : List Value} (h : GAt col d w v l) (b : But w.heap.size g w w') (hr : Row w g U cs) (hT : U ≠ 33) (hg : col g ≠ 0) : GAt col d w' v l := by
 obtain ⟨xs, h1, h2, h3⟩ := h
 refine ⟨xs, ownsRow_but h1 b hr hT, h2, fun j hj => ?_⟩
 obtain ⟨u, h4, h5⟩ := h3 j hj
 exact ⟨u, h4, h5.but b hg⟩
theorem RAt.turn {col : Nat → Nat} {c g : Nat} {w W : World} {s : DS} (h : RAt col c w g s) (hc : c ≠ 0) (b : But w.heap.size g w W) (on : Bool) (f d : Int)
  (hr : ∀ x y, Row w g 64 [x, y, .bool (!s.on), .int .i64 s.fuse, .int .i64 s.done] → Row W g 64 [x, y, .bool (!on), .int .i64 f, .int .i64 d]) (hok : DS.ok { s with on := on, fuse := f, done := d }) :
  Ext col c w W col ∧ RAt col c W g { s with on := on, fuse := f, done := d } := by
 obtain ⟨h0, h1, gv, wv, h3, h4, h5⟩ := h
 have hg0 : col g ≠ 0 := by rw [h1]; exact hc
 exact ⟨Ext.of_but b h1, hok, h1, gv, wv, hr _ _ h3, h4.but b h3 (by decide) hg0, h5.but b h3 (by decide) hg0⟩
/-- a call on the document's disk -/
def RefIs (col : Nat → Nat) (c : Nat) (w : World) (g : Nat) (s : DS) (v : Value) (e : Ending) (w' : World) : Prop := e = .returned v ∧ Ext col c w w' col ∧ RAt col c w' g s
def RefIx (col : Nat → Nat) (c : Nat) (w : World) (g : Nat) (s : DS) (v : Value) (e : Ending) (w' : World) : Prop := e = .returned v ∧ ∃ col', Ext col c w w' col' ∧ RAt col' c w' g s
theorem RAt.free {col : Nat → Nat} {c g : Nat} {w : World} {s : DS} (h : RAt col c w g s) (k : Nat) : w.frozen? ⟨g, k, none⟩ = false := by
 obtain ⟨_, _, _, _, h3, _⟩ := h
 exact h3.free k
theorem burnt_any {col : Nat → Nat} {c g : Nat} {w : World} {s : DS} (h : RAt col c w g s) (hc : c ≠ 0) : Calls Try.prog 51 #[.pointer (some ⟨g, 0, none⟩)] w (RefIs col c w g (opS s) (.bool (decide (s.fuse = 0)))) := by
 unfold RefIs
 obtain ⟨c2, c3, c4, _⟩ := h.cells
 have hok := h.1.op
 have hf0 := h.1.f0
 have hf1 := h.1.f1
 have f2 := h.free 2
 have f3 := h.free 3
 have f4 := h.free 4
 unfold opS at *
 by_cases hz : s.fuse = 0
 ·rw [if_pos hz] at hok ⊢
  rw [decide_eq_true hz]
  have F : Shh (Ext col c w ((w.setCell ⟨g, 2, none⟩ (.bool true)).setCell ⟨g, 3, none⟩ (.int .i64 (-1))) col ∧ RAt col c ((w.setCell ⟨g, 2, none⟩ (.bool true)).setCell ⟨g, 3, none⟩ (.int .i64 (-1))) g { s with on := false, fuse := -1 }) :=
   ⟨h.turn hc (But.chain (but_set w g 2 _) (but_set _ g 3 _)) false (-1) s.done (fun x y hr => (hr.set_ 2 _).set_ 3 _) hok⟩
  rw [hz] at c3
  clear h hok hf0 hf1 hz
  go_enter Try.func51, Try.ntmps51
  go_wp2
  go_ret
  exact ⟨rfl, F.out⟩
 ·rw [if_neg hz] at hok ⊢
  rw [decide_eq_false hz]
  obtain ⟨f, hf⟩ : ∃ f, f = s.fuse := ⟨_, rfl⟩
  obtain ⟨d, hd⟩ : ∃ d, d = wrap64 (s.done + 1) := ⟨_, rfl⟩
  by_cases hm : s.fuse = -1
  ·rw [if_pos hm] at hok ⊢
   have F : Shh (Ext col c w (w.setCell ⟨g, 4, none⟩ (.int .i64 d)) col ∧ RAt col c (w.setCell ⟨g, 4, none⟩ (.int .i64 d)) g { s with fuse := -1, done := d }) := by
    rw [hd]
    exact ⟨h.turn hc (but_set w g 4 _) s.on (-1) _ (fun x y hr => by have := hr.set_ 4 (.int .i64 (wrap64 (s.done + 1))); rw [hm] at this; exact this) hok⟩
   rw [hm] at c3
   rw [← hd]
   clear h hok hf0 hf1 hz hf
   go_enter Try.func51, Try.ntmps51
   go_wp2
   rw [← hd]
   go_ret
   exact ⟨rfl, F.out⟩
  ·rw [if_neg hm] at hok ⊢
   have hw : IntKind.i64.wrap (s.fuse - 1) = s.fuse - 1 := by rw [IntKind.wrap_i64]; omega
   have hpos : 0 < s.fuse := by omega
   have F : Shh (Ext col c w ((w.setCell ⟨g, 3, none⟩ (.int .i64 (s.fuse - 1))).setCell ⟨g, 4, none⟩ (.int .i64 d)) col ∧ RAt col c ((w.setCell ⟨g, 3, none⟩ (.int .i64 (s.fuse - 1))).setCell ⟨g, 4, none⟩ (.int .i64 d)) g { s with fuse := s.fuse - 1, done := d }) := by
    rw [hd]
    exact ⟨h.turn hc (But.chain (but_set w g 3 _) (but_set _ g 4 _)) s.on _ _ (fun x y hr => (hr.set_ 3 _).set_ 4 _) hok⟩
   rw [← hd]
   rw [← hf] at c3 hz hm hw hpos F ⊢
   clear h hok hf0 hf1 hf
   go_enter Try.func51, Try.ntmps51
   go_wp2
   rw [← hd]
   go_ret
   exact ⟨rfl, F.out⟩
theorem rArm_any {col : Nat → Nat} {c g : Nat} {w : World} {s : DS} (h : RAt col c w g s) (hc : c ≠ 0) (n : Int) (hn : n ≤ 9223372036854775807) : Calls Try.prog 40 #[.pointer (some ⟨g, 0, none⟩), .int .i64 n] w (RefIs col c w g (arS s n) (.int .i64 (arE s n))) := by
 unfold RefIs
 obtain ⟨c2, c3, c4, _⟩ := h.cells
 have hok := h.1.arm n hn
 have f3 := h.free 3
 unfold arS arE at *
 by_cases hz : n < 0
 ·rw [if_pos hz, if_pos hz]
  have F : Shh (Ext col c w w col ∧ RAt col c w g s) := ⟨Ext.refl _ _ _, h⟩
  clear h hok
  go_enter Try.func40, Try.ntmps40
  go_wp2
  go_ret
  exact ⟨rfl, F.out⟩
 ·rw [if_neg hz] at hok ⊢
  rw [if_neg hz]
  cases hon : s.on with
  | false =>
   rw [if_pos rfl, if_pos rfl]
   have F : Shh (Ext col c w w col ∧ RAt col c w g s) := ⟨Ext.refl _ _ _, h⟩
   rw [hon] at c2
   clear h hok
   go_enter Try.func40, Try.ntmps40
   go_wp2
   go_ret
   exact ⟨rfl, F.out⟩
  | true =>
   rw [if_neg (by decide), if_neg (by decide)]
   rw [if_neg (by rw [hon]; decide)] at hok
   have F : Shh (Ext col c w (w.setCell ⟨g, 3, none⟩ (.int .i64 n)) col ∧ RAt col c (w.setCell ⟨g, 3, none⟩ (.int .i64 n)) g { s with fuse := n }) :=
    ⟨h.turn hc (but_set w g 3 _) s.on n s.done (fun x y hr => hr.set_ 3 _) hok⟩
   rw [hon] at c2 F
   clear h hok
   go_enter Try.func40, Try.ntmps40
   go_wp2
   go_ret
   exact ⟨rfl, F.out⟩
/-- the sectors as parts to be joined -/
theorem dat_off {col : Nat → Nat} {w : World} {u : Value} {bs : List UInt8} (h : Dat col w u bs) : Off w.heap.size u := by
 obtain ⟨b, off, cp, h1, h2, h3, _⟩ := h
 rw [h1]
 intro x l c e _
 injection e with e
 injection e with e
 rw [← e]
 exact Nat.ne_of_lt h3
theorem GAt.parts {col : Nat → Nat} {d : Nat} {w : World} {v : Value} {l : List (List UInt8)} (h : GAt col d w v l) : PartsO w w.heap.size w.heap.size v l := by
 obtain ⟨xs, h1, _, h3⟩ := h
 rcases h1.2 with ⟨rfl, e⟩ | ⟨p, cap, cur, rfl, _, hp, hn, hm, hs, ht⟩
 ·have hl : l = [] := List.eq_nil_of_length_eq_zero e
  subst hl
  exact ⟨none, 0, rfl, fun h => by cases h⟩
 ·have hpl := (Array.getElem?_eq_some_iff.1 hp).1
  refine ⟨some ⟨p, 0, none⟩, cap, rfl, fun _ => ⟨p, 0, rfl, hpl, by omega, fun i hi => ?_⟩⟩
  obtain ⟨u, h4, h5⟩ := h3 i hi
  have hc := h1.cells (g := p) rfl i u h4
  rw [addr_add] at hc
  exact ⟨u, hc, h5.sl, dat_off h5⟩
theorem rImage_any {col : Nat → Nat} {c g : Nat} {w : World} {s : DS} (h : RAt col c w g s) : Calls Try.prog 20 #[.pointer (some ⟨g, 0, none⟩)] w (OwnIs w s.good.flatten) := by
 have hfl := flat_length h.1.sec
 have hhi := h.1.hi
 obtain ⟨h0, h1, gv, wv, h3, h4, h5⟩ := h
 have HJ := Shh.mk (refJoin_any w.heap.size w.heap.size gv s.good w h4.parts (Nat.le_refl _) (by omega) (by omega))
 have hP := h4.parts
 obtain ⟨A, cp, rfl⟩ := hP.form
 have c0 : w.cell? ⟨g, 0, none⟩ = some (.slice A s.good.length cp) := h3.cell 0
 obtain ⟨bs, hbs⟩ : ∃ bs, bs = s.good.flatten := ⟨_, rfl⟩
 rw [← hbs] at HJ ⊢
 generalize s.good.length = n at *
 clear h0 h1 h3 h4 h5 hP hfl hhi hbs
 unfold OwnIs Gives at *
 go_enter Try.func20, Try.ntmps20
 go_wp2_with (go_at_call 21; refine (HJ.out).mono ?_)
 rintro e w2 ⟨v, rfl, k1, k2⟩
 have F := Shh.mk (And.intro k1 k2)
 clear k1 k2
 go_wp2
 go_ret
 exact ⟨_, rfl, F.out⟩
end Go.Proofs.Ytpajdmbajopofaa
