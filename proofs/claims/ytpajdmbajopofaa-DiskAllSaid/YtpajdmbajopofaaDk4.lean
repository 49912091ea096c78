/-
 WALKS: operate, Arm, Calm.
-/
import Derived.Test.YtpajdmbajopofaaDk3
namespace Go.Proofs.Ytpajdmbajopofaa
open Go.RowKit
set_option maxRecDepth 100000
/-- a call on a disk: its answer, and the disk behind it -/
def DiskIs (col : Nat → Nat) (c : Nat) (w : World) (g : Nat) (s : DS) (v : Value) (e : Ending) (w' : World) : Prop := e = .returned v ∧ Ext col c w w' col ∧ DAt col c w' g s
theorem but_set (w : World) (g k : Nat) (v : Value) : But w.heap.size g w (w.setCell ⟨g, k, none⟩ v) := ⟨rfl, rfl, rfl, by simp [World.setCell], fun i _ hne => heap_setCell_other w ⟨g, k, none⟩ i v hne⟩
theorem sz_set (w : World) (g k : Nat) (v : Value) : (w.setCell ⟨g, k, none⟩ v).heap.size = w.heap.size := by simp [World.setCell]
theorem DAt.turn {col : Nat → Nat} {c g : Nat} {w W : World} {s : DS} (h : DAt col c w g s) (hc : c ≠ 0) (b : But w.heap.size g w W) (on : Bool) (f d : Int)
  (hr : ∀ x y, Row w g 67 [x, y, .bool s.on, .int .i64 s.fuse, .int .i64 s.done] → Row W g 67 [x, y, .bool on, .int .i64 f, .int .i64 d]) (hok : DS.ok { s with on := on, fuse := f, done := d }) :
  Ext col c w W col ∧ DAt col c W g { s with on := on, fuse := f, done := d } := by
 obtain ⟨h0, h1, q, dc, pv, sp, h2, h3, h4, h5, h6, h7⟩ := h
 have hgq : q ≠ g := fun e => by
  rw [e, Row, show w.heap[g]? = _ from h3] at h4
  injection h4 with h4
  injection h4 with _ h4
  exact absurd h4 (by decide)
 exact ⟨Ext.of_but b h1, hok, h1, q, dc, pv, sp, h2, hr _ _ h3, (b.block q h4.lt hgq).trans h4, h5, h6, h7.but b h3 (by decide) (by rw [h1]; exact hc)⟩
theorem operate_any {col : Nat → Nat} {c g : Nat} {w : World} {s : DS} (h : DAt col c w g s) (hc : c ≠ 0) : Calls Try.prog 49 #[.pointer (some ⟨g, 0, none⟩)] w (DiskIs col c w g (opS s) (.int .i64 (opE s))) := by
 unfold DiskIs
 obtain ⟨q, N, dc, pv, HN, c0, c1, c2, c3, c4, A, cap, rfl⟩ := h.cells
 have hok := h.1.op
 have hf0 := h.1.f0
 have hf1 := h.1.f1
 have f2 : w.frozen? ⟨g, 2, none⟩ = false := by obtain ⟨_, _, _, _, _, _, _, h3, _⟩ := h; exact h3.free 2
 have f3 : w.frozen? ⟨g, 3, none⟩ = false := by obtain ⟨_, _, _, _, _, _, _, h3, _⟩ := h; exact h3.free 3
 have f4 : w.frozen? ⟨g, 4, none⟩ = false := by obtain ⟨_, _, _, _, _, _, _, h3, _⟩ := h; exact h3.free 4
 unfold opS opE at *
 by_cases hz : s.fuse = 0
 ·rw [if_pos hz] at hok ⊢
  rw [if_pos hz]
  have F : Shh (Ext col c w ((w.setCell ⟨g, 2, none⟩ (.bool false)).setCell ⟨g, 3, none⟩ (.int .i64 (-1))) col ∧ DAt col c ((w.setCell ⟨g, 2, none⟩ (.bool false)).setCell ⟨g, 3, none⟩ (.int .i64 (-1))) g { s with on := false, fuse := -1 }) :=
   ⟨h.turn hc (But.chain (but_set w g 2 _) (but_set _ g 3 _)) false (-1) s.done (fun x y hr => (hr.set_ 2 _).set_ 3 _) hok⟩
  rw [hz] at c3
  clear h HN hok hf0 hf1 hz
  go_enter Try.func49, Try.ntmps49
  go_wp2
  go_ret
  exact ⟨rfl, F.out⟩
 ·rw [if_neg hz] at hok ⊢
  rw [if_neg hz]
  obtain ⟨f, hf⟩ : ∃ f, f = s.fuse := ⟨_, rfl⟩
  obtain ⟨d, hd⟩ : ∃ d, d = wrap64 (s.done + 1) := ⟨_, rfl⟩
  by_cases hm : s.fuse = -1
  ·rw [if_pos hm] at hok ⊢
   have F : Shh (Ext col c w (w.setCell ⟨g, 4, none⟩ (.int .i64 d)) col ∧ DAt col c (w.setCell ⟨g, 4, none⟩ (.int .i64 d)) g { s with fuse := -1, done := d }) := by
    rw [hd]
    exact ⟨h.turn hc (but_set w g 4 _) s.on (-1) _ (fun x y hr => by have := hr.set_ 4 (.int .i64 (wrap64 (s.done + 1))); rw [hm] at this; exact this) hok⟩
   rw [hm] at c3
   rw [← hd]
   clear h HN hok hf0 hf1 hz hf
   go_enter Try.func49, Try.ntmps49
   go_wp2
   rw [← hd]
   go_ret
   exact ⟨rfl, F.out⟩
  ·rw [if_neg hm] at hok ⊢
   have hw : IntKind.i64.wrap (s.fuse - 1) = s.fuse - 1 := by rw [IntKind.wrap_i64]; omega
   have F : Shh (Ext col c w ((w.setCell ⟨g, 3, none⟩ (.int .i64 (s.fuse - 1))).setCell ⟨g, 4, none⟩ (.int .i64 d)) col ∧ DAt col c ((w.setCell ⟨g, 3, none⟩ (.int .i64 (s.fuse - 1))).setCell ⟨g, 4, none⟩ (.int .i64 d)) g { s with fuse := s.fuse - 1, done := d }) := by
    rw [hd]
    exact ⟨h.turn hc (But.chain (but_set w g 3 _) (but_set _ g 4 _)) s.on _ _ (fun x y hr => (hr.set_ 3 _).set_ 4 _) hok⟩
   rw [← hd]
   rw [← hf] at c3 hz hm hw F ⊢
   clear h HN hok hf0 hf1 hf
   go_enter Try.func49, Try.ntmps49
   go_wp2
   rw [← hd]
   go_ret
   exact ⟨rfl, F.out⟩
end Go.Proofs.Ytpajdmbajopofaa
