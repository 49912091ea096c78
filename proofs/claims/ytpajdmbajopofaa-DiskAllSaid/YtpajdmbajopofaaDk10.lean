/-
 WALK: Write.
-/
import Derived.Test.YtpajdmbajopofaaDk9
namespace Go.Proofs.Ytpajdmbajopofaa
open Go.RowKit
set_option maxRecDepth 100000
/-- a call on a disk that may lay new blocks: its answer, and the disk behind it -/
def DiskIx (col : Nat → Nat) (c : Nat) (w : World) (g : Nat) (s : DS) (v : Value) (e : Ending) (w' : World) : Prop := e = .returned v ∧ ∃ col', Ext col c w w' col' ∧ DAt col' c w' g s
set_option maxHeartbeats 4000000 in
theorem Write_any {col : Nat → Nat} {c g : Nat} {w : World} {s : DS} (h : DAt col c w g s) (hc : c ≠ 0) (hl : s.wait.length ≤ 1000000) (i : Int) (B : Nat) (v : Value) (b : List UInt8) (hs : Sl w B v b) (hB : B ≤ w.heap.size) : Calls Try.prog 28 #[.pointer (some ⟨g, 0, none⟩), .int .i64 i, v] w (DiskIx col c w g (wrS s i b) (.int .i64 (wrE s i b.length))) := by
 unfold DiskIx
 have HM := Shh.mk h.made
 have HH := Shh.mk (has_any h i)
 obtain ⟨Av, cv, rfl, _, _⟩ := hs.form
 cases hh : s.has i with
 | false =>
  have HE : Shh (wrE s i b.length = 1 ∧ wrS s i b = s) := ⟨by unfold wrE; rw [if_pos (.inl hh)], by unfold wrS; rw [if_pos (.inl hh)]⟩
  rw [HE.out.1, HE.out.2]
  rw [hh] at HH
  have F : Shh (∃ col', Ext col c w w col' ∧ DAt col' c w g s) := ⟨col, Ext.refl _ _ _, h⟩
  clear h hs
  go_enter Try.func28, Try.ntmps28
  go_wp2_with (first | (go_at_call 42; refine (HM.out).mono ?_) | (go_at_call 47; refine (HH.out).mono ?_))
  unfold AnsIs
  rintro e w1 ⟨rfl, rfl⟩
  go_wp2_with (first | (go_at_call 42; refine (HM.out).mono ?_) | (go_at_call 47; refine (HH.out).mono ?_))
  unfold AnsIs
  rintro e w1 ⟨rfl, rfl⟩
  go_wp2
  go_ret
  exact ⟨rfl, F.out⟩
 | true =>
  rw [hh] at HH
  by_cases hb : b.length = 256
  case neg =>
   have HE : Shh (wrE s i b.length = 1 ∧ wrS s i b = s) := ⟨by unfold wrE; rw [if_pos (.inr hb)], by unfold wrS; rw [if_pos (.inr hb)]⟩
   rw [HE.out.1, HE.out.2]
   have F : Shh (∃ col', Ext col c w w col' ∧ DAt col' c w g s) := ⟨col, Ext.refl _ _ _, h⟩
   have hb2 : ((b.length : Int) != 256) = true := by
    rw [bne_iff_ne]
    omega
   clear h hs hb
   generalize b.length = n at *
   go_enter Try.func28, Try.ntmps28
   go_wp2_with (first | (go_at_call 42; refine (HM.out).mono ?_) | (go_at_call 47; refine (HH.out).mono ?_))
   unfold AnsIs
   rintro e w1 ⟨rfl, rfl⟩
   go_wp2_with (first | (go_at_call 42; refine (HM.out).mono ?_) | (go_at_call 47; refine (HH.out).mono ?_))
   unfold AnsIs
   rintro e w1 ⟨rfl, rfl⟩
   go_wp2
   go_ret
   exact ⟨rfl, F.out⟩
  case pos =>
   obtain ⟨q, N, dc, pv, HN, c0, c1, c2, c3, c4, A, cap, rfl⟩ := h.cells
   cases hon : s.on with
   | false =>
    have HE : Shh (wrE s i b.length = 5 ∧ wrS s i b = s) := ⟨by unfold wrE; rw [if_neg (by rw [hh, hb]; simp), if_pos hon], by unfold wrS; rw [if_neg (by rw [hh, hb]; simp), if_pos hon]⟩
    rw [HE.out.1, HE.out.2]
    have F : Shh (∃ col', Ext col c w w col' ∧ DAt col' c w g s) := ⟨col, Ext.refl _ _ _, h⟩
    rw [hon] at c2
    rw [hb]
    clear h hs hb HN
    go_enter Try.func28, Try.ntmps28
    go_wp2_with (first | (go_at_call 42; refine (HM.out).mono ?_) | (go_at_call 47; refine (HH.out).mono ?_))
    unfold AnsIs
    rintro e w1 ⟨rfl, rfl⟩
    go_wp2_with (first | (go_at_call 42; refine (HM.out).mono ?_) | (go_at_call 47; refine (HH.out).mono ?_))
    unfold AnsIs
    rintro e w1 ⟨rfl, rfl⟩
    go_wp2
    go_ret
    exact ⟨rfl, F.out⟩
   | true =>
    obtain ⟨S2, hS2⟩ : ∃ S2 : DS, S2 = { s with wait := s.wait ++ [(i.toNat, b)] } := ⟨_, rfl⟩
    have HE : Shh (wrE s i b.length = opE S2 ∧ wrS s i b = opS S2) := ⟨by unfold wrE; rw [if_neg (by rw [hh, hb]; simp), if_neg (by rw [hon]; decide), hS2]; rfl, by unfold wrS; rw [if_neg (by rw [hh, hb]; simp), if_neg (by rw [hon]; decide), hS2]⟩
    rw [HE.out.1, HE.out.2]
    obtain ⟨h0, h1, q', dc', pv', sp, h2, h3, h4, h5, h6, xs, p1, p2, p3⟩ := h
    have epv : pv' = .slice A s.wait.length cap := by
     have := h3.cell 1
     rw [c1] at this
     injection this with this
     exact this.symm
    subst epv
    obtain ⟨bb, off, rfl, hbb, hbc⟩ := hs.at_ (by omega)
    have HSL := Shh.mk hs
    have HP : Shh (Row (w.alloc (.cells (Lib.byteCells zB).toArray 5)) w.heap.size 5 (Lib.byteCells zB) ∧ Below w.heap.size w (w.alloc (.cells (Lib.byteCells zB).toArray 5)) ∧ (w.alloc (.cells (Lib.byteCells zB).toArray 5)).heap.size = w.heap.size + 1 ∧ ∀ j v, (Lib.byteCells b)[j]? = some v → (w.alloc (.cells (Lib.byteCells zB).toArray 5)).cell? ((⟨bb, off, none⟩ : Addr).add j) = some v) := by
     have bA := Below.alloc (Below.refl _ w) (Nat.le_refl _) (.cells (Lib.byteCells zB).toArray 5)
     exact ⟨Row.new_ rfl rfl, bA, by rw [asz], sl_src (hs.below (bA.mono hB))⟩
    have HK := Shh.mk (And.intro h0 (And.intro h1 (And.intro h2 (And.intro h3 (And.intro h4 (And.intro h5 (And.intro h6 (And.intro p1 (And.intro p2 p3)))))))))
    have hmk := make_256
    have HBL := Shh.mk hb
    have HHI := Shh.mk hh
    have HLL := Shh.mk hl
    have hg := h3.lt
    have HG := Shh.mk hg
    rw [hon] at c2
    rw [hb]
    obtain ⟨W0, hW0⟩ : ∃ W0, w.alloc (.cells (Lib.byteCells zB).toArray 5) = W0 := ⟨_, rfl⟩
    rw [hW0] at HP
    clear hs HN h0 h1 h2 h3 h4 h5 h6 p1 p2 p3 hb hbb hbc hl
    go_enter Try.func28, Try.ntmps28
    go_wp2_with (first | (go_at_call 42; refine (HM.out).mono ?_) | (go_at_call 47; refine (HH.out).mono ?_))
    unfold AnsIs
    rintro e w1 ⟨rfl, rfl⟩
    go_wp2_with (first | (go_at_call 42; refine (HM.out).mono ?_) | (go_at_call 47; refine (HH.out).mono ?_))
    unfold AnsIs
    rintro e w1 ⟨rfl, rfl⟩
    go_wp2_with (refine wl_copy_but rfl (.tmp 29) (.tmp 30) 33 33 rfl 5 Try.underlying33 info_u8s 256 256 256 cv ⟨bb, off, none⟩ w.heap.size 0 rfl rfl _ _ HP.out.1 (Lib.byteCells b) (by rw [bc_len, HBL.out]; rfl) HP.out.2.2.2 (by rw [bc_len, bc_len, HBL.out, zB_len]; exact Nat.le_refl _) (cell_oneCell b) ?_)
    intro w3 hr3 b3 z3
    obtain ⟨i0, hi, hz0, hz1, hz2⟩ := info_parts info_wr3
    have b03 : Below w.heap.size w w3 := HP.out.2.1.trans (b3.under (by have := HP.out.2.2.1; omega) (by have := HP.out.2.2.1; omega))
    have hsz3 : w3.heap.size = w.heap.size + 1 := z3.trans HP.out.2.2.1
    have e : splice (Lib.byteCells zB) 0 (Lib.byteCells b) = Lib.byteCells b := by
     unfold splice
     rw [List.take_zero, List.nil_append, Nat.zero_add, List.drop_eq_nil_of_le (by rw [bc_len, bc_len, HBL.out, zB_len]; exact Nat.le_refl _), List.append_nil]
    rw [e] at hr3
    obtain ⟨nd, hnd⟩ : ∃ nd, nd = w.heap.size := ⟨_, rfl⟩
    have c13 : w3.cell? ⟨g, 1, none⟩ = some (.slice A s.wait.length cap) := (b03.cell (p := ⟨g, 1, none⟩) HG.out).trans c1
    obtain ⟨w4, hw4⟩ : ∃ w4, w3.alloc (.cells #[.int .i64 i, .slice (some ⟨w.heap.size, 0, none⟩) 256 256] 71) = w4 := ⟨_, rfl⟩
    have b34 : Below w3.heap.size w3 w4 := by rw [← hw4]; exact Below.alloc (Below.refl _ _) (Nat.le_refl _) _
    have b04 : Below w.heap.size w w4 := b03.trans (b34.mono (by omega))
    have hown4 : w4.ownsRow 0 71 2 (.slice A s.wait.length cap) s.wait.length xs := ownsRow_go HK.out.2.2.2.2.2.2.2.1 b04
    have F4 : Shh (Below w.heap.size w w4 ∧ Row w4 w.heap.size 5 (Lib.byteCells b) ∧ w.heap.size + 2 ≤ w4.heap.size ∧ w4.heap.size = w3.heap.size + 1) := ⟨b04, hr3.go b34, by rw [← hw4, asz]; omega, by rw [← hw4, asz]⟩
    have hn2 := news_two w3 (.int .i64 i) (.slice (some ⟨w.heap.size, 0, none⟩) 256 256) 71
    rw [hw4] at hn2
    have HSZ := Shh.mk hsz3
    clear hr3 b3 z3 e b03 b04 b34 hsz3 HP HSL c0 c1 c2 c3 c4 hmk
    go_wp2_with (refine wpList_append_own_at _ rfl _ _ 65 rfl 0 71 i0 _ 2 32 Try.underlying65 hi hz0 hz1 hz2 rfl (by decide) _ _ _ rfl hown4 ⟨w3.heap.size, 0, none⟩ 1 1 [.int .i64 i, .slice (some ⟨w.heap.size, 0, none⟩) 256 256] rfl rfl hn2 (by intro u hu; simp only [List.mem_cons, List.not_mem_nil, or_false] at hu; rcases hu with rfl | rfl <;> rfl) (by have := HLL.out; unfold maxLen; omega) (by have := HLL.out; omega) (Nat.zero_le _) ?_)
    intro v' w5 hown5 hgr _ hat
    obtain ⟨g', cap', rfl⟩ := ownsRow_succ hown5
    have hk := HK.out
    have hp := push_any (i := i) (b := b) hc hk.1 HHI.out HBL.out hk.2.1 hk.2.2.1 hk.2.2.2.1 hk.2.2.2.2.1 hk.2.2.2.2.2.1 hk.2.2.2.2.2.2.1 hk.2.2.2.2.2.2.2.1 hk.2.2.2.2.2.2.2.2.1 hk.2.2.2.2.2.2.2.2.2 F4.out.1 F4.out.2.1 F4.out.2.2.1 hgr hown5 hat
    rw [← hS2] at hp
    have HO := Shh.mk (operate_any hp.2 hc)
    have HE5 := Shh.mk hp.1
    have hgT : some g ≠ (Value.slice A s.wait.length cap).ownBlock := fun e => by
     obtain ⟨cur, hp⟩ := own_blk hk.2.2.2.2.2.2.2.1 g e.symm
     rw [show w.heap[g]? = _ from hk.2.2.2.1] at hp
     injection hp with hp
     injection hp with _ hp
     exact absurd hp (by decide)
    have r5 : Row w5 g _ _ := (hgr.block g (by have := F4.out.2.2.1; have := HG.out; omega) hgT).trans (hk.2.2.2.1.go F4.out.1)
    have c15 : w5.cell? ⟨g, 1, none⟩ = some (.slice A s.wait.length cap) := r5.cell 1
    have f15 : w5.frozen? ⟨g, 1, none⟩ = false := r5.free 1
    clear hk hp hgT r5 HK hown5 hgr hat hown4 hn2 F4 hw4 hi hz0 hz1 hz2 hnd c13 hW0 HE hS2 hon
    go_wp2_with (go_at_call 49; refine (HO.out).mono ?_)
    unfold DiskIs
    rintro e w6 ⟨rfl, h6, h7⟩
    have F := Shh.mk (And.intro (HE5.out.trans h6) h7)
    clear h6 h7 HO HE5
    go_wp2
    go_ret
    exact ⟨rfl, _, F.out.1, F.out.2⟩
end Go.Proofs.Ytpajdmbajopofaa
