/-
 WALK: the document's Write.
-/
import Derived.Test.YtpajdmbajopofaaRe6
namespace Go.Proofs.Ytpajdmbajopofaa
open Go.RowKit
set_option maxRecDepth 100000
theorem own_off {V w2 w3 : World} {T U : TypeId} {sz sz' n n' : Nat} {v v' : Value} {xs xs' : List Value} (h : V.ownsRow 0 T sz v n xs) (h' : V.ownsRow 0 U sz' v' n' xs') (hT : T ≠ U) (b : Below V.heap.size V w2) (hg : w2.grownBy w3 v'.ownBlock) : w3.ownsRow 0 T sz v n xs := by
 have hb := ownsRow_go h b
 refine ⟨hb.1, ?_⟩
 rcases hb.2 with h2 | ⟨p, cap, cur, hv, hbb, hp, rest⟩
 ·exact .inl h2
 ·refine .inr ⟨p, cap, cur, hv, hbb, (hg.block p (Array.getElem?_eq_some_iff.1 hp).1 (fun e => ?_)).trans hp, rest⟩
  obtain ⟨cur', hq⟩ := own_blk h' p e.symm
  rw [b.block p (h'.lt p e.symm).2, hq] at hp
  injection hp with hp
  injection hp with _ hp
  exact hT hp.symm
theorem rw_push {col : Nat → Nat} {c g : Nat} {V w1 w2 w3 : World} {s : DS} {i : Int} {b : List UInt8} {q cp : Nat} {gv pv pv' : Value} {sp gs xs : List Value} (hc : c ≠ 0) (h0 : s.ok) (hi : s.has i = true) (hb : b.length = 256) (h1 : col g = c)
 (h3 : Row V g 64 [gv, pv, .bool (!s.on), .int .i64 s.fuse, .int .i64 s.done]) (g1 : V.ownsRow 0 33 1 gv s.good.length gs) (g2 : ∀ k, gv.ownBlock = some k → col k = c) (g3 : ∀ j (h : j < s.good.length), ∃ u, gs[j]? = some u ∧ Dat col V u s.good[j])
 (p1 : V.ownsRow 0 75 2 pv s.wait.length xs) (p2 : ∀ k, pv.ownBlock = some k → col k = c) (p3 : ∀ j (h : j < s.wait.length), ∃ u, xs[2 * j]? = some (.int .i64 (s.wait[j].1 : Int)) ∧ xs[2 * j + 1]? = some u ∧ Dat col V u s.wait[j].2)
 (b1 : Below V.heap.size V w1) (hq : V.heap.size ≤ q) (hr : Row w1 q 5 (Lib.byteCells b ++ sp)) (hcp : b.length ≤ cp) (hm : cp ≤ maxLen) (b2 : Below w1.heap.size w1 w2) (hg : w2.grownBy w3 pv.ownBlock) (hown : w3.ownsRow 0 75 2 pv' (s.wait.length + 1) (xs ++ [.int .i64 i, .slice (some ⟨q, 0, none⟩) b.length cp])) (hat : pv'.ownBlock = pv.ownBlock ∨ pv'.ownBlock = some w2.heap.size) :
 ∃ col', Ext col c V (w3.setCell ⟨g, 1, none⟩ pv') col' ∧ RAt col' c (w3.setCell ⟨g, 1, none⟩ pv') g { s with wait := s.wait ++ [(i.toNat, b)] } := by
 have hi2 := has_iff.1 hi
 have hown2 : w3.ownsRow 0 75 2 pv' (s.wait.length + 1) (xs ++ [.int .i64 (i.toNat : Int), .slice (some ⟨q, 0, none⟩) b.length cp]) := by rw [show ((i.toNat : Nat) : Int) = i by omega]; exact hown
 obtain ⟨e, hP⟩ := ppush (i := i.toNat) hc p1 p2 p3 b1 hq hr hcp hm b2 hg hown2 hat
 have b12 := b1.trans (b2.mono b1.size)
 have r3 : Row w3 g _ _ := row_off p1 h3 (by decide) b12 hg
 have hgl := h3.lt
 have hcg : hue3 col V.heap.size w1.heap.size c g = c := by rw [hue3_lt hgl]; exact h1
 have b34 : But w3.heap.size g w3 (w3.setCell ⟨g, 1, none⟩ pv') := but_set w3 _ 1 pv'
 have hG : GAt (hue3 col V.heap.size w1.heap.size c) c w3 gv s.good := by
  refine ⟨gs, own_off g1 p1 (by decide) b12 hg, fun k hk => ?_, fun j hj => ?_⟩
  ·rw [hue3_lt (g1.lt k hk).2]; exact g2 k hk
  ·obtain ⟨u, k1, k2⟩ := g3 j hj
   exact ⟨u, k1, k2.ext e hc⟩
 refine ⟨hue3 col V.heap.size w1.heap.size c, e.trans (Ext.of_but b34 hcg), h0.more hi hb, hcg, gv, pv', r3.set_ 1 pv', hG.but b34 r3 (by decide) (by rw [hcg]; exact hc), hP.but b34 r3 (by decide) (by rw [hcg]; exact hc)⟩
theorem info_wtI : (Try.prog.info? 75).map (fun i => (i.zero, i.size, i.bytes)) = some (some (.agg #[.int .i64 0, .slice none 0 0]), 2, 32) := by kernel_rfl
theorem op_buildW {a : Act} {x : Operand} {op : Oper} {w : World} {A : Option Addr} {n c : Nat} {i : Int} (ho : op.op = .buildSlice 62 1 #[(0, x)]) (hx : a.eval x = .agg #[.int .i64 i, .slice A n c]) : (execOp a.eval op).run Try.prog w = .ok (.value (.slice (some ⟨w.heap.size, 0, none⟩) 1 1)) (w.alloc (.cells #[.int .i64 i, .slice A n c] 75)) := by
 unfold execOp
 simp only [ho, List.map_toArray, List.map_cons, List.map_nil, hx]
 go_simp
set_option maxHeartbeats 4000000 in
theorem rWrite_any {col : Nat → Nat} {c g : Nat} {w : World} {s : DS} (h : RAt col c w g s) (hc : c ≠ 0) (hl : s.wait.length ≤ 1000000) (i : Int) (B : Nat) (v : Value) (b : List UInt8) (hs : Sl w B v b) (hB : B ≤ w.heap.size) : Calls Try.prog 38 #[.pointer (some ⟨g, 0, none⟩), .int .i64 i, v] w (RefIx col c w g (wrS s i b) (.int .i64 (wrE s i b.length))) := by
 unfold RefIx
 obtain ⟨c2, c3, c4, ⟨A0, cap0, c0⟩, A1, cap1, c1⟩ := h.cells
 obtain ⟨Av, cv, rfl, _, _⟩ := hs.form
 have F : Shh (∃ col', Ext col c w w col' ∧ RAt col' c w g s) := ⟨col, Ext.refl _ _ _, h⟩
 cases hh : s.has i with
 | false =>
  have HE : Shh (wrE s i b.length = 1 ∧ wrS s i b = s) := ⟨by unfold wrE; rw [if_pos (.inl hh)], by unfold wrS; rw [if_pos (.inl hh)]⟩
  rw [HE.out.1, HE.out.2]
  have hn : ¬ (0 ≤ i ∧ i < s.good.length) := fun e => by rw [has_iff.2 e] at hh; cases hh
  clear h HE hh hs
  generalize b.length = nb at *
  by_cases h1 : i < 0
  ·go_enter Try.func38, Try.ntmps38
   go_wp2
   go_ret
   exact ⟨rfl, F.out⟩
  ·have h2 : (s.good.length : Int) ≤ i := by omega
   clear hn
   go_enter Try.func38, Try.ntmps38
   go_wp2
   go_ret
   exact ⟨rfl, F.out⟩
 | true =>
  obtain ⟨hi0, hi1⟩ := has_iff.1 hh
  have h1 : ¬ i < 0 := by omega
  have h2 : ¬ (s.good.length : Int) ≤ i := by omega
  by_cases hb : b.length = 256
  case neg =>
   have HE : Shh (wrE s i b.length = 1 ∧ wrS s i b = s) := ⟨by unfold wrE; rw [if_pos (.inr hb)], by unfold wrS; rw [if_pos (.inr hb)]⟩
   rw [HE.out.1, HE.out.2]
   have hb2 : ((b.length : Int) != 256) = true := by
    rw [bne_iff_ne]
    omega
   clear h HE hs hb
   generalize b.length = nb at *
   go_enter Try.func38, Try.ntmps38
   go_wp2
   go_ret
   exact ⟨rfl, F.out⟩
  case pos =>
   cases hon : s.on with
   | false =>
    have HE : Shh (wrE s i b.length = 5 ∧ wrS s i b = s) := ⟨by unfold wrE; rw [if_neg (by rw [hh, hb]; simp), if_pos hon], by unfold wrS; rw [if_neg (by rw [hh, hb]; simp), if_pos hon]⟩
    rw [HE.out.1, HE.out.2]
    rw [hon] at c2
    have c2' : w.cell? ⟨g, 2, none⟩ = some (.bool true) := c2
    rw [hb]
    clear h HE hs hb c2
    go_enter Try.func38, Try.ntmps38
    go_wp2
    go_ret
    exact ⟨rfl, F.out⟩
   | true =>
    obtain ⟨S2, hS2⟩ : ∃ S2 : DS, S2 = { s with wait := s.wait ++ [(i.toNat, b)] } := ⟨_, rfl⟩
    have HE : Shh (wrE s i b.length = opE S2 ∧ wrS s i b = opS S2) := ⟨by unfold wrE; rw [if_neg (by rw [hh, hb]; simp), if_neg (by rw [hon]; decide), hS2]; rfl, by unfold wrS; rw [if_neg (by rw [hh, hb]; simp), if_neg (by rw [hon]; decide), hS2]⟩
    rw [HE.out.1, HE.out.2]
    clear F
    obtain ⟨k0, k1, gv, pv, k3, ⟨gs, g1, g2, g3⟩, xs, p1, p2, p3⟩ := h
    rw [hon] at c2
    have c2' : w.cell? ⟨g, 2, none⟩ = some (.bool false) := c2
    obtain ⟨V, hV⟩ : ∃ V, V = World.drew w := ⟨_, rfl⟩
    have bV : Below w.heap.size w V := by rw [hV]; exact (Below.refl _ _).drew
    have hVz : V.heap.size = w.heap.size := by rw [hV]; rfl
    obtain ⟨W0, hW0⟩ : ∃ W0, V.alloc (.cells #[.slice Av b.length cv] 33) = W0 := ⟨_, rfl⟩
    have b0 : Below V.heap.size V W0 := by rw [← hW0]; exact Below.alloc (Below.refl _ _) (Nat.le_refl _) _
    have r0 : Row W0 V.heap.size 33 [.slice Av b.length cv] := by rw [← hW0]; exact Row.new_ rfl rfl
    have hs0 : Sl V V.heap.size (.slice Av b.length cv) b := (hs.below (bV.mono hB)).more (by omega)
    have HJ : Shh (Calls Try.prog 21 #[.slice (some ⟨V.heap.size, 0, none⟩) 1 1] W0 (OwnIs W0 b)) := by
     have := refJoin_any W0.heap.size W0.heap.size _ [b] W0 (PartsO.solo (n := 1) r0 r0.lt (by have := r0.lt; omega) ((hs0.below b0).more b0.size) (hs0.off (by have := b0.size; exact b0.size))) (Nat.le_refl _) (by simp; omega) (by simp)
     rw [flat_one] at this
     exact ⟨this⟩
    obtain ⟨pA, pn, rfl⟩ := ownF p1
    have c1V : V.cell? ⟨g, 1, none⟩ = some (.slice pA s.wait.length pn) := (bV.cell (p := ⟨g, 1, none⟩) k3.lt).trans (k3.cell 1)
    obtain ⟨kk, hkk⟩ : ∃ kk, kk = s.wait.length := ⟨_, rfl⟩
    have HC : Shh (V.cell? ⟨g, 1, none⟩ = some (.slice pA kk pn) ∧ W0.cell? ⟨g, 1, none⟩ = some (.slice pA kk pn)) := ⟨by rw [hkk]; exact c1V, by rw [hkk]; exact (b0.cell (p := ⟨g, 1, none⟩) (by have := k3.lt; show g < _; omega)).trans c1V⟩
    have HP : Shh ((col g = c ∧ Row V g 64 [gv, .slice pA s.wait.length pn, .bool (!s.on), .int .i64 s.fuse, .int .i64 s.done] ∧ V.ownsRow 0 33 1 gv s.good.length gs ∧ (∀ k, gv.ownBlock = some k → col k = c) ∧ (∀ j (h : j < s.good.length), ∃ u, gs[j]? = some u ∧ Dat col V u s.good[j])) ∧ V.ownsRow 0 75 2 (.slice pA s.wait.length pn) s.wait.length xs ∧ (∀ k, (Value.slice pA s.wait.length pn).ownBlock = some k → col k = c) ∧ (∀ j (h : j < s.wait.length), ∃ u, xs[2 * j]? = some (.int .i64 (s.wait[j].1 : Int)) ∧ xs[2 * j + 1]? = some u ∧ Dat col V u s.wait[j].2) ∧ Below V.heap.size V W0) :=
     ⟨⟨k1, k3.go bV, ownsRow_go g1 bV, g2, fun j hj => by obtain ⟨u, k1, k2⟩ := g3 j hj; exact ⟨u, k1, k2.go bV⟩⟩, ownsRow_go p1 bV, p2, fun j hj => by obtain ⟨u, k1, k2, k3⟩ := p3 j hj; exact ⟨u, k1, k2, k3.go bV⟩, b0⟩
    have HX := Shh.mk (And.intro k0 (And.intro hh (And.intro hb (And.intro bV (And.intro hS2 hl)))))
    have HKK : Shh (kk = s.wait.length ∧ kk ≤ 1000000) := ⟨hkk, by omega⟩
    rw [hb] at hW0
    rw [hb]
    clear k0 k1 k3 g1 g2 g3 p1 p2 p3 bV hVz b0 r0 hs0 hs c1V hkk c1 hb hh hon c2 HE hl hS2
    go_enter Try.func38, Try.ntmps38
    go_wp2
    refine wp_region_held_drew (S := fun _ => True) (by kernel_rfl) trivial (fun hS => ?_)
    clear hS
    rw [← hV]
    clear hV
    refine hdv0 0 27 (.pointer (some ⟨g, 0, none⟩)) (by rfl) trivial ?_
    refine hdv0 1 28 (.pointer (some ⟨g, 0, none⟩)) (by rfl) trivial ?_
    refine hdv 2 29 (.pointer (some ⟨g, 0, none⟩)) (by rfl) (fun w hS => rnil_ok rfl (by kernel_rfl)) trivial ?_
    refine hdv 3 30 (.pointer (some ⟨g, 1, none⟩)) (by rfl) (fun w hS => fr_1 rfl (by kernel_rfl)) trivial ?_
    refine hdv0 5 32 (.int .i64 i) (by rfl) trivial ?_
    refine hdv0 6 33 (.slice Av 256 cv) (by rfl) trivial ?_
    refine held_two 4 7 (by kernel_rfl) ?_ ?_
    ·refine step_value 4 _ _ (some 31) (.slice pA kk pn) V (by rfl) (by kernel_rfl) (rload_ws rfl HC.out.1 (by kernel_rfl)) trivial ?_
     simp only [Act.put, arr9, hd9, tl9]
     refine held_one 7 (by kernel_rfl) ?_
     refine step_value 7 _ _ (some 34) (.slice (some ⟨V.heap.size, 0, none⟩) 1 1) W0 (by rfl) (by kernel_rfl) (by rw [← hW0]; exact op_build1 rfl (by kernel_rfl)) trivial ?_
     simp only [Act.put, arr9, hd9, tl9]
     refine held_one 8 (by kernel_rfl) ?_
     refine step_call 8 _ _ (some 35) 21 #[.slice (some ⟨V.heap.size, 0, none⟩) 1 1] (by rfl) (by kernel_rfl) (by first | kernel_rfl | go_simp) ?_
     refine (HJ.out).mono ?_
     unfold OwnIs Gives
     rintro e w9 ⟨v9, rfl, k1, k2⟩
     have hbl := HX.out.2.2.1
     obtain ⟨q, dc, sp, rfl, q1, q2, q3, q4⟩ := own_row' k1 (by omega)
     rw [hbl]
     obtain ⟨i0, hi, hz0, hz1, hz2⟩ := info_parts info_wtI
     obtain ⟨w10, hw10⟩ : ∃ w10, w9.alloc (.cells #[.int .i64 i, .slice (some ⟨q, 0, none⟩) 256 dc] 75) = w10 := ⟨_, rfl⟩
     have b10 : Below w9.heap.size w9 w10 := by rw [← hw10]; exact Below.alloc (Below.refl _ _) (Nat.le_refl _) _
     have hn10 := news_two w9 (.int .i64 i) (.slice (some ⟨q, 0, none⟩) 256 dc) 75
     rw [hw10] at hn10
     obtain ⟨⟨m1, m2, m3, m4, m5⟩, m6, m7, m8, m9⟩ := HP.out
     have b09 : Below V.heap.size V w9 := m9.trans (k2.mono m9.size)
     have hx1 := m6
     rw [← HKK.out.1] at hx1
     have ho10 : w10.ownsRow 0 75 2 (.slice pA kk pn) kk xs := ownsRow_go hx1 (b09.trans (b10.mono b09.size))
     obtain ⟨v', w11, hrun, o1, o2, _, o4⟩ := run_append_own_at (P := Try.prog) w10 0 62 62 75 i0 _ 2 32 Try.underlying62 hi hz0 hz1 hz2 rfl (by decide) _ _ _ ho10 ⟨w9.heap.size, 0, none⟩ 1 1 [.int .i64 i, .slice (some ⟨q, 0, none⟩) 256 dc] rfl hn10 (by intro u hu; simp only [List.mem_cons, List.not_mem_nil, or_false] at hu; rcases hu with rfl | rfl <;> rfl) (by have := HKK.out.2; unfold maxLen; omega) (by have := HKK.out.2; omega) (Nat.zero_le _)
     obtain ⟨g', cap', rfl⟩ := ownsRow_succ o1
     have HR : Shh (Row w11 g 64 _) := ⟨row_off m6 m2 (by decide) (b09.trans (b10.mono b09.size)) (by rw [← HKK.out.1]; exact o2)⟩
     have HC9 : Shh (w9.cell? ⟨g, 1, none⟩ = some (.slice pA kk pn) ∧ w10.cell? ⟨g, 1, none⟩ = some (.slice pA kk pn)) := ⟨(b09.cell (p := ⟨g, 1, none⟩) m2.lt).trans HC.out.1, ((b09.trans (b10.mono b09.size)).cell (p := ⟨g, 1, none⟩) m2.lt).trans HC.out.1⟩
     have HF : Shh (∃ col', Ext col c w (w11.setCell ⟨g, 1, none⟩ (.slice (some ⟨g', 0, none⟩) (kk + 1) cap')) col' ∧ RAt col' c (w11.setCell ⟨g, 1, none⟩ (.slice (some ⟨g', 0, none⟩) (kk + 1) cap')) g S2) := by
      obtain ⟨hk0, hhi, _, hbV, hS2, _⟩ := HX.out
      have hb9 := m9.size
      obtain ⟨col', e1, e2⟩ := rw_push (b := b) (i := i) hc hk0 hhi hbl m1 m2 m3 m4 m5 m6 m7 m8 b09 (q := q) (cp := dc) (sp := sp) (by omega) q2 (by omega) q4 b10 (by rw [← HKK.out.1]; exact o2) (by rw [hbl, ← HKK.out.1]; exact o1) (by rw [← HKK.out.1]; exact o4)
      rw [hS2]
      exact ⟨col', (Ext.of_below col c hbV).trans e1, e2⟩
     have HRUN := Shh.mk hrun
     clear hrun o1 o2 o4 ho10 hx1 b09 hn10 b10 hi hz0 hz1 hz2 q1 q2 q3 q4 k1 k2 hbl m1 m2 m3 m4 m5 m6 m7 m8 m9
     refine ⟨_, rfl, trivial, ?_⟩
     simp only [Act.put, arr9, hd9, tl9]
     refine hdv0 9 36 (.agg #[.int .i64 i, .slice (some ⟨q, 0, none⟩) 256 dc]) (by rfl) trivial ?_
     refine held_one 10 (by kernel_rfl) ?_
     refine step_value 10 _ _ (some 37) (.slice (some ⟨w9.heap.size, 0, none⟩) 1 1) w10 (by rfl) (by kernel_rfl) (by rw [← hw10]; exact op_buildW rfl (by kernel_rfl)) trivial ?_
     simp only [Act.put, arr9, hd9, tl9]
     refine held_one 11 (by kernel_rfl) ?_
     refine step_value 11 _ _ (some 38) (.slice (some ⟨g', 0, none⟩) (kk + 1) cap') w11 (by rfl) (by kernel_rfl) (op_append2 rfl (by kernel_rfl) (by kernel_rfl) HRUN.out) trivial ?_
     simp only [Act.put, arr9, hd9, tl9]
     refine hdv 12 39 (.pointer (some ⟨g, 0, none⟩)) (by rfl) (fun w hS => rnil_ok rfl (by kernel_rfl)) trivial ?_
     refine hdv 13 40 (.pointer (some ⟨g, 1, none⟩)) (by rfl) (fun w hS => fr_1 rfl (by kernel_rfl)) trivial ?_
     refine held_one 14 (by kernel_rfl) ?_
     refine step_store1 14 _ (by rfl) (by kernel_rfl) (w11.setCell ⟨g, 1, none⟩ (.slice (some ⟨g', 0, none⟩) (kk + 1) cap')) (store_rw rfl (by kernel_rfl) (by kernel_rfl) HR.out (by simp)) ?_
     refine ⟨trivial, ?_⟩
     refine wpAnyH_done (by kernel_rfl) ?_ _
     clear HRUN HR hW0 hw10 HC9
     obtain ⟨col1, e1, e2⟩ := HF.out
     have HBN := Shh.mk (burnt_any e2 hc)
     have HE1 := Shh.mk e1
     obtain ⟨bo, hbo⟩ : ∃ bo, bo = decide (S2.fuse = 0) := ⟨_, rfl⟩
     have HOE : Shh (opE S2 = if bo then 5 else 0) := ⟨by rw [hbo]; unfold opE; by_cases hz : S2.fuse = 0 <;> simp [hz]⟩
     rw [← hbo] at HBN
     clear e1 e2 HF hbo
     cases bo with
     | false =>
      go_wp2_with (go_at_call 51; refine (HBN.out).mono ?_)
      unfold RefIs
      rintro e w12 ⟨rfl, e3, e4⟩
      have F := Shh.mk (And.intro (HE1.out.trans e3) e4)
      clear e3 e4 HBN HE1
      go_wp2
      go_ret
      exact ⟨by rw [HOE.out]; rfl, _, F.out.1, F.out.2⟩
     | true =>
      go_wp2_with (go_at_call 51; refine (HBN.out).mono ?_)
      unfold RefIs
      rintro e w12 ⟨rfl, e3, e4⟩
      have F := Shh.mk (And.intro (HE1.out.trans e3) e4)
      clear e3 e4 HBN HE1
      go_wp2
      go_ret
      exact ⟨by rw [HOE.out]; rfl, _, F.out.1, F.out.2⟩
    ·refine step_value 7 _ _ (some 34) (.slice (some ⟨V.heap.size, 0, none⟩) 1 1) W0 (by rfl) (by kernel_rfl) (by rw [← hW0]; exact op_build1 rfl (by kernel_rfl)) trivial ?_
     simp only [Act.put, arr9, hd9, tl9]
     refine held_two 4 8 (by kernel_rfl) ?_ ?_
     ·refine step_value 4 _ _ (some 31) (.slice pA kk pn) W0 (by rfl) (by kernel_rfl) (rload_ws rfl HC.out.2 (by kernel_rfl)) trivial ?_
      simp only [Act.put, arr9, hd9, tl9]
      refine held_one 8 (by kernel_rfl) ?_
      refine step_call 8 _ _ (some 35) 21 #[.slice (some ⟨V.heap.size, 0, none⟩) 1 1] (by rfl) (by kernel_rfl) (by first | kernel_rfl | go_simp) ?_
      refine (HJ.out).mono ?_
      unfold OwnIs Gives
      rintro e w9 ⟨v9, rfl, k1, k2⟩
      have hbl := HX.out.2.2.1
      obtain ⟨q, dc, sp, rfl, q1, q2, q3, q4⟩ := own_row' k1 (by omega)
      rw [hbl]
      obtain ⟨i0, hi, hz0, hz1, hz2⟩ := info_parts info_wtI
      obtain ⟨w10, hw10⟩ : ∃ w10, w9.alloc (.cells #[.int .i64 i, .slice (some ⟨q, 0, none⟩) 256 dc] 75) = w10 := ⟨_, rfl⟩
      have b10 : Below w9.heap.size w9 w10 := by rw [← hw10]; exact Below.alloc (Below.refl _ _) (Nat.le_refl _) _
      have hn10 := news_two w9 (.int .i64 i) (.slice (some ⟨q, 0, none⟩) 256 dc) 75
      rw [hw10] at hn10
      obtain ⟨⟨m1, m2, m3, m4, m5⟩, m6, m7, m8, m9⟩ := HP.out
      have b09 : Below V.heap.size V w9 := m9.trans (k2.mono m9.size)
      have hx1 := m6
      rw [← HKK.out.1] at hx1
      have ho10 : w10.ownsRow 0 75 2 (.slice pA kk pn) kk xs := ownsRow_go hx1 (b09.trans (b10.mono b09.size))
      obtain ⟨v', w11, hrun, o1, o2, _, o4⟩ := run_append_own_at (P := Try.prog) w10 0 62 62 75 i0 _ 2 32 Try.underlying62 hi hz0 hz1 hz2 rfl (by decide) _ _ _ ho10 ⟨w9.heap.size, 0, none⟩ 1 1 [.int .i64 i, .slice (some ⟨q, 0, none⟩) 256 dc] rfl hn10 (by intro u hu; simp only [List.mem_cons, List.not_mem_nil, or_false] at hu; rcases hu with rfl | rfl <;> rfl) (by have := HKK.out.2; unfold maxLen; omega) (by have := HKK.out.2; omega) (Nat.zero_le _)
      obtain ⟨g', cap', rfl⟩ := ownsRow_succ o1
      have HR : Shh (Row w11 g 64 _) := ⟨row_off m6 m2 (by decide) (b09.trans (b10.mono b09.size)) (by rw [← HKK.out.1]; exact o2)⟩
      have HC9 : Shh (w9.cell? ⟨g, 1, none⟩ = some (.slice pA kk pn) ∧ w10.cell? ⟨g, 1, none⟩ = some (.slice pA kk pn)) := ⟨(b09.cell (p := ⟨g, 1, none⟩) m2.lt).trans HC.out.1, ((b09.trans (b10.mono b09.size)).cell (p := ⟨g, 1, none⟩) m2.lt).trans HC.out.1⟩
      have HF : Shh (∃ col', Ext col c w (w11.setCell ⟨g, 1, none⟩ (.slice (some ⟨g', 0, none⟩) (kk + 1) cap')) col' ∧ RAt col' c (w11.setCell ⟨g, 1, none⟩ (.slice (some ⟨g', 0, none⟩) (kk + 1) cap')) g S2) := by
       obtain ⟨hk0, hhi, _, hbV, hS2, _⟩ := HX.out
       have hb9 := m9.size
       obtain ⟨col', e1, e2⟩ := rw_push (b := b) (i := i) hc hk0 hhi hbl m1 m2 m3 m4 m5 m6 m7 m8 b09 (q := q) (cp := dc) (sp := sp) (by omega) q2 (by omega) q4 b10 (by rw [← HKK.out.1]; exact o2) (by rw [hbl, ← HKK.out.1]; exact o1) (by rw [← HKK.out.1]; exact o4)
       rw [hS2]
       exact ⟨col', (Ext.of_below col c hbV).trans e1, e2⟩
      have HRUN := Shh.mk hrun
      clear hrun o1 o2 o4 ho10 hx1 b09 hn10 b10 hi hz0 hz1 hz2 q1 q2 q3 q4 k1 k2 hbl m1 m2 m3 m4 m5 m6 m7 m8 m9
      refine ⟨_, rfl, trivial, ?_⟩
      simp only [Act.put, arr9, hd9, tl9]
      refine hdv0 9 36 (.agg #[.int .i64 i, .slice (some ⟨q, 0, none⟩) 256 dc]) (by rfl) trivial ?_
      refine held_one 10 (by kernel_rfl) ?_
      refine step_value 10 _ _ (some 37) (.slice (some ⟨w9.heap.size, 0, none⟩) 1 1) w10 (by rfl) (by kernel_rfl) (by rw [← hw10]; exact op_buildW rfl (by kernel_rfl)) trivial ?_
      simp only [Act.put, arr9, hd9, tl9]
      refine held_one 11 (by kernel_rfl) ?_
      refine step_value 11 _ _ (some 38) (.slice (some ⟨g', 0, none⟩) (kk + 1) cap') w11 (by rfl) (by kernel_rfl) (op_append2 rfl (by kernel_rfl) (by kernel_rfl) HRUN.out) trivial ?_
      simp only [Act.put, arr9, hd9, tl9]
      refine hdv 12 39 (.pointer (some ⟨g, 0, none⟩)) (by rfl) (fun w hS => rnil_ok rfl (by kernel_rfl)) trivial ?_
      refine hdv 13 40 (.pointer (some ⟨g, 1, none⟩)) (by rfl) (fun w hS => fr_1 rfl (by kernel_rfl)) trivial ?_
      refine held_one 14 (by kernel_rfl) ?_
      refine step_store1 14 _ (by rfl) (by kernel_rfl) (w11.setCell ⟨g, 1, none⟩ (.slice (some ⟨g', 0, none⟩) (kk + 1) cap')) (store_rw rfl (by kernel_rfl) (by kernel_rfl) HR.out (by simp)) ?_
      refine ⟨trivial, ?_⟩
      refine wpAnyH_done (by kernel_rfl) ?_ _
      clear HRUN HR hW0 hw10 HC9
      obtain ⟨col1, e1, e2⟩ := HF.out
      have HBN := Shh.mk (burnt_any e2 hc)
      have HE1 := Shh.mk e1
      obtain ⟨bo, hbo⟩ : ∃ bo, bo = decide (S2.fuse = 0) := ⟨_, rfl⟩
      have HOE : Shh (opE S2 = if bo then 5 else 0) := ⟨by rw [hbo]; unfold opE; by_cases hz : S2.fuse = 0 <;> simp [hz]⟩
      rw [← hbo] at HBN
      clear e1 e2 HF hbo
      cases bo with
      | false =>
       go_wp2_with (go_at_call 51; refine (HBN.out).mono ?_)
       unfold RefIs
       rintro e w12 ⟨rfl, e3, e4⟩
       have F := Shh.mk (And.intro (HE1.out.trans e3) e4)
       clear e3 e4 HBN HE1
       go_wp2
       go_ret
       exact ⟨by rw [HOE.out]; rfl, _, F.out.1, F.out.2⟩
      | true =>
       go_wp2_with (go_at_call 51; refine (HBN.out).mono ?_)
       unfold RefIs
       rintro e w12 ⟨rfl, e3, e4⟩
       have F := Shh.mk (And.intro (HE1.out.trans e3) e4)
       clear e3 e4 HBN HE1
       go_wp2
       go_ret
       exact ⟨by rw [HOE.out]; rfl, _, F.out.1, F.out.2⟩
     ·refine step_call 8 _ _ (some 35) 21 #[.slice (some ⟨V.heap.size, 0, none⟩) 1 1] (by rfl) (by kernel_rfl) (by first | kernel_rfl | go_simp) ?_
      refine (HJ.out).mono ?_
      unfold OwnIs Gives
      rintro e w9 ⟨v9, rfl, k1, k2⟩
      have hbl := HX.out.2.2.1
      obtain ⟨q, dc, sp, rfl, q1, q2, q3, q4⟩ := own_row' k1 (by omega)
      rw [hbl]
      obtain ⟨i0, hi, hz0, hz1, hz2⟩ := info_parts info_wtI
      obtain ⟨w10, hw10⟩ : ∃ w10, w9.alloc (.cells #[.int .i64 i, .slice (some ⟨q, 0, none⟩) 256 dc] 75) = w10 := ⟨_, rfl⟩
      have b10 : Below w9.heap.size w9 w10 := by rw [← hw10]; exact Below.alloc (Below.refl _ _) (Nat.le_refl _) _
      have hn10 := news_two w9 (.int .i64 i) (.slice (some ⟨q, 0, none⟩) 256 dc) 75
      rw [hw10] at hn10
      obtain ⟨⟨m1, m2, m3, m4, m5⟩, m6, m7, m8, m9⟩ := HP.out
      have b09 : Below V.heap.size V w9 := m9.trans (k2.mono m9.size)
      have hx1 := m6
      rw [← HKK.out.1] at hx1
      have ho10 : w10.ownsRow 0 75 2 (.slice pA kk pn) kk xs := ownsRow_go hx1 (b09.trans (b10.mono b09.size))
      obtain ⟨v', w11, hrun, o1, o2, _, o4⟩ := run_append_own_at (P := Try.prog) w10 0 62 62 75 i0 _ 2 32 Try.underlying62 hi hz0 hz1 hz2 rfl (by decide) _ _ _ ho10 ⟨w9.heap.size, 0, none⟩ 1 1 [.int .i64 i, .slice (some ⟨q, 0, none⟩) 256 dc] rfl hn10 (by intro u hu; simp only [List.mem_cons, List.not_mem_nil, or_false] at hu; rcases hu with rfl | rfl <;> rfl) (by have := HKK.out.2; unfold maxLen; omega) (by have := HKK.out.2; omega) (Nat.zero_le _)
      obtain ⟨g', cap', rfl⟩ := ownsRow_succ o1
      have HR : Shh (Row w11 g 64 _) := ⟨row_off m6 m2 (by decide) (b09.trans (b10.mono b09.size)) (by rw [← HKK.out.1]; exact o2)⟩
      have HC9 : Shh (w9.cell? ⟨g, 1, none⟩ = some (.slice pA kk pn) ∧ w10.cell? ⟨g, 1, none⟩ = some (.slice pA kk pn)) := ⟨(b09.cell (p := ⟨g, 1, none⟩) m2.lt).trans HC.out.1, ((b09.trans (b10.mono b09.size)).cell (p := ⟨g, 1, none⟩) m2.lt).trans HC.out.1⟩
      have HF : Shh (∃ col', Ext col c w (w11.setCell ⟨g, 1, none⟩ (.slice (some ⟨g', 0, none⟩) (kk + 1) cap')) col' ∧ RAt col' c (w11.setCell ⟨g, 1, none⟩ (.slice (some ⟨g', 0, none⟩) (kk + 1) cap')) g S2) := by
       obtain ⟨hk0, hhi, _, hbV, hS2, _⟩ := HX.out
       have hb9 := m9.size
       obtain ⟨col', e1, e2⟩ := rw_push (b := b) (i := i) hc hk0 hhi hbl m1 m2 m3 m4 m5 m6 m7 m8 b09 (q := q) (cp := dc) (sp := sp) (by omega) q2 (by omega) q4 b10 (by rw [← HKK.out.1]; exact o2) (by rw [hbl, ← HKK.out.1]; exact o1) (by rw [← HKK.out.1]; exact o4)
       rw [hS2]
       exact ⟨col', (Ext.of_below col c hbV).trans e1, e2⟩
      have HRUN := Shh.mk hrun
      clear hrun o1 o2 o4 ho10 hx1 b09 hn10 b10 hi hz0 hz1 hz2 q1 q2 q3 q4 k1 k2 hbl m1 m2 m3 m4 m5 m6 m7 m8 m9
      refine ⟨_, rfl, trivial, ?_⟩
      simp only [Act.put, arr9, hd9, tl9]
      refine hdv0 9 36 (.agg #[.int .i64 i, .slice (some ⟨q, 0, none⟩) 256 dc]) (by rfl) trivial ?_
      refine held_two 4 10 (by kernel_rfl) ?_ ?_
      ·refine step_value 4 _ _ (some 31) (.slice pA kk pn) w9 (by rfl) (by kernel_rfl) (rload_ws rfl HC9.out.1 (by kernel_rfl)) trivial ?_
       simp only [Act.put, arr9, hd9, tl9]
       refine held_one 10 (by kernel_rfl) ?_
       refine step_value 10 _ _ (some 37) (.slice (some ⟨w9.heap.size, 0, none⟩) 1 1) w10 (by rfl) (by kernel_rfl) (by rw [← hw10]; exact op_buildW rfl (by kernel_rfl)) trivial ?_
       simp only [Act.put, arr9, hd9, tl9]
       refine held_one 11 (by kernel_rfl) ?_
       refine step_value 11 _ _ (some 38) (.slice (some ⟨g', 0, none⟩) (kk + 1) cap') w11 (by rfl) (by kernel_rfl) (op_append2 rfl (by kernel_rfl) (by kernel_rfl) HRUN.out) trivial ?_
       simp only [Act.put, arr9, hd9, tl9]
       refine hdv 12 39 (.pointer (some ⟨g, 0, none⟩)) (by rfl) (fun w hS => rnil_ok rfl (by kernel_rfl)) trivial ?_
       refine hdv 13 40 (.pointer (some ⟨g, 1, none⟩)) (by rfl) (fun w hS => fr_1 rfl (by kernel_rfl)) trivial ?_
       refine held_one 14 (by kernel_rfl) ?_
       refine step_store1 14 _ (by rfl) (by kernel_rfl) (w11.setCell ⟨g, 1, none⟩ (.slice (some ⟨g', 0, none⟩) (kk + 1) cap')) (store_rw rfl (by kernel_rfl) (by kernel_rfl) HR.out (by simp)) ?_
       refine ⟨trivial, ?_⟩
       refine wpAnyH_done (by kernel_rfl) ?_ _
       clear HRUN HR hW0 hw10 HC9
       obtain ⟨col1, e1, e2⟩ := HF.out
       have HBN := Shh.mk (burnt_any e2 hc)
       have HE1 := Shh.mk e1
       obtain ⟨bo, hbo⟩ : ∃ bo, bo = decide (S2.fuse = 0) := ⟨_, rfl⟩
       have HOE : Shh (opE S2 = if bo then 5 else 0) := ⟨by rw [hbo]; unfold opE; by_cases hz : S2.fuse = 0 <;> simp [hz]⟩
       rw [← hbo] at HBN
       clear e1 e2 HF hbo
       cases bo with
       | false =>
        go_wp2_with (go_at_call 51; refine (HBN.out).mono ?_)
        unfold RefIs
        rintro e w12 ⟨rfl, e3, e4⟩
        have F := Shh.mk (And.intro (HE1.out.trans e3) e4)
        clear e3 e4 HBN HE1
        go_wp2
        go_ret
        exact ⟨by rw [HOE.out]; rfl, _, F.out.1, F.out.2⟩
       | true =>
        go_wp2_with (go_at_call 51; refine (HBN.out).mono ?_)
        unfold RefIs
        rintro e w12 ⟨rfl, e3, e4⟩
        have F := Shh.mk (And.intro (HE1.out.trans e3) e4)
        clear e3 e4 HBN HE1
        go_wp2
        go_ret
        exact ⟨by rw [HOE.out]; rfl, _, F.out.1, F.out.2⟩
      ·refine step_value 10 _ _ (some 37) (.slice (some ⟨w9.heap.size, 0, none⟩) 1 1) w10 (by rfl) (by kernel_rfl) (by rw [← hw10]; exact op_buildW rfl (by kernel_rfl)) trivial ?_
       simp only [Act.put, arr9, hd9, tl9]
       refine held_one 4 (by kernel_rfl) ?_
       refine step_value 4 _ _ (some 31) (.slice pA kk pn) w10 (by rfl) (by kernel_rfl) (rload_ws rfl HC9.out.2 (by kernel_rfl)) trivial ?_
       simp only [Act.put, arr9, hd9, tl9]
       refine held_one 11 (by kernel_rfl) ?_
       refine step_value 11 _ _ (some 38) (.slice (some ⟨g', 0, none⟩) (kk + 1) cap') w11 (by rfl) (by kernel_rfl) (op_append2 rfl (by kernel_rfl) (by kernel_rfl) HRUN.out) trivial ?_
       simp only [Act.put, arr9, hd9, tl9]
       refine hdv 12 39 (.pointer (some ⟨g, 0, none⟩)) (by rfl) (fun w hS => rnil_ok rfl (by kernel_rfl)) trivial ?_
       refine hdv 13 40 (.pointer (some ⟨g, 1, none⟩)) (by rfl) (fun w hS => fr_1 rfl (by kernel_rfl)) trivial ?_
       refine held_one 14 (by kernel_rfl) ?_
       refine step_store1 14 _ (by rfl) (by kernel_rfl) (w11.setCell ⟨g, 1, none⟩ (.slice (some ⟨g', 0, none⟩) (kk + 1) cap')) (store_rw rfl (by kernel_rfl) (by kernel_rfl) HR.out (by simp)) ?_
       refine ⟨trivial, ?_⟩
       refine wpAnyH_done (by kernel_rfl) ?_ _
       clear HRUN HR hW0 hw10 HC9
       obtain ⟨col1, e1, e2⟩ := HF.out
       have HBN := Shh.mk (burnt_any e2 hc)
       have HE1 := Shh.mk e1
       obtain ⟨bo, hbo⟩ : ∃ bo, bo = decide (S2.fuse = 0) := ⟨_, rfl⟩
       have HOE : Shh (opE S2 = if bo then 5 else 0) := ⟨by rw [hbo]; unfold opE; by_cases hz : S2.fuse = 0 <;> simp [hz]⟩
       rw [← hbo] at HBN
       clear e1 e2 HF hbo
       cases bo with
       | false =>
        go_wp2_with (go_at_call 51; refine (HBN.out).mono ?_)
        unfold RefIs
        rintro e w12 ⟨rfl, e3, e4⟩
        have F := Shh.mk (And.intro (HE1.out.trans e3) e4)
        clear e3 e4 HBN HE1
        go_wp2
        go_ret
        exact ⟨by rw [HOE.out]; rfl, _, F.out.1, F.out.2⟩
       | true =>
        go_wp2_with (go_at_call 51; refine (HBN.out).mono ?_)
        unfold RefIs
        rintro e w12 ⟨rfl, e3, e4⟩
        have F := Shh.mk (And.intro (HE1.out.trans e3) e4)
        clear e3 e4 HBN HE1
        go_wp2
        go_ret
        exact ⟨by rw [HOE.out]; rfl, _, F.out.1, F.out.2⟩
end Go.Proofs.Ytpajdmbajopofaa
