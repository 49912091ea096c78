/-
 WALKS: latest; Read.
-/
import Derived.Test.YtpajdmbajopofaaDk6
namespace Go.Proofs.Ytpajdmbajopofaa
open Go.RowKit
set_option maxRecDepth 100000
attribute [local go_sem] Oper.semAt_some
def BackIs (v : Value) (w : World) (e : Ending) (w' : World) : Prop := e = .returned (.func (.func 56) #[] #[.pointer (some ⟨w.heap.size, 0, none⟩)]) ∧ w.alloc (.cells #[v] 65) = w'
theorem backward_any (A : Option Addr) (n c : Nat) (w : World) : Calls Try.prog 54 #[.slice A n c] w (BackIs (.slice A n c) w) := by
 unfold BackIs
 go_enter Try.func54, Try.ntmps54
 go_wp2
 go_ret
 exact ⟨rfl, rfl⟩
/-- the last write of sector i is the one that is read -/
theorem readL_none {b : List UInt8} {l : List (Nat × List UInt8)} {i : Nat} (h : ∀ k (hk : k < l.length), l[k].1 ≠ i) : readL b l i = b := by
 unfold readL
 induction l generalizing b with
 | nil => rfl
 | cons x r ih =>
  rw [List.foldl_cons, if_neg (by have := h 0 (by simp); simpa using this)]
  exact ih (fun k hk => by have := h (k + 1) (by simp; omega); simpa using this)
theorem readL_at {b : List UInt8} {l : List (Nat × List UInt8)} {i k : Nat} (hk : k < l.length) (h : l[k].1 = i) (hn : ∀ j (hj : j < l.length), k < j → l[j].1 ≠ i) : readL b l i = l[k].2 := by
 have e : l = l.take (k + 1) ++ l.drop (k + 1) := (List.take_append_drop _ _).symm
 have e1 : readL b l i = readL (readL b (l.take (k + 1)) i) (l.drop (k + 1)) i := by
  conv => lhs; rw [e]
  unfold readL
  rw [List.foldl_append]
 rw [e1, readL_none, take_snoc l k hk, readL_snoc, if_pos h]
 intro j hj
 rw [List.getElem_drop]
 exact hn _ _ (by omega)
/-- where latest stands -/
def LtI (w : World) (i : Nat) (lv : List (Nat × Value)) (pre : List (Fin lv.length)) (W : World) : Prop := Shh (∀ x ∈ pre, lv[x].1 ≠ i) ∧ (Boxed W w.heap.size 3 (.int .i64 (i : Int)) ∧ Boxed W (w.heap.size + 1) 33 (.slice none 0 0)) ∧ Below w.heap.size w W
def LtX (w : World) (i : Nat) (lv : List (Nat × Value)) (c : Code) (pre : List (Fin lv.length)) (W : World) : Prop := c = .ret ∧ ∃ pre' x, pre = pre' ++ [x] ∧ Shh (∀ x ∈ pre', lv[x].1 ≠ i) ∧ Shh (lv[x].1 = i) ∧ Boxed W (w.heap.size + 1) 33 lv[x].2 ∧ Below w.heap.size w W
theorem LtI.own (w : World) (i : Nat) (lv : List (Nat × Value)) (B : Nat) (hB : w.heap.size ≤ B) : OwnFrom B (LtI w i lv) := by
 intro pre A C row hs hg hr
 obtain ⟨h0, ⟨h1, h2⟩, h3⟩ := hs
 exact ⟨h0, ⟨h1.kept hg (notcells_ne (Boxed.row1 h1) hr), h2.kept hg (notcells_ne (Boxed.row1 h2) hr)⟩, ownFrom_below (Nat.le_refl _) hB pre A C row h3 hg hr⟩
theorem LtX.own (w : World) (i : Nat) (lv : List (Nat × Value)) (c : Code) (B : Nat) (hB : w.heap.size ≤ B) : OwnFrom B (LtX w i lv c) := by
 rintro pre A C row ⟨rfl, pre', x, e1, e2, e3, h2, h3⟩ hg hr
 exact ⟨rfl, pre', x, e1, e2, e3, h2.kept hg (notcells_ne (Boxed.row1 h2) hr), ownFrom_below (Nat.le_refl _) hB pre A C row h3 hg hr⟩
theorem LtI.go {w W Z : World} {i : Nat} {lv : List (Nat × Value)} {pre : List (Fin lv.length)} (h : LtI w i lv pre W) (b : Below W.heap.size W Z) : LtI w i lv pre Z :=
 ⟨h.1, ⟨(b.block _ h.2.1.1.lt).trans h.2.1.1, (b.block _ h.2.1.2.lt).trans h.2.1.2⟩, h.2.2.trans (b.mono h.2.2.size)⟩
theorem dnL_mem {n t : Nat} (ht : t ≤ n) (j : Nat) (hj : j < n) (h : n - t ≤ j) : (⟨j, hj⟩ : Fin n) ∈ dnL n t := by
 induction t with
 | zero => omega
 | succ t ih =>
  rw [dnL_succ (by omega)]
  by_cases e : j = n - 1 - t
  ·refine List.mem_append_right _ ?_
   subst e
   exact List.mem_singleton.2 rfl
  ·exact List.mem_append_left _ (ih (by omega) (by omega))
theorem dnL_all {n : Nat} (j : Nat) (hj : j < n) : (⟨j, hj⟩ : Fin n) ∈ dnL n n := dnL_mem (Nat.le_refl _) j hj (by omega)
/-- where the walk downwards stops, all greater indices have come -/
theorem dnL_stop {n : Nat} {pre : List (Fin n)} {x : Fin n} (h : pre ++ [x] <+: dnL n n) {j : Nat} (hj : j < n) (hx : x.val < j) : (⟨j, hj⟩ : Fin n) ∈ pre := by
 have hlen := h.length_le
 rw [dnL_length (Nat.le_refl _), List.length_append, List.length_singleton] at hlen
 have e := List.prefix_iff_eq_take.1 h
 have e2 : dnL n (pre.length + 1) <+: dnL n n := dnL_pre (by omega) (Nat.le_refl _)
 have e3 := List.prefix_iff_eq_take.1 e2
 rw [dnL_length (by omega)] at e3
 rw [List.length_append, List.length_singleton, ← e3, dnL_succ (by omega)] at e
 have e4 := List.append_inj' e rfl
 rw [e4.1]
 have e5 : x = ⟨n - 1 - pre.length, by omega⟩ := by injection e4.2
 rw [e5] at hx
 refine dnL_mem (by omega) j hj ?_
 show n - pre.length ≤ j
 have : n - 1 - pre.length < j := hx
 omega
theorem below_set_one {w W : World} (h : Below w.heap.size w W) {b : Nat} (hb : w.heap.size ≤ b) (v : Value) : Below w.heap.size w (W.setCell ⟨b, 0, none⟩ v) := h.setCell (p := ⟨b, 0, none⟩) hb v
def LtJ (w : World) (i : Nat) (lv : List (Nat × Value)) (pre : List (Fin lv.length)) (W : World) : Prop := LtI w i lv pre W ∧ w.heap.size + 3 ≤ W.heap.size
theorem LtJ.own (w : World) (i : Nat) (lv : List (Nat × Value)) (B : Nat) (hB : w.heap.size ≤ B) : OwnFrom B (LtJ w i lv) := by
 intro pre A C row hs hg hr
 exact ⟨LtI.own w i lv B hB pre A C row hs.1 hg hr, Nat.le_trans hs.2 hg.size⟩
theorem keeps_from {B : Nat} {W Z : World} (b : Below W.heap.size W Z) : KeepsFrom B W Z := ⟨b.size, fun k o _ hk _ => (b.block k (Array.getElem?_eq_some_iff.1 hk).1).trans hk⟩
set_option maxHeartbeats 8000000 in
theorem latest_raw (g i cap p : Nat) (A : Option Addr) (lv : List (Nat × Value)) (hlen : lv.length ≤ 1000000) (w : World) (hw : WAt w A p lv) (hone : ∀ k (h : k < lv.length), ∃ a n c, lv[k].2 = .slice a n c) (hc : w.cell? ⟨g, 1, none⟩ = some (.slice A lv.length cap)) (sv : Value) (hsv : ∃ a n c, sv = .slice a n c)
 (hsec : ∀ W, Below w.heap.size w W → Calls Try.prog 53 #[.pointer (some ⟨g, 0, none⟩), .int .i64 (i : Int)] W (AnsIs W sv)) :
  Calls Try.prog 48 #[.pointer (some ⟨g, 0, none⟩), .int .i64 (i : Int)] w fun e w' => ∃ v, e = .returned v ∧ Below w.heap.size w w' ∧ ((∃ k, ∃ h : k < lv.length, lv[k].1 = i ∧ v = lv[k].2 ∧ ∀ j (hj : j < lv.length), k < j → lv[j].1 ≠ i) ∨ (v = sv ∧ ∀ j (hj : j < lv.length), lv[j].1 ≠ i)) := by
 have HW := Shh.mk hw
 have HS := Shh.mk hsec
 obtain ⟨U, hU⟩ : ∃ U, U = (w.alloc (.cells #[.int .i64 (i : Int)] 3)).alloc (.cells #[.slice none 0 0] 33) := ⟨_, rfl⟩
 have bU : Below w.heap.size w U := by rw [hU]; exact (Below.alloc (Below.refl _ _) (Nat.le_refl _) _).trans (Below.alloc (Below.refl _ _) (by rw [asz]; omega) _)
 have hg : g < w.heap.size := by
  have := World.block_lt_of_cell? w _ hc
  exact this
 have HU : Shh (LtI w i lv [] U ∧ WAt U A p lv ∧ U.heap.size = w.heap.size + 2) := by
  refine ⟨⟨⟨fun x hx => by cases hx⟩, ⟨?_, ?_⟩, bU⟩, hw.go bU, by rw [hU, asz, asz]⟩
  ·rw [hU]; exact (Boxed.new w _ _).alloc _
  ·rw [hU]
   have := Boxed.new (w.alloc (.cells #[.int .i64 (i : Int)] 3)) 33 (.slice none 0 0)
   rwa [asz] at this
 have c1 : ((w.alloc (.cells #[.int .i64 (i : Int)] 3)).alloc (.cells #[.slice none 0 0] 33)).cell? ⟨g, 1, none⟩ = some (.slice A lv.length cap) := by
  rw [← hU]
  exact (bU.cell (p := ⟨g, 1, none⟩) hg).trans hc
 clear hw hsec hc bU hg
 refine (callsIn_wide (n := 4)).1 ?_
 refine callsIn_of_wp_marks Try.func48 rfl trivial ?_ rfl
 simp only [Try.ntmps48, List.size_toArray, List.length_cons, List.length_nil, Nat.reduceAdd, Nat.reduceSub, Array.replicate_succ, Array.replicate_zero, List.push_toArray, List.append_toArray, List.nil_append, List.cons_append]
 gi_wp2_with (refine ⟨trivial, ?_⟩; gi_at_call 54; refine (callsIn_wide.2 (backward_any A lv.length cap _)).mono ?_)
 unfold BackIs
 rw [← hU]
 rintro e w5 ⟨rfl, h5⟩
 obtain ⟨bS, hbS⟩ : ∃ bS, bS = U.heap.size := ⟨_, rfl⟩
 rw [← hbS]
 have b5 : Below U.heap.size U w5 := by rw [← h5]; exact Below.alloc (Below.refl _ _) (Nat.le_refl _) _
 have H5 : Shh (LtI w i lv [] w5 ∧ WAt w5 A p lv ∧ Boxed w5 bS 65 (.slice A lv.length cap) ∧ w5.heap.size = w.heap.size + 3 ∧ bS = w.heap.size + 2) := by
  refine ⟨HU.out.1.go b5, HU.out.2.1.go b5, ?_, ?_, by rw [hbS]; exact HU.out.2.2⟩
  ·rw [← h5, hbS]; exact Boxed.new U _ _
  ·rw [← h5, asz, HU.out.2.2]
 clear h5 hU HU hbS HW b5 c1
 gi_wp2
 have HN : Shh (w.heap.size + 2 ≤ w5.heap.size ∧ p < w5.heap.size ∧ bS < w5.heap.size) := ⟨by have := H5.out.2.2.2.1; omega, H5.out.2.1.1, H5.out.2.2.1.lt⟩
 refine wpIn_rangeFunc_ownH (F := Fence.wide) rfl (by omega) (gf := 56) (lb := #[.pointer (some ⟨bS, 0, none⟩)]) rfl trivial (fun _ _ => rfl)
  (encs := bkE lv) (Kp := Kp2 bS p) (S := fun ys => ys = dnL lv.length lv.length) (Sp := fun pre => pre <+: dnL lv.length lv.length) (N := lv.length + 1) (w0 := w5)
  (fun l J Jx W hW _ _ hY h0 => back_in l bS p cap A lv hlen J Jx W hY ((hW.block bS H5.out.2.2.1.lt).trans H5.out.2.2.1) (H5.out.2.1.go hW) h0)
  (fun h k => Kp2.trans h k) ?hKb (Below.refl _ _) (fun _ => rfl)
  (LtJ w i lv) (LtX w i lv) (LtJ.own w i lv _ (by have := HN.out.1; omega)) (fun c => LtX.own w i lv c _ (by have := HN.out.1; omega)) ⟨H5.out.1, Nat.le_of_eq H5.out.2.2.2.1.symm⟩
  (fun x a' W => ∃ M, w5.heap.size ≤ M ∧ Row W M 71 (wcC lv[x]) ∧ a' = { tmps := #[.pointer (some ⟨g, 0, none⟩), .int .i64 (i : Int), undef, .pointer (some ⟨w.heap.size, 0, none⟩), .pointer (some ⟨w.heap.size + 1, 0, none⟩), undef, .pointer (some ⟨M, 0, none⟩), .pointer (some ⟨g, 0, none⟩), .pointer (some ⟨g, 0, none⟩), .pointer (some ⟨g, 1, none⟩), .slice A lv.length cap, .func (.func 56) #[] #[.pointer (some ⟨bS, 0, none⟩)], .int .i64 (x.val : Int), .agg (wcC lv[x]).toArray, undef, undef, undef, undef, undef, undef, undef, undef, undef], defers := [] })
  ?hAx ?assign ?body ?done ?stop
 case hKb =>
  intro W l o o' hl ho hc hw
  have := HN.out
  exact ⟨by simp, World.putObj_heap_other (by omega), World.putObj_heap_other (by omega)⟩
 case hAx =>
  rintro x a' _ A' C row ⟨M, hM, hr, ha⟩ hgr hrow
  exact ⟨M, hM, (hgr.block _ hr.lt (notcells_ne hr hrow)).trans hr, ha⟩
 case assign =>
  rintro l pre x W K hI hK
  unfold bkE
  have hRZ : Row (w := W.alloc (.cells #[.int .i64 0, .slice none 0 0] 71)) (g := W.heap.size) (T := 71) (cs := [.int .i64 0, .slice none 0 0]) := Row.new_ rfl rfl
  have hsz := hI.2
  have hW5 := HN.out
  have hz5 := H5.out.2.2.2.1
  have hk1 : ∃ a n c, lv[x].2 = .slice a n c := hone x.val x.isLt
  have H1 : ∀ u ∈ wcC lv[x], u.oneCell' = true := by
   intro u hu
   simp only [wcC, List.mem_cons, List.not_mem_nil, or_false] at hu
   rcases hu with rfl | rfl
   ·rfl
   ·obtain ⟨a, n, c, e⟩ := hk1
    rw [e]; rfl
  clear H5 HS
  gi_wp2_with (refine wlIn_store_anyR rfl 71 (.tmp 6) (.tmp 13) rfl W.heap.size rfl (wcC lv[x]) rfl 71 _ hRZ info_wr rfl H1 ?_)
  intro Z hr bt hz
  have bZ : Below W.heap.size W Z := (Below.alloc (Below.refl _ _) (Nat.le_refl _) _).trans (bt.under (by omega) (Nat.le_refl _))
  have HQ : Shh (KeepsFrom w5.heap.size W Z ∧ Kp2 bS p W Z ∧ LtJ w i lv pre Z ∧ Row Z W.heap.size 71 (wcC lv[x])) :=
   ⟨keeps_from bZ, ⟨bZ.size, bZ.block bS (by omega), bZ.block p (by omega)⟩, ⟨hI.1.go bZ, Nat.le_trans hI.2 bZ.size⟩, hr⟩
  gi_wp2
  exact hK _ _ HQ.out.1 HQ.out.2.1 HQ.out.2.2.1 ⟨W.heap.size, by omega, HQ.out.2.2.2, rfl⟩
 case body =>
  rintro l pre x a' W hl hrec hI ⟨M, hM, hrow, rfl⟩ hlt
  obtain ⟨k, hkl⟩ := x
  obtain ⟨⟨hp0, ⟨b3, b4⟩, hbel⟩, hszW⟩ := hI
  obtain ⟨y, hy⟩ : ∃ y, y = lv[k] := ⟨_, rfl⟩
  have HY := Shh.mk hy
  have hrow2 : Row W M 71 (wcC y) := by rw [hy]; exact hrow
  obtain ⟨y1, y2⟩ := y
  obtain ⟨ya, yn, yc, rfl⟩ : ∃ a n c, y2 = .slice a n c := by
   have := hone k hkl
   rw [← hy] at this
   exact this
  have m0 : W.cell? ⟨M, 0, none⟩ = some (.int .i64 (y1 : Int)) := hrow2.cell 0
  have m1 : W.cell? ⟨M, 1, none⟩ = some (.slice ya yn yc) := hrow2.cell 1
  have c3 := b3.cell
  have c4 := b4.cell
  have f4 := b4.frozen
  have hW5 := HN.out
  have hz5 := H5.out.2.2.2.1
  have HI : Shh (LtJ w i lv pre W) := ⟨⟨⟨hp0, ⟨b3, b4⟩, hbel⟩, hszW⟩⟩
  have hb4lt := b4.lt
  have HB4 := Shh.mk b4
  have HBL := Shh.mk hbel
  by_cases hyi : y1 = i
  ·subst hyi
   have hb2 := below_set_one HBL.out (show w.heap.size ≤ w.heap.size + 1 by omega) (.slice ya yn yc)
   have HQ : Shh (KeepsFrom w5.heap.size W (W.setCell ⟨w.heap.size + 1, 0, none⟩ (.slice ya yn yc)) ∧ LtX w y1 lv .ret (pre ++ [⟨k, hkl⟩]) (W.setCell ⟨w.heap.size + 1, 0, none⟩ (.slice ya yn yc))) := by
    refine ⟨⟨by simp [World.setCell], fun j o hj hjo hc => (heap_setCell_other W ⟨w.heap.size + 1, 0, none⟩ j (.slice ya yn yc) (by show j ≠ w.heap.size + 1; omega)).trans hjo⟩, rfl, pre, ⟨k, hkl⟩, rfl, hp0, ⟨?_⟩, ?_, hb2⟩
    ·show lv[k].1 = y1
     rw [← HY.out]
    ·show Boxed _ _ _ lv[k].2
     rw [← HY.out]
     exact HB4.out.set _
   clear hrow hrow2 b3 b4 hbel hp0 HI HB4 HBL H5 hy hb2 HS hM hl hrec hlt hszW
   gi_wp2
   exact HQ.out
  ·have HQ : Shh (KeepsFrom w5.heap.size W W ∧ Kp2 bS p W W ∧ LtJ w i lv (pre ++ [⟨k, hkl⟩]) W) := by
    refine ⟨KeepsFrom.refl _ _, Kp2.refl _ _ _, ⟨⟨⟨fun x hx => ?_⟩, HI.out.1.2⟩, HI.out.2⟩⟩
    rcases List.mem_append.1 hx with hx | hx
    ·exact HI.out.1.1.out x hx
    ·rw [List.mem_singleton.1 hx]
     show lv[k].1 ≠ i
     rw [← HY.out]
     exact hyi
   have hyi2 : ¬ (y1 : Int) = (i : Int) := by omega
   clear hrow hrow2 b3 b4 hbel hp0 HI HB4 HBL H5 hy HS hM hl hrec hlt hszW
   gi_wp2
   exact HQ.out
 case done =>
  rintro D xs W hD rfl hI hK
  obtain ⟨⟨hp0, ⟨b3, b4⟩, hbel⟩, hszW⟩ := hI
  have c3 := b3.cell
  have c4 := b4.cell
  have f4 := b4.frozen
  have hz5 := H5.out.2.2.2.1
  have HF : Shh (∀ j (hj : j < lv.length), lv[j].1 ≠ i) := ⟨fun j hj => hp0.out ⟨j, hj⟩ (dnL_all j hj)⟩
  have HS2 := Shh.mk (HS.out W hbel)
  obtain ⟨sa, sn, sc, rfl⟩ := hsv
  have HQ : Shh (Boxed (W.setCell ⟨w.heap.size + 1, 0, none⟩ (.slice sa sn sc)) (w.heap.size + 1) 33 (.slice sa sn sc) ∧ Below w.heap.size w (W.setCell ⟨w.heap.size + 1, 0, none⟩ (.slice sa sn sc)) ∧ (W.setCell ⟨w.heap.size + 1, 0, none⟩ (.slice sa sn sc)).heap[D]? = some (.deferred (some []))) :=
   ⟨b4.set _, below_set_one hbel (by omega) _, (heap_setCell_other W ⟨w.heap.size + 1, 0, none⟩ D _ (by show D ≠ w.heap.size + 1; omega)).trans hK⟩
  have hDn : w.heap.size + 3 ≤ D := by omega
  clear HS H5 b3 b4 hbel hp0 hK hD
  gi_wp2_with (refine ⟨trivial, ?_⟩; gi_at_call 53; refine (callsIn_wide.2 (HS2.out)).mono ?_)
  unfold AnsIs
  rintro e w9 ⟨rfl, rfl⟩
  gi_wp2
  refine ⟨by simp, .inl ⟨_, _, rfl, run_takeDeferred HQ.out.2.2, ?_⟩⟩
  have hl := (box_put HQ.out.1 (D := D) (by omega) (.deferred none)).cell
  exact ⟨_, results_cell1 rfl _ _ _ _ rfl (by go_simp), _, rfl, HQ.out.2.1.trans (belowK_b (w := w) (Nat.le_refl _) _ D _ _ (by omega) HQ.out.2.2 rfl rfl), .inr ⟨rfl, HF.out⟩⟩
 case stop =>
  rintro D c pre W hD hp ⟨rfl, pre', x, rfl, e2, e3, hb, hbel⟩ hK
  have hz5 := H5.out.2.2.2.1
  obtain ⟨ya, yn, yc, hy⟩ := hone x.val x.isLt
  have HF : Shh (∃ k, ∃ h : k < lv.length, lv[k].1 = i ∧ (.slice ya yn yc : Value) = lv[k].2 ∧ ∀ j (hj : j < lv.length), k < j → lv[j].1 ≠ i) := ⟨x.val, x.isLt, e3.out, hy.symm, fun j hj hkj => e2.out ⟨j, hj⟩ (dnL_stop hp hj hkj)⟩
  have hy2 : lv[x].2 = .slice ya yn yc := hy
  rw [hy2] at hb
  have hDn : w.heap.size + 3 ≤ D := by omega
  have HQ : Shh (Boxed W (w.heap.size + 1) 33 (.slice ya yn yc) ∧ Below w.heap.size w W ∧ W.heap[D]? = some (.deferred (some []))) := ⟨hb, hbel, hK⟩
  clear HS H5 hb hbel hK hy hy2 e2 e3 hp
  gi_wp2
  refine ⟨by simp, .inl ⟨_, _, rfl, run_takeDeferred HQ.out.2.2, ?_⟩⟩
  have hl := (box_put HQ.out.1 (D := D) (by omega) (.deferred none)).cell
  exact ⟨_, results_cell1 rfl _ _ _ _ rfl (by go_simp), _, rfl, HQ.out.2.1.trans (belowK_b (w := w) (Nat.le_refl _) _ D _ _ (by omega) HQ.out.2.2 rfl rfl), .inl HF.out⟩
end Go.Proofs.Ytpajdmbajopofaa
