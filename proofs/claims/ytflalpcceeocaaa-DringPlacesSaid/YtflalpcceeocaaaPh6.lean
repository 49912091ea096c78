/-
 THE DOCUMENT'S OWN UnpackHints.
-/
import Derived.Test.YtflalpcceeocaaaPh5
namespace Go.Proofs.Ytflalpcceeocaaa
open Go.RowKit
set_option maxRecDepth 100000
theorem Sl.cell_ {w : World} {B n c g o k y : Nat} {bs : List UInt8} (h : Sl w B (.slice (some ⟨g, o, none⟩) n c) bs) (hk : k < bs.length) (hy : y = (bs.getD k 0).toNat) : w.cell? ⟨g, o + k, none⟩ = some (.int .u8 (y : Int)) := by
 obtain ⟨g', o', c', e, h1⟩ := h.get hk
 cases e
 rw [hy]
 exact h1
section
variable {md : Region.Mode} {ops : Array Oper} {Q : Exit → Act → World → Prop} {S : World → Prop} {fuel : Nat} {listed : Array Bool} {a : Act} {w : World}
theorem step_storeHL (i : Nat) {x y : Operand} (hop : (ops[i]?).map (fun o => (o.op, o.type, o.dst)) = some (.store 4 x y, 0, none)) (hw : (ops[i]?).map (fun o => Region.wanted o (yielded ops a.tmps)) = some true)
 {g k j n p : Nat} {v : Bool} {T : TypeId} {L : Nat → Nat → Bool} (hp : p = k * 256 + j) (hk : k < n) (hj : j < 256) (hr : Row w g T (hl n L)) (hx : a.eval x = .pointer (some ⟨g, p, none⟩)) (hy : a.eval y = .bool v)
 (h : ∀ w2, Row w2 g T (hl n (fun r => if r = k then hup (L k) j v else L r)) → But w.heap.size g w w2 → w2.heap.size = w.heap.size → S w2 ∧ wpAnyH Try.prog md ops Q S fuel (listed.setIfInBounds i true) a w2) : HStep Try.prog md ops Q S fuel listed a w i := by
 have hs := hr.set_ p (.bool v)
 rw [hp, hl_set L v hk hj, ← hp] at hs
 exact step_store1 i _ hop hw (w.setCell ⟨g, p, none⟩ (.bool v)) (run_storeHL hp hk hj hr rfl hx hy) (h _ hs ((But.refl _ _ _).setCell _ _) (by simp [World.setCell]))
end
set_option maxHeartbeats 4000000 in
theorem refUnpackHints_bad (n most : Int) (B : Nat) (v : Value) (bs : List UInt8) (w : World) (hs : Sl w B v bs) (hb : mayB n most = false ∨ (mayB n most = true ∧ (bs.length : Int) ≠ most + n)) (L : Nat → Nat → Bool) : Calls Try.prog 8 #[.int .i64 n, .int .i64 most, v] w (HintsErr w 1 0 L) := by
 unfold HintsErr
 obtain ⟨A, c, rfl, _, _⟩ := hs.form
 have HN0 := Shh.mk (HintsAt.nil_ w w.heap.size L)
 unfold mayB at hb
 by_cases h1 : n < 0
 ·clear hb hs
  go_enter Try.func8, Try.ntmps8
  go_wp2
  go_ret2
  exact ⟨_, rfl, HN0.out, Below.refl _ _⟩
 by_cases h2 : 16 < n
 ·clear hb hs
  go_enter Try.func8, Try.ntmps8
  go_wp2
  go_ret2
  exact ⟨_, rfl, HN0.out, Below.refl _ _⟩
 by_cases h3 : most < 0
 ·clear hb hs
  go_enter Try.func8, Try.ntmps8
  go_wp2
  go_ret2
  exact ⟨_, rfl, HN0.out, Below.refl _ _⟩
 by_cases h4 : 255 < most
 ·clear hb hs
  go_enter Try.func8, Try.ntmps8
  go_wp2
  go_ret2
  exact ⟨_, rfl, HN0.out, Below.refl _ _⟩
 have hne : (bs.length : Int) ≠ most + n := by
  rcases hb with hb | hb
  ·simp at hb
   omega
  ·exact hb.2
 obtain ⟨t, ht⟩ : ∃ t : Int, t = most + n := ⟨_, rfl⟩
 have hw : IntKind.i64.wrap (most + n) = t := by rw [ht, IntKind.wrap_i64]; omega
 have hne2 : ((bs.length : Int) != t) = true := by rw [ht]; simp [hne]
 clear hb hs hne ht
 go_enter Try.func8, Try.ntmps8
 go_wp2
 go_ret2
 exact ⟨_, rfl, HN0.out, Below.refl _ _⟩
set_option maxHeartbeats 8000000 in
theorem refUnpackHints_ok (n most : Nat) (hn : n ≤ 16) (hm : most ≤ 255) (B : Nat) (v : Value) (bs : List UInt8) (hl : bs.length = most + n) (w : World) (hs : Sl w B v bs) (hB : B ≤ w.heap.size) (E : Int) (m : Nat) (hE : UnR bs most n E m) : Calls Try.prog 8 #[.int .i64 (n : Int), .int .i64 (most : Int), v] w (HintsErr w E m (unL bs most)) := by
 unfold HintsErr
 generalize hN : w.heap.size = N at *
 have HR := Shh.mk hE
 obtain ⟨t, ht⟩ : ∃ t : Nat, Shh (t = most + n ∧ t ≤ 1000 ∧ bs.length = t) := ⟨_, ⟨rfl, by omega, hl⟩⟩
 have HN1 := Shh.mk (And.intro hn hm)
 obtain ⟨A, cb, rfl, hcb, hcb2⟩ := hs.form
 have FA : Shh (Sl w B (.slice A bs.length cb) bs ∧ Below N w w ∧ B ≤ N ∧ N ≤ w.heap.size) := ⟨hs, Below.refl _ _, hB, by rw [hN]; exact Nat.le_refl _⟩
 rw [ht.out.2.2] at FA ⊢
 have hw1 : IntKind.i64.wrap ((most : Int) + (n : Int)) = (t : Int) := by rw [IntKind.wrap_i64]; have := ht.out; omega
 have i1 : ¬ (n : Int) < 0 := by omega
 have i2 : ¬ (16 : Int) < (n : Int) := by omega
 have i3 : ¬ (most : Int) < 0 := by omega
 have i4 : ¬ (255 : Int) < (most : Int) := by omega
 clear hs hB hn hm hE hl hcb hcb2
 go_enter Try.func8, Try.ntmps8
 go_wp2_with (first | refine wl_makeHL n 37 (by have := HN1.out; omega) rfl rfl rfl rfl rfl ?_)
 intro G w1 hG r b
 try simp only [Act.put, arr9, hd9, tl9]
 rw [show (fun _ _ => false : Nat → Nat → Bool) = sthU bs most 0 0 from (sthU_zero bs most).symm] at r
 have FB : Shh (Sl w1 (B) (.slice A t cb) (bs) ∧ Below N w w1 ∧ B ≤ N ∧ N ≤ w1.heap.size ∧ Row w1 G 39 (hl n (sthU bs most 0 0)) ∧ N ≤ G) := by
  obtain ⟨h0, h1, h2, h3⟩ := FA.out
  have := b.size
  have := hG.out
  exact ⟨h0.below (b.mono (by omega)), h1.trans (b.mono (by omega)), h2, (by omega), r, (by omega)⟩
 clear b FA r hG hw1 i1 i2 i3 i4
 have FC : Shh ((0 = stU bs most 0 ∧ 0 ≤ most ∧ okU bs most 0) ∧ Row w1 G 39 (hl n (sthU bs most 0 0)) ∧ Sl w1 (B) (.slice A t cb) (bs) ∧ Below N w w1 ∧ B ≤ N ∧ N ≤ w1.heap.size ∧ N ≤ G) := by
  have h := FB.out
  obtain ⟨h0, h1, h2, h3, h4, h5⟩ := h
  have h := And.intro ((And.intro (rfl : 0 = stU bs most 0) (And.intro (Nat.zero_le most) (fun r hr => absurd hr (Nat.not_lt_zero r) : okU bs most 0)))) (And.intro (h4) (And.intro (h0) (And.intro (h1) (And.intro (h2) (And.intro (h3) (h5))))))
  exact ⟨h⟩
 clear FB
 go_wp2
 go_loopw [9, 39] (fun p i wr => ∃ k p0 : Nat, k ≤ n ∧ i = .int .i64 (k : Int) ∧ p = .int .i64 (p0 : Int) ∧ Shh ((p0 = stU bs most k ∧ p0 ≤ most ∧ okU bs most k) ∧ Row wr G 39 (hl n (sthU bs most k 0)) ∧ Sl wr (B) (.slice A t cb) (bs) ∧ Below N w wr ∧ B ≤ N ∧ N ≤ wr.heap.size ∧ N ≤ G)) (fun _ i _ => n - (intOf i).toNat)
 case atStart => exact ⟨0, 0, Nat.zero_le _, rfl, rfl, ⟨by skip; exact FC.out⟩⟩
 case round =>
  clear FC
  obtain ⟨k, p, hk, rfl, rfl, HI⟩ := hrel
  by_cases hlt : k < n
  ·have hlt2 : (k : Int) < (n : Int) := by omega
   have hn16 := HN1.out.1
   have hpk : most + k < bs.length := by have := ht.out; omega
   obtain ⟨g, oo, cb', he, hcell⟩ := (HI.out.2.2.1).get hpk
   rw [ht.out.2.2] at he
   obtain ⟨rfl, rfl⟩ : A = some ⟨g, oo, none⟩ ∧ cb = cb' := by cases he; exact ⟨rfl, rfl⟩
   clear he hpk
   obtain ⟨e, he⟩ : ∃ e : Nat, e = (bs.getD (most + k) 0).toNat := ⟨_, rfl⟩
   obtain ⟨pk, hpk⟩ : ∃ pk : Nat, Shh (pk = most + k ∧ pk < t) := ⟨_, ⟨rfl, by have := ht.out; omega⟩⟩
   rw [← he, ← hpk.out.1] at hcell
   have HC := Shh.mk hcell
   have HE : Shh (e = stU bs most (k + 1) ∧ e < 256) := ⟨he, by rw [he]; exact UInt8.toNat_lt _⟩
   clear he hcell
   by_cases hep : e < p
   ·have hi1 : (e : Int) < (p : Int) := by omega
    have HF : Shh (E = 150 ∧ m = 0) := ⟨HR.out.2 (fun hok => by
     have h1 := hok.1 k hlt
     rw [← HE.out.1, ← (HI.out.1).1] at h1
     omega)⟩
    go_wp2_with (first | refine wl_at 45 rfl (.int .i64 (pk : Int)) rfl (add_n (i := (most : Int)) (j := (k : Int)) ⟨by have := hpk.out; omega, by omega, by have := hpk.out; have := ht.out; omega⟩ rfl rfl rfl) ?_ | refine wl_at 46 rfl (.pointer (some ⟨g, oo + pk, none⟩)) rfl (at_bo hpk.out.2 rfl rfl rfl) ?_ | refine wl_at 47 rfl (.int .u8 (e : Int)) rfl (load_8 rfl HC.out rfl) ?_ | refine wl_at 48 rfl (.int .i64 (e : Int)) rfl (conv_8i HE.out.2 rfl rfl) ?_)
    go_ret2
    exact ⟨_, by rw [HF.out.1]; rfl, by rw [HF.out.2]; exact HintsAt.nil_ _ _ _, HI.out.2.2.2.1⟩
   ·have hi1 : ¬ (e : Int) < (p : Int) := by omega
    by_cases hem : most < e
    ·have hi2 : (most : Int) < (e : Int) := by omega
     have HF : Shh (E = 150 ∧ m = 0) := ⟨HR.out.2 (fun hok => by
      have h1 := hok.1 k hlt
      rw [← HE.out.1, ← (HI.out.1).1] at h1
      omega)⟩
     go_wp2_with (first | refine wl_at 45 rfl (.int .i64 (pk : Int)) rfl (add_n (i := (most : Int)) (j := (k : Int)) ⟨by have := hpk.out; omega, by omega, by have := hpk.out; have := ht.out; omega⟩ rfl rfl rfl) ?_ | refine wl_at 46 rfl (.pointer (some ⟨g, oo + pk, none⟩)) rfl (at_bo hpk.out.2 rfl rfl rfl) ?_ | refine wl_at 47 rfl (.int .u8 (e : Int)) rfl (load_8 rfl HC.out rfl) ?_ | refine wl_at 48 rfl (.int .i64 (e : Int)) rfl (conv_8i HE.out.2 rfl rfl) ?_)
     go_ret2
     exact ⟨_, by rw [HF.out.1]; rfl, by rw [HF.out.2]; exact HintsAt.nil_ _ _ _, HI.out.2.2.2.1⟩
    ·have hi2 : ¬ (most : Int) < (e : Int) := by omega
     have HOK : Shh (okU bs most (k + 1) ∧ p = stU bs most k ∧ p ≤ e ∧ e ≤ most) := ⟨by
      have h0 := HI.out.1
      refine ⟨fun r hr => ?_, h0.1, by omega, by omega⟩
      by_cases hrk : r = k
      ·rw [hrk, ← HE.out.1, ← h0.1]; omega
      ·exact h0.2.2 r (by omega)⟩
     go_wp2_with (first | refine wl_at 45 rfl (.int .i64 (pk : Int)) rfl (add_n (i := (most : Int)) (j := (k : Int)) ⟨by have := hpk.out; omega, by omega, by have := hpk.out; have := ht.out; omega⟩ rfl rfl rfl) ?_ | refine wl_at 46 rfl (.pointer (some ⟨g, oo + pk, none⟩)) rfl (at_bo hpk.out.2 rfl rfl rfl) ?_ | refine wl_at 47 rfl (.int .u8 (e : Int)) rfl (load_8 rfl HC.out rfl) ?_ | refine wl_at 48 rfl (.int .i64 (e : Int)) rfl (conv_8i HE.out.2 rfl rfl) ?_)
     have HJ : Shh ((p = p + 0 ∧ p ≤ e) ∧ Row wr G 39 (hl n (sthU bs most k 0)) ∧ Sl wr (B) (.slice (some ⟨g, oo, none⟩) t cb) (bs) ∧ Below N w wr ∧ B ≤ N ∧ N ≤ wr.heap.size ∧ N ≤ G) := by
      have h := HI.out
      obtain ⟨h0, h1, h2, h3, h4, h5, h6⟩ := h
      have h := And.intro (And.intro (Nat.add_zero p).symm HOK.out.2.2.1) (And.intro (h1) (And.intro (h2) (And.intro (h3) (And.intro (h4) (And.intro (h5) (h6))))))
      exact ⟨h⟩
     clear HI
     go_wp2
     go_loopw [9] (fun i wr => ∃ q x : Nat, i = .int .i64 (x : Int) ∧ Shh ((x = p + q ∧ x ≤ e) ∧ Row wr G 39 (hl n (sthU bs most k q)) ∧ Sl wr (B) (.slice (some ⟨g, oo, none⟩) t cb) (bs) ∧ Below N w wr ∧ B ≤ N ∧ N ≤ wr.heap.size ∧ N ≤ G)) (fun i _ => e - (intOf i).toNat)
     case atStart => exact ⟨0, p, rfl, ⟨by skip; exact HJ.out⟩⟩
     case round =>
      clear HJ
      obtain ⟨q, x, rfl, HI⟩ := hrel
      by_cases hql : x < e
      ·have hql2 : (x : Int) < (e : Int) := by omega
       have HX : Shh (x < bs.length ∧ x < t ∧ x ≤ 1000) := ⟨by have := HOK.out; have := ht.out; omega⟩
       have HST := Shh.mk (sthU_step bs most k q)
       obtain ⟨y, hy⟩ : ∃ y : Nat, y = (bs.getD (stU bs most k + q) 0).toNat := ⟨_, rfl⟩
       rw [← hy] at HST
       have HY : Shh (y < 256 ∧ y = (bs.getD x 0).toNat) := ⟨by rw [hy]; exact UInt8.toNat_lt _, by rw [hy, (HI.out.1).1, HOK.out.2.1]⟩
       clear hy
       obtain ⟨z, hz⟩ : ∃ z : Nat, Shh (z = k * 256 + y) := ⟨_, ⟨rfl⟩⟩
       have hxt := HX.out.2.1
       have hy256 := HY.out.1
       go_wp2
       refine wp_region_held_drew (S := fun w' => Sl w' (B) (.slice (some ⟨g, oo, none⟩) t cb) (bs)) (by kernel_rfl) HI.out.2.2.1.drew (fun hS => ?_)
       clear hS
       obtain ⟨X2, hX2⟩ : ∃ V, V = World.drew wr := ⟨_, rfl⟩
       rw [← hX2]
       have HJ : Shh ((x = p + q ∧ x ≤ e) ∧ Row X2 G 39 (hl n (sthU bs most k q)) ∧ Sl X2 (B) (.slice (some ⟨g, oo, none⟩) t cb) (bs) ∧ Below N w X2 ∧ B ≤ N ∧ N ≤ X2.heap.size ∧ N ≤ G) := by
        obtain ⟨h0, h1, h2, h3, h4, h5, h6⟩ := HI.out
        rw [hX2]
        exact ⟨h0, h1.drew, h2.drew, h3.drew, h4, h5, h6⟩
       clear hX2 HI
       refine hdv0 0 62 (.slice (some ⟨G, 0, none⟩) n n) (by rfl) HJ.out.2.2.1 ?_
       refine hdv0 1 63 (.int .i64 (k : Int)) (by rfl) HJ.out.2.2.1 ?_
       refine hdv0 2 64 (.slice (some ⟨g, oo, none⟩) t cb) (by rfl) HJ.out.2.2.1 ?_
       refine hdv0 3 65 (.int .i64 (x : Int)) (by rfl) HJ.out.2.2.1 ?_
       refine hdv 4 66 (.pointer (some ⟨g, oo + x, none⟩)) (by rfl) (fun w hS => at_bo (n := t) (c := cb) (k := x) (g := g) (oo := oo) hxt rfl (by kernel_rfl) (by kernel_rfl)) HJ.out.2.2.1 ?_
       refine hdv 5 67 (.int .u8 (y : Int)) (by rfl) (fun w hS => load_8 (n := y) (q := ⟨g, oo + x, none⟩) rfl (hS.cell_ HX.out.1 HY.out.2) (by kernel_rfl)) HJ.out.2.2.1 ?_
       refine hdv 6 68 (.pointer (some ⟨G, 0 + k * 256, none⟩)) (by rfl) (fun w hS => at_hl (n := n) (c := n) (k := k) (g := G) (oo := 0) hlt rfl (by kernel_rfl) (by kernel_rfl)) HJ.out.2.2.1 ?_
       refine hdv 7 69 (.pointer (some ⟨G, z, none⟩)) (by rfl) (fun w hS => (by rw [show z = 0 + k * 256 + y by rw [hz.out]; omega]; exact at_hin8 (g := G) (oo := 0 + k * 256) (k := y) hy256 rfl (by kernel_rfl) (by kernel_rfl))) HJ.out.2.2.1 ?_
       refine held_one 8 (by kernel_rfl) ?_
       refine step_storeHL 8 (v := true) (by rfl) (by kernel_rfl) hz.out hlt hy256 HJ.out.2.1 (by kernel_rfl) (by kernel_rfl) ?_
       intro w4 r5 bt3 zbt3
       have HK : Shh ((x = p + q ∧ x ≤ e) ∧ Row w4 G 39 (hl n (sthU bs most k (q + 1))) ∧ Sl w4 (B) (.slice (some ⟨g, oo, none⟩) t cb) (bs) ∧ Below N w w4 ∧ B ≤ N ∧ N ≤ w4.heap.size ∧ N ≤ G) := by
        obtain ⟨h0, h1, h2, h3, h4, h5, h6⟩ := HJ.out
        have := h1.lt
        have hb := bt3.under (Nat.le_of_lt h1.lt) (Nat.le_refl _)
        have := hb.size
        rw [HST.out] at r5
        exact ⟨h0, r5, h2.below (hb.mono (by omega)), h3.trans (hb.mono (by omega)), h4, (by omega), h6⟩
       clear bt3 HJ r5 zbt3
       refine ⟨HK.out.2.2.1, ?_⟩
       refine wpAnyH_done (by kernel_rfl) ?_ _
       have HL : Shh ((x + 1 = p + (q + 1) ∧ x + 1 ≤ e) ∧ Row w4 G 39 (hl n (sthU bs most k (q + 1))) ∧ Sl w4 (B) (.slice (some ⟨g, oo, none⟩) t cb) (bs) ∧ Below N w w4 ∧ B ≤ N ∧ N ≤ w4.heap.size ∧ N ≤ G) := by
        have h := HK.out
        have h := And.intro (And.intro (by have := h.1.1; omega : x + 1 = p + (q + 1)) (hql : x + 1 ≤ e)) h.2
        exact ⟨h⟩
       clear HK
       have hx1000 := HX.out.2.2
       go_wp2_with (refine wl_at 61 rfl (.int .i64 ((x + 1 : Nat) : Int)) rfl (add_n (i := (x : Int)) (j := 1) ⟨by omega, by omega, by omega⟩ rfl rfl rfl) ?_)
       go_roundw
       case rel => exact ⟨q + 1, x + 1, rfl, HL⟩
       case measure => simp [intOf]; omega
      ·have hql2 : ¬ (x : Int) < (e : Int) := by omega
       have HXE : Shh (x = e) := ⟨by have := HI.out.1; omega⟩
       have HNX := Shh.mk (sthU_next bs most k q (by rw [← HE.out.1, ← HOK.out.2.1]; have := HI.out.1; omega))
       have HJ : Shh ((x = stU bs most (k + 1) ∧ x ≤ most ∧ okU bs most (k + 1)) ∧ Row wr G 39 (hl n (sthU bs most (k + 1) 0)) ∧ Sl wr (B) (.slice (some ⟨g, oo, none⟩) t cb) (bs) ∧ Below N w wr ∧ B ≤ N ∧ N ≤ wr.heap.size ∧ N ≤ G) := by
        have h := HI.out
        rw [HNX.out] at h
        obtain ⟨h0, h1, h2, h3, h4, h5, h6⟩ := h
        have h := And.intro ((And.intro (HXE.out.trans HE.out.1) (And.intro (by rw [HXE.out]; exact HOK.out.2.2.2 : x ≤ most) HOK.out.1))) (And.intro (h1) (And.intro (h2) (And.intro (h3) (And.intro (h4) (And.intro (h5) (h6))))))
        exact ⟨h⟩
       clear HI
       go_wp2
       go_roundw
       case rel => exact ⟨k + 1, x, by omega, by go_num, rfl, HJ⟩
       case measure => simp [intOf]; omega
  ·have hlt2 : ¬ (k : Int) < (n : Int) := by omega
   have hkn : k = n := by omega
   have HOK : Shh (okU bs most n) := ⟨by have h1 := HI.out.1; rw [← hkn]; exact h1.2.2⟩
   have HHA : Shh (HintsAt wr wr.heap.size (.slice (some ⟨G, 0, none⟩) n n) n (unL bs most)) := ⟨by
    have h1 := HI.out.2.1
    rw [hkn] at h1
    exact (HintsAt.of_row h1 (by have := HN1.out; unfold maxLen; omega) h1.lt).of_eq (fun r hr => sthU_all bs most n r hr)⟩
   clear hkn
   have HPK := Shh.mk (refPackHints_ok n most HN1.out.1 HN1.out.2 wr.heap.size _ (unL bs most) wr HHA.out (Nat.le_refl _))
   have HJ : Shh (Sl wr (B) (.slice A t cb) (bs) ∧ Below N w wr ∧ B ≤ N ∧ N ≤ wr.heap.size ∧ N ≤ G ∧ HintsAt wr wr.heap.size (.slice (some ⟨G, 0, none⟩) n n) (n) (unL bs most)) := by
    have h := HI.out
    obtain ⟨h0, h1, h2, h3, h4, h5, h6⟩ := h
    have h := And.intro (h2) (And.intro (h3) (And.intro (h4) (And.intro (h5) (And.intro (h6) (HHA.out)))))
    exact ⟨h⟩
   clear HI
   clear HHA
   obtain ⟨PE, hPE⟩ : ∃ PE, PE = pkE (unL bs most) n most := ⟨_, rfl⟩
   obtain ⟨PB, hPB⟩ : ∃ PB, PB = pkB (unL bs most) n most := ⟨_, rfl⟩
   rw [← hPE, ← hPB] at HPK
   have HPE := Shh.mk hPE
   have HPB := Shh.mk hPB
   clear hPE hPB
   by_cases hfit : (plc (unL bs most) n).length ≤ most
   ·have hPE0 : PE = 0 := by rw [HPE.out]; exact if_pos hfit
    subst hPE0
    have HPB2 : Shh (PB = packB (unL bs most) n most) := ⟨by rw [HPB.out]; exact if_pos hfit⟩
    go_wp2_with ((go_at_call 6; refine (HPK.out).mono ?_))
    rintro e w5 ⟨v5, rfl, hv5, b5⟩
    have HK : Shh (Sl w5 (B) (.slice A t cb) (bs) ∧ Below N w w5 ∧ B ≤ N ∧ N ≤ w5.heap.size ∧ N ≤ G ∧ HintsAt w5 w5.heap.size (.slice (some ⟨G, 0, none⟩) n n) (n) (unL bs most) ∧ Sl w5 w5.heap.size (v5) (PB)) := by
     obtain ⟨h0, h1, h2, h3, h4, h5⟩ := HJ.out
     have := b5.size
     exact ⟨h0.below (b5.mono (by omega)), h1.trans (b5.mono (by omega)), h2, (by omega), h4, h5.go b5, hv5⟩
    clear b5 HJ hv5
    have HEQ := Shh.mk (refEqual_any _ _ _ _ _ _ w5 (HK.out.1) (HK.out.2.2.2.2.2.2))
    by_cases hpb : PB = bs
    ·have hq : (bs == PB) = true := by simp [hpb]
     rw [hq] at HEQ
     have HF : Shh (E = 0 ∧ m = n) := ⟨HR.out.1 ⟨HOK.out, hfit, by rw [← HPB2.out]; exact hpb⟩⟩
     clear hq hpb
     go_wp2_with ((go_at_call 9; refine (HEQ.out).mono ?_))
     rintro e w6 ⟨rfl, rfl⟩
     go_wp2
     go_ret2
     exact ⟨_, by rw [HF.out.1]; rfl, by rw [HF.out.2]; exact HK.out.2.2.2.2.2.1, HK.out.2.1⟩
    ·have hq : (bs == PB) = false := by simp; exact fun h => hpb h.symm
     rw [hq] at HEQ
     have HF : Shh (E = 150 ∧ m = 0) := ⟨HR.out.2 (fun hok => hpb (by rw [HPB2.out]; exact hok.2.2))⟩
     clear hq hpb
     go_wp2_with ((go_at_call 9; refine (HEQ.out).mono ?_))
     rintro e w6 ⟨rfl, rfl⟩
     go_wp2
     go_ret2
     exact ⟨_, by rw [HF.out.1]; rfl, by rw [HF.out.2]; exact HintsAt.nil_ _ _ _, HK.out.2.1⟩
   ·have hPE3 : PE = 3 := by rw [HPE.out]; exact if_neg hfit
    subst hPE3
    have HF : Shh (E = 150 ∧ m = 0) := ⟨HR.out.2 (fun hok => hfit hok.2.1)⟩
    go_wp2_with ((go_at_call 6; refine (HPK.out).mono ?_))
    rintro e w5 ⟨v5, rfl, hv5, b5⟩
    have HK : Shh (Sl w5 (B) (.slice A t cb) (bs) ∧ Below N w w5 ∧ B ≤ N ∧ N ≤ w5.heap.size ∧ N ≤ G ∧ HintsAt w5 w5.heap.size (.slice (some ⟨G, 0, none⟩) n n) (n) (unL bs most) ∧ Sl w5 w5.heap.size (v5) (PB)) := by
     obtain ⟨h0, h1, h2, h3, h4, h5⟩ := HJ.out
     have := b5.size
     exact ⟨h0.below (b5.mono (by omega)), h1.trans (b5.mono (by omega)), h2, (by omega), h4, h5.go b5, hv5⟩
    clear b5 HJ hv5
    go_wp2
    go_ret2
    exact ⟨_, by rw [HF.out.1]; rfl, by rw [HF.out.2]; exact HintsAt.nil_ _ _ _, HK.out.2.1⟩
end Go.Proofs.Ytflalpcceeocaaa
