/-
 THE DOCUMENT'S OWN SampleNtt.
-/
import Derived.Test.YtfcgdjgfdbcddaaDoorRs2
import Derived.Test.YtfcgdjgfdbcddaaDoorKRAsk
namespace Go.Proofs.YtfcgdjgfdbcddaaDoor
open Go.RowKit
set_option maxRecDepth 100000
section
variable {a : Act} {x y : Operand} {op : Oper} {w : World}
theorem idx_8 {gb L c k : Nat} (hk : k < L) (ho : op.op = .indexAddr 22 x y) (hx : a.eval x = .slice (some ⟨gb, 0, none⟩) L c) (hy : a.eval y = .int .i64 (k : Int)) : (execOp a.eval op).run Tryd.prog w = .ok (.value (.pointer (some ⟨gb, k, none⟩))) w := by
 have hk2 : (k : Int) < (L : Int) := by omega
 have h0 : ¬ (k : Int) < 0 := by omega
 unfold execOp
 simp only [ho, hx, hy]
 go_simp
theorem idx_i {gb L c k : Nat} (hk : k < L) (ho : op.op = .indexAddr 36 x y) (hx : a.eval x = .slice (some ⟨gb, 0, none⟩) L c) (hy : a.eval y = .int .i64 (k : Int)) : (execOp a.eval op).run Tryd.prog w = .ok (.value (.pointer (some ⟨gb, k, none⟩))) w := by
 have hk2 : (k : Int) < (L : Int) := by omega
 have h0 : ¬ (k : Int) < 0 := by omega
 unfold execOp
 simp only [ho, hx, hy]
 go_simp
end
theorem shake_cells {w w' : World} {v : Value} {bs : List UInt8} (h : Gives w bs v w') (hn : 0 < bs.length) : ∃ gb c, v = .slice (some ⟨gb, 0, none⟩) bs.length c ∧ w.heap.size ≤ gb ∧ gb < w'.heap.size ∧ (∀ i, i < bs.length → w'.cell? ⟨gb, i, none⟩ = some (.int .u8 (nb bs i : Int))) ∧ Below w.heap.size w w' := by
 have hs := gives_sl h
 obtain ⟨ho, hb⟩ := h
 rcases ho with ⟨_, ⟨rfl, h0⟩ | ⟨g, cap, cur, rfl, hbase, hgb, _⟩⟩
 ·omega
 have hlt := Array.getElem?_eq_some_iff.1 hgb
 obtain ⟨b, off, hA, hbb, hc⟩ := hs.at_ hn
 cases hA
 exact ⟨_, cap, rfl, hbase, hlt.1, fun i hi => by rw [nb_get bs hi, ← hc i hi, Nat.zero_add], hb⟩
/-- the first n of the bytes bb are handed back -/
def GotIs (W : World) (bb : Nat → Nat) (n : Nat) (e : Ending) (w' : World) : Prop := ∃ gb c, e = .returned (.slice (some ⟨gb, 0, none⟩) n c) ∧ W.heap.size ≤ gb ∧ gb < w'.heap.size ∧ (∀ i, i < n → w'.cell? ⟨gb, i, none⟩ = some (.int .u8 (bb i : Int))) ∧ Below W.heap.size W w'
set_option maxHeartbeats 8000000 in
theorem refSampleNtt_any (B : Nat) (v : Value) (m : List UInt8) (hl : m.length = 34) (w : World) (hs : Sl w B v m) (hB : B ≤ w.heap.size) (xs : Nat → Nat) (hxs : xs = grp (nb (spongeL 168 31 m 3072))) : Calls Tryd.prog 5 #[v] w (CodeIs w (smpF xs) (smpE xs)) := by
 unfold CodeIs polyV
 have i3 : (m.length : Int) ≤ 34 := by omega
 have i4 : (34 : Int) ≤ (m.length : Int) := by omega
 generalize hN : w.heap.size = N at *
 obtain ⟨FF, hFF⟩ : ∃ F, F = smpF xs := ⟨_, rfl⟩
 obtain ⟨ee, hee⟩ : ∃ F, F = smpE xs := ⟨_, rfl⟩
 have HF : Shh ((∀ n f, StA xs 2048 n f → n < 256 → ee = 130 ∧ FF = fun _ => 0) ∧ ∀ k f, k ≤ 2048 → StA xs k 256 f → ee = 0 ∧ FF = f) := ⟨by
  rw [hFF, hee]
  exact ⟨fun n f h hn => h.short hn, fun k f hk h => (h.full hk).whole⟩⟩
 rw [← hFF, ← hee]
 clear hFF hee
 obtain ⟨bb, hbb⟩ : ∃ b : Nat → Nat, b = nb (spongeL 168 31 m 3072) := ⟨_, rfl⟩
 have HX : Shh (∀ t, xs (2 * t) = bb (3 * t) + 256 * (bb (3 * t + 1) % 16) ∧ xs (2 * t + 1) = bb (3 * t + 1) / 16 + 16 * bb (3 * t + 2)) := ⟨fun t => by rw [hxs, grp_one, grp_two, hbb]; exact ⟨rfl, rfl⟩⟩
 have HB8 : Shh (∀ i, bb i < 256) := ⟨fun i => by rw [hbb]; exact nb_lt _ _⟩
 obtain ⟨A, c, rfl, _, _⟩ := hs.form
 have HC : Shh (∀ n : Nat, 0 < n → n ≤ 3072 → ∀ W, Below N w W → N ≤ W.heap.size → Calls Tryd.prog 10 #[.int .i64 128, .int .i64 (n : Int), .slice A m.length c] W (GotIs W bb n)) := ⟨fun n h0 hn W hb hW => by
  refine (refShake128_any n (by omega) B _ m W (hs.below (hb.mono hB)) (by omega) (by omega)).mono ?_
  rintro e w' ⟨v1, rfl, hg⟩
  have hln : (spongeL 168 31 m n).length = n := Sp.outs_length _ _ _
  obtain ⟨gb, c1, rfl, h1, h2, h3, h4⟩ := shake_cells hg (by omega)
  rw [hln]
  exact ⟨gb, c1, rfl, h1, h2, fun i hi => by rw [h3 i (by omega), hbb]; unfold spongeL; rw [short_bytes 168 _ n 3072 i hn hi], h4⟩⟩
 have HS0 : Shh (w.heap.size = N ∧ StA xs 0 0 (fun _ => 0)) := ⟨hN, StA.start xs⟩
 clear hs hB hxs hl hbb hN
 generalize m.length = ln at *
 go_enter Tryd.func5, Tryd.ntmps5
 go_wp2_with (refine wl_allocS 2 rfl rfl rfl ?_)
 intro N1 w2 hN1 r2 b2
 simp only [Act.put, arr9, hd9, tl9]
 obtain rfl : N = N1 := HS0.out.1.symm.trans hN1.out.symm
 go_wp2_with (refine wl_allocS 4 rfl rfl rfl ?_)
 intro G w3 hG r3 b3
 simp only [Act.put, arr9, hd9, tl9]
 have HJ : Shh (StA xs 0 0 (fun _ => 0) ∧ Row w3 N 25 (pc fun _ => 0) ∧ Row w3 G 25 (pc fun _ => 0) ∧ Below N w w3 ∧ N < G) := by
  obtain ⟨h1, h2⟩ := HS0.out
  rw [h1] at b2
  exact ⟨⟨h2, r2.go b3, r3, b2.trans (b3.mono (Nat.le_of_lt r2.lt)), by rw [hG.out]; exact r2.lt⟩⟩
 clear r2 b2 r3 b3 hG hN1 HS0
 have C1 : Shh (Calls Tryd.prog 10 #[.int .i64 128, .int .i64 840, .slice A ln c] w3 (GotIs w3 bb 840)) := ⟨HC.out 840 (by decide) (by decide) w3 HJ.out.2.2.2.1 (Nat.le_of_lt HJ.out.2.1.lt)⟩
 go_wp2_with (go_at_call 10; refine (C1.out).mono ?_)
 rintro e w4 ⟨gb0, cc0, rfl, hq1, hq2, hq3, b4⟩
 have HK : Shh (StA xs (2 * 0) 0 (fun _ => 0) ∧ Row w4 N 25 (pc fun _ => 0) ∧ Row w4 G 25 (pc (fun _ => 0)) ∧ Below N w w4 ∧ N < G ∧ G < gb0 ∧ gb0 < w4.heap.size ∧ ∀ i, i < 840 → w4.cell? ⟨gb0, i, none⟩ = some (.int .u8 (bb i : Int))) := by
  obtain ⟨h1, h2, h3, h4, h5⟩ := HJ.out
  exact ⟨⟨h1, h2.go b4, h3.go b4, h4.trans (b4.mono (Nat.le_of_lt h2.lt)), h5, Nat.lt_of_lt_of_le h3.lt hq1, hq2, hq3⟩⟩
 clear hq1 hq2 hq3 b4 HJ C1
 go_wp2
 go_loopg [5, 6, 7] 1024 (fun gk s5 s6 s7 wr => ∃ (t n gb L cc : Nat) (f : Nat → Nat), t + gk = 1024 ∧ s7 = .int .i64 (t : Int) ∧ s6 = .int .i64 (n : Int) ∧ s5 = .slice (some ⟨gb, 0, none⟩) L cc ∧ L ≤ 3072 ∧ Shh (StA xs (2 * t) n f ∧ Row wr N 25 (pc fun _ => 0) ∧ Row wr G 25 (pc f) ∧ Below N w wr ∧ N < G ∧ G < gb ∧ gb < wr.heap.size ∧ ∀ i, i < L → wr.cell? ⟨gb, i, none⟩ = some (.int .u8 (bb i : Int))))
 case atStart => exact ⟨0, 0, gb0, 840, cc0, fun _ => 0, rfl, rfl, rfl, rfl, by decide, HK⟩
 case round =>
  clear HK
  obtain ⟨t, n, gb, L, cc, f, htk, rfl, rfl, rfl, hL, HI⟩ := hrel
  have hn0 := HI.out.1.le
  by_cases hn : n < 256
  ·have hn2 : (n : Int) < 256 := by omega
   cases gk with
   | zero =>
    have ht : ¬ (t : Int) < 1024 := by omega
    have h1 := HI.out.1
    rw [show 2 * t = 2048 by omega] at h1
    obtain ⟨rfl, rfl⟩ := HF.out.1 n f h1 hn
    clear h1 HF HX HC HB8
    go_wp2_with (first | refine wl_at 86 rfl (.agg (pc fun _ => 0).toArray) rfl (build_poly rfl) ?_ | refine wpList_store_any rfl 25 (.tmp 2) (.tmp 86) rfl N rfl (pc fun _ => 0) rfl 25 _ HI.out.2.1 (info_poly.trans (size_poly _)) rfl (pc_one _) ?_)
    intro w9 hr9 b9 _
    have hb9 : Below N w w9 := HI.out.2.2.2.1.trans (b9.under (Nat.le_of_lt HI.out.2.1.lt) (Nat.le_refl _))
    go_wp2
    exact ret_rs7 Tryd.results5 rfl rfl rfl hr9 Tryd.underlying25 rfl (info_poly.trans (size_poly _)) ⟨rfl, hb9⟩
   | succ g' =>
    have ht : (t : Int) < 1024 := by omega
    obtain ⟨s0, Hs0⟩ : ∃ s, Shh (s = 3 * t ∧ s ≤ 1000000000000) := ⟨_, ⟨rfl, by omega⟩⟩
    obtain ⟨s3, Hs3⟩ : ∃ s, Shh (s = s0 + 3 ∧ s ≤ 1000000000000) := ⟨_, ⟨rfl, by have := Hs0.out; omega⟩⟩
    by_cases hgt : s3 ≤ L
    ·have hgt2 : ¬ (L : Int) < (s3 : Int) := by omega
     go_wp2_with (first | refine wl_at 28 rfl (.int .i64 (s0 : Int)) rfl (mul_iin (i := 3) (j := t) Hs0.out.1 Hs0.out.2 rfl rfl rfl) ?_ | refine wl_at 29 rfl (.int .i64 (s3 : Int)) rfl (add_ii (i := s0) (j := 3) Hs3.out rfl rfl rfl) ?_)
     obtain ⟨s1, Hs1⟩ : ∃ s, Shh (s = s0 + 1 ∧ s ≤ 1000000000000) := ⟨_, ⟨rfl, by have := Hs0.out; omega⟩⟩
     obtain ⟨s2, Hs2⟩ : ∃ s, Shh (s = s0 + 2 ∧ s ≤ 1000000000000) := ⟨_, ⟨rfl, by have := Hs0.out; omega⟩⟩
     have HLS : Shh (s0 < L ∧ s1 < L ∧ s2 < L) := ⟨by have := Hs3.out; have := Hs1.out; have := Hs2.out; omega⟩
     obtain ⟨a0, Ha0⟩ : ∃ b, Shh (b = bb s0 ∧ b < 256) := ⟨_, ⟨rfl, HB8.out _⟩⟩
     obtain ⟨a1, Ha1⟩ : ∃ b, Shh (b = bb s1 ∧ b < 256) := ⟨_, ⟨rfl, HB8.out _⟩⟩
     obtain ⟨a2, Ha2⟩ : ∃ b, Shh (b = bb s2 ∧ b < 256) := ⟨_, ⟨rfl, HB8.out _⟩⟩
     obtain ⟨m1, Hm1⟩ : ∃ b, Shh (b = a1 % 16) := ⟨_, ⟨rfl⟩⟩
     obtain ⟨m2, Hm2⟩ : ∃ b, Shh (b = 256 * m1) := ⟨_, ⟨rfl⟩⟩
     obtain ⟨d1, Hd1⟩ : ∃ b, Shh (b = a1 / 16) := ⟨_, ⟨rfl⟩⟩
     obtain ⟨d2, Hd2⟩ : ∃ b, Shh (b = 16 * a2) := ⟨_, ⟨rfl⟩⟩
     obtain ⟨x0, Hx0⟩ : ∃ b, Shh (b = a0 + m2) := ⟨_, ⟨rfl⟩⟩
     obtain ⟨x1, Hx1⟩ : ∃ b, Shh (b = d1 + d2) := ⟨_, ⟨rfl⟩⟩
     have HLM : Shh (m1 < 16 ∧ m2 < 65536 ∧ d1 < 16 ∧ d2 < 65536 ∧ x0 < 65536 ∧ x1 < 65536) := ⟨by
      have := Ha0.out.2; have := Ha1.out.2; have := Ha2.out.2; have := Hm1.out; have := Hm2.out; have := Hd1.out; have := Hd2.out; have := Hx0.out; have := Hx1.out
      omega⟩
     have HE : Shh (xs (2 * t) = x0 ∧ xs (2 * t + 1) = x1) := ⟨by
      have h := HX.out t
      rw [← Hs0.out.1, ← Hs1.out.1, ← Hs2.out.1, ← Ha0.out.1, ← Ha1.out.1, ← Ha2.out.1] at h
      rw [h.1, h.2, Hx0.out, Hx1.out, Hm2.out, Hm1.out, Hd1.out, Hd2.out]
      exact ⟨rfl, rfl⟩⟩
     have HC0 : Shh (wr.cell? ⟨gb, s0, none⟩ = some (.int .u8 (a0 : Int)) ∧ wr.cell? ⟨gb, s1, none⟩ = some (.int .u8 (a1 : Int)) ∧ wr.cell? ⟨gb, s2, none⟩ = some (.int .u8 (a2 : Int))) := ⟨by
      rw [Ha0.out.1, Ha1.out.1, Ha2.out.1]
      have h := HI.out.2.2.2.2.2.2.2
      exact ⟨h _ HLS.out.1, h _ HLS.out.2.1, h _ HLS.out.2.2⟩⟩
     have HK : Shh (StA xs (2 * t) n f ∧ Row wr.drew N 25 (pc fun _ => 0) ∧ Row wr.drew G 25 (pc f) ∧ Below N w wr.drew ∧ N < G ∧ G < gb ∧ gb < wr.drew.heap.size ∧ ∀ i, i < L → wr.drew.cell? ⟨gb, i, none⟩ = some (.int .u8 (bb i : Int))) := by
      obtain ⟨h1, h2, h3, h4, h5, h6, h7, h8⟩ := HI.out
      exact ⟨⟨h1, h2.drew, h3.drew, h4.drew, h5, h6, h7, h8⟩⟩
     clear HI
     refine wp_region_held_drew (S := fun W => W.cell? ⟨gb, s0, none⟩ = some (.int .u8 (a0 : Int)) ∧ W.cell? ⟨gb, s1, none⟩ = some (.int .u8 (a1 : Int)) ∧ W.cell? ⟨gb, s2, none⟩ = some (.int .u8 (a2 : Int))) (by kernel_rfl) HC0.out (fun hS => ?_)
     clear HC0
     obtain ⟨U, hU⟩ : ∃ V, V = World.drew wr := ⟨_, rfl⟩
     rw [← hU] at HK hS ⊢
     clear hU
     refine hdv0 0 35 (.slice (some ⟨gb, 0, none⟩) L cc) (by rfl) (hS) ?_
     refine hdv0 1 36 (.int .i64 (t : Int)) (by rfl) (hS) ?_
     refine hdv 2 37 (.int .i64 (s0 : Int)) (by rfl) (fun w hS => mul_iin (i := 3) (j := t) Hs0.out.1 Hs0.out.2 rfl (by kernel_rfl) (by kernel_rfl)) (hS) ?_
     refine hdv 3 38 (.pointer (some ⟨gb, s0, none⟩)) (by rfl) (fun w hS => idx_8 (k := s0) (L := L) (c := cc) HLS.out.1 rfl (by kernel_rfl) (by kernel_rfl)) (hS) ?_
     refine hdv 4 39 (.int .u8 (a0 : Int)) (by rfl) (fun w hS => load_u8x (n := a0) rfl hS.1 (by kernel_rfl)) (hS) ?_
     refine hdv 5 40 (.int .i64 (a0 : Int)) (by rfl) (fun w hS => conv_8i (n := a0) Ha0.out.2 rfl (by kernel_rfl)) (hS) ?_
     refine hdv0 6 41 (.slice (some ⟨gb, 0, none⟩) L cc) (by rfl) (hS) ?_
     refine hdv0 7 42 (.int .i64 (t : Int)) (by rfl) (hS) ?_
     refine hdv 8 43 (.int .i64 (s0 : Int)) (by rfl) (fun w hS => mul_iin (i := 3) (j := t) Hs0.out.1 Hs0.out.2 rfl (by kernel_rfl) (by kernel_rfl)) (hS) ?_
     refine hdv 9 44 (.int .i64 (s1 : Int)) (by rfl) (fun w hS => add_ii (i := s0) (j := 1) Hs1.out rfl (by kernel_rfl) (by kernel_rfl)) (hS) ?_
     refine hdv 10 45 (.pointer (some ⟨gb, s1, none⟩)) (by rfl) (fun w hS => idx_8 (k := s1) (L := L) (c := cc) HLS.out.2.1 rfl (by kernel_rfl) (by kernel_rfl)) (hS) ?_
     refine hdv 11 46 (.int .u8 (a1 : Int)) (by rfl) (fun w hS => load_u8x (n := a1) rfl hS.2.1 (by kernel_rfl)) (hS) ?_
     refine hdv 12 47 (.int .i64 (a1 : Int)) (by rfl) (fun w hS => conv_8i (n := a1) Ha1.out.2 rfl (by kernel_rfl)) (hS) ?_
     refine hdv0 13 48 (.slice (some ⟨gb, 0, none⟩) L cc) (by rfl) (hS) ?_
     refine hdv0 14 49 (.int .i64 (t : Int)) (by rfl) (hS) ?_
     refine hdv 15 50 (.int .i64 (s0 : Int)) (by rfl) (fun w hS => mul_iin (i := 3) (j := t) Hs0.out.1 Hs0.out.2 rfl (by kernel_rfl) (by kernel_rfl)) (hS) ?_
     refine hdv 16 51 (.int .i64 (s2 : Int)) (by rfl) (fun w hS => add_ii (i := s0) (j := 2) Hs2.out rfl (by kernel_rfl) (by kernel_rfl)) (hS) ?_
     refine hdv 17 52 (.pointer (some ⟨gb, s2, none⟩)) (by rfl) (fun w hS => idx_8 (k := s2) (L := L) (c := cc) HLS.out.2.2 rfl (by kernel_rfl) (by kernel_rfl)) (hS) ?_
     refine hdv 18 53 (.int .u8 (a2 : Int)) (by rfl) (fun w hS => load_u8x (n := a2) rfl hS.2.2 (by kernel_rfl)) (hS) ?_
     refine hdv 19 54 (.int .i64 (a2 : Int)) (by rfl) (fun w hS => conv_8i (n := a2) Ha2.out.2 rfl (by kernel_rfl)) (hS) ?_
     refine hdv0 20 8 (.int .i64 (a0 : Int)) (by rfl) (hS) ?_
     refine hdv0 21 9 (.int .i64 (a1 : Int)) (by rfl) (hS) ?_
     refine hdv0 22 10 (.int .i64 (a2 : Int)) (by rfl) (hS) ?_
     refine wpAnyH_done (by kernel_rfl) ?_ _
     clear hS
     go_wp2_with (first | refine wl_at 57 rfl (.int .i64 (m1 : Int)) rfl (rem_16i (n := a1) Hm1.out (by have := Ha1.out.2; omega) rfl rfl) ?_ | refine wl_at 58 rfl (.int .i64 (m2 : Int)) rfl (mul_iin (i := 256) (j := m1) Hm2.out (by have := HLM.out.2.1; omega) rfl rfl rfl) ?_ | refine wl_at 59 rfl (.int .i64 (x0 : Int)) rfl (add_ii (i := a0) (j := m2) ⟨Hx0.out, by have := HLM.out; omega⟩ rfl rfl rfl) ?_ | refine wl_at 61 rfl (.int .i64 (d1 : Int)) rfl (quo_16i (n := a1) Hd1.out (by have := Ha1.out.2; omega) rfl rfl) ?_ | refine wl_at 63 rfl (.int .i64 (d2 : Int)) rfl (mul_iin (i := 16) (j := a2) Hd2.out (by have := HLM.out; omega) rfl rfl rfl) ?_ | refine wl_at 64 rfl (.int .i64 (x1 : Int)) rfl (add_ii (i := d1) (j := d2) ⟨Hx1.out, by have := HLM.out; omega⟩ rfl rfl rfl) ?_)
     obtain ⟨W5, hW5⟩ : ∃ W, W = U.alloc (.cells #[.int .i64 (x0 : Int), .int .i64 (x1 : Int)] 3) := ⟨_, rfl⟩
     obtain ⟨q, hq⟩ : ∃ q, q = U.heap.size := ⟨_, rfl⟩
     have HM : Shh ((StA xs (2 * t) n f ∧ Row W5 N 25 (pc fun _ => 0) ∧ Row W5 G 25 (pc f) ∧ Below N w W5 ∧ N < G ∧ G < gb ∧ gb < W5.heap.size ∧ ∀ i, i < L → W5.cell? ⟨gb, i, none⟩ = some (.int .u8 (bb i : Int))) ∧ Row W5 q 3 [Value.int .i64 (x0 : Int), Value.int .i64 (x1 : Int)] ∧ G < q) := by
      obtain ⟨h1, h2, h3, h4, h5, h6, h7, h8⟩ := HK.out
      have b := bel1 U (.cells #[.int .i64 (x0 : Int), .int .i64 (x1 : Int)] 3)
      rw [hW5, hq]
      exact ⟨⟨⟨h1, h2.go b, h3.go b, h4.trans (b.mono (Nat.le_of_lt h2.lt)), h5, h6, Nat.lt_of_lt_of_le h7 b.size, fun i hi => (b.cell (p := ⟨gb, i, none⟩) h7).trans (h8 i hi)⟩, Row.new_ rfl rfl, h3.lt⟩⟩
     rw [← hW5, ← hq]
     clear hW5 hq HK
     have HT : Shh (∀ j, j < 2 → [Value.int .i64 (x0 : Int), Value.int .i64 (x1 : Int)][j]? = some (.int .i64 (xs (2 * t + j) : Int)) ∧ xs (2 * t + j) < 65536) := ⟨fun j hj => by
      have := HLM.out
      match j, hj with
      | 0, _ => exact ⟨by rw [show xs (2 * t + 0) = x0 from HE.out.1]; rfl, by rw [show xs (2 * t + 0) = x0 from HE.out.1]; omega⟩
      | 1, _ => exact ⟨by rw [HE.out.2]; rfl, by rw [HE.out.2]; omega⟩⟩
     clear HE HLM HLS Hx0 Hx1 Hm1 Hm2 Hd1 Hd2 Ha0 Ha1 Ha2 Hs0 Hs1 Hs2 Hs3
     go_loopg [6, 67] 2 (fun gj s6 s67 wq => ∃ (j n2 : Nat) (f2 : Nat → Nat), j + gj = 2 ∧ s67 = .int .i64 (j : Int) ∧ s6 = .int .i64 (n2 : Int) ∧ Shh ((StA xs (2 * t + j) n2 f2 ∧ Row wq N 25 (pc fun _ => 0) ∧ Row wq G 25 (pc f2) ∧ Below N w wq ∧ N < G ∧ G < gb ∧ gb < wq.heap.size ∧ ∀ i, i < L → wq.cell? ⟨gb, i, none⟩ = some (.int .u8 (bb i : Int))) ∧ Row wq q 3 [Value.int .i64 (x0 : Int), Value.int .i64 (x1 : Int)] ∧ G < q))
     case atStart => exact ⟨0, n, f, rfl, rfl, rfl, HM⟩
     case round =>
      clear HM
      obtain ⟨j, n2, f2, hjk, rfl, rfl, HM⟩ := hrel
      have hn9 := HM.out.1.1.le
      cases gk with
      | zero =>
       have hj : ¬ (j : Int) < 2 := by omega
       obtain rfl : j = 2 := by omega
       have HK2 : Shh (StA xs (2 * (t + 1)) n2 f2 ∧ Row wr N 25 (pc fun _ => 0) ∧ Row wr G 25 (pc f2) ∧ Below N w wr ∧ N < G ∧ G < gb ∧ gb < wr.heap.size ∧ ∀ i, i < L → wr.cell? ⟨gb, i, none⟩ = some (.int .u8 (bb i : Int))) := ⟨HM.out.1⟩
       clear HM HT
       go_wp2
       go_roundg g'
       case measure => omega
       case rel => exact ⟨t + 1, n2, gb, L, cc, f2, by omega, by go_num, rfl, rfl, hL, HK2⟩
      | succ h' =>
       have hj : (j : Int) < 2 := by omega
       have hj2 : j < 2 := by omega
       obtain ⟨ht1, ht2⟩ := HT.out j hj2
       have hcell := (HM.out.2.1.cell j).trans ht1
       have HS1 : Shh (xs (2 * t + j) < 3329 → n2 < 256 → StA xs (2 * t + (j + 1)) (n2 + 1) (upd f2 n2 (xs (2 * t + j)))) := ⟨fun h hn => HM.out.1.1.take h hn⟩
       have HS2 : Shh (¬ xs (2 * t + j) < 3329 → StA xs (2 * t + (j + 1)) n2 f2) := ⟨fun h => HM.out.1.1.skip h⟩
       have HS4 : Shh (n2 = 256 → StA xs (2 * t + (j + 1)) n2 f2) := ⟨fun h => by have h1 := HM.out.1.1; rw [h] at h1 ⊢; exact h1.stay⟩
       clear ht1 HT
       obtain ⟨x, hxe⟩ : ∃ x, x = xs (2 * t + j) := ⟨_, rfl⟩
       rw [← hxe] at hcell HS1 HS2 ht2
       clear hxe
       by_cases hx : x < 3329
       ·have hx2 : (x : Int) < 3329 := by omega
        by_cases hn3 : n2 < 256
        ·have hn4 : (n2 : Int) < 256 := by omega
         have HS3 := Shh.mk (HS1.out hx hn3)
         clear HS1 HS2 HS4
         go_wp2_with (first | refine wl_at 69 rfl (.pointer (some ⟨q, j, none⟩)) rfl (idx_i (k := j) (L := 2) (c := 2) hj2 rfl rfl rfl) ?_ | refine wl_at 70 rfl (.int .i64 (x : Int)) rfl (load_ir (n := x) rfl hcell rfl) ?_ | refine wl_at 79 rfl (.int .u16 (x : Int)) rfl (conv_iu16 ht2 rfl rfl) ?_ | refine wl_at 80 rfl (.pointer (some ⟨G, n2, none⟩)) rfl (at_poly hn3 rfl rfl rfl) ?_ | refine wl_storeP rfl hn3 rfl rfl rfl HM.out.1.2.2.1 ?_)
         intro w5 r5 b5 z5
         have HO : Shh ((StA xs (2 * t + (j + 1)) (n2 + 1) (upd f2 n2 x) ∧ Row w5 N 25 (pc fun _ => 0) ∧ Row w5 G 25 (pc (upd f2 n2 x)) ∧ Below N w w5 ∧ N < G ∧ G < gb ∧ gb < w5.heap.size ∧ ∀ i, i < L → w5.cell? ⟨gb, i, none⟩ = some (.int .u8 (bb i : Int))) ∧ Row w5 q 3 [Value.int .i64 (x0 : Int), Value.int .i64 (x1 : Int)] ∧ G < q) := by
          obtain ⟨⟨h1, h2, h3, h4, h5, h6, h7, h8⟩, h9, h10⟩ := HM.out
          exact ⟨⟨⟨HS3.out, b5.row h2 h2.lt (by omega), r5, h4.trans (b5.under (Nat.le_of_lt h2.lt) (Nat.le_of_lt h5)), h5, h6, Nat.lt_of_lt_of_le h7 b5.size, fun i hi => (b5.cell (p := ⟨gb, i, none⟩) h7 (show gb ≠ G by omega)).trans (h8 i hi)⟩, b5.row h9 h9.lt (by omega), h10⟩⟩
         clear r5 b5 z5 HM HS3 hcell
         go_wp2
         go_roundg h'
         case measure => omega
         case rel => exact ⟨j + 1, n2 + 1, _, by omega, by go_num, by go_num, HO⟩
        ·have hn4 : ¬ (n2 : Int) < 256 := by omega
         have HO : Shh ((StA xs (2 * t + (j + 1)) n2 f2 ∧ Row wr N 25 (pc fun _ => 0) ∧ Row wr G 25 (pc f2) ∧ Below N w wr ∧ N < G ∧ G < gb ∧ gb < wr.heap.size ∧ ∀ i, i < L → wr.cell? ⟨gb, i, none⟩ = some (.int .u8 (bb i : Int))) ∧ Row wr q 3 [Value.int .i64 (x0 : Int), Value.int .i64 (x1 : Int)] ∧ G < q) := ⟨⟨⟨HS4.out (by omega), HM.out.1.2⟩, HM.out.2⟩⟩
         clear HS1 HS2 HS4
         go_wp2_with (first | refine wl_at 69 rfl (.pointer (some ⟨q, j, none⟩)) rfl (idx_i (k := j) (L := 2) (c := 2) hj2 rfl rfl rfl) ?_ | refine wl_at 70 rfl (.int .i64 (x : Int)) rfl (load_ir (n := x) rfl hcell rfl) ?_)
         go_roundg h'
         case measure => omega
         case rel => exact ⟨j + 1, n2, f2, by omega, by go_num, rfl, HO⟩
       ·have hx2 : ¬ (x : Int) < 3329 := by omega
        have HO : Shh ((StA xs (2 * t + (j + 1)) n2 f2 ∧ Row wr N 25 (pc fun _ => 0) ∧ Row wr G 25 (pc f2) ∧ Below N w wr ∧ N < G ∧ G < gb ∧ gb < wr.heap.size ∧ ∀ i, i < L → wr.cell? ⟨gb, i, none⟩ = some (.int .u8 (bb i : Int))) ∧ Row wr q 3 [Value.int .i64 (x0 : Int), Value.int .i64 (x1 : Int)] ∧ G < q) := ⟨⟨⟨HS2.out hx, HM.out.1.2⟩, HM.out.2⟩⟩
        clear HS1 HS2 HS4
        go_wp2_with (first | refine wl_at 69 rfl (.pointer (some ⟨q, j, none⟩)) rfl (idx_i (k := j) (L := 2) (c := 2) hj2 rfl rfl rfl) ?_ | refine wl_at 70 rfl (.int .i64 (x : Int)) rfl (load_ir (n := x) rfl hcell rfl) ?_)
        go_roundg h'
        case measure => omega
        case rel => exact ⟨j + 1, n2, f2, by omega, by go_num, rfl, HO⟩
    ·have hgt2 : (L : Int) < (s3 : Int) := by omega
     have C2 : Shh (Calls Tryd.prog 10 #[.int .i64 128, .int .i64 3072, .slice A ln c] wr (GotIs wr bb 3072)) := ⟨HC.out 3072 (by decide) (by decide) wr HI.out.2.2.2.1 (Nat.le_of_lt HI.out.2.1.lt)⟩
     go_wp2_with (first | refine wl_at 28 rfl (.int .i64 (s0 : Int)) rfl (mul_iin (i := 3) (j := t) Hs0.out.1 Hs0.out.2 rfl rfl rfl) ?_ | refine wl_at 29 rfl (.int .i64 (s3 : Int)) rfl (add_ii (i := s0) (j := 3) Hs3.out rfl rfl rfl) ?_ | (go_at_call 10; refine (C2.out).mono ?_))
     rintro e w4 ⟨gb2, cc2, rfl, hq1, hq2, hq3, b4⟩
     have HI2 : Shh (StA xs (2 * t) n f ∧ Row w4 N 25 (pc fun _ => 0) ∧ Row w4 G 25 (pc f) ∧ Below N w w4 ∧ N < G ∧ G < gb2 ∧ gb2 < w4.heap.size ∧ ∀ i, i < 3072 → w4.cell? ⟨gb2, i, none⟩ = some (.int .u8 (bb i : Int))) := by
      obtain ⟨h1, h2, h3, h4, h5, h6, h7, h8⟩ := HI.out
      exact ⟨⟨h1, h2.go b4, h3.go b4, h4.trans (b4.mono (Nat.le_of_lt h2.lt)), h5, Nat.lt_of_lt_of_le h3.lt hq1, hq2, hq3⟩⟩
     have hgt3 : s3 ≤ 3072 := by have := Hs0.out; have := Hs3.out; omega
     clear hq1 hq2 hq3 b4 HI C2 hgt hgt2 hL
     have HI := HI2
     clear HI2
     go_wp2
     obtain ⟨s1, Hs1⟩ : ∃ s, Shh (s = s0 + 1 ∧ s ≤ 1000000000000) := ⟨_, ⟨rfl, by have := Hs0.out; omega⟩⟩
     obtain ⟨s2, Hs2⟩ : ∃ s, Shh (s = s0 + 2 ∧ s ≤ 1000000000000) := ⟨_, ⟨rfl, by have := Hs0.out; omega⟩⟩
     have HLS : Shh (s0 < 3072 ∧ s1 < 3072 ∧ s2 < 3072) := ⟨by have := Hs3.out; have := Hs1.out; have := Hs2.out; omega⟩
     obtain ⟨a0, Ha0⟩ : ∃ b, Shh (b = bb s0 ∧ b < 256) := ⟨_, ⟨rfl, HB8.out _⟩⟩
     obtain ⟨a1, Ha1⟩ : ∃ b, Shh (b = bb s1 ∧ b < 256) := ⟨_, ⟨rfl, HB8.out _⟩⟩
     obtain ⟨a2, Ha2⟩ : ∃ b, Shh (b = bb s2 ∧ b < 256) := ⟨_, ⟨rfl, HB8.out _⟩⟩
     obtain ⟨m1, Hm1⟩ : ∃ b, Shh (b = a1 % 16) := ⟨_, ⟨rfl⟩⟩
     obtain ⟨m2, Hm2⟩ : ∃ b, Shh (b = 256 * m1) := ⟨_, ⟨rfl⟩⟩
     obtain ⟨d1, Hd1⟩ : ∃ b, Shh (b = a1 / 16) := ⟨_, ⟨rfl⟩⟩
     obtain ⟨d2, Hd2⟩ : ∃ b, Shh (b = 16 * a2) := ⟨_, ⟨rfl⟩⟩
     obtain ⟨x0, Hx0⟩ : ∃ b, Shh (b = a0 + m2) := ⟨_, ⟨rfl⟩⟩
     obtain ⟨x1, Hx1⟩ : ∃ b, Shh (b = d1 + d2) := ⟨_, ⟨rfl⟩⟩
     have HLM : Shh (m1 < 16 ∧ m2 < 65536 ∧ d1 < 16 ∧ d2 < 65536 ∧ x0 < 65536 ∧ x1 < 65536) := ⟨by
      have := Ha0.out.2; have := Ha1.out.2; have := Ha2.out.2; have := Hm1.out; have := Hm2.out; have := Hd1.out; have := Hd2.out; have := Hx0.out; have := Hx1.out
      omega⟩
     have HE : Shh (xs (2 * t) = x0 ∧ xs (2 * t + 1) = x1) := ⟨by
      have h := HX.out t
      rw [← Hs0.out.1, ← Hs1.out.1, ← Hs2.out.1, ← Ha0.out.1, ← Ha1.out.1, ← Ha2.out.1] at h
      rw [h.1, h.2, Hx0.out, Hx1.out, Hm2.out, Hm1.out, Hd1.out, Hd2.out]
      exact ⟨rfl, rfl⟩⟩
     have HC0 : Shh (w4.cell? ⟨gb2, s0, none⟩ = some (.int .u8 (a0 : Int)) ∧ w4.cell? ⟨gb2, s1, none⟩ = some (.int .u8 (a1 : Int)) ∧ w4.cell? ⟨gb2, s2, none⟩ = some (.int .u8 (a2 : Int))) := ⟨by
      rw [Ha0.out.1, Ha1.out.1, Ha2.out.1]
      have h := HI.out.2.2.2.2.2.2.2
      exact ⟨h _ HLS.out.1, h _ HLS.out.2.1, h _ HLS.out.2.2⟩⟩
     have HK : Shh (StA xs (2 * t) n f ∧ Row w4.drew N 25 (pc fun _ => 0) ∧ Row w4.drew G 25 (pc f) ∧ Below N w w4.drew ∧ N < G ∧ G < gb2 ∧ gb2 < w4.drew.heap.size ∧ ∀ i, i < 3072 → w4.drew.cell? ⟨gb2, i, none⟩ = some (.int .u8 (bb i : Int))) := by
      obtain ⟨h1, h2, h3, h4, h5, h6, h7, h8⟩ := HI.out
      exact ⟨⟨h1, h2.drew, h3.drew, h4.drew, h5, h6, h7, h8⟩⟩
     clear HI
     refine wp_region_held_drew (S := fun W => W.cell? ⟨gb2, s0, none⟩ = some (.int .u8 (a0 : Int)) ∧ W.cell? ⟨gb2, s1, none⟩ = some (.int .u8 (a1 : Int)) ∧ W.cell? ⟨gb2, s2, none⟩ = some (.int .u8 (a2 : Int))) (by kernel_rfl) HC0.out (fun hS => ?_)
     clear HC0
     obtain ⟨U, hU⟩ : ∃ V, V = World.drew w4 := ⟨_, rfl⟩
     rw [← hU] at HK hS ⊢
     clear hU
     refine hdv0 0 35 (.slice (some ⟨gb2, 0, none⟩) 3072 cc2) (by rfl) (hS) ?_
     refine hdv0 1 36 (.int .i64 (t : Int)) (by rfl) (hS) ?_
     refine hdv 2 37 (.int .i64 (s0 : Int)) (by rfl) (fun w hS => mul_iin (i := 3) (j := t) Hs0.out.1 Hs0.out.2 rfl (by kernel_rfl) (by kernel_rfl)) (hS) ?_
     refine hdv 3 38 (.pointer (some ⟨gb2, s0, none⟩)) (by rfl) (fun w hS => idx_8 (k := s0) (L := 3072) (c := cc2) HLS.out.1 rfl (by kernel_rfl) (by kernel_rfl)) (hS) ?_
     refine hdv 4 39 (.int .u8 (a0 : Int)) (by rfl) (fun w hS => load_u8x (n := a0) rfl hS.1 (by kernel_rfl)) (hS) ?_
     refine hdv 5 40 (.int .i64 (a0 : Int)) (by rfl) (fun w hS => conv_8i (n := a0) Ha0.out.2 rfl (by kernel_rfl)) (hS) ?_
     refine hdv0 6 41 (.slice (some ⟨gb2, 0, none⟩) 3072 cc2) (by rfl) (hS) ?_
     refine hdv0 7 42 (.int .i64 (t : Int)) (by rfl) (hS) ?_
     refine hdv 8 43 (.int .i64 (s0 : Int)) (by rfl) (fun w hS => mul_iin (i := 3) (j := t) Hs0.out.1 Hs0.out.2 rfl (by kernel_rfl) (by kernel_rfl)) (hS) ?_
     refine hdv 9 44 (.int .i64 (s1 : Int)) (by rfl) (fun w hS => add_ii (i := s0) (j := 1) Hs1.out rfl (by kernel_rfl) (by kernel_rfl)) (hS) ?_
     refine hdv 10 45 (.pointer (some ⟨gb2, s1, none⟩)) (by rfl) (fun w hS => idx_8 (k := s1) (L := 3072) (c := cc2) HLS.out.2.1 rfl (by kernel_rfl) (by kernel_rfl)) (hS) ?_
     refine hdv 11 46 (.int .u8 (a1 : Int)) (by rfl) (fun w hS => load_u8x (n := a1) rfl hS.2.1 (by kernel_rfl)) (hS) ?_
     refine hdv 12 47 (.int .i64 (a1 : Int)) (by rfl) (fun w hS => conv_8i (n := a1) Ha1.out.2 rfl (by kernel_rfl)) (hS) ?_
     refine hdv0 13 48 (.slice (some ⟨gb2, 0, none⟩) 3072 cc2) (by rfl) (hS) ?_
     refine hdv0 14 49 (.int .i64 (t : Int)) (by rfl) (hS) ?_
     refine hdv 15 50 (.int .i64 (s0 : Int)) (by rfl) (fun w hS => mul_iin (i := 3) (j := t) Hs0.out.1 Hs0.out.2 rfl (by kernel_rfl) (by kernel_rfl)) (hS) ?_
     refine hdv 16 51 (.int .i64 (s2 : Int)) (by rfl) (fun w hS => add_ii (i := s0) (j := 2) Hs2.out rfl (by kernel_rfl) (by kernel_rfl)) (hS) ?_
     refine hdv 17 52 (.pointer (some ⟨gb2, s2, none⟩)) (by rfl) (fun w hS => idx_8 (k := s2) (L := 3072) (c := cc2) HLS.out.2.2 rfl (by kernel_rfl) (by kernel_rfl)) (hS) ?_
     refine hdv 18 53 (.int .u8 (a2 : Int)) (by rfl) (fun w hS => load_u8x (n := a2) rfl hS.2.2 (by kernel_rfl)) (hS) ?_
     refine hdv 19 54 (.int .i64 (a2 : Int)) (by rfl) (fun w hS => conv_8i (n := a2) Ha2.out.2 rfl (by kernel_rfl)) (hS) ?_
     refine hdv0 20 8 (.int .i64 (a0 : Int)) (by rfl) (hS) ?_
     refine hdv0 21 9 (.int .i64 (a1 : Int)) (by rfl) (hS) ?_
     refine hdv0 22 10 (.int .i64 (a2 : Int)) (by rfl) (hS) ?_
     refine wpAnyH_done (by kernel_rfl) ?_ _
     clear hS
     go_wp2_with (first | refine wl_at 57 rfl (.int .i64 (m1 : Int)) rfl (rem_16i (n := a1) Hm1.out (by have := Ha1.out.2; omega) rfl rfl) ?_ | refine wl_at 58 rfl (.int .i64 (m2 : Int)) rfl (mul_iin (i := 256) (j := m1) Hm2.out (by have := HLM.out.2.1; omega) rfl rfl rfl) ?_ | refine wl_at 59 rfl (.int .i64 (x0 : Int)) rfl (add_ii (i := a0) (j := m2) ⟨Hx0.out, by have := HLM.out; omega⟩ rfl rfl rfl) ?_ | refine wl_at 61 rfl (.int .i64 (d1 : Int)) rfl (quo_16i (n := a1) Hd1.out (by have := Ha1.out.2; omega) rfl rfl) ?_ | refine wl_at 63 rfl (.int .i64 (d2 : Int)) rfl (mul_iin (i := 16) (j := a2) Hd2.out (by have := HLM.out; omega) rfl rfl rfl) ?_ | refine wl_at 64 rfl (.int .i64 (x1 : Int)) rfl (add_ii (i := d1) (j := d2) ⟨Hx1.out, by have := HLM.out; omega⟩ rfl rfl rfl) ?_)
     obtain ⟨W5, hW5⟩ : ∃ W, W = U.alloc (.cells #[.int .i64 (x0 : Int), .int .i64 (x1 : Int)] 3) := ⟨_, rfl⟩
     obtain ⟨q, hq⟩ : ∃ q, q = U.heap.size := ⟨_, rfl⟩
     have HM : Shh ((StA xs (2 * t) n f ∧ Row W5 N 25 (pc fun _ => 0) ∧ Row W5 G 25 (pc f) ∧ Below N w W5 ∧ N < G ∧ G < gb2 ∧ gb2 < W5.heap.size ∧ ∀ i, i < 3072 → W5.cell? ⟨gb2, i, none⟩ = some (.int .u8 (bb i : Int))) ∧ Row W5 q 3 [Value.int .i64 (x0 : Int), Value.int .i64 (x1 : Int)] ∧ G < q) := by
      obtain ⟨h1, h2, h3, h4, h5, h6, h7, h8⟩ := HK.out
      have b := bel1 U (.cells #[.int .i64 (x0 : Int), .int .i64 (x1 : Int)] 3)
      rw [hW5, hq]
      exact ⟨⟨⟨h1, h2.go b, h3.go b, h4.trans (b.mono (Nat.le_of_lt h2.lt)), h5, h6, Nat.lt_of_lt_of_le h7 b.size, fun i hi => (b.cell (p := ⟨gb2, i, none⟩) h7).trans (h8 i hi)⟩, Row.new_ rfl rfl, h3.lt⟩⟩
     rw [← hW5, ← hq]
     clear hW5 hq HK
     have HT : Shh (∀ j, j < 2 → [Value.int .i64 (x0 : Int), Value.int .i64 (x1 : Int)][j]? = some (.int .i64 (xs (2 * t + j) : Int)) ∧ xs (2 * t + j) < 65536) := ⟨fun j hj => by
      have := HLM.out
      match j, hj with
      | 0, _ => exact ⟨by rw [show xs (2 * t + 0) = x0 from HE.out.1]; rfl, by rw [show xs (2 * t + 0) = x0 from HE.out.1]; omega⟩
      | 1, _ => exact ⟨by rw [HE.out.2]; rfl, by rw [HE.out.2]; omega⟩⟩
     clear HE HLM HLS Hx0 Hx1 Hm1 Hm2 Hd1 Hd2 Ha0 Ha1 Ha2 Hs0 Hs1 Hs2 Hs3
     go_loopg [6, 67] 2 (fun gj s6 s67 wq => ∃ (j n2 : Nat) (f2 : Nat → Nat), j + gj = 2 ∧ s67 = .int .i64 (j : Int) ∧ s6 = .int .i64 (n2 : Int) ∧ Shh ((StA xs (2 * t + j) n2 f2 ∧ Row wq N 25 (pc fun _ => 0) ∧ Row wq G 25 (pc f2) ∧ Below N w wq ∧ N < G ∧ G < gb2 ∧ gb2 < wq.heap.size ∧ ∀ i, i < 3072 → wq.cell? ⟨gb2, i, none⟩ = some (.int .u8 (bb i : Int))) ∧ Row wq q 3 [Value.int .i64 (x0 : Int), Value.int .i64 (x1 : Int)] ∧ G < q))
     case atStart => exact ⟨0, n, f, rfl, rfl, rfl, HM⟩
     case round =>
      clear HM
      obtain ⟨j, n2, f2, hjk, rfl, rfl, HM⟩ := hrel
      have hn9 := HM.out.1.1.le
      cases gk with
      | zero =>
       have hj : ¬ (j : Int) < 2 := by omega
       obtain rfl : j = 2 := by omega
       have HK2 : Shh (StA xs (2 * (t + 1)) n2 f2 ∧ Row wr N 25 (pc fun _ => 0) ∧ Row wr G 25 (pc f2) ∧ Below N w wr ∧ N < G ∧ G < gb2 ∧ gb2 < wr.heap.size ∧ ∀ i, i < 3072 → wr.cell? ⟨gb2, i, none⟩ = some (.int .u8 (bb i : Int))) := ⟨HM.out.1⟩
       clear HM HT
       go_wp2
       go_roundg g'
       case measure => omega
       case rel => exact ⟨t + 1, n2, gb2, 3072, cc2, f2, by omega, by go_num, rfl, rfl, by decide, HK2⟩
      | succ h' =>
       have hj : (j : Int) < 2 := by omega
       have hj2 : j < 2 := by omega
       obtain ⟨ht1, ht2⟩ := HT.out j hj2
       have hcell := (HM.out.2.1.cell j).trans ht1
       have HS1 : Shh (xs (2 * t + j) < 3329 → n2 < 256 → StA xs (2 * t + (j + 1)) (n2 + 1) (upd f2 n2 (xs (2 * t + j)))) := ⟨fun h hn => HM.out.1.1.take h hn⟩
       have HS2 : Shh (¬ xs (2 * t + j) < 3329 → StA xs (2 * t + (j + 1)) n2 f2) := ⟨fun h => HM.out.1.1.skip h⟩
       have HS4 : Shh (n2 = 256 → StA xs (2 * t + (j + 1)) n2 f2) := ⟨fun h => by have h1 := HM.out.1.1; rw [h] at h1 ⊢; exact h1.stay⟩
       clear ht1 HT
       obtain ⟨x, hxe⟩ : ∃ x, x = xs (2 * t + j) := ⟨_, rfl⟩
       rw [← hxe] at hcell HS1 HS2 ht2
       clear hxe
       by_cases hx : x < 3329
       ·have hx2 : (x : Int) < 3329 := by omega
        by_cases hn3 : n2 < 256
        ·have hn4 : (n2 : Int) < 256 := by omega
         have HS3 := Shh.mk (HS1.out hx hn3)
         clear HS1 HS2 HS4
         go_wp2_with (first | refine wl_at 69 rfl (.pointer (some ⟨q, j, none⟩)) rfl (idx_i (k := j) (L := 2) (c := 2) hj2 rfl rfl rfl) ?_ | refine wl_at 70 rfl (.int .i64 (x : Int)) rfl (load_ir (n := x) rfl hcell rfl) ?_ | refine wl_at 79 rfl (.int .u16 (x : Int)) rfl (conv_iu16 ht2 rfl rfl) ?_ | refine wl_at 80 rfl (.pointer (some ⟨G, n2, none⟩)) rfl (at_poly hn3 rfl rfl rfl) ?_ | refine wl_storeP rfl hn3 rfl rfl rfl HM.out.1.2.2.1 ?_)
         intro w5 r5 b5 z5
         have HO : Shh ((StA xs (2 * t + (j + 1)) (n2 + 1) (upd f2 n2 x) ∧ Row w5 N 25 (pc fun _ => 0) ∧ Row w5 G 25 (pc (upd f2 n2 x)) ∧ Below N w w5 ∧ N < G ∧ G < gb2 ∧ gb2 < w5.heap.size ∧ ∀ i, i < 3072 → w5.cell? ⟨gb2, i, none⟩ = some (.int .u8 (bb i : Int))) ∧ Row w5 q 3 [Value.int .i64 (x0 : Int), Value.int .i64 (x1 : Int)] ∧ G < q) := by
          obtain ⟨⟨h1, h2, h3, h4, h5, h6, h7, h8⟩, h9, h10⟩ := HM.out
          exact ⟨⟨⟨HS3.out, b5.row h2 h2.lt (by omega), r5, h4.trans (b5.under (Nat.le_of_lt h2.lt) (Nat.le_of_lt h5)), h5, h6, Nat.lt_of_lt_of_le h7 b5.size, fun i hi => (b5.cell (p := ⟨gb2, i, none⟩) h7 (show gb2 ≠ G by omega)).trans (h8 i hi)⟩, b5.row h9 h9.lt (by omega), h10⟩⟩
         clear r5 b5 z5 HM HS3 hcell
         go_wp2
         go_roundg h'
         case measure => omega
         case rel => exact ⟨j + 1, n2 + 1, _, by omega, by go_num, by go_num, HO⟩
        ·have hn4 : ¬ (n2 : Int) < 256 := by omega
         have HO : Shh ((StA xs (2 * t + (j + 1)) n2 f2 ∧ Row wr N 25 (pc fun _ => 0) ∧ Row wr G 25 (pc f2) ∧ Below N w wr ∧ N < G ∧ G < gb2 ∧ gb2 < wr.heap.size ∧ ∀ i, i < 3072 → wr.cell? ⟨gb2, i, none⟩ = some (.int .u8 (bb i : Int))) ∧ Row wr q 3 [Value.int .i64 (x0 : Int), Value.int .i64 (x1 : Int)] ∧ G < q) := ⟨⟨⟨HS4.out (by omega), HM.out.1.2⟩, HM.out.2⟩⟩
         clear HS1 HS2 HS4
         go_wp2_with (first | refine wl_at 69 rfl (.pointer (some ⟨q, j, none⟩)) rfl (idx_i (k := j) (L := 2) (c := 2) hj2 rfl rfl rfl) ?_ | refine wl_at 70 rfl (.int .i64 (x : Int)) rfl (load_ir (n := x) rfl hcell rfl) ?_)
         go_roundg h'
         case measure => omega
         case rel => exact ⟨j + 1, n2, f2, by omega, by go_num, rfl, HO⟩
       ·have hx2 : ¬ (x : Int) < 3329 := by omega
        have HO : Shh ((StA xs (2 * t + (j + 1)) n2 f2 ∧ Row wr N 25 (pc fun _ => 0) ∧ Row wr G 25 (pc f2) ∧ Below N w wr ∧ N < G ∧ G < gb2 ∧ gb2 < wr.heap.size ∧ ∀ i, i < 3072 → wr.cell? ⟨gb2, i, none⟩ = some (.int .u8 (bb i : Int))) ∧ Row wr q 3 [Value.int .i64 (x0 : Int), Value.int .i64 (x1 : Int)] ∧ G < q) := ⟨⟨⟨HS2.out hx, HM.out.1.2⟩, HM.out.2⟩⟩
        clear HS1 HS2 HS4
        go_wp2_with (first | refine wl_at 69 rfl (.pointer (some ⟨q, j, none⟩)) rfl (idx_i (k := j) (L := 2) (c := 2) hj2 rfl rfl rfl) ?_ | refine wl_at 70 rfl (.int .i64 (x : Int)) rfl (load_ir (n := x) rfl hcell rfl) ?_)
        go_roundg h'
        case measure => omega
        case rel => exact ⟨j + 1, n2, f2, by omega, by go_num, rfl, HO⟩
  ·have hn2 : ¬ (n : Int) < 256 := by omega
   obtain rfl : n = 256 := by omega
   obtain ⟨rfl, rfl⟩ := HF.out.2 _ _ (show 2 * t ≤ 2048 by omega) HI.out.1
   clear HF HX HC HB8
   by_cases ht : (t : Int) < 1024
   ·go_wp2_with (first
     | refine wpList_load_any rfl 25 (.tmp 4) rfl G rfl 25 (pc FF) (.array 256 23) HI.out.2.2.1 Tryd.underlying25 rfl (info_poly.trans (size_poly _)) ?_
     | refine wpList_store_any rfl 25 (.tmp 2) (.tmp 87) rfl N rfl (pc FF) rfl 25 _ HI.out.2.1 (info_poly.trans (size_poly _)) (by rw [pc_length, pc_length]) (pc_one _) ?_)
    intro w9 hr9 b9 _
    have hb9 : Below N w w9 := HI.out.2.2.2.1.trans (b9.under (Nat.le_of_lt HI.out.2.1.lt) (Nat.le_refl _))
    go_wp2
    exact ret_rs7 Tryd.results5 rfl rfl rfl hr9 Tryd.underlying25 rfl (info_poly.trans (size_poly _)) ⟨rfl, hb9⟩
   ·go_wp2_with (first
     | refine wpList_load_any rfl 25 (.tmp 4) rfl G rfl 25 (pc FF) (.array 256 23) HI.out.2.2.1 Tryd.underlying25 rfl (info_poly.trans (size_poly _)) ?_
     | refine wpList_store_any rfl 25 (.tmp 2) (.tmp 87) rfl N rfl (pc FF) rfl 25 _ HI.out.2.1 (info_poly.trans (size_poly _)) (by rw [pc_length, pc_length]) (pc_one _) ?_)
    intro w9 hr9 b9 _
    have hb9 : Below N w w9 := HI.out.2.2.2.1.trans (b9.under (Nat.le_of_lt HI.out.2.1.lt) (Nat.le_refl _))
    go_wp2
    exact ret_rs7 Tryd.results5 rfl rfl rfl hr9 Tryd.underlying25 rfl (info_poly.trans (size_poly _)) ⟨rfl, hb9⟩
set_option maxHeartbeats 1000000 in
theorem refSampleNtt_bad (B : Nat) (v : Value) (m : List UInt8) (hl : ¬ m.length = 34) (w : World) (hs : Sl w B v m) : Calls Tryd.prog 5 #[v] w (CodeIs w (fun _ => 0) 1) := by
 unfold CodeIs polyV
 obtain ⟨A, c, rfl, _, _⟩ := hs.form
 have h3 : ¬ (m.length : Int) = 34 := by omega
 generalize hN : w.heap.size = N at *
 clear hs hl
 generalize m.length = ln at *
 have HL1 : Shh (Row (w.alloc (.cells (pc fun _ => 0).toArray 25)) N 25 (pc fun _ => 0) ∧ Below N w (w.alloc (.cells (pc fun _ => 0).toArray 25))) := by
  refine ⟨Row.new_ hN.symm rfl, ?_⟩
  rw [← hN]
  exact bel1 _ _
 go_enter Tryd.func5, Tryd.ntmps5
 go_wp2_with (first | refine wl_allocP rfl rfl ?_ | refine wl_at 16 rfl (.agg (pc fun _ => 0).toArray) rfl (build_poly rfl) ?_ | refine wpList_store_any rfl 25 (.tmp 2) (.tmp 16) rfl N rfl (pc fun _ => 0) rfl 25 _ HL1.out.1 (info_poly.trans (size_poly _)) rfl (pc_one _) ?_)
 intro w9 hr9 b9 _
 have hb9 := HL1.out.2.trans (b9.under (by omega) (by omega))
 go_wp2
 exact ret_rs7 Tryd.results5 rfl rfl rfl hr9 Tryd.underlying25 rfl (info_poly.trans (size_poly _)) ⟨rfl, hb9⟩
end Go.Proofs.YtfcgdjgfdbcddaaDoor
