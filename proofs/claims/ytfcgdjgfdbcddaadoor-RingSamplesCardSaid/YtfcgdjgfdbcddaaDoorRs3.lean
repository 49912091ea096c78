/-
 THE PROGRAM'S OWN sampled.
-/
import Derived.Test.YtfcgdjgfdbcddaaDoorRs2
namespace Go.Proofs.YtfcgdjgfdbcddaaDoor
open Go.RowKit
set_option maxRecDepth 100000
set_option maxHeartbeats 4000000 in
theorem sampled_any (g : Nat) (S : Sp) (w : World) (hx : XofAt w g S 168 0) (hv : KVars w) (hg : 0 ≠ g) (ha : S.at_ ≤ 168) (hgl : g < w.heap.size) (xs : Nat → Nat) (hxs : xs = grp (nb (S.outs 168 3072))) : Calls Tryd.prog 7 #[.func (.func 9) #[.pointer (some ⟨g, 0, none⟩)] #[]] w (SampIs w g xs) := by
 unfold SampIs polyV
 generalize hN : w.heap.size = N at *
 have HX : Shh (∀ t, t < 1024 → xs (2 * t) = nb ((S.behind 168 (3 * t)).outs 168 3) 0 + 256 * (nb ((S.behind 168 (3 * t)).outs 168 3) 1 % 16) ∧ xs (2 * t + 1) = nb ((S.behind 168 (3 * t)).outs 168 3) 1 / 16 + 16 * nb ((S.behind 168 (3 * t)).outs 168 3) 2) := ⟨fun t ht => by
  rw [group_bytes 168 S 3072 t 0 (by omega) (by decide), group_bytes 168 S 3072 t 1 (by omega) (by decide), group_bytes 168 S 3072 t 2 (by omega) (by decide), hxs, grp_one, grp_two]
  exact ⟨rfl, rfl⟩⟩
 have HA : Shh (∀ t, (S.behind 168 (3 * t)).at_ ≤ 168 ∧ (S.behind 168 (3 * t)).behind 168 3 = S.behind 168 (3 * (t + 1)) ∧ ((S.behind 168 (3 * t)).outs 168 3).length = 3) := ⟨fun t => ⟨Sp.behind_at 168 (by decide) _ S ha, by rw [← behind_add13]; rfl, Sp.outs_length _ _ _⟩⟩
 have HG0 : Shh (0 ≠ g) := ⟨hg⟩
 have HI0 : Shh (XofAt w g S 168 0 ∧ KVars w ∧ g < N ∧ StA xs 0 0 (fun _ => 0) ∧ w.heap.size = N) := ⟨hx, hv, hgl, StA.start xs, hN⟩
 clear hx hv hg ha hgl hxs hN
 obtain ⟨FF, hFF⟩ : ∃ F, F = smpF xs := ⟨_, rfl⟩
 obtain ⟨ee, hee⟩ : ∃ F, F = smpE xs := ⟨_, rfl⟩
 have HF : Shh ((∀ n f, StA xs 2048 n f → n < 256 → ee = 130 ∧ FF = fun _ => 0) ∧ ∀ k f, k ≤ 2048 → StA xs k 256 f → ee = 0 ∧ FF = f) := ⟨by
  rw [hFF, hee]
  exact ⟨fun n f h hn => h.short hn, fun k f hk h => (h.full hk).whole⟩⟩
 rw [← hFF, ← hee]
 clear hFF hee
 go_enter Tryd.func7, Tryd.ntmps7
 go_wp2_with (refine wl_allocS 2 rfl rfl rfl ?_)
 intro N1 w2 hN1 r2 b2
 simp only [Act.put, arr9, hd9, tl9]
 obtain rfl : N = N1 := HI0.out.2.2.2.2.symm.trans hN1.out.symm
 have HI1 : Shh (XofAt w2 g S 168 0 ∧ KVars w2 ∧ g < N ∧ StA xs 0 0 (fun _ => 0) ∧ Row w2 N 25 (pc fun _ => 0) ∧ Below N w w2) := by
  obtain ⟨h1, h2, h3, h4, h5⟩ := HI0.out
  rw [h5] at b2
  exact ⟨⟨SpAt.below h1 (h5.symm ▸ b2), h2.step (h5.symm ▸ b2), h3, h4, r2, b2⟩⟩
 clear r2 b2 hN1 HI0
 go_wp2
 go_step3
 go_wp2_with (refine wl_allocS 4 rfl rfl rfl ?_)
 intro G w3 hG r3 b3
 simp only [Act.put, arr9, hd9, tl9]
 have HJ : Shh (StA xs (2 * 0) 0 (fun _ => 0) ∧ Row w3 N 25 (pc fun _ => 0) ∧ Row w3 G 25 (pc (fun _ => 0)) ∧ XofAt w3 g (S.behind 168 (3 * 0)) 168 (3 * 0) ∧ KVars w3 ∧ But N g w w3 ∧ g < N ∧ N < G) := by
  obtain ⟨h1, h2, h3, h4, h5, h6⟩ := HI1.out
  exact ⟨⟨h4, h5.go b3, r3, SpAt.below h1 b3, h2.step b3, But.of (h6.trans (b3.mono (Nat.le_of_lt h5.lt))) g, h3, by rw [hG.out]; exact h5.lt⟩⟩
 clear r3 b3 HI1 hG
 go_wp2
 go_step3
 go_wp2
 go_loopg [5, 13] 1024 (fun gk s5 s13 wr => ∃ (t n : Nat) (f : Nat → Nat), t + gk = 1024 ∧ s13 = .int .i64 (t : Int) ∧ s5 = .int .i64 (n : Int) ∧ n < 256 ∧ Shh (StA xs (2 * t) n f ∧ Row wr N 25 (pc fun _ => 0) ∧ Row wr G 25 (pc f) ∧ XofAt wr g (S.behind 168 (3 * t)) 168 (3 * t) ∧ KVars wr ∧ But N g w wr ∧ g < N ∧ N < G))
 case atStart => exact ⟨0, 0, fun _ => 0, rfl, rfl, rfl, by decide, HJ⟩
 case round =>
  clear HJ
  obtain ⟨t, n, f, htk, rfl, rfl, hn, HI⟩ := hrel
  cases gk with
  | zero =>
   have ht : ¬ (t : Int) < 1024 := by omega
   have hn2 : (n : Int) < 256 := by omega
   have h1 := HI.out.1
   rw [show 2 * t = 2048 by omega] at h1
   obtain ⟨rfl, rfl⟩ := HF.out.1 n f h1 hn
   clear h1 HF HX HA
   go_wp2_with (first | refine wl_at 63 rfl (.agg (pc fun _ => 0).toArray) rfl (build_poly rfl) ?_ | refine wpList_store_any rfl 25 (.tmp 2) (.tmp 63) rfl N rfl (pc fun _ => 0) rfl 25 _ HI.out.2.1 (info_poly.trans (size_poly _)) rfl (pc_one _) ?_)
   intro w9 hr9 b9 _
   have hb9 : But N g w w9 := HI.out.2.2.2.2.2.1.trans (But.of (b9.under (Nat.le_of_lt HI.out.2.1.lt) (Nat.le_refl _)) g)
   go_wp2
   try rw [Exit.noGoto_ret]
   exact ret_rs7 Tryd.results7 rfl rfl rfl hr9 Tryd.underlying25 rfl (info_poly.trans (size_poly _)) ⟨rfl, hb9⟩
  | succ g' =>
   have ht : (t : Int) < 1024 := by omega
   have hax := HA.out t
   have hxx := HX.out t (by omega)
   have CR : Shh (Calls Tryd.prog 9 #[.pointer (some ⟨g, 0, none⟩), .int .i64 3] wr (ReadIs wr g (S.behind 168 (3 * t)) 168 (3 * t) 3)) := ⟨read_any HI.out.2.2.2.1 HI.out.2.2.2.2.1 HG0.out hax.1 (by decide) (by decide) 3 (by decide) (by omega)⟩
   have HB : Shh (((S.behind 168 (3 * t)).behind 168 3 = S.behind 168 (3 * (t + 1))) ∧ Lib.byteCells ((S.behind 168 (3 * t)).outs 168 3) = [.int .u8 (nb ((S.behind 168 (3 * t)).outs 168 3) 0 : Int), .int .u8 (nb ((S.behind 168 (3 * t)).outs 168 3) 1 : Int), .int .u8 (nb ((S.behind 168 (3 * t)).outs 168 3) 2 : Int)]) := ⟨hax.2.1, three_list _ hax.2.2⟩
   obtain ⟨a0, Ha0⟩ : ∃ b, Shh (b = nb ((S.behind 168 (3 * t)).outs 168 3) 0 ∧ b < 256) := ⟨_, ⟨rfl, nb_lt _ _⟩⟩
   obtain ⟨a1, Ha1⟩ : ∃ b, Shh (b = nb ((S.behind 168 (3 * t)).outs 168 3) 1 ∧ b < 256) := ⟨_, ⟨rfl, nb_lt _ _⟩⟩
   obtain ⟨a2, Ha2⟩ : ∃ b, Shh (b = nb ((S.behind 168 (3 * t)).outs 168 3) 2 ∧ b < 256) := ⟨_, ⟨rfl, nb_lt _ _⟩⟩
   rw [← Ha0.out.1, ← Ha1.out.1, ← Ha2.out.1] at HB
   rw [← Ha0.out.1, ← Ha1.out.1, ← Ha2.out.1] at hxx
   clear hax
   obtain ⟨m1, Hm1⟩ : ∃ b, Shh (b = a1 % 16) := ⟨_, ⟨rfl⟩⟩
   obtain ⟨m2, Hm2⟩ : ∃ b, Shh (b = 256 * m1) := ⟨_, ⟨rfl⟩⟩
   obtain ⟨d1, Hd1⟩ : ∃ b, Shh (b = a1 / 16) := ⟨_, ⟨rfl⟩⟩
   obtain ⟨d2, Hd2⟩ : ∃ b, Shh (b = 16 * a2) := ⟨_, ⟨rfl⟩⟩
   have HL : Shh (m1 < 16 ∧ m2 < 65536 ∧ d1 < 16 ∧ d2 < 65536 ∧ a0 + m2 < 65536 ∧ d1 + d2 < 65536) := ⟨by
    have := Ha0.out.2; have := Ha1.out.2; have := Ha2.out.2; have := Hm1.out; have := Hm2.out; have := Hd1.out; have := Hd2.out
    omega⟩
   have HE : Shh (xs (2 * t) = a0 + m2 ∧ xs (2 * t + 1) = d1 + d2) := ⟨by rw [hxx.1, hxx.2, Hm2.out, Hm1.out, Hd1.out, Hd2.out]; exact ⟨rfl, rfl⟩⟩
   clear hxx
   go_wp2_with (go_at_call 9; refine (CR.out).mono ?_)
   rintro e w4 ⟨rfl, r4, x4, b4⟩
   rw [HB.out.2] at r4
   rw [HB.out.1] at x4
   have HJ : Shh (StA xs (2 * t) n f ∧ Row w4 N 25 (pc fun _ => 0) ∧ Row w4 G 25 (pc f) ∧ XofAt w4 g (S.behind 168 (3 * (t + 1))) 168 (3 * (t + 1)) ∧ KVars w4 ∧ But N g w w4 ∧ g < N ∧ N < G) := by
    obtain ⟨h1, h2, h3, h4, h5, h6, h7, h8⟩ := HI.out
    exact ⟨⟨h1, b4.row h2 h2.lt (by omega), b4.row h3 h3.lt (by omega), x4, h5.but b4 HG0.out, h6.trans (b4.mono (Nat.le_of_lt h2.lt)), h7, h8⟩⟩
   have c0 := r4.cell 0
   have c1 := r4.cell 1
   have c2 := r4.cell 2
   simp only [List.getElem?_cons_zero, List.getElem?_cons_succ] at c0 c1 c2
   generalize wr.heap.size = q at *
   clear r4 x4 b4 HI CR HB
   go_wp2
   have HK : Shh (StA xs (2 * t) n f ∧ Row w4.drew N 25 (pc fun _ => 0) ∧ Row w4.drew G 25 (pc f) ∧ XofAt w4.drew g (S.behind 168 (3 * (t + 1))) 168 (3 * (t + 1)) ∧ KVars w4.drew ∧ But N g w w4.drew ∧ g < N ∧ N < G) := by
    obtain ⟨h1, h2, h3, h4, h5, h6, h7, h8⟩ := HJ.out
    exact ⟨⟨h1, h2.drew, h3.drew, SpAt.drew h4, h5.drew, h6.drew, h7, h8⟩⟩
   clear HJ
   refine wp_region_held_drew (S := fun W => W.cell? ⟨q, 0, none⟩ = some (.int .u8 (a0 : Int)) ∧ W.cell? ⟨q, 1, none⟩ = some (.int .u8 (a1 : Int)) ∧ W.cell? ⟨q, 2, none⟩ = some (.int .u8 (a2 : Int))) (by kernel_rfl) ⟨c0, c1, c2⟩ (fun hS => ?_)
   clear c0 c1 c2
   obtain ⟨U, hU⟩ : ∃ V, V = World.drew w4 := ⟨_, rfl⟩
   rw [← hU] at HK hS ⊢
   clear hU
   refine hdv0 0 24 (.slice (some ⟨q, 0, none⟩) 3 3) (by rfl) (hS) ?_
   refine hdv0 1 25 (.pointer (some ⟨q, 0, none⟩)) (by rfl) (hS) ?_
   refine hdv 2 26 (.int .u8 (a0 : Int)) (by rfl) (fun w hS => load_u8x (n := a0) rfl hS.1 (by kernel_rfl)) (hS) ?_
   refine hdv 3 27 (.int .u16 (a0 : Int)) (by rfl) (fun w hS => conv_816 (n := a0) Ha0.out.2 rfl (by kernel_rfl)) (hS) ?_
   refine hdv0 4 28 (.slice (some ⟨q, 0, none⟩) 3 3) (by rfl) (hS) ?_
   refine hdv0 5 29 (.pointer (some ⟨q, 1, none⟩)) (by rfl) (hS) ?_
   refine hdv 6 30 (.int .u8 (a1 : Int)) (by rfl) (fun w hS => load_u8x (n := a1) rfl hS.2.1 (by kernel_rfl)) (hS) ?_
   refine hdv 7 31 (.int .u16 (a1 : Int)) (by rfl) (fun w hS => conv_816 (n := a1) Ha1.out.2 rfl (by kernel_rfl)) (hS) ?_
   refine hdv0 8 32 (.slice (some ⟨q, 0, none⟩) 3 3) (by rfl) (hS) ?_
   refine hdv0 9 33 (.pointer (some ⟨q, 2, none⟩)) (by rfl) (hS) ?_
   refine hdv 10 34 (.int .u8 (a2 : Int)) (by rfl) (fun w hS => load_u8x (n := a2) rfl hS.2.2 (by kernel_rfl)) (hS) ?_
   refine hdv 11 35 (.int .u16 (a2 : Int)) (by rfl) (fun w hS => conv_816 (n := a2) Ha2.out.2 rfl (by kernel_rfl)) (hS) ?_
   refine hdv0 12 8 (.int .u16 (a0 : Int)) (by rfl) (hS) ?_
   refine hdv0 13 9 (.int .u16 (a1 : Int)) (by rfl) (hS) ?_
   refine hdv0 14 10 (.int .u16 (a2 : Int)) (by rfl) (hS) ?_
   refine wpAnyH_done (by kernel_rfl) ?_ _
   clear hS
   go_wp2_with (first | refine wl_at 38 rfl (.int .u16 (m1 : Int)) rfl (rem_16u (n := a1) Hm1.out (by have := Ha1.out.2; omega) rfl rfl) ?_ | refine wl_at 39 rfl (.int .u16 (m2 : Int)) rfl (mul_uu (i := 256) (j := m1) Hm2.out HL.out.2.1 rfl rfl rfl) ?_ | refine wl_at 40 rfl (.int .u16 ((a0 + m2 : Nat) : Int)) rfl (add_uu (i := a0) (j := m2) ⟨rfl, HL.out.2.2.2.2.1⟩ rfl rfl rfl) ?_ | refine wl_at 42 rfl (.int .u16 (d1 : Int)) rfl (quo_16u (n := a1) Hd1.out (by have := Ha1.out.2; omega) rfl rfl) ?_ | refine wl_at 44 rfl (.int .u16 (d2 : Int)) rfl (mul_uu (i := 16) (j := a2) Hd2.out HL.out.2.2.2.1 rfl rfl rfl) ?_ | refine wl_at 45 rfl (.int .u16 ((d1 + d2 : Nat) : Int)) rfl (add_uu (i := d1) (j := d2) ⟨rfl, HL.out.2.2.2.2.2⟩ rfl rfl rfl) ?_ | refine wpList_build_eq rfl 40 _ rfl [.int .u16 ((a0 + m2 : Nat) : Int), .int .u16 ((d1 + d2 : Nat) : Int)].toArray (built_two _ _) ?_)
   have HT : Shh (∀ j, j < 2 → [Value.int .u16 ((a0 + m2 : Nat) : Int), Value.int .u16 ((d1 + d2 : Nat) : Int)][j]? = some (.int .u16 (xs (2 * t + j) : Int)) ∧ xs (2 * t + j) < 65536) := ⟨fun j hj => by
    have := HL.out
    match j, hj with
    | 0, _ => exact ⟨by rw [show xs (2 * t + 0) = a0 + m2 from HE.out.1]; rfl, by rw [show xs (2 * t + 0) = a0 + m2 from HE.out.1]; omega⟩
    | 1, _ => exact ⟨by rw [HE.out.2]; rfl, by rw [HE.out.2]; omega⟩⟩
   clear HE HL Hm1 Hm2 Hd1 Hd2 Ha0 Ha1 Ha2
   go_loopg [5, 47] 2 (fun gj s5 s47 wq => ∃ (j n2 : Nat) (f2 : Nat → Nat), j + gj = 2 ∧ s47 = .int .i64 (j : Int) ∧ s5 = .int .i64 (n2 : Int) ∧ n2 < 256 ∧ Shh (StA xs (2 * t + j) n2 f2 ∧ Row wq N 25 (pc fun _ => 0) ∧ Row wq G 25 (pc f2) ∧ XofAt wq g (S.behind 168 (3 * (t + 1))) 168 (3 * (t + 1)) ∧ KVars wq ∧ But N g w wq ∧ g < N ∧ N < G))
   case atStart => exact ⟨0, n, f, rfl, rfl, rfl, hn, HK⟩
   case round =>
    clear HK
    obtain ⟨j, n2, f2, hjk, rfl, rfl, hn2, HK⟩ := hrel
    cases gk with
    | zero =>
     have hj : ¬ (j : Int) < 2 := by omega
     obtain rfl : j = 2 := by omega
     have HK2 : Shh (StA xs (2 * (t + 1)) n2 f2 ∧ Row wr N 25 (pc fun _ => 0) ∧ Row wr G 25 (pc f2) ∧ XofAt wr g (S.behind 168 (3 * (t + 1))) 168 (3 * (t + 1)) ∧ KVars wr ∧ But N g w wr ∧ g < N ∧ N < G) := HK
     clear HK HT
     go_wp2
     go_roundg g'
     case measure => omega
     case rel => exact ⟨t + 1, n2, f2, by omega, by go_num, rfl, hn2, HK2⟩
    | succ h' =>
     have hj : (j : Int) < 2 := by omega
     have hj2 : j < 2 := by omega
     obtain ⟨ht1, ht2⟩ := HT.out j hj2
     have HZ := Shh.mk ht1
     have HS1 : Shh (xs (2 * t + j) < 3329 → StA xs (2 * t + (j + 1)) (n2 + 1) (upd f2 n2 (xs (2 * t + j)))) := ⟨fun h => HK.out.1.take h hn2⟩
     have HS2 : Shh (¬ xs (2 * t + j) < 3329 → StA xs (2 * t + (j + 1)) n2 f2) := ⟨fun h => HK.out.1.skip h⟩
     clear ht1 HT
     obtain ⟨x, hxe⟩ : ∃ x, x = xs (2 * t + j) := ⟨_, rfl⟩
     rw [← hxe] at HZ HS1 HS2 ht2
     clear hxe
     by_cases hx : x < 3329
     ·have hx2 : ¬ (3329 : Int) ≤ (x : Int) := by omega
      have HS3 := Shh.mk (HS1.out hx)
      clear HS1 HS2 ht2
      by_cases hf : n2 = 255
      ·subst hf
       go_wp2_with (first | refine wl_at 49 rfl (.int .u16 (x : Int)) rfl (idx_two hj2 HZ.out rfl rfl rfl) ?_ | refine wl_at 54 rfl (.pointer (some ⟨G, 255, none⟩)) rfl (at_poly (by decide) rfl rfl rfl) ?_ | refine wl_storeP rfl (k := 255) (by decide) rfl rfl rfl HK.out.2.2.1 ?_)
       intro w5 r5 b5 z5
       obtain ⟨rfl, rfl⟩ := HF.out.2 _ _ (by omega) HS3.out
       have HO : Shh (Row w5 N 25 (pc fun _ => 0) ∧ Row w5 G 25 (pc (upd f2 255 x)) ∧ But N g w w5) := by
        obtain ⟨h1, h2, h3, h4, h5, h6, h7, h8⟩ := HK.out
        exact ⟨⟨b5.row h2 h2.lt (by omega), r5, h6.trans (But.of (b5.under (Nat.le_of_lt h2.lt) (Nat.le_of_lt h8)) g)⟩⟩
       clear r5 b5 z5 HK HF
       go_wp2_with (first
        | refine wpList_load_any rfl 25 (.tmp 4) rfl G rfl 25 (pc (upd f2 255 x)) (.array 256 23) HO.out.2.1 Tryd.underlying25 rfl (info_poly.trans (size_poly _)) ?_
        | refine wpList_store_any rfl 25 (.tmp 2) (.tmp 64) rfl N rfl (pc (upd f2 255 x)) rfl 25 _ HO.out.1 (info_poly.trans (size_poly _)) (by rw [pc_length, pc_length]) (pc_one _) ?_)
       intro w9 hr9 b9 _
       have hb9 : But N g w w9 := HO.out.2.2.trans (But.of (b9.under (Nat.le_of_lt HO.out.1.lt) (Nat.le_refl _)) g)
       go_wp2
       try rw [Exit.noGoto_ret]
       exact ret_rs7 Tryd.results7 rfl rfl rfl hr9 Tryd.underlying25 rfl (info_poly.trans (size_poly _)) ⟨rfl, hb9⟩
      ·have hn3 : n2 + 1 < 256 := by omega
       have hf2 : ¬ (n2 : Int) + 1 = 256 := by omega
       go_wp2_with (first | refine wl_at 49 rfl (.int .u16 (x : Int)) rfl (idx_two hj2 HZ.out rfl rfl rfl) ?_ | refine wl_at 54 rfl (.pointer (some ⟨G, n2, none⟩)) rfl (at_poly hn2 rfl rfl rfl) ?_ | refine wl_storeP rfl hn2 rfl rfl rfl HK.out.2.2.1 ?_)
       intro w5 r5 b5 z5
       have HO : Shh (StA xs (2 * t + (j + 1)) (n2 + 1) (upd f2 n2 x) ∧ Row w5 N 25 (pc fun _ => 0) ∧ Row w5 G 25 (pc (upd f2 n2 x)) ∧ XofAt w5 g (S.behind 168 (3 * (t + 1))) 168 (3 * (t + 1)) ∧ KVars w5 ∧ But N g w w5 ∧ g < N ∧ N < G) := by
        obtain ⟨h1, h2, h3, h4, h5, h6, h7, h8⟩ := HK.out
        have hB := b5.under (Nat.le_of_lt h2.lt) (Nat.le_of_lt h8)
        have hgw : g < wr.heap.size := Nat.lt_trans h7 h2.lt
        have hB2 : Below G wr w5 := b5.under (Nat.le_of_lt h3.lt) (Nat.le_refl _)
        exact ⟨⟨HS3.out, b5.row h2 h2.lt (by omega), r5, ⟨b5.row h4.row hgw (by omega), rfl, h4.len⟩, h5.under hB2 (by have := h5.pos; omega), h6.trans (But.of hB g), h7, h8⟩⟩
       clear r5 b5 z5 HK HS3
       go_wp2
       go_roundg h'
       case measure => omega
       case rel => exact ⟨j + 1, n2 + 1, _, by omega, by go_num, by go_num, hn3, HO⟩
     ·have hx2 : (3329 : Int) ≤ (x : Int) := by omega
      have HO : Shh (StA xs (2 * t + (j + 1)) n2 f2 ∧ Row wr N 25 (pc fun _ => 0) ∧ Row wr G 25 (pc f2) ∧ XofAt wr g (S.behind 168 (3 * (t + 1))) 168 (3 * (t + 1)) ∧ KVars wr ∧ But N g w wr ∧ g < N ∧ N < G) := ⟨⟨HS2.out hx, HK.out.2⟩⟩
      clear HS1 HS2 ht2 HK
      go_wp2_with (refine wl_at 49 rfl (.int .u16 (x : Int)) rfl (idx_two hj2 HZ.out rfl rfl rfl) ?_)
      go_roundg h'
      case measure => omega
      case rel => exact ⟨j + 1, n2, f2, by omega, by go_num, rfl, hn2, HO⟩
end Go.Proofs.YtfcgdjgfdbcddaaDoor
