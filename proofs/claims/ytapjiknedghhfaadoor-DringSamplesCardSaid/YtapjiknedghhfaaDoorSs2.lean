/-
 THE PROGRAM'S OWN bounded.
-/
import Derived.Test.YtapjiknedghhfaaDoorSs1
namespace Go.Proofs.YtapjiknedghhfaaDoor
open Go.RowKit
set_option maxRecDepth 100000
theorem okE_zero (E : Int) (h : 0 ≤ E) : okE E 0 := .inl ⟨Int.le_refl _, h⟩
theorem dup_ok {E : Int} {f : Nat → Int} (h : ∀ i, okE E (f i)) (k : Nat) {v : Int} (hv : okE E v) (i : Nat) : okE E (dup f k v i) := by
 unfold dup
 split
 ·exact hv
 ·exact h i
set_option maxHeartbeats 8000000 in
theorem bounded_2 (g : Nat) (S : Sp) (w : World) (hx : XofAt w g S 136 0) (hv : KVars w) (hg : 0 ≠ g) (ha : S.at_ ≤ 136) (hgl : g < w.heap.size) : Calls Tryd.prog 21 #[.int .i32 2, .func (.func 19) #[.pointer (some ⟨g, 0, none⟩)] #[]] w (SmpG w g (allE 2)) := by
 unfold SmpG allE
 generalize hN : w.heap.size = N at *
 have HA : Shh (∀ t, (S.behind 136 (64 * t)).at_ ≤ 136 ∧ (S.behind 136 (64 * t)).behind 136 64 = S.behind 136 (64 * (t + 1)) ∧ ((S.behind 136 (64 * t)).outs 136 64).length = 64) := ⟨fun t => ⟨Sp.behind_at 136 (by decide) _ S ha, by rw [← behind_add15]; rfl, Sp.outs_length _ _ _⟩⟩
 have HG0 : Shh (0 ≠ g) := ⟨hg⟩
 have HZ0 : Shh (∀ i : Nat, okE 2 ((fun _ => 0 : Nat → Int) i)) := ⟨fun _ => okE_zero _ (by decide)⟩
 have HI0 : Shh (XofAt w g S 136 0 ∧ KVars w ∧ g < N ∧ w.heap.size = N) := ⟨hx, hv, hgl, hN⟩
 clear hx hv hg ha hgl hN
 go_enter Tryd.func21, Tryd.ntmps21
 go_wp2_with (refine wl_newzD 4 rfl rfl rfl ?_)
 intro N1 w2 hN1 r2 b2
 try simp only [Act.put, arr9, hd9, tl9]
 obtain rfl : N = N1 := HI0.out.2.2.2.symm.trans hN1.out.symm
 have HI1 : Shh (XofAt w2 g S 136 0 ∧ KVars w2 ∧ g < N ∧ Row w2 N 25 (dc fun _ => 0) ∧ Below N w w2) := by
  obtain ⟨h1, h2, h3, h5⟩ := HI0.out
  rw [h5] at b2
  exact ⟨⟨SpAt.below h1 (h5.symm ▸ b2), h2.step (h5.symm ▸ b2), h3, r2, b2⟩⟩
 clear r2 b2 hN1 HI0
 go_wp2
 try go_step3
 go_wp2_with (refine wl_newzD 8 rfl rfl rfl ?_)
 intro G w3 hG r3 b3
 try simp only [Act.put, arr9, hd9, tl9]
 have HJ : Shh (Row w3 N 25 (dc fun _ => 0) ∧ Row w3 G 25 (dc (fun _ => 0 : Nat → Int)) ∧ XofAt w3 g (S.behind 136 (64 * 0)) 136 (64 * 0) ∧ KVars w3 ∧ But N g w w3 ∧ g < N ∧ N < G ∧ ∀ i, okE 2 ((fun _ => 0 : Nat → Int) i)) := by
  obtain ⟨h1, h2, h3, h5, h6⟩ := HI1.out
  exact ⟨⟨h5.go b3, r3, SpAt.below h1 b3, h2.step b3, But.of (h6.trans (b3.mono (Nat.le_of_lt h5.lt))) g, h3, by rw [hG.out]; exact h5.lt, HZ0.out⟩⟩
 clear r3 b3 HI1 hG
 go_wp2
 try go_step3
 try go_wp2
 go_loopg [9, 22] 16 (fun gk s9 s22 wr => ∃ (t n : Nat) (f : Nat → Int), t + gk = 16 ∧ s22 = .int .i64 (t : Int) ∧ s9 = .int .i64 (n : Int) ∧ n < 256 ∧ Shh (Row wr N 25 (dc fun _ => 0) ∧ Row wr G 25 (dc f) ∧ XofAt wr g (S.behind 136 (64 * t)) 136 (64 * t) ∧ KVars wr ∧ But N g w wr ∧ g < N ∧ N < G ∧ ∀ i, okE 2 (f i)))
 case atStart => exact ⟨0, 0, fun _ => 0, rfl, rfl, rfl, by decide, HJ⟩
 case round =>
  clear HJ
  obtain ⟨t, n, f, htk, rfl, rfl, hn, HI⟩ := hrel
  cases gk with
  | zero =>
   have ht : ¬ (t : Int) < 16 := by omega
   have hn2 : (n : Int) < 256 := by omega
   have HO := HI
   go_wp2_with (first | refine wl_at 69 rfl (.agg (dc fun _ => 0).toArray) rfl (build_zero rfl) ?_ | refine wpList_store_any rfl 25 (.tmp 4) (.tmp 69) rfl N rfl (dc fun _ => 0) rfl 25 _ HO.out.1 (info_dD.trans (size_dc _)) (same_dc _ _) (dc_one _) ?_)
   intro w9 hr9 b9 _
   have hb9 : But N g w w9 := HO.out.2.2.2.2.1.trans (But.of (b9.under (Nat.le_of_lt HO.out.1.lt) (Nat.le_refl _)) g)
   have hk9 := HZ0.out
   go_wp2
   try rw [Exit.noGoto_ret]
   exact ret_row_slotS Tryd.results21 rfl rfl rfl hr9 Tryd.underlying25 rfl (info_dD.trans (size_dc _)) ⟨_, _, rfl, hb9, hk9⟩
  | succ g' =>
   have ht : (t : Int) < 16 := by omega
   have hax := HA.out t
   have CR : Shh (Calls Tryd.prog 19 #[.pointer (some ⟨g, 0, none⟩), .int .i64 64] wr (ReadIs wr g (S.behind 136 (64 * t)) 136 (64 * t) 64)) := ⟨read_any HI.out.2.2.1 HI.out.2.2.2.1 HG0.out hax.1 (by decide) (by decide) 64 (by decide) (by omega)⟩
   have HB := Shh.mk hax.2
   clear hax
   go_wp2_with (go_at_call 19; refine (CR.out).mono ?_)
   rintro e w4 ⟨rfl, r4, x4, b4⟩
   rw [HB.out.1] at x4
   generalize hL : (S.behind 136 (64 * t)).outs 136 64 = L at *
   generalize hq : wr.heap.size = q at *
   have HJ : Shh (Row w4 N 25 (dc fun _ => 0) ∧ Row w4 G 25 (dc f) ∧ XofAt w4 g (S.behind 136 (64 * (t + 1))) 136 (64 * (t + 1)) ∧ KVars w4 ∧ But N g w w4 ∧ g < N ∧ N < G ∧ Row w4 q 5 (Lib.byteCells L) ∧ G < q ∧ ∀ i, okE 2 (f i)) := by
    obtain ⟨h1, h2, h3, h4, h5, h6, h7, h8⟩ := HI.out
    rw [← hq] at b4
    exact ⟨⟨b4.row h1 h1.lt (by omega), b4.row h2 h2.lt (by omega), x4, h4.but b4 HG0.out, h5.trans (b4.mono (Nat.le_of_lt h1.lt)), h6, h7, r4, by rw [← hq]; exact h2.lt, h8⟩⟩
   have HLL := Shh.mk HB.out.2
   clear r4 x4 b4 HI CR HB hq hL
   go_wp2
   go_loopg [9, 35] 64 (fun gm s9 s35 wq => ∃ (k n2 : Nat) (f2 : Nat → Int), k + gm = 64 ∧ s35 = .int .i64 (k : Int) ∧ s9 = .int .i64 (n2 : Int) ∧ n2 < 256 ∧ Shh (Row wq N 25 (dc fun _ => 0) ∧ Row wq G 25 (dc f2) ∧ XofAt wq g (S.behind 136 (64 * (t + 1))) 136 (64 * (t + 1)) ∧ KVars wq ∧ But N g w wq ∧ g < N ∧ N < G ∧ Row wq q 5 (Lib.byteCells L) ∧ G < q ∧ ∀ i, okE 2 (f2 i)))
   case atStart => exact ⟨0, n, f, rfl, rfl, rfl, hn, HJ⟩
   case round =>
    clear HJ
    obtain ⟨k, n2, f2, hkm, rfl, rfl, hn2, HI⟩ := hrel
    cases gk with
    | zero =>
     have hk : ¬ (k : Int) < 64 := by omega
     have HI2 : Shh (Row wr N 25 (dc fun _ => 0) ∧ Row wr G 25 (dc f2) ∧ XofAt wr g (S.behind 136 (64 * (t + 1))) 136 (64 * (t + 1)) ∧ KVars wr ∧ But N g w wr ∧ g < N ∧ N < G ∧ ∀ i, okE 2 (f2 i)) := by
      obtain ⟨h1, h2, h3, h4, h5, h6, h7, _, _, h8⟩ := HI.out
      exact ⟨⟨h1, h2, h3, h4, h5, h6, h7, h8⟩⟩
     clear HI
     go_wp2
     go_roundg g'
     case measure => omega
     case rel => exact ⟨t + 1, n2, f2, by omega, by go_num, rfl, hn2, HI2⟩
    | succ h' =>
     have hk : (k : Int) < 64 := by omega
     have hk2 : k < 64 := by omega
     have hkl : k < L.length := by rw [HLL.out]; exact hk2
     have c0 := HI.out.2.2.2.2.2.2.2.1.cell k
     rw [byteCells_at L hkl] at c0
     have hb := UInt8.toNat_lt L[k]
     generalize L[k].toNat = bv at *
     have C0 := Shh.mk c0
     clear c0 hkl
     obtain ⟨m1, Hm1⟩ : ∃ b, Shh (b = bv % 16) := ⟨_, ⟨rfl⟩⟩
     obtain ⟨m2, Hm2⟩ : ∃ b, Shh (b = bv / 16) := ⟨_, ⟨rfl⟩⟩
     have hm1 : m1 < 16 := by have := Hm1.out; omega
     have hm2 : m2 < 16 := by have := Hm2.out; omega
     go_wp2_with (first | refine wl_at 37 rfl (.pointer (some ⟨q, k, none⟩)) rfl (at_u8z hk2 rfl rfl rfl) ?_ | refine wl_at 38 rfl (.int .u8 (bv : Int)) rfl (load_u8s rfl C0.out rfl) ?_ | refine wl_at 40 rfl (.int .u8 (m1 : Int)) rfl (rem_8 Hm1.out hb rfl rfl) ?_ | refine wl_at 41 rfl (.int .i32 (m1 : Int)) rfl (conv_8d (by omega) rfl rfl) ?_ | refine wl_at 43 rfl (.int .u8 (m2 : Int)) rfl (quo_8 Hm2.out hb rfl rfl) ?_ | refine wl_at 44 rfl (.int .i32 (m2 : Int)) rfl (conv_8d (by omega) rfl rfl) ?_)
     have HT : Shh (∀ j, j < 2 → ∃ x : Nat, [Value.int .i32 (m1 : Int), Value.int .i32 (m2 : Int)][j]? = some (.int .i32 (x : Int)) ∧ x < 16) := ⟨fun j hj => by
      match j, hj with
      | 0, _ => exact ⟨m1, rfl, hm1⟩
      | 1, _ => exact ⟨m2, rfl, hm2⟩⟩
     clear Hm1 Hm2 hb C0
     go_loopg [9, 46] 2 (fun gj s9 s46 wq => ∃ (j n3 : Nat) (f3 : Nat → Int), j + gj = 2 ∧ s46 = .int .i64 (j : Int) ∧ s9 = .int .i64 (n3 : Int) ∧ n3 < 256 ∧ Shh (Row wq N 25 (dc fun _ => 0) ∧ Row wq G 25 (dc f3) ∧ XofAt wq g (S.behind 136 (64 * (t + 1))) 136 (64 * (t + 1)) ∧ KVars wq ∧ But N g w wq ∧ g < N ∧ N < G ∧ Row wq q 5 (Lib.byteCells L) ∧ G < q ∧ ∀ i, okE 2 (f3 i)))
     case atStart => exact ⟨0, n2, f2, rfl, rfl, rfl, hn2, HI⟩
     case round =>
      clear HI
      obtain ⟨j, n3, f3, hjk, rfl, rfl, hn3, HK⟩ := hrel
      cases gk with
      | zero =>
       have hj : ¬ (j : Int) < 2 := by omega
       clear HT
       go_wp2
       go_roundg h'
       case measure => omega
       case rel => exact ⟨k + 1, n3, f3, by omega, by go_num, rfl, hn3, HK⟩
      | succ i' =>
       have hj : (j : Int) < 2 := by omega
       have hj2 : j < 2 := by omega
       obtain ⟨x, hx1, hx2⟩ := HT.out j hj2
       have HZ := Shh.mk hx1
       clear hx1 HT
       by_cases hx : x < 15
       ·have hxl : ¬ (15 : Int) ≤ (x : Int) := by omega
        obtain ⟨r, Hr, hr⟩ : ∃ r : Int, Shh (r = (x : Int).tmod 5 ∧ -2147483648 ≤ r ∧ r ≤ 2147483647) ∧ 0 ≤ r ∧ r < 5 := ⟨(x : Int) % 5, ⟨by rw [Int.tmod_eq_emod_of_nonneg (by omega)], by omega, by omega⟩, by omega⟩
        obtain ⟨d, Hd⟩ : ∃ d : Int, Shh (d = 2 - r ∧ -2147483648 ≤ d ∧ d ≤ 2147483647) := ⟨_, ⟨rfl, by omega, by omega⟩⟩
        have HRS : Shh (∀ W, Calls Tryd.prog 37 #[.int .i32 d] W (I32Is W (qd d))) := ⟨fun W => residue_any d Hd.out.2 W⟩
        have hok : okE 2 (qd d) := by have := Hd.out.1; unfold okE qd; omega
        generalize qd d = y at *
        clear hr hx
        go_wp2_with (first | refine wl_at 48 rfl (.int .i32 (x : Int)) rfl (idx_two32 hj2 HZ.out rfl rfl rfl) ?_ | refine wl_at 56 rfl (.int .i32 (r : Int)) rfl (rem_d Hr.out (by decide) rfl rfl rfl) ?_ | refine wl_at 57 rfl (.int .i32 (d : Int)) rfl (sub_d Hd.out rfl rfl rfl) ?_ | (go_at_call 37; refine (HRS.out _).mono ?_))
        rintro e w5 ⟨rfl, rfl⟩
        by_cases hf : n3 = 255
        ·subst hf
         go_wp2_with (first | refine wl_at 59 rfl (.pointer (some ⟨G, 255, none⟩)) rfl (at_dD (by decide) rfl rfl rfl) ?_ | refine wl_storeD rfl (k := 255) (by decide) rfl rfl rfl HK.out.2.1 ?_)
         intro w5 r5 b5 z5
         have HO : Shh (Row w5 N 25 (dc fun _ => 0) ∧ Row w5 G 25 (dc (dup f3 255 y)) ∧ But N g w w5 ∧ ∀ i, okE 2 (dup f3 255 y i)) := by
          obtain ⟨h1, h2, h3, h4, h5, h6, h7, _, _, h8⟩ := HK.out
          exact ⟨⟨b5.row h1 h1.lt (by omega), r5, h5.trans (But.of (b5.under (Nat.le_of_lt h1.lt) (Nat.le_of_lt h7)) g), dup_ok h8 _ hok⟩⟩
         clear r5 b5 z5 HK
         go_wp2_with (first
          | refine wpList_load_any rfl 25 (.tmp 8) rfl G rfl 25 (dc (dup f3 255 y)) (.array 256 21) HO.out.2.1 Tryd.underlying25 rfl (info_dD.trans (size_dc _)) ?_
          | refine wpList_store_any rfl 25 (.tmp 4) (.tmp 70) rfl N rfl (dc (dup f3 255 y)) rfl 25 _ HO.out.1 (info_dD.trans (size_dc _)) (same_dc _ _) (dc_one _) ?_)
         intro w9 hr9 b9 _
         have hb9 : But N g w w9 := HO.out.2.2.1.trans (But.of (b9.under (Nat.le_of_lt HO.out.1.lt) (Nat.le_refl _)) g)
         have hk9 := HO.out.2.2.2
         go_wp2
         try rw [Exit.noGoto_ret]
         exact ret_row_slotS Tryd.results21 rfl rfl rfl hr9 Tryd.underlying25 rfl (info_dD.trans (size_dc _)) ⟨_, _, rfl, hb9, hk9⟩
        ·have hn4 : n3 + 1 < 256 := by omega
         have hf2 : ¬ (n3 : Int) + 1 = 256 := by omega
         go_wp2_with (first | refine wl_at 59 rfl (.pointer (some ⟨G, n3, none⟩)) rfl (at_dD hn3 rfl rfl rfl) ?_ | refine wl_storeD rfl hn3 rfl rfl rfl HK.out.2.1 ?_)
         intro w5 r5 b5 z5
         have HO : Shh (Row w5 N 25 (dc fun _ => 0) ∧ Row w5 G 25 (dc (dup f3 n3 y)) ∧ XofAt w5 g (S.behind 136 (64 * (t + 1))) 136 (64 * (t + 1)) ∧ KVars w5 ∧ But N g w w5 ∧ g < N ∧ N < G ∧ Row w5 q 5 (Lib.byteCells L) ∧ G < q ∧ ∀ i, okE 2 ((dup f3 n3 y) i)) := by
          obtain ⟨h1, h2, h3, h4, h5, h6, h7, h9, h10, h8⟩ := HK.out
          have hB := b5.under (Nat.le_of_lt h1.lt) (Nat.le_of_lt h7)
          have hB2 : Below G wr w5 := b5.under (Nat.le_of_lt h2.lt) (Nat.le_refl _)
          exact ⟨⟨b5.row h1 h1.lt (by omega), r5, ⟨b5.row h3.row h3.lt (by omega), rfl, h3.len⟩, h4.under hB2 (by have := h4.pos; have := h3.lt; omega), h5.trans (But.of hB g), h6, h7, b5.row h9 h9.lt (by omega), h10, dup_ok h8 _ hok⟩⟩
         clear r5 b5 z5 HK
         go_wp2
         go_roundg i'
         case measure => omega
         case rel => exact ⟨j + 1, n3 + 1, _, by omega, by go_num, by go_num, hn4, HO⟩
       ·have hxl : (15 : Int) ≤ (x : Int) := by omega
        clear hx hx2
        go_wp2_with (refine wl_at 48 rfl (.int .i32 (x : Int)) rfl (idx_two32 hj2 HZ.out rfl rfl rfl) ?_)
        go_roundg i'
        case measure => omega
        case rel => exact ⟨j + 1, n3, f3, by omega, by go_num, rfl, hn3, HK⟩
set_option maxHeartbeats 8000000 in
theorem bounded_4 (g : Nat) (S : Sp) (w : World) (hx : XofAt w g S 136 0) (hv : KVars w) (hg : 0 ≠ g) (ha : S.at_ ≤ 136) (hgl : g < w.heap.size) : Calls Tryd.prog 21 #[.int .i32 4, .func (.func 19) #[.pointer (some ⟨g, 0, none⟩)] #[]] w (SmpG w g (allE 4)) := by
 unfold SmpG allE
 generalize hN : w.heap.size = N at *
 have HA : Shh (∀ t, (S.behind 136 (64 * t)).at_ ≤ 136 ∧ (S.behind 136 (64 * t)).behind 136 64 = S.behind 136 (64 * (t + 1)) ∧ ((S.behind 136 (64 * t)).outs 136 64).length = 64) := ⟨fun t => ⟨Sp.behind_at 136 (by decide) _ S ha, by rw [← behind_add15]; rfl, Sp.outs_length _ _ _⟩⟩
 have HG0 : Shh (0 ≠ g) := ⟨hg⟩
 have HZ0 : Shh (∀ i : Nat, okE 4 ((fun _ => 0 : Nat → Int) i)) := ⟨fun _ => okE_zero _ (by decide)⟩
 have HI0 : Shh (XofAt w g S 136 0 ∧ KVars w ∧ g < N ∧ w.heap.size = N) := ⟨hx, hv, hgl, hN⟩
 clear hx hv hg ha hgl hN
 go_enter Tryd.func21, Tryd.ntmps21
 go_wp2_with (refine wl_newzD 4 rfl rfl rfl ?_)
 intro N1 w2 hN1 r2 b2
 try simp only [Act.put, arr9, hd9, tl9]
 obtain rfl : N = N1 := HI0.out.2.2.2.symm.trans hN1.out.symm
 have HI1 : Shh (XofAt w2 g S 136 0 ∧ KVars w2 ∧ g < N ∧ Row w2 N 25 (dc fun _ => 0) ∧ Below N w w2) := by
  obtain ⟨h1, h2, h3, h5⟩ := HI0.out
  rw [h5] at b2
  exact ⟨⟨SpAt.below h1 (h5.symm ▸ b2), h2.step (h5.symm ▸ b2), h3, r2, b2⟩⟩
 clear r2 b2 hN1 HI0
 go_wp2
 try go_step3
 go_wp2_with (refine wl_newzD 8 rfl rfl rfl ?_)
 intro G w3 hG r3 b3
 try simp only [Act.put, arr9, hd9, tl9]
 have HJ : Shh (Row w3 N 25 (dc fun _ => 0) ∧ Row w3 G 25 (dc (fun _ => 0 : Nat → Int)) ∧ XofAt w3 g (S.behind 136 (64 * 0)) 136 (64 * 0) ∧ KVars w3 ∧ But N g w w3 ∧ g < N ∧ N < G ∧ ∀ i, okE 4 ((fun _ => 0 : Nat → Int) i)) := by
  obtain ⟨h1, h2, h3, h5, h6⟩ := HI1.out
  exact ⟨⟨h5.go b3, r3, SpAt.below h1 b3, h2.step b3, But.of (h6.trans (b3.mono (Nat.le_of_lt h5.lt))) g, h3, by rw [hG.out]; exact h5.lt, HZ0.out⟩⟩
 clear r3 b3 HI1 hG
 go_wp2
 try go_step3
 try go_wp2
 go_loopg [9, 22] 16 (fun gk s9 s22 wr => ∃ (t n : Nat) (f : Nat → Int), t + gk = 16 ∧ s22 = .int .i64 (t : Int) ∧ s9 = .int .i64 (n : Int) ∧ n < 256 ∧ Shh (Row wr N 25 (dc fun _ => 0) ∧ Row wr G 25 (dc f) ∧ XofAt wr g (S.behind 136 (64 * t)) 136 (64 * t) ∧ KVars wr ∧ But N g w wr ∧ g < N ∧ N < G ∧ ∀ i, okE 4 (f i)))
 case atStart => exact ⟨0, 0, fun _ => 0, rfl, rfl, rfl, by decide, HJ⟩
 case round =>
  clear HJ
  obtain ⟨t, n, f, htk, rfl, rfl, hn, HI⟩ := hrel
  cases gk with
  | zero =>
   have ht : ¬ (t : Int) < 16 := by omega
   have hn2 : (n : Int) < 256 := by omega
   have HO := HI
   go_wp2_with (first | refine wl_at 69 rfl (.agg (dc fun _ => 0).toArray) rfl (build_zero rfl) ?_ | refine wpList_store_any rfl 25 (.tmp 4) (.tmp 69) rfl N rfl (dc fun _ => 0) rfl 25 _ HO.out.1 (info_dD.trans (size_dc _)) (same_dc _ _) (dc_one _) ?_)
   intro w9 hr9 b9 _
   have hb9 : But N g w w9 := HO.out.2.2.2.2.1.trans (But.of (b9.under (Nat.le_of_lt HO.out.1.lt) (Nat.le_refl _)) g)
   have hk9 := HZ0.out
   go_wp2
   try rw [Exit.noGoto_ret]
   exact ret_row_slotS Tryd.results21 rfl rfl rfl hr9 Tryd.underlying25 rfl (info_dD.trans (size_dc _)) ⟨_, _, rfl, hb9, hk9⟩
  | succ g' =>
   have ht : (t : Int) < 16 := by omega
   have hax := HA.out t
   have CR : Shh (Calls Tryd.prog 19 #[.pointer (some ⟨g, 0, none⟩), .int .i64 64] wr (ReadIs wr g (S.behind 136 (64 * t)) 136 (64 * t) 64)) := ⟨read_any HI.out.2.2.1 HI.out.2.2.2.1 HG0.out hax.1 (by decide) (by decide) 64 (by decide) (by omega)⟩
   have HB := Shh.mk hax.2
   clear hax
   go_wp2_with (go_at_call 19; refine (CR.out).mono ?_)
   rintro e w4 ⟨rfl, r4, x4, b4⟩
   rw [HB.out.1] at x4
   generalize hL : (S.behind 136 (64 * t)).outs 136 64 = L at *
   generalize hq : wr.heap.size = q at *
   have HJ : Shh (Row w4 N 25 (dc fun _ => 0) ∧ Row w4 G 25 (dc f) ∧ XofAt w4 g (S.behind 136 (64 * (t + 1))) 136 (64 * (t + 1)) ∧ KVars w4 ∧ But N g w w4 ∧ g < N ∧ N < G ∧ Row w4 q 5 (Lib.byteCells L) ∧ G < q ∧ ∀ i, okE 4 (f i)) := by
    obtain ⟨h1, h2, h3, h4, h5, h6, h7, h8⟩ := HI.out
    rw [← hq] at b4
    exact ⟨⟨b4.row h1 h1.lt (by omega), b4.row h2 h2.lt (by omega), x4, h4.but b4 HG0.out, h5.trans (b4.mono (Nat.le_of_lt h1.lt)), h6, h7, r4, by rw [← hq]; exact h2.lt, h8⟩⟩
   have HLL := Shh.mk HB.out.2
   clear r4 x4 b4 HI CR HB hq hL
   go_wp2
   go_loopg [9, 35] 64 (fun gm s9 s35 wq => ∃ (k n2 : Nat) (f2 : Nat → Int), k + gm = 64 ∧ s35 = .int .i64 (k : Int) ∧ s9 = .int .i64 (n2 : Int) ∧ n2 < 256 ∧ Shh (Row wq N 25 (dc fun _ => 0) ∧ Row wq G 25 (dc f2) ∧ XofAt wq g (S.behind 136 (64 * (t + 1))) 136 (64 * (t + 1)) ∧ KVars wq ∧ But N g w wq ∧ g < N ∧ N < G ∧ Row wq q 5 (Lib.byteCells L) ∧ G < q ∧ ∀ i, okE 4 (f2 i)))
   case atStart => exact ⟨0, n, f, rfl, rfl, rfl, hn, HJ⟩
   case round =>
    clear HJ
    obtain ⟨k, n2, f2, hkm, rfl, rfl, hn2, HI⟩ := hrel
    cases gk with
    | zero =>
     have hk : ¬ (k : Int) < 64 := by omega
     have HI2 : Shh (Row wr N 25 (dc fun _ => 0) ∧ Row wr G 25 (dc f2) ∧ XofAt wr g (S.behind 136 (64 * (t + 1))) 136 (64 * (t + 1)) ∧ KVars wr ∧ But N g w wr ∧ g < N ∧ N < G ∧ ∀ i, okE 4 (f2 i)) := by
      obtain ⟨h1, h2, h3, h4, h5, h6, h7, _, _, h8⟩ := HI.out
      exact ⟨⟨h1, h2, h3, h4, h5, h6, h7, h8⟩⟩
     clear HI
     go_wp2
     go_roundg g'
     case measure => omega
     case rel => exact ⟨t + 1, n2, f2, by omega, by go_num, rfl, hn2, HI2⟩
    | succ h' =>
     have hk : (k : Int) < 64 := by omega
     have hk2 : k < 64 := by omega
     have hkl : k < L.length := by rw [HLL.out]; exact hk2
     have c0 := HI.out.2.2.2.2.2.2.2.1.cell k
     rw [byteCells_at L hkl] at c0
     have hb := UInt8.toNat_lt L[k]
     generalize L[k].toNat = bv at *
     have C0 := Shh.mk c0
     clear c0 hkl
     obtain ⟨m1, Hm1⟩ : ∃ b, Shh (b = bv % 16) := ⟨_, ⟨rfl⟩⟩
     obtain ⟨m2, Hm2⟩ : ∃ b, Shh (b = bv / 16) := ⟨_, ⟨rfl⟩⟩
     have hm1 : m1 < 16 := by have := Hm1.out; omega
     have hm2 : m2 < 16 := by have := Hm2.out; omega
     go_wp2_with (first | refine wl_at 37 rfl (.pointer (some ⟨q, k, none⟩)) rfl (at_u8z hk2 rfl rfl rfl) ?_ | refine wl_at 38 rfl (.int .u8 (bv : Int)) rfl (load_u8s rfl C0.out rfl) ?_ | refine wl_at 40 rfl (.int .u8 (m1 : Int)) rfl (rem_8 Hm1.out hb rfl rfl) ?_ | refine wl_at 41 rfl (.int .i32 (m1 : Int)) rfl (conv_8d (by omega) rfl rfl) ?_ | refine wl_at 43 rfl (.int .u8 (m2 : Int)) rfl (quo_8 Hm2.out hb rfl rfl) ?_ | refine wl_at 44 rfl (.int .i32 (m2 : Int)) rfl (conv_8d (by omega) rfl rfl) ?_)
     have HT : Shh (∀ j, j < 2 → ∃ x : Nat, [Value.int .i32 (m1 : Int), Value.int .i32 (m2 : Int)][j]? = some (.int .i32 (x : Int)) ∧ x < 16) := ⟨fun j hj => by
      match j, hj with
      | 0, _ => exact ⟨m1, rfl, hm1⟩
      | 1, _ => exact ⟨m2, rfl, hm2⟩⟩
     clear Hm1 Hm2 hb C0
     go_loopg [9, 46] 2 (fun gj s9 s46 wq => ∃ (j n3 : Nat) (f3 : Nat → Int), j + gj = 2 ∧ s46 = .int .i64 (j : Int) ∧ s9 = .int .i64 (n3 : Int) ∧ n3 < 256 ∧ Shh (Row wq N 25 (dc fun _ => 0) ∧ Row wq G 25 (dc f3) ∧ XofAt wq g (S.behind 136 (64 * (t + 1))) 136 (64 * (t + 1)) ∧ KVars wq ∧ But N g w wq ∧ g < N ∧ N < G ∧ Row wq q 5 (Lib.byteCells L) ∧ G < q ∧ ∀ i, okE 4 (f3 i)))
     case atStart => exact ⟨0, n2, f2, rfl, rfl, rfl, hn2, HI⟩
     case round =>
      clear HI
      obtain ⟨j, n3, f3, hjk, rfl, rfl, hn3, HK⟩ := hrel
      cases gk with
      | zero =>
       have hj : ¬ (j : Int) < 2 := by omega
       clear HT
       go_wp2
       go_roundg h'
       case measure => omega
       case rel => exact ⟨k + 1, n3, f3, by omega, by go_num, rfl, hn3, HK⟩
      | succ i' =>
       have hj : (j : Int) < 2 := by omega
       have hj2 : j < 2 := by omega
       obtain ⟨x, hx1, hx2⟩ := HT.out j hj2
       have HZ := Shh.mk hx1
       clear hx1 HT
       by_cases hx : x < 9
       ·have hxl : ¬ (9 : Int) ≤ (x : Int) := by omega
        obtain ⟨r, Hr, hr⟩ : ∃ r : Int, Shh (r = (x : Int).tmod 9 ∧ -2147483648 ≤ r ∧ r ≤ 2147483647) ∧ 0 ≤ r ∧ r < 9 := ⟨(x : Int) % 9, ⟨by rw [Int.tmod_eq_emod_of_nonneg (by omega)], by omega, by omega⟩, by omega⟩
        obtain ⟨d, Hd⟩ : ∃ d : Int, Shh (d = 4 - r ∧ -2147483648 ≤ d ∧ d ≤ 2147483647) := ⟨_, ⟨rfl, by omega, by omega⟩⟩
        have HRS : Shh (∀ W, Calls Tryd.prog 37 #[.int .i32 d] W (I32Is W (qd d))) := ⟨fun W => residue_any d Hd.out.2 W⟩
        have hok : okE 4 (qd d) := by have := Hd.out.1; unfold okE qd; omega
        generalize qd d = y at *
        clear hr hx
        go_wp2_with (first | refine wl_at 48 rfl (.int .i32 (x : Int)) rfl (idx_two32 hj2 HZ.out rfl rfl rfl) ?_ | refine wl_at 56 rfl (.int .i32 (r : Int)) rfl (rem_d Hr.out (by decide) rfl rfl rfl) ?_ | refine wl_at 57 rfl (.int .i32 (d : Int)) rfl (sub_d Hd.out rfl rfl rfl) ?_ | (go_at_call 37; refine (HRS.out _).mono ?_))
        rintro e w5 ⟨rfl, rfl⟩
        by_cases hf : n3 = 255
        ·subst hf
         go_wp2_with (first | refine wl_at 59 rfl (.pointer (some ⟨G, 255, none⟩)) rfl (at_dD (by decide) rfl rfl rfl) ?_ | refine wl_storeD rfl (k := 255) (by decide) rfl rfl rfl HK.out.2.1 ?_)
         intro w5 r5 b5 z5
         have HO : Shh (Row w5 N 25 (dc fun _ => 0) ∧ Row w5 G 25 (dc (dup f3 255 y)) ∧ But N g w w5 ∧ ∀ i, okE 4 (dup f3 255 y i)) := by
          obtain ⟨h1, h2, h3, h4, h5, h6, h7, _, _, h8⟩ := HK.out
          exact ⟨⟨b5.row h1 h1.lt (by omega), r5, h5.trans (But.of (b5.under (Nat.le_of_lt h1.lt) (Nat.le_of_lt h7)) g), dup_ok h8 _ hok⟩⟩
         clear r5 b5 z5 HK
         go_wp2_with (first
          | refine wpList_load_any rfl 25 (.tmp 8) rfl G rfl 25 (dc (dup f3 255 y)) (.array 256 21) HO.out.2.1 Tryd.underlying25 rfl (info_dD.trans (size_dc _)) ?_
          | refine wpList_store_any rfl 25 (.tmp 4) (.tmp 70) rfl N rfl (dc (dup f3 255 y)) rfl 25 _ HO.out.1 (info_dD.trans (size_dc _)) (same_dc _ _) (dc_one _) ?_)
         intro w9 hr9 b9 _
         have hb9 : But N g w w9 := HO.out.2.2.1.trans (But.of (b9.under (Nat.le_of_lt HO.out.1.lt) (Nat.le_refl _)) g)
         have hk9 := HO.out.2.2.2
         go_wp2
         try rw [Exit.noGoto_ret]
         exact ret_row_slotS Tryd.results21 rfl rfl rfl hr9 Tryd.underlying25 rfl (info_dD.trans (size_dc _)) ⟨_, _, rfl, hb9, hk9⟩
        ·have hn4 : n3 + 1 < 256 := by omega
         have hf2 : ¬ (n3 : Int) + 1 = 256 := by omega
         go_wp2_with (first | refine wl_at 59 rfl (.pointer (some ⟨G, n3, none⟩)) rfl (at_dD hn3 rfl rfl rfl) ?_ | refine wl_storeD rfl hn3 rfl rfl rfl HK.out.2.1 ?_)
         intro w5 r5 b5 z5
         have HO : Shh (Row w5 N 25 (dc fun _ => 0) ∧ Row w5 G 25 (dc (dup f3 n3 y)) ∧ XofAt w5 g (S.behind 136 (64 * (t + 1))) 136 (64 * (t + 1)) ∧ KVars w5 ∧ But N g w w5 ∧ g < N ∧ N < G ∧ Row w5 q 5 (Lib.byteCells L) ∧ G < q ∧ ∀ i, okE 4 ((dup f3 n3 y) i)) := by
          obtain ⟨h1, h2, h3, h4, h5, h6, h7, h9, h10, h8⟩ := HK.out
          have hB := b5.under (Nat.le_of_lt h1.lt) (Nat.le_of_lt h7)
          have hB2 : Below G wr w5 := b5.under (Nat.le_of_lt h2.lt) (Nat.le_refl _)
          exact ⟨⟨b5.row h1 h1.lt (by omega), r5, ⟨b5.row h3.row h3.lt (by omega), rfl, h3.len⟩, h4.under hB2 (by have := h4.pos; have := h3.lt; omega), h5.trans (But.of hB g), h6, h7, b5.row h9 h9.lt (by omega), h10, dup_ok h8 _ hok⟩⟩
         clear r5 b5 z5 HK
         go_wp2
         go_roundg i'
         case measure => omega
         case rel => exact ⟨j + 1, n3 + 1, _, by omega, by go_num, by go_num, hn4, HO⟩
       ·have hxl : (9 : Int) ≤ (x : Int) := by omega
        clear hx hx2
        go_wp2_with (refine wl_at 48 rfl (.int .i32 (x : Int)) rfl (idx_two32 hj2 HZ.out rfl rfl rfl) ?_)
        go_roundg i'
        case measure => omega
        case rel => exact ⟨j + 1, n3, f3, by omega, by go_num, rfl, hn3, HK⟩
end Go.Proofs.YtapjiknedghhfaaDoor
