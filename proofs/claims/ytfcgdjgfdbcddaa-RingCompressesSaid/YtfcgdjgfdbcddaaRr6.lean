/-
 THE DOCUMENT'S OWN Inv.
-/
import Derived.Test.YtfcgdjgfdbcddaaRp5
namespace Go.Proofs.Ytfcgdjgfdbcddaa
open Go.RowKit
set_option maxRecDepth 100000
set_option maxHeartbeats 2000000 in
theorem refInv_any (p : Nat → Nat) (hp : ∀ i, i < 256 → p i < 65536) (w : World) : Calls Try.prog 25 #[polyV p] w (PolyIs w (invN p)) := by
 unfold PolyIs polyV
 generalize hN : w.heap.size = N at *
 have HP := Shh.mk hp
 obtain ⟨SE, HSE⟩ : ∃ S, Shh (S = invS (fun i => p (2 * i))) := ⟨_, ⟨rfl⟩⟩
 obtain ⟨SO, HSO⟩ : ∃ S, Shh (S = invS (fun i => p (2 * i + 1))) := ⟨_, ⟨rfl⟩⟩
 have HZ : Shh (∀ j, SE 128 0 j % 3329 = invN p (2 * j) ∧ SO 128 0 j % 3329 = invN p (2 * j + 1)) := ⟨fun j => by rw [HSE.out, HSO.out]; exact ⟨inv_even p j, inv_odd p j⟩⟩
 have H0 : Shh ((SE 0 0 = (fun _ => 0) ∧ SO 0 0 = fun _ => 0) ∧ (∀ i, ic 128 (SE i 128) = ic 128 (SE (i + 1) 0) ∧ ic 128 (SO i 128) = ic 128 (SO (i + 1) 0)) ∧ (∀ i k, upd (SE i k) k (SE i k k + tS (gB i) (p (2 * i)) k) = SE i (k + 1) ∧ upd (SO i k) k (SO i k k + tS (gB i) (p (2 * i + 1)) k) = SO i (k + 1)) ∧ ∀ i k j, i ≤ 128 → SE i k j ≤ 1000000 ∧ SO i k j ≤ 1000000) := ⟨by
  rw [HSE.out, HSO.out]
  exact ⟨⟨invS_zero _, invS_zero _⟩, fun i => ⟨invS_row _ i, invS_row _ i⟩, fun i k => ⟨invS_next (fun i => p (2 * i)) i k, invS_next (fun i => p (2 * i + 1)) i k⟩, fun i k j hi => ⟨invS_le _ i k j hi, invS_le _ i k j hi⟩⟩⟩
 have HRT : Shh (∀ k : Nat, k < 128 → (∀ w, Calls Try.prog 47 #[.int .i64 (k : Int)] w (NumIs w (rtN k))) ∧ ∀ w, Calls Try.prog 48 #[.int .i64 (rtN k : Int), .int .i64 255] w (NumIs w (gB k))) := ⟨fun k hk => ⟨fun w => Root_any k hk w, fun w => power_any (rtN k) 255 (Nat.mod_lt _ (by decide)) (by decide) w⟩⟩
 have HGB : Shh (∀ k : Nat, gB k < 3329) := ⟨fun k => Nat.mod_lt _ (by decide)⟩
 generalize invN p = r at *
 clear hp HSE HSO
 go_enter Try.func25, Try.ntmps25
 go_wp2_with (first | refine wl_allocP rfl rfl ?_ | refine wl_alloc128 rfl rfl ?_)
 obtain ⟨W, hW⟩ : ∃ W, W = (((w.alloc (.cells (pc p).toArray 24)).alloc (.cells (pc fun _ => 0).toArray 24)).alloc (.cells (ic 128 fun _ => 0).toArray 51)).alloc (.cells (ic 128 fun _ => 0).toArray 51) := ⟨_, rfl⟩
 have HW : Shh (Row W N 24 (pc p) ∧ Row W (N + 1) 24 (pc fun _ => 0) ∧ Row W (N + 2) 51 (ic 128 (SE 0 0)) ∧ Row W (N + 3) 51 (ic 128 (SO 0 0)) ∧ Below N w W) := by
  rw [H0.out.1.1, H0.out.1.2]
  refine ⟨by rw [hW]; exact (((Row.new_ hN.symm rfl).alloc _).alloc _).alloc _, by rw [hW]; exact ((Row.new_ (by rw [asz, hN]) rfl).alloc _).alloc _, by rw [hW]; exact (Row.new_ (by rw [asz, asz, hN]) rfl).alloc _, by rw [hW]; exact Row.new_ (by rw [asz, asz, asz, hN]) rfl, ?_⟩
  rw [hW, ← hN]
  exact Below.chain (Below.chain (Below.chain (bel1 _ _) (bel1 _ _)) (bel1 _ _)) (bel1 _ _)
 try simp only [asz, hN]
 rw [← hW]
 clear hW
 go_wp2
 go_loopw [5, 6, 7, 8, 9, 12, 35] (fun _ _ _ _ _ i _ wr => ∃ k : Nat, k ≤ 128 ∧ i = .int .i64 (k : Int) ∧ Shh (Row wr N 24 (pc p) ∧ Row wr (N + 1) 24 (pc fun _ => 0) ∧ Row wr (N + 2) 51 (ic 128 (SE k 0)) ∧ Row wr (N + 3) 51 (ic 128 (SO k 0)) ∧ Below N w wr)) (fun _ _ _ _ _ i _ _ => 128 - (intOf i).toNat)
 case atStart => exact ⟨0, Nat.zero_le _, rfl, HW⟩
 case round =>
  clear HW
  obtain ⟨i, hi, rfl, HI⟩ := hrel
  by_cases hli : i < 128
  ·have hli2 : (i : Int) < 128 := by omega
   have HK := Shh.mk (HRT.out i hli)
   have HG := Shh.mk (HGB.out i)
   have HNX := Shh.mk (H0.out.2.2.1 i)
   clear HRT
   generalize gB i = g at *
   generalize rtN i = rt at *
   obtain ⟨d, Hd⟩ : ∃ d, Shh (d = 2 * i) := ⟨_, ⟨rfl⟩⟩
   obtain ⟨d1, Hd1⟩ : ∃ d1, Shh (d1 = d + 1) := ⟨_, ⟨rfl⟩⟩
   have hd : d < 256 := by have := Hd.out; omega
   have hd1 : d1 < 256 := by have := Hd.out; have := Hd1.out; omega
   rw [← Hd.out, ← Hd1.out] at HNX
   have V3 := Shh.mk (show d ≤ 1000000000000 by omega)
   have V4 := Shh.mk (show d1 = d + 1 ∧ d1 ≤ 1000000000000 from ⟨Hd1.out, by omega⟩)
   have HBD : Shh (p d < 65536 ∧ p d1 < 65536) := ⟨HP.out d hd, HP.out d1 hd1⟩
   go_wp2_with (first | (go_at_call 47; refine (HK.out.1 _).mono ?_) | (go_at_call 48; refine (HK.out.2 _).mono ?_))
   unfold NumIs
   rintro e w2 ⟨rfl, rfl⟩
   go_wp2_with (go_at_call 48; refine (HK.out.2 _).mono ?_)
   unfold NumIs
   rintro e w3 ⟨rfl, rfl⟩
   go_wp2
   obtain ⟨V, hV⟩ : ∃ V, V = World.drew wr := ⟨_, rfl⟩
   have HIV : Shh (Row V N 24 (pc p) ∧ Row V (N + 1) 24 (pc fun _ => 0) ∧ Row V (N + 2) 51 (ic 128 (SE i 0)) ∧ Row V (N + 3) 51 (ic 128 (SO i 0)) ∧ Below N w V) := by subst hV; exact ⟨HI.out.1.drew, HI.out.2.1.drew, HI.out.2.2.1.drew, HI.out.2.2.2.1.drew, HI.out.2.2.2.2.drew⟩
   have HC : Shh (V.cell? ⟨N, d, none⟩ = some (.int .u16 (p d : Int)) ∧ V.cell? ⟨N, d1, none⟩ = some (.int .u16 (p d1 : Int))) := ⟨(HIV.out.1.cell d).trans (pc_get _ hd), (HIV.out.1.cell d1).trans (pc_get _ hd1)⟩
   have HT0 : Shh (p d % 3329 * 3303 % 3329 = tS g (p d) 0 ∧ p d1 % 3329 * 3303 % 3329 = tS g (p d1) 0) := ⟨rfl, rfl⟩
   clear HI
   obtain ⟨A, HA⟩ : ∃ v, Shh (v = p d) := ⟨_, ⟨rfl⟩⟩
   rw [← HA.out] at HC HBD HT0 HNX
   obtain ⟨a, Ha⟩ : ∃ v, Shh (v = A % 3329) := ⟨_, ⟨rfl⟩⟩
   obtain ⟨am, Ham⟩ : ∃ v, Shh (v = a * 3303) := ⟨_, ⟨rfl⟩⟩
   obtain ⟨a0, Ha0⟩ : ∃ v, Shh (v = am % 3329) := ⟨_, ⟨rfl⟩⟩
   rw [← Ha.out, ← Ham.out, ← Ha0.out] at HT0
   have ha : a < 3329 := by rw [Ha.out]; exact Nat.mod_lt _ (by decide)
   have Va : Shh (a < 65536 ∧ am ≤ 1000000000000) := ⟨by omega, by have := Ham.out; omega⟩
   clear ha
   obtain ⟨B, HB⟩ : ∃ v, Shh (v = p d1) := ⟨_, ⟨rfl⟩⟩
   rw [← HB.out] at HC HBD HT0 HNX
   obtain ⟨b, Hb⟩ : ∃ v, Shh (v = B % 3329) := ⟨_, ⟨rfl⟩⟩
   obtain ⟨bm, Hbm⟩ : ∃ v, Shh (v = b * 3303) := ⟨_, ⟨rfl⟩⟩
   obtain ⟨b0, Hb0⟩ : ∃ v, Shh (v = bm % 3329) := ⟨_, ⟨rfl⟩⟩
   rw [← Hb.out, ← Hbm.out, ← Hb0.out] at HT0
   have hb : b < 3329 := by rw [Hb.out]; exact Nat.mod_lt _ (by decide)
   have Vb : Shh (b < 65536 ∧ bm ≤ 1000000000000) := ⟨by omega, by have := Hbm.out; omega⟩
   clear hb
   refine wp_region_held_drew (S := fun w' => w'.cell? ⟨N, d, none⟩ = some (.int .u16 (A : Int)) ∧ w'.cell? ⟨N, d1, none⟩ = some (.int .u16 (B : Int))) (by kernel_rfl) (by rw [← hV]; exact HC.out) (fun hS => ?_)
   clear hS
   rw [← hV]
   have hc := HC.out
   clear hV
   refine hdv0 0 18 (.int .i64 (i : Int)) (by rfl) (hc) ?_
   refine hdv 1 19 (.int .i64 (d : Int)) (by rfl) (fun w hS => mul_iin (i := 2) (j := i) Hd.out V3.out rfl (by kernel_rfl) (by kernel_rfl)) (hc) ?_
   refine hdv 2 20 (.pointer (some ⟨N, d, none⟩)) (by rfl) (fun w hS => at_poly hd rfl (by kernel_rfl) (by kernel_rfl)) (hc) ?_
   refine hdv 3 21 (.int .u16 (A : Int)) (by rfl) (fun w hS => load_u16 rfl hS.1 (by kernel_rfl)) (hc) ?_
   refine hdv 4 22 (.int .u16 (a : Int)) (by rfl) (fun w hS => rem_u16 Ha.out HBD.out.1 rfl (by kernel_rfl)) (hc) ?_
   refine hdv 5 23 (.int .i64 (a : Int)) (by rfl) (fun w hS => conv_ui16 Va.out.1 rfl (by kernel_rfl)) (hc) ?_
   refine hdv 6 24 (.int .i64 (am : Int)) (by rfl) (fun w hS => mul_iin (i := a) (j := 3303) Ham.out Va.out.2 rfl (by kernel_rfl) (by kernel_rfl)) (hc) ?_
   refine hdv 7 25 (.int .i64 (a0 : Int)) (by rfl) (fun w hS => rem_iq Ha0.out Va.out.2 rfl (by kernel_rfl)) (hc) ?_
   refine hdv0 8 26 (.int .i64 (i : Int)) (by rfl) (hc) ?_
   refine hdv 9 27 (.int .i64 (d : Int)) (by rfl) (fun w hS => mul_iin (i := 2) (j := i) Hd.out V3.out rfl (by kernel_rfl) (by kernel_rfl)) (hc) ?_
   refine hdv 10 28 (.int .i64 (d1 : Int)) (by rfl) (fun w hS => add_ii (i := d) (j := 1) V4.out rfl (by kernel_rfl) (by kernel_rfl)) (hc) ?_
   refine hdv 11 29 (.pointer (some ⟨N, d1, none⟩)) (by rfl) (fun w hS => at_poly hd1 rfl (by kernel_rfl) (by kernel_rfl)) (hc) ?_
   refine hdv 12 30 (.int .u16 (B : Int)) (by rfl) (fun w hS => load_u16 rfl hS.2 (by kernel_rfl)) (hc) ?_
   refine hdv 13 31 (.int .u16 (b : Int)) (by rfl) (fun w hS => rem_u16 Hb.out HBD.out.2 rfl (by kernel_rfl)) (hc) ?_
   refine hdv 14 32 (.int .i64 (b : Int)) (by rfl) (fun w hS => conv_ui16 Vb.out.1 rfl (by kernel_rfl)) (hc) ?_
   refine hdv 15 33 (.int .i64 (bm : Int)) (by rfl) (fun w hS => mul_iin (i := b) (j := 3303) Hbm.out Vb.out.2 rfl (by kernel_rfl) (by kernel_rfl)) (hc) ?_
   refine hdv 16 34 (.int .i64 (b0 : Int)) (by rfl) (fun w hS => rem_iq Hb0.out Vb.out.2 rfl (by kernel_rfl)) (hc) ?_
   refine hdv0 17 7 (.int .i64 (a0 : Int)) (by rfl) (hc) ?_
   refine hdv0 18 8 (.int .i64 (b0 : Int)) (by rfl) (hc) ?_
   refine wpAnyH_done (by kernel_rfl) ?_ _
   clear hc HC
   rw [HT0.out.1, HT0.out.2]
   clear HT0 HA HB Ha Hb Ham Hbm Ha0 Hb0 Va Vb
   go_wp2
   go_loopw [7, 8, 9, 35] (fun e f _ c wq => ∃ k : Nat, k ≤ 128 ∧ c = .int .i64 (k : Int) ∧ e = .int .i64 (tS g A k : Int) ∧ f = .int .i64 (tS g B k : Int) ∧ Shh (Row wq N 24 (pc p) ∧ Row wq (N + 1) 24 (pc fun _ => 0) ∧ Row wq (N + 2) 51 (ic 128 (SE i k)) ∧ Row wq (N + 3) 51 (ic 128 (SO i k)) ∧ Below N w wq)) (fun _ _ _ c _ => 128 - (intOf c).toNat)
   case atStart => exact ⟨0, Nat.zero_le _, rfl, rfl, rfl, HIV⟩
   case round =>
    clear HIV
    obtain ⟨k, hk, rfl, rfl, rfl, HI⟩ := hrel
    by_cases hlk : k < 128
    ·have hlk2 : (k : Int) < 128 := by omega
     have HNK := Shh.mk (HNX.out k)
     have HL := Shh.mk (H0.out.2.2.2 i k k (Nat.le_of_lt hli))
     have HTT : Shh (tS g A k < 3329 ∧ tS g B k < 3329 ∧ tS g A (k + 1) = tS g A k * g % 3329 ∧ tS g B (k + 1) = tS g B k * g % 3329) := ⟨tS_lt _ _ _, tS_lt _ _ _, rfl, rfl⟩
     have c1 := HI.out.2.2.1.cell k
     rw [ic_get _ hlk] at c1
     have c2 := HI.out.2.2.2.1.cell k
     rw [ic_get _ hlk] at c2
     obtain ⟨e, He⟩ : ∃ v, Shh (v = tS g A k) := ⟨_, ⟨rfl⟩⟩
     obtain ⟨f, Hf⟩ : ∃ v, Shh (v = tS g B k) := ⟨_, ⟨rfl⟩⟩
     rw [← He.out] at HTT HNK ⊢
     rw [← Hf.out] at HTT HNK ⊢
     obtain ⟨x, Hx⟩ : ∃ v, Shh (v = SE i k k) := ⟨_, ⟨rfl⟩⟩
     rw [← Hx.out] at HNK HL c1
     obtain ⟨y, Hy⟩ : ∃ v, Shh (v = SO i k k) := ⟨_, ⟨rfl⟩⟩
     rw [← Hy.out] at HNK HL c2
     clear He Hf Hx Hy
     obtain ⟨s, Hs⟩ : ∃ v, Shh (v = x + e) := ⟨_, ⟨rfl⟩⟩
     obtain ⟨t, Ht⟩ : ∃ v, Shh (v = y + f) := ⟨_, ⟨rfl⟩⟩
     rw [← Hs.out, ← Ht.out] at HNK
     obtain ⟨eg, Heg⟩ : ∃ v, Shh (v = e * g) := ⟨_, ⟨rfl⟩⟩
     obtain ⟨fg, Hfg⟩ : ∃ v, Shh (v = f * g) := ⟨_, ⟨rfl⟩⟩
     obtain ⟨e2, He2⟩ : ∃ v, Shh (v = eg % 3329) := ⟨_, ⟨rfl⟩⟩
     obtain ⟨f2, Hf2⟩ : ∃ v, Shh (v = fg % 3329) := ⟨_, ⟨rfl⟩⟩
     have VL : Shh ((s = x + e ∧ s ≤ 1000000000000) ∧ (t = y + f ∧ t ≤ 1000000000000) ∧ eg ≤ 1000000000000 ∧ fg ≤ 1000000000000) := by
      obtain ⟨h1, h2, _⟩ := HTT.out
      have h3 := HL.out
      have h4 := Hs.out
      have h5 := Ht.out
      refine ⟨⟨h4, by omega⟩, ⟨h5, by omega⟩, ?_, ?_⟩
      ·rw [Heg.out]; exact Nat.le_trans (Nat.mul_le_mul (Nat.le_of_lt h1) (Nat.le_of_lt HG.out)) (by decide)
      ·rw [Hfg.out]; exact Nat.le_trans (Nat.mul_le_mul (Nat.le_of_lt h2) (Nat.le_of_lt HG.out)) (by decide)
     go_wp2_with (first | refine wl_at 39 rfl (.pointer (some ⟨N + 2, k, none⟩)) rfl (at_128 hlk rfl rfl rfl) ?_ | refine wl_at 40 rfl (.int .i64 (x : Int)) rfl (load_ir rfl c1 rfl) ?_ | refine wl_at 42 rfl (.int .i64 (s : Int)) rfl (add_ii VL.out.1 rfl rfl rfl) ?_ | refine wl_at 43 rfl (.pointer (some ⟨N + 2, k, none⟩)) rfl (at_128 hlk rfl rfl rfl) ?_ | refine wl_storeI rfl hlk rfl rfl rfl HI.out.2.2.1 ?_)
     intro w4 r4 b4 z4
     rw [HNK.out.1] at r4
     have c3 : w4.cell? ⟨N + 3, k, none⟩ = some (.int .i64 (y : Int)) := (b4.cell (p := ⟨N + 3, k, none⟩) HI.out.2.2.2.1.lt (by simp)).trans c2
     have H4 : Shh (Row w4 N 24 (pc p) ∧ Row w4 (N + 1) 24 (pc fun _ => 0) ∧ Row w4 (N + 2) 51 (ic 128 (SE i (k + 1))) ∧ Row w4 (N + 3) 51 (ic 128 (SO i k)) ∧ Below N w w4) := ⟨b4.row HI.out.1 HI.out.1.lt (by omega), b4.row HI.out.2.1 HI.out.2.1.lt (by omega), r4, b4.row HI.out.2.2.2.1 HI.out.2.2.2.1.lt (by omega), HI.out.2.2.2.2.trans (b4.under (Nat.le_of_lt HI.out.1.lt) (by omega))⟩
     clear r4 b4 z4 HI c1 c2
     go_wp2_with (first | refine wl_at 45 rfl (.pointer (some ⟨N + 3, k, none⟩)) rfl (at_128 hlk rfl rfl rfl) ?_ | refine wl_at 46 rfl (.int .i64 (y : Int)) rfl (load_ir rfl c3 rfl) ?_ | refine wl_at 48 rfl (.int .i64 (t : Int)) rfl (add_ii VL.out.2.1 rfl rfl rfl) ?_ | refine wl_at 49 rfl (.pointer (some ⟨N + 3, k, none⟩)) rfl (at_128 hlk rfl rfl rfl) ?_ | refine wl_storeI rfl hlk rfl rfl rfl H4.out.2.2.2.1 ?_)
     intro w5 r5 b5 z5
     rw [HNK.out.2] at r5
     have H5 : Shh (Row w5 N 24 (pc p) ∧ Row w5 (N + 1) 24 (pc fun _ => 0) ∧ Row w5 (N + 2) 51 (ic 128 (SE i (k + 1))) ∧ Row w5 (N + 3) 51 (ic 128 (SO i (k + 1))) ∧ Below N w w5) := ⟨b5.row H4.out.1 H4.out.1.lt (by omega), b5.row H4.out.2.1 H4.out.2.1.lt (by omega), b5.row H4.out.2.2.1 H4.out.2.2.1.lt (by omega), r5, H4.out.2.2.2.2.trans (b5.under (Nat.le_of_lt H4.out.1.lt) (by omega))⟩
     clear r5 b5 z5 H4 c3
     go_wp2_with (first | refine wl_at 52 rfl (.int .i64 (eg : Int)) rfl (mul_iin (i := e) (j := g) Heg.out VL.out.2.2.1 rfl rfl rfl) ?_ | refine wl_at 53 rfl (.int .i64 (e2 : Int)) rfl (rem_iq He2.out VL.out.2.2.1 rfl rfl) ?_ | refine wl_at 56 rfl (.int .i64 (fg : Int)) rfl (mul_iin (i := f) (j := g) Hfg.out VL.out.2.2.2 rfl rfl rfl) ?_ | refine wl_at 57 rfl (.int .i64 (f2 : Int)) rfl (rem_iq Hf2.out VL.out.2.2.2 rfl rfl) ?_)
     go_roundw
     case rel =>
      refine ⟨k + 1, by omega, by go_num, ?_, ?_, H5⟩
      ·rw [HTT.out.2.2.1, ← Heg.out, ← He2.out]
      ·rw [HTT.out.2.2.2, ← Hfg.out, ← Hf2.out]
     case measure => simp [intOf]; omega
    ·have hlk2 : ¬ (k : Int) < 128 := by omega
     rw [show k = 128 by omega, (H0.out.2.1 i).1, (H0.out.2.1 i).2] at HI
     go_wp2
     go_roundw
     case rel => exact ⟨i + 1, by omega, by go_num, HI⟩
     case measure => simp [intOf]; omega
  ·have hli2 : ¬ (i : Int) < 128 := by omega
   rw [show i = 128 by omega] at HI
   go_wp2_with (refine wl_allocP rfl rfl ?_)
   obtain ⟨M, hM⟩ : ∃ M, M = wr.heap.size := ⟨_, rfl⟩
   obtain ⟨W2, hW2⟩ : ∃ W2, W2 = wr.alloc (.cells (pc fun _ => 0).toArray 24) := ⟨_, rfl⟩
   have H2 : Shh ((Row W2 (N + 1) 24 (pc fun _ => 0) ∧ Row W2 (N + 2) 51 (ic 128 (SE 128 0)) ∧ Row W2 (N + 3) 51 (ic 128 (SO 128 0)) ∧ Row W2 M 24 (pc (half r (fun _ => 0) (2 * 0))) ∧ Below N w W2) ∧ N + 3 < M) := by
    rw [Nat.mul_zero, half_zero]
    refine ⟨⟨by rw [hW2]; exact HI.out.2.1.alloc _, by rw [hW2]; exact HI.out.2.2.1.alloc _, by rw [hW2]; exact HI.out.2.2.2.1.alloc _, by rw [hW2]; exact Row.new_ hM rfl, by rw [hW2]; exact HI.out.2.2.2.2.trans ((bel1 _ _).mono (Nat.le_of_lt HI.out.1.lt))⟩, by rw [hM]; exact HI.out.2.2.2.1.lt⟩
   have HMN := Shh.mk H2.out.2
   rw [← hW2, ← hM]
   clear hW2 hM HI HP HRT HGB
   go_wp2
   go_loopw [11, 60] (fun _ c wq => ∃ k : Nat, k ≤ 128 ∧ c = .int .i64 (k : Int) ∧ Shh (Row wq (N + 1) 24 (pc fun _ => 0) ∧ Row wq (N + 2) 51 (ic 128 (SE 128 0)) ∧ Row wq (N + 3) 51 (ic 128 (SO 128 0)) ∧ Row wq M 24 (pc (half r (fun _ => 0) (2 * k))) ∧ Below N w wq)) (fun _ c _ => 128 - (intOf c).toNat)
   case atStart => exact ⟨0, Nat.zero_le _, rfl, ⟨H2.out.1⟩⟩
   case round =>
    clear H2
    obtain ⟨k, hk, rfl, HI⟩ := hrel
    by_cases hlk : k < 128
    ·have hlk2 : (k : Int) < 128 := by omega
     obtain ⟨d, Hd⟩ : ∃ d, Shh (d = 2 * k) := ⟨_, ⟨rfl⟩⟩
     obtain ⟨d1, Hd1⟩ : ∃ d1, Shh (d1 = d + 1) := ⟨_, ⟨rfl⟩⟩
     have hd : d < 256 := by have := Hd.out; omega
     have hd1 : d1 < 256 := by have := Hd.out; have := Hd1.out; omega
     have V3 := Shh.mk (show d ≤ 1000000000000 by omega)
     have V4 := Shh.mk (show d1 = d + 1 ∧ d1 ≤ 1000000000000 from ⟨Hd1.out, by omega⟩)
     have hh := half_two r (fun _ => 0) k
     have HZK := Shh.mk (HZ.out k)
     rw [← Hd.out, ← Hd1.out] at hh HZK
     rw [← Hd.out] at HI
     have HH := Shh.mk hh
     clear hh
     have hM1 : ¬ N + 1 = M := by have := HMN.out; omega
     have hM2 : ¬ N + 2 = M := by have := HMN.out; omega
     have hM3 : ¬ N + 3 = M := by have := HMN.out; omega
     have HL := Shh.mk (H0.out.2.2.2 128 0 k (by omega))
     obtain ⟨V, hV⟩ : ∃ V, V = World.drew wr := ⟨_, rfl⟩
     have HIV : Shh (Row V (N + 1) 24 (pc fun _ => 0) ∧ Row V (N + 2) 51 (ic 128 (SE 128 0)) ∧ Row V (N + 3) 51 (ic 128 (SO 128 0)) ∧ Row V M 24 (pc (half r (fun _ => 0) d)) ∧ Below N w V) := by subst hV; exact ⟨HI.out.1.drew, HI.out.2.1.drew, HI.out.2.2.1.drew, HI.out.2.2.2.1.drew, HI.out.2.2.2.2.drew⟩
     have c1 : V.cell? ⟨N + 2, k, none⟩ = some (.int .i64 (SE 128 0 k : Int)) := (HIV.out.2.1.cell k).trans (ic_get _ hlk)
     have c2 : V.cell? ⟨N + 3, k, none⟩ = some (.int .i64 (SO 128 0 k : Int)) := (HIV.out.2.2.1.cell k).trans (ic_get _ hlk)
     obtain ⟨x, Hx⟩ : ∃ v, Shh (v = SE 128 0 k) := ⟨_, ⟨rfl⟩⟩
     rw [← Hx.out] at c1 HL HZK
     obtain ⟨y, Hy⟩ : ∃ v, Shh (v = SO 128 0 k) := ⟨_, ⟨rfl⟩⟩
     rw [← Hy.out] at c2 HL HZK
     obtain ⟨xm, Hxm⟩ : ∃ v, Shh (v = x % 3329) := ⟨_, ⟨rfl⟩⟩
     obtain ⟨ym, Hym⟩ : ∃ v, Shh (v = y % 3329) := ⟨_, ⟨rfl⟩⟩
     rw [← Hxm.out, ← Hym.out] at HZK
     have hxm : xm < 3329 := by rw [Hxm.out]; exact Nat.mod_lt _ (by decide)
     have hym : ym < 3329 := by rw [Hym.out]; exact Nat.mod_lt _ (by decide)
     have VL : Shh (x ≤ 1000000000000 ∧ y ≤ 1000000000000 ∧ xm < 65536 ∧ ym < 65536) := by
      have h1 := HL.out
      exact ⟨⟨by omega, by omega, by omega, by omega⟩⟩
     clear hxm hym HI HL
     obtain ⟨X1, hX1⟩ : ∃ X, X = V.setCell ⟨M, d, none⟩ (.int .u16 (xm : Int)) := ⟨_, rfl⟩
     have hb1 : But V.heap.size M V X1 := by rw [hX1]; exact (But.refl _ _ _).setCell _ _
     have R1 : Shh (Row X1 (N + 1) 24 (pc fun _ => 0) ∧ Row X1 (N + 2) 51 (ic 128 (SE 128 0)) ∧ Row X1 (N + 3) 51 (ic 128 (SO 128 0)) ∧ Row X1 M 24 (pc (upd (half r (fun _ => 0) d) d xm)) ∧ Below N w X1) := by
      have h := HIV.out.2.2.2.1.set_ d (.int .u16 (xm : Int))
      rw [pc_set, ← hX1] at h
      refine ⟨hb1.row HIV.out.1 HIV.out.1.lt hM1, hb1.row HIV.out.2.1 HIV.out.2.1.lt hM2, hb1.row HIV.out.2.2.1 HIV.out.2.2.1.lt hM3, h, HIV.out.2.2.2.2.trans (hb1.under (by have := HIV.out.1.lt; omega) (by have := HMN.out; omega))⟩
     obtain ⟨X2, hX2⟩ : ∃ X, X = X1.setCell ⟨M, d1, none⟩ (.int .u16 (ym : Int)) := ⟨_, rfl⟩
     have hb2 : But X1.heap.size M X1 X2 := by rw [hX2]; exact (But.refl _ _ _).setCell _ _
     have R2 : Shh (Row X2 (N + 1) 24 (pc fun _ => 0) ∧ Row X2 (N + 2) 51 (ic 128 (SE 128 0)) ∧ Row X2 (N + 3) 51 (ic 128 (SO 128 0)) ∧ Row X2 M 24 (pc (half r (fun _ => 0) (2 * (k + 1)))) ∧ Below N w X2) := by
      have h := R1.out.2.2.2.1.set_ d1 (.int .u16 (ym : Int))
      rw [pc_set, ← hX2, HZK.out.1, HZK.out.2, HH.out] at h
      refine ⟨hb2.row R1.out.1 R1.out.1.lt hM1, hb2.row R1.out.2.1 R1.out.2.1.lt hM2, hb2.row R1.out.2.2.1 R1.out.2.2.1.lt hM3, h, R1.out.2.2.2.2.trans (hb2.under (by have := R1.out.1.lt; omega) (by have := HMN.out; omega))⟩
     have C0 : Shh (V.cell? ⟨N + 2, k, none⟩ = some (.int .i64 (x : Int)) ∧ V.cell? ⟨N + 3, k, none⟩ = some (.int .i64 (y : Int))) := ⟨c1, c2⟩
     have C1 : Shh (X1.cell? ⟨N + 2, k, none⟩ = some (.int .i64 (x : Int)) ∧ X1.cell? ⟨N + 3, k, none⟩ = some (.int .i64 (y : Int))) := ⟨(hb1.cell (p := ⟨N + 2, k, none⟩) HIV.out.2.1.lt hM2).trans c1, (hb1.cell (p := ⟨N + 3, k, none⟩) HIV.out.2.2.1.lt hM3).trans c2⟩
     have C2 : Shh (X2.cell? ⟨N + 2, k, none⟩ = some (.int .i64 (x : Int)) ∧ X2.cell? ⟨N + 3, k, none⟩ = some (.int .i64 (y : Int))) := ⟨(hb2.cell (p := ⟨N + 2, k, none⟩) R1.out.2.1.lt hM2).trans C1.out.1, (hb2.cell (p := ⟨N + 3, k, none⟩) R1.out.2.2.1.lt hM3).trans C1.out.2⟩
     clear hb1 hb2 c1 c2
     go_wp2
     refine wp_region_held_drew (S := fun w' => w'.cell? ⟨N + 2, k, none⟩ = some (.int .i64 (x : Int)) ∧ w'.cell? ⟨N + 3, k, none⟩ = some (.int .i64 (y : Int))) (by kernel_rfl) (by rw [← hV]; exact C0.out) (fun hS => ?_)
     clear hS
     rw [← hV]
     clear hV
     refine hdv0 0 63 (.int .i64 (k : Int)) (by rfl) (C0.out) ?_
     refine hdv 1 64 (.int .i64 (d : Int)) (by rfl) (fun w hS => mul_iin (i := 2) (j := k) Hd.out V3.out rfl (by kernel_rfl) (by kernel_rfl)) (C0.out) ?_
     refine hdv0 2 65 (.int .i64 (k : Int)) (by rfl) (C0.out) ?_
     refine hdv 3 66 (.int .i64 (d : Int)) (by rfl) (fun w hS => mul_iin (i := 2) (j := k) Hd.out V3.out rfl (by kernel_rfl) (by kernel_rfl)) (C0.out) ?_
     refine hdv 4 67 (.int .i64 (d1 : Int)) (by rfl) (fun w hS => add_ii (i := d) (j := 1) V4.out rfl (by kernel_rfl) (by kernel_rfl)) (C0.out) ?_
     refine hdv0 5 68 (.int .i64 (k : Int)) (by rfl) (C0.out) ?_
     refine hdv 6 69 (.pointer (some ⟨N + 2, k, none⟩)) (by rfl) (fun w hS => at_128 hlk rfl (by kernel_rfl) (by kernel_rfl)) (C0.out) ?_
     refine hdv 7 70 (.int .i64 (x : Int)) (by rfl) (fun w hS => load_ir rfl hS.1 (by kernel_rfl)) (C0.out) ?_
     refine hdv 8 71 (.int .i64 (xm : Int)) (by rfl) (fun w hS => rem_iq Hxm.out VL.out.1 rfl (by kernel_rfl)) (C0.out) ?_
     refine hdv 9 72 (.int .u16 (xm : Int)) (by rfl) (fun w hS => conv_iu16 VL.out.2.2.1 rfl (by kernel_rfl)) (C0.out) ?_
     refine hdv0 10 73 (.int .i64 (k : Int)) (by rfl) (C0.out) ?_
     refine hdv 11 74 (.pointer (some ⟨N + 3, k, none⟩)) (by rfl) (fun w hS => at_128 hlk rfl (by kernel_rfl) (by kernel_rfl)) (C0.out) ?_
     refine hdv 12 75 (.int .i64 (y : Int)) (by rfl) (fun w hS => load_ir rfl hS.2 (by kernel_rfl)) (C0.out) ?_
     refine hdv 13 76 (.int .i64 (ym : Int)) (by rfl) (fun w hS => rem_iq Hym.out VL.out.2.1 rfl (by kernel_rfl)) (C0.out) ?_
     refine hdv 14 77 (.int .u16 (ym : Int)) (by rfl) (fun w hS => conv_iu16 VL.out.2.2.2 rfl (by kernel_rfl)) (C0.out) ?_
     refine hdv 15 78 (.pointer (some ⟨M, d, none⟩)) (by rfl) (fun w hS => at_poly hd rfl (by kernel_rfl) (by kernel_rfl)) (C0.out) ?_
     refine held_one 16 (by kernel_rfl) ?_
     refine step_store1 16 _ (by rfl) (by kernel_rfl) X1 (by rw [hX1]; exact run_storeP hd HIV.out.2.2.2.1 rfl (by kernel_rfl) (by kernel_rfl)) ⟨C1.out, ?_⟩
     refine hdv 17 79 (.pointer (some ⟨M, d1, none⟩)) (by rfl) (fun w hS => at_poly hd1 rfl (by kernel_rfl) (by kernel_rfl)) (C1.out) ?_
     refine held_one 18 (by kernel_rfl) ?_
     refine step_store1 18 _ (by rfl) (by kernel_rfl) X2 (by rw [hX2]; exact run_storeP hd1 R1.out.2.2.2.1 rfl (by kernel_rfl) (by kernel_rfl)) ⟨C2.out, ?_⟩
     refine wpAnyH_done (by kernel_rfl) ?_ _
     clear HIV R1 C0 C1 C2
     go_wp2
     go_roundw
     case rel => subst hX2; subst hX1; exact ⟨k + 1, by omega, by go_num, R2⟩
     case measure => simp [intOf]; omega
    ·have hlk2 : ¬ (k : Int) < 128 := by omega
     have HL : Shh (pc (half r (fun _ => 0) (2 * k)) = pc r) := ⟨by rw [show 2 * k = 256 by omega]; exact half_all _ _⟩
     rw [HL.out] at HI
     clear HL
     go_wp2_with (first
      | refine wpList_load_any rfl 24 (.tmp 10) rfl M rfl 24 (pc r) (.array 256 22) HI.out.2.2.2.1 Try.underlying24 rfl (info_poly.trans (size_poly r)) ?_
      | refine wpList_store_any rfl 24 (.tmp 2) (.tmp 81) rfl (N + 1) rfl (pc r) rfl 24 _ HI.out.1 (info_poly.trans (size_poly r)) (by rw [pc_length, pc_length]) (pc_one r) ?_)
     intro w9 hr9 b9 _
     have hb9 := HI.out.2.2.2.2.trans (b9.under (by have := HI.out.1.lt; omega) (by omega))
     go_wp2
     exact ret_row Try.results25 rfl rfl hr9 Try.underlying24 rfl (info_poly.trans (size_poly r)) ⟨rfl, hb9⟩
end Go.Proofs.Ytfcgdjgfdbcddaa
