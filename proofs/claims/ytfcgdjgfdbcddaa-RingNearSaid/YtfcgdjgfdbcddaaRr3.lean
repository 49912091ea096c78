/-
 THE DOCUMENT'S OWN Ntt.
-/
import Derived.Test.YtfcgdjgfdbcddaaRp3
namespace Go.Proofs.Ytfcgdjgfdbcddaa
open Go.RowKit
set_option maxRecDepth 100000
set_option maxHeartbeats 2000000 in
theorem refNtt_any (p : Nat → Nat) (hp : ∀ i, i < 256 → p i < 65536) (w : World) : Calls Try.prog 23 #[polyV p] w (PolyIs w (nttN p)) := by
 unfold PolyIs polyV
 generalize hN : w.heap.size = N at *
 have HP := Shh.mk hp
 have HZ : Shh (∀ k, hz (rtN k) (fun j => p (2 * j)) 128 = nttN p (2 * k) ∧ hz (rtN k) (fun j => p (2 * j + 1)) 128 = nttN p (2 * k + 1)) := ⟨fun k => ⟨hz_even p k, hz_odd p k⟩⟩
 have HRT : Shh (∀ k, k < 128 → rtN k < 3329 ∧ ∀ w, Calls Try.prog 47 #[.int .i64 (k : Int)] w (NumIs w (rtN k))) := ⟨fun k hk => ⟨Nat.mod_lt _ (by decide), fun w => Root_any k hk w⟩⟩
 generalize nttN p = r at *
 clear hp
 go_enter Try.func23, Try.ntmps23
 go_wp2_with (refine wl_allocP rfl rfl ?_)
 obtain ⟨W, hW⟩ : ∃ W, W = ((w.alloc (.cells (pc p).toArray 24)).alloc (.cells (pc fun _ => 0).toArray 24)).alloc (.cells (pc fun _ => 0).toArray 24) := ⟨_, rfl⟩
 have HW : Shh (Row W N 24 (pc p) ∧ Row W (N + 1) 24 (pc fun _ => 0) ∧ Row W (N + 2) 24 (pc fun _ => 0) ∧ Below N w W) := by
  refine ⟨by rw [hW]; exact ((Row.new_ hN.symm rfl).alloc _).alloc _, by rw [hW]; exact (Row.new_ (by rw [asz, hN]) rfl).alloc _, by rw [hW]; exact Row.new_ (by rw [asz, asz, hN]) rfl, ?_⟩
  rw [hW, ← hN]
  exact Below.chain (Below.chain (bel1 _ _) (bel1 _ _)) (bel1 _ _)
 try simp only [asz, hN]
 rw [← hW]
 clear hW
 go_wp2
 go_loopw [4, 5, 6, 7, 8, 9] (fun _ _ _ _ _ i wr => ∃ k : Nat, k ≤ 128 ∧ i = .int .i64 (k : Int) ∧ Shh (Row wr N 24 (pc p) ∧ Row wr (N + 1) 24 (pc fun _ => 0) ∧ Row wr (N + 2) 24 (pc (half r (fun _ => 0) (2 * k))) ∧ Below N w wr)) (fun _ _ _ _ _ i _ => 128 - (intOf i).toNat)
 case atStart => exact ⟨0, Nat.zero_le _, rfl, ⟨by rw [half_zero]; exact HW.out⟩⟩
 case round =>
  clear HW
  obtain ⟨k, hk, rfl, HI⟩ := hrel
  by_cases hlt : k < 128
  ·have hlt2 : (k : Int) < 128 := by omega
   have HK := Shh.mk (HRT.out k hlt)
   have HZK := Shh.mk (HZ.out k)
   clear HZ HRT
   generalize rtN k = g at *
   go_wp2_with (go_at_call 47; refine (HK.out.2 _).mono ?_)
   unfold NumIs
   rintro e w2 ⟨rfl, rfl⟩
   go_wp2
   go_loopw [6, 7, 8] (fun e o c wq => ∃ m : Nat, m ≤ 128 ∧ c = .int .i64 (127 - (m : Int)) ∧ e = .int .i64 (hz g (fun j => p (2 * j)) m : Int) ∧ o = .int .i64 (hz g (fun j => p (2 * j + 1)) m : Int) ∧ wq = wr) (fun _ _ c _ => (intOf c + 1).toNat)
   case atStart => exact ⟨0, Nat.zero_le _, rfl, rfl, rfl, rfl⟩
   case round =>
    obtain ⟨m, hm, rfl, rfl, rfl, rfl⟩ := hrel
    by_cases hlm : m < 128
    ·obtain ⟨j, HJ⟩ : ∃ j : Nat, Shh (j + m = 127) := ⟨127 - m, ⟨by omega⟩⟩
     have e0 : (127 : Int) - (m : Int) = (j : Int) := by have := HJ.out; omega
     have HM1 : Shh (j - 1 + (m + 1) = 127 ∨ j = 0 ∧ m = 127) := ⟨by have := HJ.out; omega⟩
     rw [e0]
     clear e0
     have hj0 : (0 : Int) ≤ (j : Int) := by omega
     obtain ⟨d, Hd⟩ : ∃ d, Shh (d = 2 * j) := ⟨_, ⟨rfl⟩⟩
     obtain ⟨d1, Hd1⟩ : ∃ d1, Shh (d1 = d + 1) := ⟨_, ⟨rfl⟩⟩
     have hj1 : d < 256 := by have := HJ.out; have := Hd.out; omega
     have hj2 : d1 < 256 := by have := HJ.out; have := Hd.out; have := Hd1.out; omega
     have c1 := HI.out.1.cell d
     rw [pc_get _ hj1] at c1
     have c2 := HI.out.1.cell d1
     rw [pc_get _ hj2] at c2
     have HT : Shh (hz g (fun j => p (2 * j)) m < 3329 ∧ hz g (fun j => p (2 * j + 1)) m < 3329 ∧ g < 3329 ∧ p d < 65536 ∧ p d1 < 65536 ∧ hz g (fun j => p (2 * j)) (m + 1) = (hz g (fun j => p (2 * j)) m * g + p d) % 3329 ∧ hz g (fun j => p (2 * j + 1)) (m + 1) = (hz g (fun j => p (2 * j + 1)) m * g + p d1) % 3329) := by
      have e1 : 127 - m = j := by have := HJ.out; omega
      refine ⟨hz_lt _ _ _, hz_lt _ _ _, HK.out.1, HP.out _ hj1, HP.out _ hj2, ?_, ?_⟩
      ·show (hz g (fun j => p (2 * j)) m * g + p (2 * (127 - m))) % 3329 = _
       rw [e1, Hd.out]
      ·show (hz g (fun j => p (2 * j + 1)) m * g + p (2 * (127 - m) + 1)) % 3329 = _
       rw [e1, Hd1.out, Hd.out]
     obtain ⟨e, He⟩ : ∃ e, Shh (e = hz g (fun j => p (2 * j)) m) := ⟨_, ⟨rfl⟩⟩
     obtain ⟨o, Ho⟩ : ∃ o, Shh (o = hz g (fun j => p (2 * j + 1)) m) := ⟨_, ⟨rfl⟩⟩
     rw [← He.out, ← Ho.out] at HT ⊢
     clear He Ho
     obtain ⟨a1, Ha1⟩ : ∃ a1, Shh (a1 = p d) := ⟨_, ⟨rfl⟩⟩
     obtain ⟨a2, Ha2⟩ : ∃ a2, Shh (a2 = p d1) := ⟨_, ⟨rfl⟩⟩
     rw [← Ha1.out] at HT c1
     rw [← Ha2.out] at HT c2
     clear Ha1 Ha2
     obtain ⟨x1, Hx1⟩ : ∃ x1, Shh (x1 = e * g) := ⟨_, ⟨rfl⟩⟩
     obtain ⟨x2, Hx2⟩ : ∃ x2, Shh (x2 = o * g) := ⟨_, ⟨rfl⟩⟩
     have HX : Shh (x1 ≤ 3329 * 3329 ∧ x2 ≤ 3329 * 3329) := ⟨by rw [Hx1.out]; exact Nat.mul_le_mul (Nat.le_of_lt HT.out.1) (Nat.le_of_lt HT.out.2.2.1), by rw [Hx2.out]; exact Nat.mul_le_mul (Nat.le_of_lt HT.out.2.1) (Nat.le_of_lt HT.out.2.2.1)⟩
     obtain ⟨y1, Hy1⟩ : ∃ y1, Shh (y1 = x1 + a1) := ⟨_, ⟨rfl⟩⟩
     obtain ⟨y2, Hy2⟩ : ∃ y2, Shh (y2 = x2 + a2) := ⟨_, ⟨rfl⟩⟩
     have HY : Shh (y1 ≤ 1000000000 ∧ y2 ≤ 1000000000) := ⟨by have := HX.out; have := HT.out; have := Hy1.out; omega, by have := HX.out; have := HT.out; have := Hy2.out; omega⟩
     obtain ⟨z1, Hz1⟩ : ∃ z1, Shh (z1 = y1 % 3329) := ⟨_, ⟨rfl⟩⟩
     obtain ⟨z2, Hz2⟩ : ∃ z2, Shh (z2 = y2 % 3329) := ⟨_, ⟨rfl⟩⟩
     have V1 := Shh.mk (show x1 ≤ 1000000000000 by have := HX.out; omega)
     have V2 := Shh.mk (show x2 ≤ 1000000000000 by have := HX.out; omega)
     have V3 := Shh.mk (show d ≤ 1000000000000 by omega)
     have V4 := Shh.mk (show d1 = d + 1 ∧ d1 ≤ 1000000000000 from ⟨Hd1.out, by omega⟩)
     have V5 := Shh.mk (show y1 = x1 + a1 ∧ y1 ≤ 1000000000000 from ⟨Hy1.out, by have := HY.out; omega⟩)
     have V6 := Shh.mk (show y2 = x2 + a2 ∧ y2 ≤ 1000000000000 from ⟨Hy2.out, by have := HY.out; omega⟩)
     have V7 := Shh.mk (show -1 ≤ (j : Int) ∧ (j : Int) ≤ 1000000 from ⟨by omega, by have := HJ.out; omega⟩)
     go_wp2_with (first | refine wl_at 17 rfl (.int .i64 ((j : Int) - 1)) rfl (dec_i (i := (j : Int)) V7.out rfl rfl) ?_ | refine wl_at 20 rfl (.int .i64 (x1 : Int)) rfl (mul_iin (i := e) (j := g) Hx1.out V1.out rfl rfl rfl) ?_ | refine wl_at 22 rfl (.int .i64 (d : Int)) rfl (mul_iin (i := 2) (j := j) Hd.out V3.out rfl rfl rfl) ?_ | refine wl_at 23 rfl (.pointer (some ⟨N, d, none⟩)) rfl (at_poly hj1 rfl rfl rfl) ?_ | refine wl_at 24 rfl (.int .u16 (a1 : Int)) rfl (load_u16 rfl c1 rfl) ?_ | refine wl_at 25 rfl (.int .i64 (a1 : Int)) rfl (conv_ui16 HT.out.2.2.2.1 rfl rfl) ?_ | refine wl_at 26 rfl (.int .i64 (y1 : Int)) rfl (add_ii (i := x1) (j := a1) V5.out rfl rfl rfl) ?_ | refine wl_at 27 rfl (.int .i64 (z1 : Int)) rfl (rem_iq (n := y1) Hz1.out V5.out.2 rfl rfl) ?_ | refine wl_at 30 rfl (.int .i64 (x2 : Int)) rfl (mul_iin (i := o) (j := g) Hx2.out V2.out rfl rfl rfl) ?_ | refine wl_at 32 rfl (.int .i64 (d : Int)) rfl (mul_iin (i := 2) (j := j) Hd.out V3.out rfl rfl rfl) ?_ | refine wl_at 33 rfl (.int .i64 (d1 : Int)) rfl (add_ii (i := d) (j := 1) V4.out rfl rfl rfl) ?_ | refine wl_at 34 rfl (.pointer (some ⟨N, d1, none⟩)) rfl (at_poly hj2 rfl rfl rfl) ?_ | refine wl_at 35 rfl (.int .u16 (a2 : Int)) rfl (load_u16 rfl c2 rfl) ?_ | refine wl_at 36 rfl (.int .i64 (a2 : Int)) rfl (conv_ui16 HT.out.2.2.2.2.1 rfl rfl) ?_ | refine wl_at 37 rfl (.int .i64 (y2 : Int)) rfl (add_ii (i := x2) (j := a2) V6.out rfl rfl rfl) ?_ | refine wl_at 38 rfl (.int .i64 (z2 : Int)) rfl (rem_iq (n := y2) Hz2.out V6.out.2 rfl rfl) ?_)
     go_roundw
     case rel =>
      refine ⟨m + 1, by omega, ?_, ?_, ?_, trivial⟩
      ·congr 1; have := HJ.out; omega
      ·rw [HT.out.2.2.2.2.2.1, ← Hx1.out, ← Hy1.out, ← Hz1.out]
      ·rw [HT.out.2.2.2.2.2.2, ← Hx2.out, ← Hy2.out, ← Hz2.out]
     case measure => simp [intOf]
    ·have HM : Shh (hz g (fun j => p (2 * j)) m = r (2 * k) ∧ hz g (fun j => p (2 * j + 1)) m = r (2 * k + 1) ∧ hz g (fun j => p (2 * j)) m < 3329 ∧ hz g (fun j => p (2 * j + 1)) m < 3329) := ⟨by rw [show m = 128 by omega]; exact HZK.out.1, by rw [show m = 128 by omega]; exact HZK.out.2, hz_lt _ _ _, hz_lt _ _ _⟩
     have hneg : ¬ (0 : Int) ≤ 127 - (m : Int) := by omega
     generalize hz g (fun j => p (2 * j)) m = e at *
     generalize hz g (fun j => p (2 * j + 1)) m = o at *
     obtain ⟨d, Hd⟩ : ∃ d, Shh (d = 2 * k) := ⟨_, ⟨rfl⟩⟩
     obtain ⟨d1, Hd1⟩ : ∃ d1, Shh (d1 = d + 1) := ⟨_, ⟨rfl⟩⟩
     have hk1 : d < 256 := by have := Hd.out; omega
     have hk2 : d1 < 256 := by have := Hd.out; have := Hd1.out; omega
     have V3 := Shh.mk (show d ≤ 1000000000000 by omega)
     have V4 := Shh.mk (show d1 = d + 1 ∧ d1 ≤ 1000000000000 from ⟨Hd1.out, by omega⟩)
     have V5 := Shh.mk (show e < 65536 ∧ o < 65536 by have := HM.out; omega)
     go_wp2_with (first | refine wl_at 40 rfl (.int .i64 (d : Int)) rfl (mul_iin (i := 2) (j := k) Hd.out V3.out rfl rfl rfl) ?_ | refine wl_at 42 rfl (.int .i64 (d : Int)) rfl (mul_iin (i := 2) (j := k) Hd.out V3.out rfl rfl rfl) ?_ | refine wl_at 43 rfl (.int .i64 (d1 : Int)) rfl (add_ii (i := d) (j := 1) V4.out rfl rfl rfl) ?_ | refine wl_at 45 rfl (.int .u16 (e : Int)) rfl (conv_iu16 V5.out.1 rfl rfl) ?_ | refine wl_at 47 rfl (.int .u16 (o : Int)) rfl (conv_iu16 V5.out.2 rfl rfl) ?_ | refine wl_at 48 rfl (.pointer (some ⟨N + 2, d, none⟩)) rfl (at_poly hk1 rfl rfl rfl) ?_ | refine wl_storeP rfl hk1 rfl rfl rfl HI.out.2.2.1 ?_)
     intro w3 r3 b3 z3
     have HI3 : Shh (Row w3 (N + 2) 24 (pc (upd (half r (fun _ => 0) (2 * k)) d e)) ∧ Row w3 N 24 (pc p) ∧ Row w3 (N + 1) 24 (pc fun _ => 0) ∧ Below N w w3) := ⟨r3, b3.row HI.out.1 HI.out.1.lt (by omega), b3.row HI.out.2.1 HI.out.2.1.lt (by omega), HI.out.2.2.2.trans (b3.under (Nat.le_of_lt HI.out.1.lt) (by omega))⟩
     clear r3 b3 z3 HI
     go_wp2_with (first | refine wl_at 49 rfl (.pointer (some ⟨N + 2, d1, none⟩)) rfl (at_poly hk2 rfl rfl rfl) ?_ | refine wl_storeP rfl hk2 rfl rfl rfl HI3.out.1 ?_)
     intro w4 r4 b4 z4
     rw [HM.out.1, HM.out.2.1, Hd1.out, Hd.out, half_two] at r4
     have HI4 : Shh (Row w4 N 24 (pc p) ∧ Row w4 (N + 1) 24 (pc fun _ => 0) ∧ Row w4 (N + 2) 24 (pc (half r (fun _ => 0) (2 * (k + 1)))) ∧ Below N w w4) := ⟨b4.row HI3.out.2.1 HI3.out.2.1.lt (by omega), b4.row HI3.out.2.2.1 HI3.out.2.2.1.lt (by omega), r4, HI3.out.2.2.2.trans (b4.under (Nat.le_of_lt HI3.out.2.1.lt) (by omega))⟩
     clear r4 b4 z4 HI3
     go_wp2
     go_roundw
     case rel => exact ⟨k + 1, by omega, by go_num, HI4⟩
     case measure => simp [intOf]; omega
  ·have hlt2 : ¬ (k : Int) < 128 := by omega
   have HL : Shh (pc (half r (fun _ => 0) (2 * k)) = pc r) := ⟨by rw [show 2 * k = 256 by omega]; exact half_all _ _⟩
   rw [HL.out] at HI
   clear HL HP
   go_wp2_with (first
    | refine wpList_load_any rfl 24 (.tmp 3) rfl (N + 2) rfl 24 (pc r) (.array 256 22) HI.out.2.2.1 Try.underlying24 rfl (info_poly.trans (size_poly r)) ?_
    | refine wpList_store_any rfl 24 (.tmp 2) (.tmp 51) rfl (N + 1) rfl (pc r) rfl 24 _ HI.out.2.1 (info_poly.trans (size_poly r)) (by rw [pc_length, pc_length]) (pc_one r) ?_)
   intro w9 hr9 b9 _
   have hb9 := HI.out.2.2.2.trans (b9.under (Nat.le_of_lt HI.out.1.lt) (by omega))
   go_wp2
   exact ret_row Try.results23 rfl rfl hr9 Try.underlying24 rfl (info_poly.trans (size_poly r)) ⟨rfl, hb9⟩
end Go.Proofs.Ytfcgdjgfdbcddaa
