/-
 THE DOCUMENT'S OWN MulNtt.
-/
import Derived.Test.YtfcgdjgfdbcddaaRr3
namespace Go.Proofs.Ytfcgdjgfdbcddaa
open Go.RowKit
set_option maxRecDepth 100000
theorem pair_e (p r : Nat → Nat) (k : Nat) : (p (2 * k) % 3329 * (r (2 * k) % 3329) + p (2 * k + 1) % 3329 * (r (2 * k + 1) % 3329) % 3329 * rtN k) % 3329 = pairN p r (2 * k) := by
 unfold pairN
 rw [if_pos (by omega), show 2 * k / 2 = k by omega, ← rd_same]
 refine rd_of ?_
 rw [Int.natCast_add, Int.natCast_mul, Int.natCast_mul]
 refine ((rM_nat _).mul (rM_nat _)).add ?_
 refine ((rM_nat _).mul (rM.of rfl)).trans ?_
 rw [Int.natCast_mul]
 refine (((rM_nat _).mul (rM_nat _)).mul (rM.of rfl)).trans (rM.of (Int.mul_comm _ _))
theorem pair_o (p r : Nat → Nat) (k : Nat) : (p (2 * k) % 3329 * (r (2 * k + 1) % 3329) + p (2 * k + 1) % 3329 * (r (2 * k) % 3329)) % 3329 = pairN p r (2 * k + 1) := by
 unfold pairN
 rw [if_neg (by omega), show (2 * k + 1) / 2 = k by omega, ← rd_same]
 refine rd_of ?_
 rw [Int.natCast_add, Int.natCast_mul, Int.natCast_mul]
 exact ((rM_nat _).mul (rM_nat _)).add ((rM_nat _).mul (rM_nat _))
set_option maxHeartbeats 2000000 in
theorem refMulNtt_any (p p2 : Nat → Nat) (hp : ∀ i, i < 256 → p i < 65536) (hp2 : ∀ i, i < 256 → p2 i < 65536) (w : World) : Calls Try.prog 27 #[polyV p, polyV p2] w (PolyIs w (pairN p p2)) := by
 unfold PolyIs polyV
 generalize hN : w.heap.size = N at *
 have HP := Shh.mk (And.intro hp hp2)
 have HZ : Shh (∀ k, (p (2 * k) % 3329 * (p2 (2 * k) % 3329) + p (2 * k + 1) % 3329 * (p2 (2 * k + 1) % 3329) % 3329 * rtN k) % 3329 = pairN p p2 (2 * k) ∧ (p (2 * k) % 3329 * (p2 (2 * k + 1) % 3329) + p (2 * k + 1) % 3329 * (p2 (2 * k) % 3329)) % 3329 = pairN p p2 (2 * k + 1)) := ⟨fun k => ⟨pair_e p p2 k, pair_o p p2 k⟩⟩
 have HRT : Shh (∀ k, k < 128 → rtN k < 3329 ∧ ∀ w, Calls Try.prog 47 #[.int .i64 (k : Int)] w (NumIs w (rtN k))) := ⟨fun k hk => ⟨Nat.mod_lt _ (by decide), fun w => Root_any k hk w⟩⟩
 generalize pairN p p2 = r at *
 clear hp hp2
 go_enter Try.func27, Try.ntmps27
 go_wp2_with (refine wl_allocP rfl rfl ?_)
 obtain ⟨W, hW⟩ : ∃ W, W = (((w.alloc (.cells (pc p).toArray 24)).alloc (.cells (pc p2).toArray 24)).alloc (.cells (pc fun _ => 0).toArray 24)).alloc (.cells (pc fun _ => 0).toArray 24) := ⟨_, rfl⟩
 have HW : Shh (Row W N 24 (pc p) ∧ Row W (N + 1) 24 (pc p2) ∧ Row W (N + 2) 24 (pc fun _ => 0) ∧ Row W (N + 3) 24 (pc fun _ => 0) ∧ Below N w W) := by
  refine ⟨by rw [hW]; exact (((Row.new_ hN.symm rfl).alloc _).alloc _).alloc _, by rw [hW]; exact ((Row.new_ (by rw [asz, hN]) rfl).alloc _).alloc _, by rw [hW]; exact (Row.new_ (by rw [asz, asz, hN]) rfl).alloc _, by rw [hW]; exact Row.new_ (by rw [asz, asz, asz, hN]) rfl, ?_⟩
  rw [hW, ← hN]
  exact Below.chain (Below.chain (Below.chain (bel1 _ _) (bel1 _ _)) (bel1 _ _)) (bel1 _ _)
 try simp only [asz, hN]
 rw [← hW]
 clear hW
 go_wp2
 go_loopw [6, 7, 8, 9, 10, 11] (fun _ _ _ _ _ i wr => ∃ k : Nat, k ≤ 128 ∧ i = .int .i64 (k : Int) ∧ Shh (Row wr N 24 (pc p) ∧ Row wr (N + 1) 24 (pc p2) ∧ Row wr (N + 2) 24 (pc fun _ => 0) ∧ Row wr (N + 3) 24 (pc (half r (fun _ => 0) (2 * k))) ∧ Below N w wr)) (fun _ _ _ _ _ i _ => 128 - (intOf i).toNat)
 case atStart => exact ⟨0, Nat.zero_le _, rfl, ⟨by rw [half_zero]; exact HW.out⟩⟩
 case round =>
  clear HW
  obtain ⟨k, hk, rfl, HI⟩ := hrel
  by_cases hlt : k < 128
  ·have hlt2 : (k : Int) < 128 := by omega
   have HK := Shh.mk (HRT.out k hlt)
   have HZK := Shh.mk (HZ.out k)
   clear HZ HRT
   obtain ⟨d, Hd⟩ : ∃ d, Shh (d = 2 * k) := ⟨_, ⟨rfl⟩⟩
   obtain ⟨d1, Hd1⟩ : ∃ d1, Shh (d1 = d + 1) := ⟨_, ⟨rfl⟩⟩
   have hd : d < 256 := by have := Hd.out; omega
   have hd1 : d1 < 256 := by have := Hd.out; have := Hd1.out; omega
   have hh := half_two r (fun _ => 0) k
   rw [← Hd.out, ← Hd1.out] at HZK hh
   rw [← Hd.out] at HI
   have HH := Shh.mk hh
   clear hh
   obtain ⟨V, hV⟩ : ∃ V, V = World.drew wr := ⟨_, rfl⟩
   have HC : Shh (V.cell? ⟨N, d, none⟩ = some (.int .u16 (p d : Int)) ∧ V.cell? ⟨N, d1, none⟩ = some (.int .u16 (p d1 : Int)) ∧ V.cell? ⟨N + 1, d, none⟩ = some (.int .u16 (p2 d : Int)) ∧ V.cell? ⟨N + 1, d1, none⟩ = some (.int .u16 (p2 d1 : Int))) := by
    subst hV
    exact ⟨(HI.out.1.drew.cell d).trans (pc_get _ hd), (HI.out.1.drew.cell d1).trans (pc_get _ hd1), (HI.out.2.1.drew.cell d).trans (pc_get _ hd), (HI.out.2.1.drew.cell d1).trans (pc_get _ hd1)⟩
   have HIV : Shh (Row V N 24 (pc p) ∧ Row V (N + 1) 24 (pc p2) ∧ Row V (N + 2) 24 (pc fun _ => 0) ∧ Row V (N + 3) 24 (pc (half r (fun _ => 0) d)) ∧ Below N w V) := by
    subst hV
    exact ⟨HI.out.1.drew, HI.out.2.1.drew, HI.out.2.2.1.drew, HI.out.2.2.2.1.drew, HI.out.2.2.2.2.drew⟩
   have HB : Shh (p d < 65536 ∧ p d1 < 65536 ∧ p2 d < 65536 ∧ p2 d1 < 65536) := ⟨HP.out.1 d hd, HP.out.1 d1 hd1, HP.out.2 d hd, HP.out.2 d1 hd1⟩
   clear HI
   generalize rtN k = g at *
   have V3 := Shh.mk (show d ≤ 1000000000000 by omega)
   have V4 := Shh.mk (show d1 = d + 1 ∧ d1 ≤ 1000000000000 from ⟨Hd1.out, by omega⟩)
   obtain ⟨A0, HA0⟩ : ∃ v, Shh (v = p d) := ⟨_, ⟨rfl⟩⟩
   rw [← HA0.out] at HC HB HZK
   clear HA0
   obtain ⟨a0, Ha0⟩ : ∃ v, Shh (v = A0 % 3329) := ⟨_, ⟨rfl⟩⟩
   rw [← Ha0.out] at HZK
   obtain ⟨A1, HA1⟩ : ∃ v, Shh (v = p d1) := ⟨_, ⟨rfl⟩⟩
   rw [← HA1.out] at HC HB HZK
   clear HA1
   obtain ⟨a1, Ha1⟩ : ∃ v, Shh (v = A1 % 3329) := ⟨_, ⟨rfl⟩⟩
   rw [← Ha1.out] at HZK
   obtain ⟨B0, HB0⟩ : ∃ v, Shh (v = p2 d) := ⟨_, ⟨rfl⟩⟩
   rw [← HB0.out] at HC HB HZK
   clear HB0
   obtain ⟨b0, Hb0⟩ : ∃ v, Shh (v = B0 % 3329) := ⟨_, ⟨rfl⟩⟩
   rw [← Hb0.out] at HZK
   obtain ⟨B1, HB1⟩ : ∃ v, Shh (v = p2 d1) := ⟨_, ⟨rfl⟩⟩
   rw [← HB1.out] at HC HB HZK
   clear HB1
   obtain ⟨b1, Hb1⟩ : ∃ v, Shh (v = B1 % 3329) := ⟨_, ⟨rfl⟩⟩
   rw [← Hb1.out] at HZK
   have HM : Shh (a0 < 3329 ∧ a1 < 3329 ∧ b0 < 3329 ∧ b1 < 3329) := ⟨by rw [Ha0.out]; exact Nat.mod_lt _ (by decide), by rw [Ha1.out]; exact Nat.mod_lt _ (by decide), by rw [Hb0.out]; exact Nat.mod_lt _ (by decide), by rw [Hb1.out]; exact Nat.mod_lt _ (by decide)⟩
   have U0 := Shh.mk (show a0 < 65536 ∧ a1 < 65536 ∧ b0 < 65536 ∧ b1 < 65536 by have := HM.out; omega)
   go_wp2
   refine wp_region_held_drew (S := fun w' => w'.cell? ⟨N, d, none⟩ = some (.int .u16 (A0 : Int)) ∧ w'.cell? ⟨N, d1, none⟩ = some (.int .u16 (A1 : Int)) ∧ w'.cell? ⟨N + 1, d, none⟩ = some (.int .u16 (B0 : Int)) ∧ w'.cell? ⟨N + 1, d1, none⟩ = some (.int .u16 (B1 : Int))) (by kernel_rfl) (by rw [← hV]; exact HC.out) (fun hS => ?_)
   clear hS
   rw [← hV]
   have hc := HC.out
   clear hV
   refine hdv0 0 14 (.int .i64 (k : Int)) (by rfl) (hc) ?_
   refine hdv 1 15 (.int .i64 (d : Int)) (by rfl) (fun w hS => mul_iin (i := 2) (j := k) Hd.out V3.out rfl (by kernel_rfl) (by kernel_rfl)) (hc) ?_
   refine hdv 2 16 (.pointer (some ⟨N, d, none⟩)) (by rfl) (fun w hS => at_poly hd rfl (by kernel_rfl) (by kernel_rfl)) (hc) ?_
   refine hdv 3 17 (.int .u16 (A0 : Int)) (by rfl) (fun w hS => load_u16 rfl hS.1 (by kernel_rfl)) (hc) ?_
   refine hdv 4 18 (.int .u16 (a0 : Int)) (by rfl) (fun w hS => rem_u16 Ha0.out HB.out.1 rfl (by kernel_rfl)) (hc) ?_
   refine hdv 5 19 (.int .i64 (a0 : Int)) (by rfl) (fun w hS => conv_ui16 U0.out.1 rfl (by kernel_rfl)) (hc) ?_
   refine hdv0 6 20 (.int .i64 (k : Int)) (by rfl) (hc) ?_
   refine hdv 7 21 (.int .i64 (d : Int)) (by rfl) (fun w hS => mul_iin (i := 2) (j := k) Hd.out V3.out rfl (by kernel_rfl) (by kernel_rfl)) (hc) ?_
   refine hdv 8 22 (.int .i64 (d1 : Int)) (by rfl) (fun w hS => add_ii (i := d) (j := 1) V4.out rfl (by kernel_rfl) (by kernel_rfl)) (hc) ?_
   refine hdv 9 23 (.pointer (some ⟨N, d1, none⟩)) (by rfl) (fun w hS => at_poly hd1 rfl (by kernel_rfl) (by kernel_rfl)) (hc) ?_
   refine hdv 10 24 (.int .u16 (A1 : Int)) (by rfl) (fun w hS => load_u16 rfl hS.2.1 (by kernel_rfl)) (hc) ?_
   refine hdv 11 25 (.int .u16 (a1 : Int)) (by rfl) (fun w hS => rem_u16 Ha1.out HB.out.2.1 rfl (by kernel_rfl)) (hc) ?_
   refine hdv 12 26 (.int .i64 (a1 : Int)) (by rfl) (fun w hS => conv_ui16 U0.out.2.1 rfl (by kernel_rfl)) (hc) ?_
   refine hdv0 13 27 (.int .i64 (k : Int)) (by rfl) (hc) ?_
   refine hdv 14 28 (.int .i64 (d : Int)) (by rfl) (fun w hS => mul_iin (i := 2) (j := k) Hd.out V3.out rfl (by kernel_rfl) (by kernel_rfl)) (hc) ?_
   refine hdv 15 29 (.pointer (some ⟨N + 1, d, none⟩)) (by rfl) (fun w hS => at_poly hd rfl (by kernel_rfl) (by kernel_rfl)) (hc) ?_
   refine hdv 16 30 (.int .u16 (B0 : Int)) (by rfl) (fun w hS => load_u16 rfl hS.2.2.1 (by kernel_rfl)) (hc) ?_
   refine hdv 17 31 (.int .u16 (b0 : Int)) (by rfl) (fun w hS => rem_u16 Hb0.out HB.out.2.2.1 rfl (by kernel_rfl)) (hc) ?_
   refine hdv 18 32 (.int .i64 (b0 : Int)) (by rfl) (fun w hS => conv_ui16 U0.out.2.2.1 rfl (by kernel_rfl)) (hc) ?_
   refine hdv0 19 33 (.int .i64 (k : Int)) (by rfl) (hc) ?_
   refine hdv 20 34 (.int .i64 (d : Int)) (by rfl) (fun w hS => mul_iin (i := 2) (j := k) Hd.out V3.out rfl (by kernel_rfl) (by kernel_rfl)) (hc) ?_
   refine hdv 21 35 (.int .i64 (d1 : Int)) (by rfl) (fun w hS => add_ii (i := d) (j := 1) V4.out rfl (by kernel_rfl) (by kernel_rfl)) (hc) ?_
   refine hdv 22 36 (.pointer (some ⟨N + 1, d1, none⟩)) (by rfl) (fun w hS => at_poly hd1 rfl (by kernel_rfl) (by kernel_rfl)) (hc) ?_
   refine hdv 23 37 (.int .u16 (B1 : Int)) (by rfl) (fun w hS => load_u16 rfl hS.2.2.2 (by kernel_rfl)) (hc) ?_
   refine hdv 24 38 (.int .u16 (b1 : Int)) (by rfl) (fun w hS => rem_u16 Hb1.out HB.out.2.2.2 rfl (by kernel_rfl)) (hc) ?_
   refine hdv 25 39 (.int .i64 (b1 : Int)) (by rfl) (fun w hS => conv_ui16 U0.out.2.2.2 rfl (by kernel_rfl)) (hc) ?_
   refine hdv0 26 7 (.int .i64 (a0 : Int)) (by rfl) (hc) ?_
   refine hdv0 27 8 (.int .i64 (a1 : Int)) (by rfl) (hc) ?_
   refine hdv0 28 9 (.int .i64 (b0 : Int)) (by rfl) (hc) ?_
   refine hdv0 29 10 (.int .i64 (b1 : Int)) (by rfl) (hc) ?_
   refine wpAnyH_done (by kernel_rfl) ?_ _
   clear hc HC
   obtain ⟨m1, Hm1⟩ : ∃ v, Shh (v = a0 * b0) := ⟨_, ⟨rfl⟩⟩
   obtain ⟨m2, Hm2⟩ : ∃ v, Shh (v = a1 * b1) := ⟨_, ⟨rfl⟩⟩
   obtain ⟨m3, Hm3⟩ : ∃ v, Shh (v = m2 % 3329) := ⟨_, ⟨rfl⟩⟩
   obtain ⟨m4, Hm4⟩ : ∃ v, Shh (v = m3 * g) := ⟨_, ⟨rfl⟩⟩
   obtain ⟨m5, Hm5⟩ : ∃ v, Shh (v = a0 * b1) := ⟨_, ⟨rfl⟩⟩
   obtain ⟨m6, Hm6⟩ : ∃ v, Shh (v = a1 * b0) := ⟨_, ⟨rfl⟩⟩
   have L : Shh (m1 ≤ 3329 * 3329 ∧ m2 ≤ 3329 * 3329 ∧ m4 ≤ 3329 * 3329 ∧ m5 ≤ 3329 * 3329 ∧ m6 ≤ 3329 * 3329) := by
    obtain ⟨h1, h2, h3, h4⟩ := HM.out
    have h5 := HK.out.1
    have h6 : m3 < 3329 := by rw [Hm3.out]; exact Nat.mod_lt _ (by decide)
    exact ⟨by rw [Hm1.out]; exact Nat.mul_le_mul (Nat.le_of_lt h1) (Nat.le_of_lt h3), by rw [Hm2.out]; exact Nat.mul_le_mul (Nat.le_of_lt h2) (Nat.le_of_lt h4), by rw [Hm4.out]; exact Nat.mul_le_mul (Nat.le_of_lt h6) (Nat.le_of_lt h5), by rw [Hm5.out]; exact Nat.mul_le_mul (Nat.le_of_lt h1) (Nat.le_of_lt h4), by rw [Hm6.out]; exact Nat.mul_le_mul (Nat.le_of_lt h2) (Nat.le_of_lt h3)⟩
   obtain ⟨s1, Hs1⟩ : ∃ v, Shh (v = m1 + m4) := ⟨_, ⟨rfl⟩⟩
   obtain ⟨s2, Hs2⟩ : ∃ v, Shh (v = m5 + m6) := ⟨_, ⟨rfl⟩⟩
   obtain ⟨t1, Ht1⟩ : ∃ v, Shh (v = s1 % 3329) := ⟨_, ⟨rfl⟩⟩
   obtain ⟨t2, Ht2⟩ : ∃ v, Shh (v = s2 % 3329) := ⟨_, ⟨rfl⟩⟩
   have L2 : Shh ((m1 ≤ 1000000000000 ∧ m2 ≤ 1000000000000 ∧ m4 ≤ 1000000000000 ∧ m5 ≤ 1000000000000 ∧ m6 ≤ 1000000000000) ∧ (s1 = m1 + m4 ∧ s1 ≤ 1000000000000) ∧ (s2 = m5 + m6 ∧ s2 ≤ 1000000000000) ∧ t1 < 65536 ∧ t2 < 65536) := by
    have h := L.out
    have h1 := Hs1.out
    have h2 := Hs2.out
    have h3 := Ht1.out
    have h4 := Ht2.out
    obtain ⟨q1, q2, q3, q4, q5⟩ := h
    refine ⟨⟨?_, ?_, ?_, ?_, ?_⟩, ⟨h1, ?_⟩, ⟨h2, ?_⟩, ?_, ?_⟩ <;> omega
   have HF : Shh (t1 = r d ∧ t2 = r d1) := ⟨by rw [Ht1.out, Hs1.out, Hm1.out, Hm4.out, Hm3.out, Hm2.out]; exact HZK.out.1, by rw [Ht2.out, Hs2.out, Hm5.out, Hm6.out]; exact HZK.out.2⟩
   go_wp2_with (first | (go_at_call 47; refine (HK.out.2 _).mono ?_) | refine wl_at 41 rfl (.int .i64 (d : Int)) rfl (mul_iin (i := 2) (j := k) Hd.out V3.out rfl rfl rfl) ?_ | refine wl_at 44 rfl (.int .i64 (m1 : Int)) rfl (mul_iin (i := a0) (j := b0) Hm1.out L2.out.1.1 rfl rfl rfl) ?_ | refine wl_at 47 rfl (.int .i64 (m2 : Int)) rfl (mul_iin (i := a1) (j := b1) Hm2.out L2.out.1.2.1 rfl rfl rfl) ?_ | refine wl_at 48 rfl (.int .i64 (m3 : Int)) rfl (rem_iq Hm3.out L2.out.1.2.1 rfl rfl) ?_)
   unfold NumIs
   rintro e w3 ⟨rfl, rfl⟩
   go_wp2_with (first | refine wl_at 51 rfl (.int .i64 (m4 : Int)) rfl (mul_iin (i := m3) (j := g) Hm4.out L2.out.1.2.2.1 rfl rfl rfl) ?_ | refine wl_at 52 rfl (.int .i64 (s1 : Int)) rfl (add_ii (i := m1) (j := m4) L2.out.2.1 rfl rfl rfl) ?_ | refine wl_at 53 rfl (.int .i64 (t1 : Int)) rfl (rem_iq Ht1.out L2.out.2.1.2 rfl rfl) ?_ | refine wl_at 54 rfl (.int .u16 (t1 : Int)) rfl (conv_iu16 L2.out.2.2.2.1 rfl rfl) ?_ | refine wl_at 55 rfl (.pointer (some ⟨N + 3, d, none⟩)) rfl (at_poly hd rfl rfl rfl) ?_ | refine wl_storeP rfl hd rfl rfl rfl HIV.out.2.2.2.1 ?_)
   intro w4 r4 b4 z4
   have H4 : Shh (Row w4 N 24 (pc p) ∧ Row w4 (N + 1) 24 (pc p2) ∧ Row w4 (N + 2) 24 (pc fun _ => 0) ∧ Row w4 (N + 3) 24 (pc (upd (half r (fun _ => 0) d) d t1)) ∧ Below N w w4) := ⟨b4.row HIV.out.1 HIV.out.1.lt (by omega), b4.row HIV.out.2.1 HIV.out.2.1.lt (by omega), b4.row HIV.out.2.2.1 HIV.out.2.2.1.lt (by omega), r4, HIV.out.2.2.2.2.trans (b4.under (Nat.le_of_lt HIV.out.1.lt) (by omega))⟩
   clear r4 b4 z4 HIV
   go_wp2_with (first | refine wl_at 57 rfl (.int .i64 (d : Int)) rfl (mul_iin (i := 2) (j := k) Hd.out V3.out rfl rfl rfl) ?_ | refine wl_at 58 rfl (.int .i64 (d1 : Int)) rfl (add_ii (i := d) (j := 1) V4.out rfl rfl rfl) ?_ | refine wl_at 61 rfl (.int .i64 (m5 : Int)) rfl (mul_iin (i := a0) (j := b1) Hm5.out L2.out.1.2.2.2.1 rfl rfl rfl) ?_ | refine wl_at 64 rfl (.int .i64 (m6 : Int)) rfl (mul_iin (i := a1) (j := b0) Hm6.out L2.out.1.2.2.2.2 rfl rfl rfl) ?_ | refine wl_at 65 rfl (.int .i64 (s2 : Int)) rfl (add_ii (i := m5) (j := m6) L2.out.2.2.1 rfl rfl rfl) ?_ | refine wl_at 66 rfl (.int .i64 (t2 : Int)) rfl (rem_iq Ht2.out L2.out.2.2.1.2 rfl rfl) ?_ | refine wl_at 67 rfl (.int .u16 (t2 : Int)) rfl (conv_iu16 L2.out.2.2.2.2 rfl rfl) ?_ | refine wl_at 68 rfl (.pointer (some ⟨N + 3, d1, none⟩)) rfl (at_poly hd1 rfl rfl rfl) ?_ | refine wl_storeP rfl hd1 rfl rfl rfl H4.out.2.2.2.1 ?_)
   intro w5 r5 b5 z5
   rw [HF.out.1, HF.out.2, HH.out] at r5
   have H5 : Shh (Row w5 N 24 (pc p) ∧ Row w5 (N + 1) 24 (pc p2) ∧ Row w5 (N + 2) 24 (pc fun _ => 0) ∧ Row w5 (N + 3) 24 (pc (half r (fun _ => 0) (2 * (k + 1)))) ∧ Below N w w5) := ⟨b5.row H4.out.1 H4.out.1.lt (by omega), b5.row H4.out.2.1 H4.out.2.1.lt (by omega), b5.row H4.out.2.2.1 H4.out.2.2.1.lt (by omega), r5, H4.out.2.2.2.2.trans (b5.under (Nat.le_of_lt H4.out.1.lt) (by omega))⟩
   clear r5 b5 z5 H4
   go_wp2
   go_roundw
   case rel => exact ⟨k + 1, by omega, by go_num, H5⟩
   case measure => simp [intOf]; omega
  ·have hlt2 : ¬ (k : Int) < 128 := by omega
   have HL : Shh (pc (half r (fun _ => 0) (2 * k)) = pc r) := ⟨by rw [show 2 * k = 256 by omega]; exact half_all _ _⟩
   rw [HL.out] at HI
   clear HL HP
   go_wp2_with (first
    | refine wpList_load_any rfl 24 (.tmp 5) rfl (N + 3) rfl 24 (pc r) (.array 256 22) HI.out.2.2.2.1 Try.underlying24 rfl (info_poly.trans (size_poly r)) ?_
    | refine wpList_store_any rfl 24 (.tmp 4) (.tmp 70) rfl (N + 2) rfl (pc r) rfl 24 _ HI.out.2.2.1 (info_poly.trans (size_poly r)) (by rw [pc_length, pc_length]) (pc_one r) ?_)
   intro w9 hr9 b9 _
   have hb9 := HI.out.2.2.2.2.trans (b9.under (Nat.le_of_lt HI.out.1.lt) (by omega))
   go_wp2
   exact ret_row Try.results27 rfl rfl hr9 Try.underlying24 rfl (info_poly.trans (size_poly r)) ⟨rfl, hb9⟩
end Go.Proofs.Ytfcgdjgfdbcddaa
