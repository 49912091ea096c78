import Derived.Test.YtfcgdjgfdbcddaaZD
import Derived.Test.YtfcgdjgfdbcddaaZA
import Derived.Test.YtfcgdjgfdbcddaaZB
/-
 THE DOCUMENT'S OWN MulNtt.
-/
namespace Go.Proofs.Ytfcgdjgfdbcddaa
open Go.RowKit
set_option maxRecDepth 100000
theorem pair_e (p r : Nat → Nat) (k : Nat) : (p (2 * k) % 3329 * (r (2 * k) % 3329) + p (2 * k + 1) % 3329 * (r (2 * k + 1) % 3329) % 3329 * rtN k) % 3329 = pairN p r (2 * k) := by
 unfold pairN
 rw [if_pos (by omega), show 2 * k / 2 = k by omega, ← rd_same]
 refine rd_of ?_
 rw [Int.natCast_add, Int.natCast_mul, Int.natCast_mul]
 refine ((rM_nat _).mul (rM_nat _)).add ?_
 refine ((rM_nat _).mul (rM.of rfl)).trans ?_
 rw [Int.natCast_mul]
 refine (((rM_nat _).mul (rM_nat _)).mul (rM.of rfl)).trans (rM.of (Int.mul_comm _ _))
theorem pair_o (p r : Nat → Nat) (k : Nat) : (p (2 * k) % 3329 * (r (2 * k + 1) % 3329) + p (2 * k + 1) % 3329 * (r (2 * k) % 3329)) % 3329 = pairN p r (2 * k + 1) := by
 unfold pairN
 rw [if_neg (by omega), show (2 * k + 1) / 2 = k by omega, ← rd_same]
 refine rd_of ?_
 rw [Int.natCast_add, Int.natCast_mul, Int.natCast_mul]
 exact ((rM_nat _).mul (rM_nat _)).add ((rM_nat _).mul (rM_nat _))
set_option maxHeartbeats 2000000 in
theorem refMulNtt_any (p p2 : Nat → Nat) (hp : ∀ i, i < 256 → p i < 65536) (hp2 : ∀ i, i < 256 → p2 i < 65536) (w : World) : Calls Try.prog 27 #[polyV p, polyV p2] w (PolyIs w (pairN p p2)) := by
 unfold PolyIs polyV
 generalize hN : w.heap.size = N at *
 have HP := Shh.mk (And.intro hp hp2)
 have HZ : Shh (∀ k, (p (2 * k) % 3329 * (p2 (2 * k) % 3329) + p (2 * k + 1) % 3329 * (p2 (2 * k + 1) % 3329) % 3329 * rtN k) % 3329 = pairN p p2 (2 * k) ∧ (p (2 * k) % 3329 * (p2 (2 * k + 1) % 3329) + p (2 * k + 1) % 3329 * (p2 (2 * k) % 3329)) % 3329 = pairN p p2 (2 * k + 1)) := ⟨fun k => ⟨pair_e p p2 k, pair_o p p2 k⟩⟩
 have HRT : Shh (∀ k, k < 128 → rtN k < 3329 ∧ ∀ w, Calls Try.prog 47 #[.int .i64 (k : Int)] w (NumIs w (rtN k))) := ⟨fun k hk => ⟨Nat.mod_lt _ (by decide), fun w => Root_any k hk w⟩⟩
 generalize pairN p p2 = r at *
 clear hp hp2
 go_enter Try.func27, Try.ntmps27
 go_wp2_with (refine wl_allocP rfl rfl ?_)
 obtain ⟨W, hW⟩ : ∃ W, W = (((w.alloc (.cells (pc p).toArray 24)).alloc (.cells (pc p2).toArray 24)).alloc (.cells (pc fun _ => 0).toArray 24)).alloc (.cells (pc fun _ => 0).toArray 24) := ⟨_, rfl⟩
 have HW : Shh (Row W N 24 (pc p) ∧ Row W (N + 1) 24 (pc p2) ∧ Row W (N + 2) 24 (pc fun _ => 0) ∧ Row W (N + 3) 24 (pc fun _ => 0) ∧ Below N w W) := by
  refine ⟨by rw [hW]; exact (((Row.new_ hN.symm rfl).alloc _).alloc _).alloc _, by rw [hW]; exact ((Row.new_ (by rw [asz, hN]) rfl).alloc _).alloc _, by rw [hW]; exact (Row.new_ (by rw [asz, asz, hN]) rfl).alloc _, by rw [hW]; exact Row.new_ (by rw [asz, asz, asz, hN]) rfl, ?_⟩
  rw [hW, ← hN]
  exact Below.chain (Below.chain (Below.chain (bel1 _ _) (bel1 _ _)) (bel1 _ _)) (bel1 _ _)
 try simp only [asz, hN]
 rw [← hW]
 clear hW
 go_wp2
 go_loopw [6, 7, 8, 9, 10, 11] (fun _ _ _ _ _ i wr => ∃ k : Nat, k ≤ 128 ∧ i = .int .i64 (k : Int) ∧ Shh (Row wr N 24 (pc p) ∧ Row wr (N + 1) 24 (pc p2) ∧ Row wr (N + 2) 24 (pc fun _ => 0) ∧ Row wr (N + 3) 24 (pc (half r (fun _ => 0) (2 * k))) ∧ Below N w wr)) (fun _ _ _ _ _ i _ => 128 - (intOf i).toNat)
 case atStart => exact ⟨0, Nat.zero_le _, rfl, ⟨by rw [half_zero]; exact HW.out⟩⟩
 case round =>
  clear HW
  obtain ⟨k, hk, rfl, HI⟩ := hrel
  by_cases hlt : k < 128
  ·have hlt2 : (k : Int) < 128 := by omega
   have HK := Shh.mk (HRT.out k hlt)
   have HZK := Shh.mk (HZ.out k)
   clear HZ HRT
   obtain ⟨d, Hd⟩ : ∃ d, Shh (d = 2 * k) := ⟨_, ⟨rfl⟩⟩
   obtain ⟨d1, Hd1⟩ : ∃ d1, Shh (d1 = d + 1) := ⟨_, ⟨rfl⟩⟩
   have hd : d < 256 := by have := Hd.out; omega
   have hd1 : d1 < 256 := by have := Hd.out; have := Hd1.out; omega
   have hh := half_two r (fun _ => 0) k
   rw [← Hd.out, ← Hd1.out] at HZK hh
   rw [← Hd.out] at HI
   have HH := Shh.mk hh
   clear hh
   obtain ⟨V, hV⟩ : ∃ V, V = World.drew wr := ⟨_, rfl⟩
   have HC : Shh (V.cell? ⟨N, d, none⟩ = some (.int .u16 (p d : Int)) ∧ V.cell? ⟨N, d1, none⟩ = some (.int .u16 (p d1 : Int)) ∧ V.cell? ⟨N + 1, d, none⟩ = some (.int .u16 (p2 d : Int)) ∧ V.cell? ⟨N + 1, d1, none⟩ = some (.int .u16 (p2 d1 : Int))) := by
    subst hV
    exact ⟨(HI.out.1.drew.cell d).trans (pc_get _ hd), (HI.out.1.drew.cell d1).trans (pc_get _ hd1), (HI.out.2.1.drew.cell d).trans (pc_get _ hd), (HI.out.2.1.drew.cell d1).trans (pc_get _ hd1)⟩
   have HIV : Shh (Row V N 24 (pc p) ∧ Row V (N + 1) 24 (pc p2) ∧ Row V (N + 2) 24 (pc fun _ => 0) ∧ Row V (N + 3) 24 (pc (half r (fun _ => 0) d)) ∧ Below N w V) := by
    subst hV
    exact ⟨HI.out.1.drew, HI.out.2.1.drew, HI.out.2.2.1.drew, HI.out.2.2.2.1.drew, HI.out.2.2.2.2.drew⟩
   have HB : Shh (p d < 65536 ∧ p d1 < 65536 ∧ p2 d < 65536 ∧ p2 d1 < 65536) := ⟨HP.out.1 d hd, HP.out.1 d1 hd1, HP.out.2 d hd, HP.out.2 d1 hd1⟩
   clear HI
   generalize rtN k = g at *
   have V3 := Shh.mk (show d ≤ 1000000000000 by omega)
   have V4 := Shh.mk (show d1 = d + 1 ∧ d1 ≤ 1000000000000 from ⟨Hd1.out, by omega⟩)
   obtain ⟨A0, HA0⟩ : ∃ v, Shh (v = p d) := ⟨_, ⟨rfl⟩⟩
   rw [← HA0.out] at HC HB HZK
   clear HA0
   obtain ⟨a0, Ha0⟩ : ∃ v, Shh (v = A0 % 3329) := ⟨_, ⟨rfl⟩⟩
   rw [← Ha0.out] at HZK
   obtain ⟨A1, HA1⟩ : ∃ v, Shh (v = p d1) := ⟨_, ⟨rfl⟩⟩
   rw [← HA1.out] at HC HB HZK
   clear HA1
   obtain ⟨a1, Ha1⟩ : ∃ v, Shh (v = A1 % 3329) := ⟨_, ⟨rfl⟩⟩
   rw [← Ha1.out] at HZK
   obtain ⟨B0, HB0⟩ : ∃ v, Shh (v = p2 d) := ⟨_, ⟨rfl⟩⟩
   rw [← HB0.out] at HC HB HZK
   clear HB0
   obtain ⟨b0, Hb0⟩ : ∃ v, Shh (v = B0 % 3329) := ⟨_, ⟨rfl⟩⟩
   rw [← Hb0.out] at HZK
   obtain ⟨B1, HB1⟩ : ∃ v, Shh (v = p2 d1) := ⟨_, ⟨rfl⟩⟩
   rw [← HB1.out] at HC HB HZK
   clear HB1
   obtain ⟨b1, Hb1⟩ : ∃ v, Shh (v = B1 % 3329) := ⟨_, ⟨rfl⟩⟩
   rw [← Hb1.out] at HZK
   have HM : Shh (a0 < 3329 ∧ a1 < 3329 ∧ b0 < 3329 ∧ b1 < 3329) := ⟨by rw [Ha0.out]; exact Nat.mod_lt _ (by decide), by rw [Ha1.out]; exact Nat.mod_lt _ (by decide), by rw [Hb0.out]; exact Nat.mod_lt _ (by decide), by rw [Hb1.out]; exact Nat.mod_lt _ (by decide)⟩
   have U0 := Shh.mk (show a0 < 65536 ∧ a1 < 65536 ∧ b0 < 65536 ∧ b1 < 65536 by have := HM.out; omega)
   go_wp2
   refine wp_region_held_drew (S := fun w' => w'.cell? ⟨N, d, none⟩ = some (.int .u16 (A0 : Int)) ∧ w'.cell? ⟨N, d1, none⟩ = some (.int .u16 (A1 : Int)) ∧ w'.cell? ⟨N + 1, d, none⟩ = some (.int .u16 (B0 : Int)) ∧ w'.cell? ⟨N + 1, d1, none⟩ = some (.int .u16 (B1 : Int))) (by kernel_rfl) (by rw [← hV]; exact HC.out) (fun hS => ?_)
   clear hS
   rw [← hV]
   have hc := HC.out
   clear hV
   refine hdv0 0 14 (.int .i64 (k : Int)) (by rfl) (hc) ?_
   refine hdv 1 15 (.int .i64 (d : Int)) (by rfl) (fun w hS => mul_iin (i := 2) (j := k) Hd.out V3.out rfl (by kernel_rfl) (by kernel_rfl)) (hc) ?_
   refine hdv 2 16 (.pointer (some ⟨N, d, none⟩)) (by rfl) (fun w hS => at_poly hd rfl (by kernel_rfl) (by kernel_rfl)) (hc) ?_
   refine hdv 3 17 (.int .u16 (A0 : Int)) (by rfl) (fun w hS => load_u16 rfl hS.1 (by kernel_rfl)) (hc) ?_
   refine hdv 4 18 (.int .u16 (a0 : Int)) (by rfl) (fun w hS => rem_u16 Ha0.out HB.out.1 rfl (by kernel_rfl)) (hc) ?_
   refine hdv 5 19 (.int .i64 (a0 : Int)) (by rfl) (fun w hS => conv_ui16 U0.out.1 rfl (by kernel_rfl)) (hc) ?_
   refine hdv0 6 20 (.int .i64 (k : Int)) (by rfl) (hc) ?_
   refine hdv 7 21 (.int .i64 (d : Int)) (by rfl) (fun w hS => mul_iin (i := 2) (j := k) Hd.out V3.out rfl (by kernel_rfl) (by kernel_rfl)) (hc) ?_
   refine hdv 8 22 (.int .i64 (d1 : Int)) (by rfl) (fun w hS => add_ii (i := d) (j := 1) V4.out rfl (by kernel_rfl) (by kernel_rfl)) (hc) ?_
   refine hdv 9 23 (.pointer (some ⟨N, d1, none⟩)) (by rfl) (fun w hS => at_poly hd1 rfl (by kernel_rfl) (by kernel_rfl)) (hc) ?_
   refine hdv 10 24 (.int .u16 (A1 : Int)) (by rfl) (fun w hS => load_u16 rfl hS.2.1 (by kernel_rfl)) (hc) ?_
   refine hdv 11 25 (.int .u16 (a1 : Int)) (by rfl) (fun w hS => rem_u16 Ha1.out HB.out.2.1 rfl (by kernel_rfl)) (hc) ?_
   refine hdv 12 26 (.int .i64 (a1 : Int)) (by rfl) (fun w hS => conv_ui16 U0.out.2.1 rfl (by kernel_rfl)) (hc) ?_
   refine hdv0 13 27 (.int .i64 (k : Int)) (by rfl) (hc) ?_
   refine hdv 14 28 (.int .i64 (d : Int)) (by rfl) (fun w hS => mul_iin (i := 2) (j := k) Hd.out V3.out rfl (by kernel_rfl) (by kernel_rfl)) (hc) ?_
   refine hdv 15 29 (.pointer (some ⟨N + 1, d, none⟩)) (by rfl) (fun w hS => at_poly hd rfl (by kernel_rfl) (by kernel_rfl)) (hc) ?_
   refine hdv 16 30 (.int .u16 (B0 : Int)) (by rfl) (fun w hS => load_u16 rfl hS.2.2.1 (by kernel_rfl)) (hc) ?_
   refine hdv 17 31 (.int .u16 (b0 : Int)) (by rfl) (fun w hS => rem_u16 Hb0.out HB.out.2.2.1 rfl (by kernel_rfl)) (hc) ?_
   refine hdv 18 32 (.int .i64 (b0 : Int)) (by rfl) (fun w hS => conv_ui16 U0.out.2.2.1 rfl (by kernel_rfl)) (hc) ?_
   refine hdv0 19 33 (.int .i64 (k : Int)) (by rfl) (hc) ?_
   refine hdv 20 34 (.int .i64 (d : Int)) (by rfl) (fun w hS => mul_iin (i := 2) (j := k) Hd.out V3.out rfl (by kernel_rfl) (by kernel_rfl)) (hc) ?_
   refine hdv 21 35 (.int .i64 (d1 : Int)) (by rfl) (fun w hS => add_ii (i := d) (j := 1) V4.out rfl (by kernel_rfl) (by kernel_rfl)) (hc) ?_
   refine hdv 22 36 (.pointer (some ⟨N + 1, d1, none⟩)) (by rfl) (fun w hS => at_poly hd1 rfl (by kernel_rfl) (by kernel_rfl)) (hc) ?_
   refine hdv 23 37 (.int .u16 (B1 : Int)) (by rfl) (fun w hS => load_u16 rfl hS.2.2.2 (by kernel_rfl)) (hc) ?_
   refine hdv 24 38 (.int .u16 (b1 : Int)) (by rfl) (fun w hS => rem_u16 Hb1.out HB.out.2.2.2 rfl (by kernel_rfl)) (hc) ?_
   refine hdv 25 39 (.int .i64 (b1 : Int)) (by rfl) (fun w hS => conv_ui16 U0.out.2.2.2 rfl (by kernel_rfl)) (hc) ?_
   refine hdv0 26 7 (.int .i64 (a0 : Int)) (by rfl) (hc) ?_
   refine hdv0 27 8 (.int .i64 (a1 : Int)) (by rfl) (hc) ?_
   refine hdv0 28 9 (.int .i64 (b0 : Int)) (by rfl) (hc) ?_
   refine hdv0 29 10 (.int .i64 (b1 : Int)) (by rfl) (hc) ?_
   refine wpAnyH_done (by kernel_rfl) ?_ _
   clear hc HC
   obtain ⟨m1, Hm1⟩ : ∃ v, Shh (v = a0 * b0) := ⟨_, ⟨rfl⟩⟩
   obtain ⟨m2, Hm2⟩ : ∃ v, Shh (v = a1 * b1) := ⟨_, ⟨rfl⟩⟩
   obtain ⟨m3, Hm3⟩ : ∃ v, Shh (v = m2 % 3329) := ⟨_, ⟨rfl⟩⟩
   obtain ⟨m4, Hm4⟩ : ∃ v, Shh (v = m3 * g) := ⟨_, ⟨rfl⟩⟩
   obtain ⟨m5, Hm5⟩ : ∃ v, Shh (v = a0 * b1) := ⟨_, ⟨rfl⟩⟩
   obtain ⟨m6, Hm6⟩ : ∃ v, Shh (v = a1 * b0) := ⟨_, ⟨rfl⟩⟩
   have L : Shh (m1 ≤ 3329 * 3329 ∧ m2 ≤ 3329 * 3329 ∧ m4 ≤ 3329 * 3329 ∧ m5 ≤ 3329 * 3329 ∧ m6 ≤ 3329 * 3329) := by
    obtain ⟨h1, h2, h3, h4⟩ := HM.out
    have h5 := HK.out.1
    have h6 : m3 < 3329 := by rw [Hm3.out]; exact Nat.mod_lt _ (by decide)
    exact ⟨by rw [Hm1.out]; exact Nat.mul_le_mul (Nat.le_of_lt h1) (Nat.le_of_lt h3), by rw [Hm2.out]; exact Nat.mul_le_mul (Nat.le_of_lt h2) (Nat.le_of_lt h4), by rw [Hm4.out]; exact Nat.mul_le_mul (Nat.le_of_lt h6) (Nat.le_of_lt h5), by rw [Hm5.out]; exact Nat.mul_le_mul (Nat.le_of_lt h1) (Nat.le_of_lt h4), by rw [Hm6.out]; exact Nat.mul_le_mul (Nat.le_of_lt h2) (Nat.le_of_lt h3)⟩
   obtain ⟨s1, Hs1⟩ : ∃ v, Shh (v = m1 + m4) := ⟨_, ⟨rfl⟩⟩
   obtain ⟨s2, Hs2⟩ : ∃ v, Shh (v = m5 + m6) := ⟨_, ⟨rfl⟩⟩
   obtain ⟨t1, Ht1⟩ : ∃ v, Shh (v = s1 % 3329) := ⟨_, ⟨rfl⟩⟩
   obtain ⟨t2, Ht2⟩ : ∃ v, Shh (v = s2 % 3329) := ⟨_, ⟨rfl⟩⟩
   have L2 : Shh ((m1 ≤ 1000000000000 ∧ m2 ≤ 1000000000000 ∧ m4 ≤ 1000000000000 ∧ m5 ≤ 1000000000000 ∧ m6 ≤ 1000000000000) ∧ (s1 = m1 + m4 ∧ s1 ≤ 1000000000000) ∧ (s2 = m5 + m6 ∧ s2 ≤ 1000000000000) ∧ t1 < 65536 ∧ t2 < 65536) := by
    have h := L.out
    have h1 := Hs1.out
    have h2 := Hs2.out
    have h3 := Ht1.out
    have h4 := Ht2.out
    obtain ⟨q1, q2, q3, q4, q5⟩ := h
    refine ⟨⟨?_, ?_, ?_, ?_, ?_⟩, ⟨h1, ?_⟩, ⟨h2, ?_⟩, ?_, ?_⟩ <;> omega
   have HF : Shh (t1 = r d ∧ t2 = r d1) := ⟨by rw [Ht1.out, Hs1.out, Hm1.out, Hm4.out, Hm3.out, Hm2.out]; exact HZK.out.1, by rw [Ht2.out, Hs2.out, Hm5.out, Hm6.out]; exact HZK.out.2⟩
   go_wp2_with (first | (go_at_call 47; refine (HK.out.2 _).mono ?_) | refine wl_at 41 rfl (.int .i64 (d : Int)) rfl (mul_iin (i := 2) (j := k) Hd.out V3.out rfl rfl rfl) ?_ | refine wl_at 44 rfl (.int .i64 (m1 : Int)) rfl (mul_iin (i := a0) (j := b0) Hm1.out L2.out.1.1 rfl rfl rfl) ?_ | refine wl_at 47 rfl (.int .i64 (m2 : Int)) rfl (mul_iin (i := a1) (j := b1) Hm2.out L2.out.1.2.1 rfl rfl rfl) ?_ | refine wl_at 48 rfl (.int .i64 (m3 : Int)) rfl (rem_iq Hm3.out L2.out.1.2.1 rfl rfl) ?_)
   unfold NumIs
   rintro e w3 ⟨rfl, rfl⟩
   go_wp2_with (first | refine wl_at 51 rfl (.int .i64 (m4 : Int)) rfl (mul_iin (i := m3) (j := g) Hm4.out L2.out.1.2.2.1 rfl rfl rfl) ?_ | refine wl_at 52 rfl (.int .i64 (s1 : Int)) rfl (add_ii (i := m1) (j := m4) L2.out.2.1 rfl rfl rfl) ?_ | refine wl_at 53 rfl (.int .i64 (t1 : Int)) rfl (rem_iq Ht1.out L2.out.2.1.2 rfl rfl) ?_ | refine wl_at 54 rfl (.int .u16 (t1 : Int)) rfl (conv_iu16 L2.out.2.2.2.1 rfl rfl) ?_ | refine wl_at 55 rfl (.pointer (some ⟨N + 3, d, none⟩)) rfl (at_poly hd rfl rfl rfl) ?_ | refine wl_storeP rfl hd rfl rfl rfl HIV.out.2.2.2.1 ?_)
   intro w4 r4 b4 z4
   have H4 : Shh (Row w4 N 24 (pc p) ∧ Row w4 (N + 1) 24 (pc p2) ∧ Row w4 (N + 2) 24 (pc fun _ => 0) ∧ Row w4 (N + 3) 24 (pc (upd (half r (fun _ => 0) d) d t1)) ∧ Below N w w4) := ⟨b4.row HIV.out.1 HIV.out.1.lt (by omega), b4.row HIV.out.2.1 HIV.out.2.1.lt (by omega), b4.row HIV.out.2.2.1 HIV.out.2.2.1.lt (by omega), r4, HIV.out.2.2.2.2.trans (b4.under (Nat.le_of_lt HIV.out.1.lt) (by omega))⟩
   clear r4 b4 z4 HIV
   go_wp2_with (first | refine wl_at 57 rfl (.int .i64 (d : Int)) rfl (mul_iin (i := 2) (j := k) Hd.out V3.out rfl rfl rfl) ?_ | refine wl_at 58 rfl (.int .i64 (d1 : Int)) rfl (add_ii (i := d) (j := 1) V4.out rfl rfl rfl) ?_ | refine wl_at 61 rfl (.int .i64 (m5 : Int)) rfl (mul_iin (i := a0) (j := b1) Hm5.out L2.out.1.2.2.2.1 rfl rfl rfl) ?_ | refine wl_at 64 rfl (.int .i64 (m6 : Int)) rfl (mul_iin (i := a1) (j := b0) Hm6.out L2.out.1.2.2.2.2 rfl rfl rfl) ?_ | refine wl_at 65 rfl (.int .i64 (s2 : Int)) rfl (add_ii (i := m5) (j := m6) L2.out.2.2.1 rfl rfl rfl) ?_ | refine wl_at 66 rfl (.int .i64 (t2 : Int)) rfl (rem_iq Ht2.out L2.out.2.2.1.2 rfl rfl) ?_ | refine wl_at 67 rfl (.int .u16 (t2 : Int)) rfl (conv_iu16 L2.out.2.2.2.2 rfl rfl) ?_ | refine wl_at 68 rfl (.pointer (some ⟨N + 3, d1, none⟩)) rfl (at_poly hd1 rfl rfl rfl) ?_ | refine wl_storeP rfl hd1 rfl rfl rfl H4.out.2.2.2.1 ?_)
   intro w5 r5 b5 z5
   rw [HF.out.1, HF.out.2, HH.out] at r5
   have H5 : Shh (Row w5 N 24 (pc p) ∧ Row w5 (N + 1) 24 (pc p2) ∧ Row w5 (N + 2) 24 (pc fun _ => 0) ∧ Row w5 (N + 3) 24 (pc (half r (fun _ => 0) (2 * (k + 1)))) ∧ Below N w w5) := ⟨b5.row H4.out.1 H4.out.1.lt (by omega), b5.row H4.out.2.1 H4.out.2.1.lt (by omega), b5.row H4.out.2.2.1 H4.out.2.2.1.lt (by omega), r5, H4.out.2.2.2.2.trans (b5.under (Nat.le_of_lt H4.out.1.lt) (by omega))⟩
   clear r5 b5 z5 H4
   go_wp2
   go_roundw
   case rel => exact ⟨k + 1, by omega, by go_num, H5⟩
   case measure => simp [intOf]; omega
  ·have hlt2 : ¬ (k : Int) < 128 := by omega
   have HL : Shh (pc (half r (fun _ => 0) (2 * k)) = pc r) := ⟨by rw [show 2 * k = 256 by omega]; exact half_all _ _⟩
   rw [HL.out] at HI
   clear HL HP
   go_wp2_with (first
    | refine wpList_load_any rfl 24 (.tmp 5) rfl (N + 3) rfl 24 (pc r) (.array 256 22) HI.out.2.2.2.1 Try.underlying24 rfl (info_poly.trans (size_poly r)) ?_
    | refine wpList_store_any rfl 24 (.tmp 4) (.tmp 70) rfl (N + 2) rfl (pc r) rfl 24 _ HI.out.2.2.1 (info_poly.trans (size_poly r)) (by rw [pc_length, pc_length]) (pc_one r) ?_)
   intro w9 hr9 b9 _
   have hb9 := HI.out.2.2.2.2.trans (b9.under (Nat.le_of_lt HI.out.1.lt) (by omega))
   go_wp2
   exact ret_row Try.results27 rfl rfl hr9 Try.underlying24 rfl (info_poly.trans (size_poly r)) ⟨rfl, hb9⟩
end Go.Proofs.Ytfcgdjgfdbcddaa

/-
 THE DOCUMENT'S OWN Mul.
-/
namespace Go.Proofs.Ytfcgdjgfdbcddaa
open Go.RowKit
set_option maxRecDepth 100000
set_option maxHeartbeats 2000000 in
theorem refMul_any (p p2 : Nat → Nat) (hp : ∀ i, i < 256 → p i < 65536) (hp2 : ∀ i, i < 256 → p2 i < 65536) (w : World) : Calls Try.prog 21 #[polyV p, polyV p2] w (PolyIs w (mulN p p2)) := by
 unfold PolyIs polyV
 generalize hN : w.heap.size = N at *
 have HP := Shh.mk (And.intro hp hp2)
 obtain ⟨SM, HSM⟩ : ∃ SM, Shh (SM = sumP (fun i => p i % 3329) (fun i => p2 i % 3329)) := ⟨_, ⟨rfl⟩⟩
 have HZ : Shh (∀ k, (SM 256 0 k % 3329 + 3329 - SM 256 0 (k + 256) % 3329) % 3329 = mulN p p2 k) := ⟨fun k => by rw [HSM.out]; exact mul_out p p2 k⟩
 have H0 : Shh (SM 0 0 = (fun _ => 0) ∧ (∀ i, SM i 256 = SM (i + 1) 0) ∧ (∀ i k, upd (SM i k) (i + k) (SM i k (i + k) + p i % 3329 * (p2 k % 3329)) = SM i (k + 1)) ∧ ∀ i k m, i ≤ 256 → k ≤ 256 → SM i k m ≤ 800000000000) := ⟨by
  rw [HSM.out]
  exact ⟨sumP_zero _ _, sumP_row _ _, sumP_next _ _, fun i k m => sumP_le (fun _ => Nat.mod_lt _ (by decide)) (fun _ => Nat.mod_lt _ (by decide)) i k m⟩⟩
 generalize mulN p p2 = r at *
 clear hp hp2 HSM
 go_enter Try.func21, Try.ntmps21
 go_wp2_with (first | refine wl_allocP rfl rfl ?_ | refine wl_alloc512 rfl rfl ?_)
 obtain ⟨W, hW⟩ : ∃ W, W = (((w.alloc (.cells (pc p).toArray 24)).alloc (.cells (pc p2).toArray 24)).alloc (.cells (pc fun _ => 0).toArray 24)).alloc (.cells (ic 512 fun _ => 0).toArray 47) := ⟨_, rfl⟩
 have HW : Shh (Row W N 24 (pc p) ∧ Row W (N + 1) 24 (pc p2) ∧ Row W (N + 2) 24 (pc fun _ => 0) ∧ Row W (N + 3) 47 (ic 512 (SM 0 0)) ∧ Below N w W) := by
  rw [H0.out.1]
  refine ⟨by rw [hW]; exact (((Row.new_ hN.symm rfl).alloc _).alloc _).alloc _, by rw [hW]; exact ((Row.new_ (by rw [asz, hN]) rfl).alloc _).alloc _, by rw [hW]; exact (Row.new_ (by rw [asz, asz, hN]) rfl).alloc _, by rw [hW]; exact Row.new_ (by rw [asz, asz, asz, hN]) rfl, ?_⟩
  rw [hW, ← hN]
  exact Below.chain (Below.chain (Below.chain (bel1 _ _) (bel1 _ _)) (bel1 _ _)) (bel1 _ _)
 try simp only [asz, hN]
 rw [← hW]
 clear hW
 go_wp2
 go_loopw [6, 7, 10, 13] (fun _ _ i _ wr => ∃ k : Nat, k ≤ 256 ∧ i = .int .i64 (k : Int) ∧ Shh (Row wr N 24 (pc p) ∧ Row wr (N + 1) 24 (pc p2) ∧ Row wr (N + 2) 24 (pc fun _ => 0) ∧ Row wr (N + 3) 47 (ic 512 (SM k 0)) ∧ Below N w wr)) (fun _ _ i _ _ => 256 - (intOf i).toNat)
 case atStart => exact ⟨0, Nat.zero_le _, rfl, HW⟩
 case round =>
  clear HW
  obtain ⟨i, hi, rfl, HI⟩ := hrel
  by_cases hli : i < 256
  ·have hli2 : (i : Int) < 256 := by omega
   have HPI := Shh.mk (HP.out.1 i hli)
   go_wp2
   go_loopw [7, 13] (fun _ c wq => ∃ k : Nat, k ≤ 256 ∧ c = .int .i64 (k : Int) ∧ Shh (Row wq N 24 (pc p) ∧ Row wq (N + 1) 24 (pc p2) ∧ Row wq (N + 2) 24 (pc fun _ => 0) ∧ Row wq (N + 3) 47 (ic 512 (SM i k)) ∧ Below N w wq)) (fun _ c _ => 256 - (intOf c).toNat)
   case atStart => exact ⟨0, Nat.zero_le _, rfl, HI⟩
   case round =>
    clear HI
    obtain ⟨k, hk, rfl, HI⟩ := hrel
    by_cases hlk : k < 256
    ·have hlk2 : (k : Int) < 256 := by omega
     obtain ⟨m, Hm⟩ : ∃ m, Shh (m = i + k) := ⟨_, ⟨rfl⟩⟩
     have hm : m < 512 := by have := Hm.out; omega
     have Vm := Shh.mk (show m = i + k ∧ m ≤ 1000000000000 from ⟨Hm.out, by omega⟩)
     have HS := Shh.mk (H0.out.2.2.1 i k)
     have HL := Shh.mk (H0.out.2.2.2 i k m (Nat.le_of_lt hli) (Nat.le_of_lt hlk))
     rw [← Hm.out] at HS
     obtain ⟨V, hV⟩ : ∃ V, V = World.drew wr := ⟨_, rfl⟩
     have HIV : Shh (Row V N 24 (pc p) ∧ Row V (N + 1) 24 (pc p2) ∧ Row V (N + 2) 24 (pc fun _ => 0) ∧ Row V (N + 3) 47 (ic 512 (SM i k)) ∧ Below N w V) := by subst hV; exact ⟨HI.out.1.drew, HI.out.2.1.drew, HI.out.2.2.1.drew, HI.out.2.2.2.1.drew, HI.out.2.2.2.2.drew⟩
     have c1 : V.cell? ⟨N, i, none⟩ = some (.int .u16 (p i : Int)) := (HIV.out.1.cell i).trans (pc_get _ hli)
     have c2 : V.cell? ⟨N + 1, k, none⟩ = some (.int .u16 (p2 k : Int)) := (HIV.out.2.1.cell k).trans (pc_get _ hlk)
     have c3 : V.cell? ⟨N + 3, m, none⟩ = some (.int .i64 (SM i k m : Int)) := (HIV.out.2.2.2.1.cell m).trans (ic_get _ hm)
     have HB := Shh.mk (And.intro HPI.out (HP.out.2 k hlk))
     have HE : Shh (∀ v, v = SM i k m + p i % 3329 * (p2 k % 3329) → Row (V.setCell ⟨N + 3, m, none⟩ (.int .i64 (v : Int))) N 24 (pc p) ∧ Row (V.setCell ⟨N + 3, m, none⟩ (.int .i64 (v : Int))) (N + 1) 24 (pc p2) ∧ Row (V.setCell ⟨N + 3, m, none⟩ (.int .i64 (v : Int))) (N + 2) 24 (pc fun _ => 0) ∧ Row (V.setCell ⟨N + 3, m, none⟩ (.int .i64 (v : Int))) (N + 3) 47 (ic 512 (SM i (k + 1))) ∧ Below N w (V.setCell ⟨N + 3, m, none⟩ (.int .i64 (v : Int)))) := ⟨fun v hv => by
      have h := HIV.out.2.2.2.1.set_ m (.int .i64 (v : Int))
      rw [ic_set, hv, HS.out, ← hv] at h
      exact ⟨HIV.out.1.other _ _ (by simp), HIV.out.2.1.other _ _ (by simp), HIV.out.2.2.1.other _ _ (by simp), h, HIV.out.2.2.2.2.setCell (p := ⟨N + 3, m, none⟩) (Nat.le_add_right _ _) _⟩⟩
     obtain ⟨sm, Hsm⟩ : ∃ v, Shh (v = SM i k m) := ⟨_, ⟨rfl⟩⟩
     rw [← Hsm.out] at HE c3 HL
     obtain ⟨A, HA⟩ : ∃ v, Shh (v = p i) := ⟨_, ⟨rfl⟩⟩
     rw [← HA.out] at HE c1 HB
     obtain ⟨B, HBB⟩ : ∃ v, Shh (v = p2 k) := ⟨_, ⟨rfl⟩⟩
     rw [← HBB.out] at HE c2 HB
     obtain ⟨a, Ha⟩ : ∃ v, Shh (v = A % 3329) := ⟨_, ⟨rfl⟩⟩
     obtain ⟨b, Hb⟩ : ∃ v, Shh (v = B % 3329) := ⟨_, ⟨rfl⟩⟩
     rw [← Ha.out, ← Hb.out] at HE
     obtain ⟨ab, Hab⟩ : ∃ v, Shh (v = a * b) := ⟨_, ⟨rfl⟩⟩
     rw [← Hab.out] at HE
     obtain ⟨s, Hs⟩ : ∃ v, Shh (v = sm + ab) := ⟨_, ⟨rfl⟩⟩
     have HF := Shh.mk (HE.out s Hs.out)
     have hal : a < 3329 := by rw [Ha.out]; exact Nat.mod_lt _ (by decide)
     have hbl : b < 3329 := by rw [Hb.out]; exact Nat.mod_lt _ (by decide)
     have habl : ab ≤ 3329 * 3329 := by rw [Hab.out]; exact Nat.mul_le_mul (Nat.le_of_lt hal) (Nat.le_of_lt hbl)
     have VL : Shh (a < 65536 ∧ b < 65536 ∧ ab ≤ 1000000000000 ∧ (s = sm + ab ∧ s ≤ 1000000000000)) := ⟨by omega, by omega, by omega, Hs.out, by have := Hs.out; have := HL.out; omega⟩
     clear hal hbl habl HE Hsm HA HBB HI
     go_wp2
     refine wp_region_held_drew (S := fun w' => w'.cell? ⟨N, i, none⟩ = some (.int .u16 (A : Int)) ∧ w'.cell? ⟨N + 1, k, none⟩ = some (.int .u16 (B : Int))) (by kernel_rfl) (by rw [← hV]; exact ⟨c1, c2⟩) (fun hS => ?_)
     clear hS
     rw [← hV]
     have hc : V.cell? ⟨N, i, none⟩ = some (.int .u16 (A : Int)) ∧ V.cell? ⟨N + 1, k, none⟩ = some (.int .u16 (B : Int)) := ⟨c1, c2⟩
     clear hV c1 c2
     refine hdv0 0 16 (.int .i64 (i : Int)) (by rfl) (hc) ?_
     refine hdv0 1 17 (.int .i64 (k : Int)) (by rfl) (hc) ?_
     refine hdv 2 18 (.int .i64 (m : Int)) (by rfl) (fun w hS => add_ii Vm.out rfl (by kernel_rfl) (by kernel_rfl)) (hc) ?_
     refine hdv 3 19 (.pointer (some ⟨N + 3, m, none⟩)) (by rfl) (fun w hS => at_512 hm rfl (by kernel_rfl) (by kernel_rfl)) (hc) ?_
     refine hdv0 5 21 (.int .i64 (i : Int)) (by rfl) (hc) ?_
     refine hdv 6 22 (.pointer (some ⟨N, i, none⟩)) (by rfl) (fun w hS => at_poly hli rfl (by kernel_rfl) (by kernel_rfl)) (hc) ?_
     refine hdv 7 23 (.int .u16 (A : Int)) (by rfl) (fun w hS => load_u16 rfl hS.1 (by kernel_rfl)) (hc) ?_
     refine hdv 8 24 (.int .u16 (a : Int)) (by rfl) (fun w hS => rem_u16 Ha.out HB.out.1 rfl (by kernel_rfl)) (hc) ?_
     refine hdv 9 25 (.int .i64 (a : Int)) (by rfl) (fun w hS => conv_ui16 VL.out.1 rfl (by kernel_rfl)) (hc) ?_
     refine hdv0 10 26 (.int .i64 (k : Int)) (by rfl) (hc) ?_
     refine hdv 11 27 (.pointer (some ⟨N + 1, k, none⟩)) (by rfl) (fun w hS => at_poly hlk rfl (by kernel_rfl) (by kernel_rfl)) (hc) ?_
     refine hdv 12 28 (.int .u16 (B : Int)) (by rfl) (fun w hS => load_u16 rfl hS.2 (by kernel_rfl)) (hc) ?_
     refine hdv 13 29 (.int .u16 (b : Int)) (by rfl) (fun w hS => rem_u16 Hb.out HB.out.2 rfl (by kernel_rfl)) (hc) ?_
     refine hdv 14 30 (.int .i64 (b : Int)) (by rfl) (fun w hS => conv_ui16 VL.out.2.1 rfl (by kernel_rfl)) (hc) ?_
     refine hdv 15 31 (.int .i64 (ab : Int)) (by rfl) (fun w hS => mul_iin Hab.out VL.out.2.2.1 rfl (by kernel_rfl) (by kernel_rfl)) (hc) ?_
     refine held_one 4 (by kernel_rfl) ?_
     refine step_value 4 _ _ (some 20) (.int .i64 (sm : Int)) V (by rfl) (by kernel_rfl) (load_ir rfl c3 (by kernel_rfl)) (hc) ?_
     simp only [Act.put, arr9, hd9, tl9]
     refine hdv 16 32 (.int .i64 (s : Int)) (by rfl) (fun w hS => add_ii VL.out.2.2.2 rfl (by kernel_rfl) (by kernel_rfl)) (hc) ?_
     refine hdv 17 33 (.pointer (some ⟨N + 3, m, none⟩)) (by rfl) (fun w hS => at_512 hm rfl (by kernel_rfl) (by kernel_rfl)) (hc) ?_
     refine held_one 18 (by kernel_rfl) ?_
     refine step_store1 18 _ (by rfl) (by kernel_rfl) (V.setCell ⟨N + 3, m, none⟩ (.int .i64 (s : Int))) (run_storeI hm HIV.out.2.2.2.1 rfl (by kernel_rfl) (by kernel_rfl)) ⟨⟨(((But.refl V.heap.size (N + 3) V).setCell m _).cell (p := ⟨N, i, none⟩) HIV.out.1.lt (by simp)).trans hc.1, (((But.refl V.heap.size (N + 3) V).setCell m _).cell (p := ⟨N + 1, k, none⟩) HIV.out.2.1.lt (by simp)).trans hc.2⟩, ?_⟩
     refine wpAnyH_done (by kernel_rfl) ?_ _
     clear hc c3 HIV
     go_wp2
     go_roundw
     case rel => exact ⟨k + 1, by omega, by go_num, HF⟩
     case measure => simp [intOf]; omega
    ·have hlk2 : ¬ (k : Int) < 256 := by omega
     rw [show k = 256 by omega, H0.out.2.1 i] at HI
     go_wp2
     go_roundw
     case rel => exact ⟨i + 1, by omega, by go_num, HI⟩
     case measure => simp [intOf]; omega
  ·have hli2 : ¬ (i : Int) < 256 := by omega
   rw [show i = 256 by omega] at HI
   go_wp2_with (refine wl_allocP rfl rfl ?_)
   obtain ⟨M, hM⟩ : ∃ M, M = wr.heap.size := ⟨_, rfl⟩
   obtain ⟨W2, hW2⟩ : ∃ W2, W2 = wr.alloc (.cells (pc fun _ => 0).toArray 24) := ⟨_, rfl⟩
   have H2 : Shh ((Row W2 (N + 2) 24 (pc fun _ => 0) ∧ Row W2 (N + 3) 47 (ic 512 (SM 256 0)) ∧ Row W2 M 24 (pc (half r (fun _ => 0) 0)) ∧ Below N w W2) ∧ N + 3 < M) := by
    rw [half_zero]
    refine ⟨⟨by rw [hW2]; exact HI.out.2.2.1.alloc _, by rw [hW2]; exact HI.out.2.2.2.1.alloc _, by rw [hW2]; exact Row.new_ hM rfl, by rw [hW2]; exact HI.out.2.2.2.2.trans ((bel1 _ _).mono (Nat.le_of_lt HI.out.1.lt))⟩, by rw [hM]; exact HI.out.2.2.2.1.lt⟩
   have HMN := Shh.mk H2.out.2
   rw [← hW2, ← hM]
   clear hW2 hM HI HP
   go_wp2
   go_loopw [9, 36] (fun _ c wq => ∃ k : Nat, k ≤ 256 ∧ c = .int .i64 (k : Int) ∧ Shh (Row wq (N + 2) 24 (pc fun _ => 0) ∧ Row wq (N + 3) 47 (ic 512 (SM 256 0)) ∧ Row wq M 24 (pc (half r (fun _ => 0) k)) ∧ Below N w wq)) (fun _ c _ => 256 - (intOf c).toNat)
   case atStart => exact ⟨0, Nat.zero_le _, rfl, ⟨H2.out.1⟩⟩
   case round =>
    clear H2
    obtain ⟨k, hk, rfl, HI⟩ := hrel
    by_cases hlk : k < 256
    ·have hlk2 : (k : Int) < 256 := by omega
     obtain ⟨k2, Hk2⟩ : ∃ v, Shh (v = k + 256) := ⟨_, ⟨rfl⟩⟩
     have hk1 : k < 512 := by omega
     have hk2 : k2 < 512 := by have := Hk2.out; omega
     have hMN : ¬ N + 3 = M := by have := HMN.out; omega
     have hMN2 : ¬ N + 2 = M := by have := HMN.out; omega
     have HZK := Shh.mk (HZ.out k)
     rw [← Hk2.out] at HZK
     have HL := Shh.mk (And.intro (H0.out.2.2.2 256 0 k (by omega) (by omega)) (H0.out.2.2.2 256 0 k2 (by omega) (by omega)))
     obtain ⟨V, hV⟩ : ∃ V, V = World.drew wr := ⟨_, rfl⟩
     have HIV : Shh (Row V (N + 2) 24 (pc fun _ => 0) ∧ Row V (N + 3) 47 (ic 512 (SM 256 0)) ∧ Row V M 24 (pc (half r (fun _ => 0) k)) ∧ Below N w V) := by subst hV; exact ⟨HI.out.1.drew, HI.out.2.1.drew, HI.out.2.2.1.drew, HI.out.2.2.2.drew⟩
     have c1 : V.cell? ⟨N + 3, k, none⟩ = some (.int .i64 (SM 256 0 k : Int)) := (HIV.out.2.1.cell k).trans (ic_get _ hk1)
     have c2 : V.cell? ⟨N + 3, k2, none⟩ = some (.int .i64 (SM 256 0 k2 : Int)) := (HIV.out.2.1.cell k2).trans (ic_get _ hk2)
     have HF : Shh (Row (V.setCell ⟨M, k, none⟩ (.int .u16 (r k : Int))) (N + 2) 24 (pc fun _ => 0) ∧ Row (V.setCell ⟨M, k, none⟩ (.int .u16 (r k : Int))) (N + 3) 47 (ic 512 (SM 256 0)) ∧ Row (V.setCell ⟨M, k, none⟩ (.int .u16 (r k : Int))) M 24 (pc (half r (fun _ => 0) (k + 1))) ∧ Below N w (V.setCell ⟨M, k, none⟩ (.int .u16 (r k : Int)))) := by
      have h := HIV.out.2.2.1.set_ k (.int .u16 (r k : Int))
      rw [pc_set, half_next] at h
      exact ⟨⟨HIV.out.1.other _ _ hMN2, HIV.out.2.1.other _ _ hMN, h, HIV.out.2.2.2.setCell (p := ⟨M, k, none⟩) (by show N ≤ M; have := HMN.out; omega) _⟩⟩
     obtain ⟨x, Hx⟩ : ∃ v, Shh (v = SM 256 0 k) := ⟨_, ⟨rfl⟩⟩
     rw [← Hx.out] at c1 HL HZK
     obtain ⟨y, Hy⟩ : ∃ v, Shh (v = SM 256 0 k2) := ⟨_, ⟨rfl⟩⟩
     rw [← Hy.out] at c2 HL HZK
     obtain ⟨xm, Hxm⟩ : ∃ v, Shh (v = x % 3329) := ⟨_, ⟨rfl⟩⟩
     obtain ⟨ym, Hym⟩ : ∃ v, Shh (v = y % 3329) := ⟨_, ⟨rfl⟩⟩
     rw [← Hxm.out, ← Hym.out] at HZK
     obtain ⟨xp, Hxp⟩ : ∃ v, Shh (v = xm + 3329) := ⟨_, ⟨rfl⟩⟩
     rw [← Hxp.out] at HZK
     obtain ⟨df, Hdf⟩ : ∃ v, Shh (v = xp - ym) := ⟨_, ⟨rfl⟩⟩
     rw [← Hdf.out] at HZK
     obtain ⟨rk, Hrk⟩ : ∃ v, Shh (v = r k) := ⟨_, ⟨rfl⟩⟩
     rw [← Hrk.out] at HF HZK
     have hxm : xm < 3329 := by rw [Hxm.out]; exact Nat.mod_lt _ (by decide)
     have hym : ym < 3329 := by rw [Hym.out]; exact Nat.mod_lt _ (by decide)
     have VL : Shh ((x ≤ 1000000000000 ∧ y ≤ 1000000000000) ∧ (xp = xm + 3329 ∧ xp ≤ 1000000000000) ∧ (xp = df + ym ∧ xp ≤ 1000000000000) ∧ (rk = df % 3329 ∧ df ≤ 1000000000000) ∧ rk < 65536 ∧ (k2 = k + 256 ∧ k2 ≤ 1000000000000)) := by
      have h1 := HL.out
      have h2 := Hxp.out
      have h3 := Hdf.out
      have h4 := HZK.out
      have h5 := Hk2.out
      refine ⟨⟨by omega, by omega⟩, ⟨h2, by omega⟩, ⟨by omega, by omega⟩, ⟨h4.symm, by omega⟩, by omega, h5, by omega⟩
     clear hxm hym HI HL HZK
     go_wp2
     refine wp_region_held_drew (S := fun w' => w'.cell? ⟨N + 3, k, none⟩ = some (.int .i64 (x : Int)) ∧ w'.cell? ⟨N + 3, k2, none⟩ = some (.int .i64 (y : Int))) (by kernel_rfl) (by rw [← hV]; exact ⟨c1, c2⟩) (fun hS => ?_)
     clear hS
     rw [← hV]
     have hc : V.cell? ⟨N + 3, k, none⟩ = some (.int .i64 (x : Int)) ∧ V.cell? ⟨N + 3, k2, none⟩ = some (.int .i64 (y : Int)) := ⟨c1, c2⟩
     clear hV c1 c2
     refine hdv0 0 39 (.int .i64 (k : Int)) (by rfl) (hc) ?_
     refine hdv0 1 40 (.int .i64 (k : Int)) (by rfl) (hc) ?_
     refine hdv 2 41 (.pointer (some ⟨N + 3, k, none⟩)) (by rfl) (fun w hS => at_512 hk1 rfl (by kernel_rfl) (by kernel_rfl)) (hc) ?_
     refine hdv 3 42 (.int .i64 (x : Int)) (by rfl) (fun w hS => load_ir rfl hS.1 (by kernel_rfl)) (hc) ?_
     refine hdv 4 43 (.int .i64 (xm : Int)) (by rfl) (fun w hS => rem_iq Hxm.out VL.out.1.1 rfl (by kernel_rfl)) (hc) ?_
     refine hdv 5 44 (.int .i64 (xp : Int)) (by rfl) (fun w hS => add_ii VL.out.2.1 rfl (by kernel_rfl) (by kernel_rfl)) (hc) ?_
     refine hdv0 6 45 (.int .i64 (k : Int)) (by rfl) (hc) ?_
     refine hdv 7 46 (.int .i64 (k2 : Int)) (by rfl) (fun w hS => add_ii VL.out.2.2.2.2.2 rfl (by kernel_rfl) (by kernel_rfl)) (hc) ?_
     refine hdv 8 47 (.pointer (some ⟨N + 3, k2, none⟩)) (by rfl) (fun w hS => at_512 hk2 rfl (by kernel_rfl) (by kernel_rfl)) (hc) ?_
     refine hdv 9 48 (.int .i64 (y : Int)) (by rfl) (fun w hS => load_ir rfl hS.2 (by kernel_rfl)) (hc) ?_
     refine hdv 10 49 (.int .i64 (ym : Int)) (by rfl) (fun w hS => rem_iq Hym.out VL.out.1.2 rfl (by kernel_rfl)) (hc) ?_
     refine hdv 11 50 (.int .i64 (df : Int)) (by rfl) (fun w hS => sub_ii VL.out.2.2.1 rfl (by kernel_rfl) (by kernel_rfl)) (hc) ?_
     refine hdv 12 51 (.int .i64 (rk : Int)) (by rfl) (fun w hS => rem_iq VL.out.2.2.2.1.1 VL.out.2.2.2.1.2 rfl (by kernel_rfl)) (hc) ?_
     refine hdv 13 52 (.int .u16 (rk : Int)) (by rfl) (fun w hS => conv_iu16 VL.out.2.2.2.2.1 rfl (by kernel_rfl)) (hc) ?_
     refine hdv 14 53 (.pointer (some ⟨M, k, none⟩)) (by rfl) (fun w hS => at_poly hlk rfl (by kernel_rfl) (by kernel_rfl)) (hc) ?_
     refine held_one 15 (by kernel_rfl) ?_
     refine step_store1 15 _ (by rfl) (by kernel_rfl) (V.setCell ⟨M, k, none⟩ (.int .u16 (rk : Int))) (run_storeP hlk HIV.out.2.2.1 rfl (by kernel_rfl) (by kernel_rfl)) ⟨⟨(((But.refl V.heap.size M V).setCell k _).cell (p := ⟨N + 3, k, none⟩) HIV.out.2.1.lt hMN).trans hc.1, (((But.refl V.heap.size M V).setCell k _).cell (p := ⟨N + 3, k2, none⟩) HIV.out.2.1.lt hMN).trans hc.2⟩, ?_⟩
     refine wpAnyH_done (by kernel_rfl) ?_ _
     clear hc HIV
     go_wp2
     go_roundw
     case rel => exact ⟨k + 1, by omega, by go_num, HF⟩
     case measure => simp [intOf]; omega
    ·have hlk2 : ¬ (k : Int) < 256 := by omega
     have HL : Shh (pc (half r (fun _ => 0) k) = pc r) := ⟨by rw [show k = 256 by omega]; exact half_all _ _⟩
     rw [HL.out] at HI
     clear HL
     go_wp2_with (first
      | refine wpList_load_any rfl 24 (.tmp 8) rfl M rfl 24 (pc r) (.array 256 22) HI.out.2.2.1 Try.underlying24 rfl (info_poly.trans (size_poly r)) ?_
      | refine wpList_store_any rfl 24 (.tmp 4) (.tmp 55) rfl (N + 2) rfl (pc r) rfl 24 _ HI.out.1 (info_poly.trans (size_poly r)) (by rw [pc_length, pc_length]) (pc_one r) ?_)
     intro w9 hr9 b9 _
     have hb9 := HI.out.2.2.2.trans (b9.under (by have := HI.out.1.lt; omega) (by omega))
     go_wp2
     exact ret_row Try.results21 rfl rfl hr9 Try.underlying24 rfl (info_poly.trans (size_poly r)) ⟨rfl, hb9⟩
end Go.Proofs.Ytfcgdjgfdbcddaa

/-
 THE DOCUMENT'S OWN Inv.
-/
namespace Go.Proofs.Ytfcgdjgfdbcddaa
open Go.RowKit
set_option maxRecDepth 100000
set_option maxHeartbeats 2000000 in
theorem refInv_any (p : Nat → Nat) (hp : ∀ i, i < 256 → p i < 65536) (w : World) : Calls Try.prog 25 #[polyV p] w (PolyIs w (invN p)) := by
 unfold PolyIs polyV
 generalize hN : w.heap.size = N at *
 have HP := Shh.mk hp
 obtain ⟨SE, HSE⟩ : ∃ S, Shh (S = invS (fun i => p (2 * i))) := ⟨_, ⟨rfl⟩⟩
 obtain ⟨SO, HSO⟩ : ∃ S, Shh (S = invS (fun i => p (2 * i + 1))) := ⟨_, ⟨rfl⟩⟩
 have HZ : Shh (∀ j, SE 128 0 j % 3329 = invN p (2 * j) ∧ SO 128 0 j % 3329 = invN p (2 * j + 1)) := ⟨fun j => by rw [HSE.out, HSO.out]; exact ⟨inv_even p j, inv_odd p j⟩⟩
 have H0 : Shh ((SE 0 0 = (fun _ => 0) ∧ SO 0 0 = fun _ => 0) ∧ (∀ i, ic 128 (SE i 128) = ic 128 (SE (i + 1) 0) ∧ ic 128 (SO i 128) = ic 128 (SO (i + 1) 0)) ∧ (∀ i k, upd (SE i k) k (SE i k k + tS (gB i) (p (2 * i)) k) = SE i (k + 1) ∧ upd (SO i k) k (SO i k k + tS (gB i) (p (2 * i + 1)) k) = SO i (k + 1)) ∧ ∀ i k j, i ≤ 128 → SE i k j ≤ 1000000 ∧ SO i k j ≤ 1000000) := ⟨by
  rw [HSE.out, HSO.out]
  exact ⟨⟨invS_zero _, invS_zero _⟩, fun i => ⟨invS_row _ i, invS_row _ i⟩, fun i k => ⟨invS_next (fun i => p (2 * i)) i k, invS_next (fun i => p (2 * i + 1)) i k⟩, fun i k j hi => ⟨invS_le _ i k j hi, invS_le _ i k j hi⟩⟩⟩
 have HRT : Shh (∀ k : Nat, k < 128 → (∀ w, Calls Try.prog 47 #[.int .i64 (k : Int)] w (NumIs w (rtN k))) ∧ ∀ w, Calls Try.prog 48 #[.int .i64 (rtN k : Int), .int .i64 255] w (NumIs w (gB k))) := ⟨fun k hk => ⟨fun w => Root_any k hk w, fun w => power_any (rtN k) 255 (Nat.mod_lt _ (by decide)) (by decide) w⟩⟩
 have HGB : Shh (∀ k : Nat, gB k < 3329) := ⟨fun k => Nat.mod_lt _ (by decide)⟩
 generalize invN p = r at *
 clear hp HSE HSO
 go_enter Try.func25, Try.ntmps25
 go_wp2_with (first | refine wl_allocP rfl rfl ?_ | refine wl_alloc128 rfl rfl ?_)
 obtain ⟨W, hW⟩ : ∃ W, W = (((w.alloc (.cells (pc p).toArray 24)).alloc (.cells (pc fun _ => 0).toArray 24)).alloc (.cells (ic 128 fun _ => 0).toArray 51)).alloc (.cells (ic 128 fun _ => 0).toArray 51) := ⟨_, rfl⟩
 have HW : Shh (Row W N 24 (pc p) ∧ Row W (N + 1) 24 (pc fun _ => 0) ∧ Row W (N + 2) 51 (ic 128 (SE 0 0)) ∧ Row W (N + 3) 51 (ic 128 (SO 0 0)) ∧ Below N w W) := by
  rw [H0.out.1.1, H0.out.1.2]
  refine ⟨by rw [hW]; exact (((Row.new_ hN.symm rfl).alloc _).alloc _).alloc _, by rw [hW]; exact ((Row.new_ (by rw [asz, hN]) rfl).alloc _).alloc _, by rw [hW]; exact (Row.new_ (by rw [asz, asz, hN]) rfl).alloc _, by rw [hW]; exact Row.new_ (by rw [asz, asz, asz, hN]) rfl, ?_⟩
  rw [hW, ← hN]
  exact Below.chain (Below.chain (Below.chain (bel1 _ _) (bel1 _ _)) (bel1 _ _)) (bel1 _ _)
 try simp only [asz, hN]
 rw [← hW]
 clear hW
 go_wp2
 go_loopw [5, 6, 7, 8, 9, 12, 35] (fun _ _ _ _ _ i _ wr => ∃ k : Nat, k ≤ 128 ∧ i = .int .i64 (k : Int) ∧ Shh (Row wr N 24 (pc p) ∧ Row wr (N + 1) 24 (pc fun _ => 0) ∧ Row wr (N + 2) 51 (ic 128 (SE k 0)) ∧ Row wr (N + 3) 51 (ic 128 (SO k 0)) ∧ Below N w wr)) (fun _ _ _ _ _ i _ _ => 128 - (intOf i).toNat)
 case atStart => exact ⟨0, Nat.zero_le _, rfl, HW⟩
 case round =>
  clear HW
  obtain ⟨i, hi, rfl, HI⟩ := hrel
  by_cases hli : i < 128
  ·have hli2 : (i : Int) < 128 := by omega
   have HK := Shh.mk (HRT.out i hli)
   have HG := Shh.mk (HGB.out i)
   have HNX := Shh.mk (H0.out.2.2.1 i)
   clear HRT
   generalize gB i = g at *
   generalize rtN i = rt at *
   obtain ⟨d, Hd⟩ : ∃ d, Shh (d = 2 * i) := ⟨_, ⟨rfl⟩⟩
   obtain ⟨d1, Hd1⟩ : ∃ d1, Shh (d1 = d + 1) := ⟨_, ⟨rfl⟩⟩
   have hd : d < 256 := by have := Hd.out; omega
   have hd1 : d1 < 256 := by have := Hd.out; have := Hd1.out; omega
   rw [← Hd.out, ← Hd1.out] at HNX
   have V3 := Shh.mk (show d ≤ 1000000000000 by omega)
   have V4 := Shh.mk (show d1 = d + 1 ∧ d1 ≤ 1000000000000 from ⟨Hd1.out, by omega⟩)
   have HBD : Shh (p d < 65536 ∧ p d1 < 65536) := ⟨HP.out d hd, HP.out d1 hd1⟩
   go_wp2_with (first | (go_at_call 47; refine (HK.out.1 _).mono ?_) | (go_at_call 48; refine (HK.out.2 _).mono ?_))
   unfold NumIs
   rintro e w2 ⟨rfl, rfl⟩
   go_wp2_with (go_at_call 48; refine (HK.out.2 _).mono ?_)
   unfold NumIs
   rintro e w3 ⟨rfl, rfl⟩
   go_wp2
   obtain ⟨V, hV⟩ : ∃ V, V = World.drew wr := ⟨_, rfl⟩
   have HIV : Shh (Row V N 24 (pc p) ∧ Row V (N + 1) 24 (pc fun _ => 0) ∧ Row V (N + 2) 51 (ic 128 (SE i 0)) ∧ Row V (N + 3) 51 (ic 128 (SO i 0)) ∧ Below N w V) := by subst hV; exact ⟨HI.out.1.drew, HI.out.2.1.drew, HI.out.2.2.1.drew, HI.out.2.2.2.1.drew, HI.out.2.2.2.2.drew⟩
   have HC : Shh (V.cell? ⟨N, d, none⟩ = some (.int .u16 (p d : Int)) ∧ V.cell? ⟨N, d1, none⟩ = some (.int .u16 (p d1 : Int))) := ⟨(HIV.out.1.cell d).trans (pc_get _ hd), (HIV.out.1.cell d1).trans (pc_get _ hd1)⟩
   have HT0 : Shh (p d % 3329 * 3303 % 3329 = tS g (p d) 0 ∧ p d1 % 3329 * 3303 % 3329 = tS g (p d1) 0) := ⟨rfl, rfl⟩
   clear HI
   obtain ⟨A, HA⟩ : ∃ v, Shh (v = p d) := ⟨_, ⟨rfl⟩⟩
   rw [← HA.out] at HC HBD HT0 HNX
   obtain ⟨a, Ha⟩ : ∃ v, Shh (v = A % 3329) := ⟨_, ⟨rfl⟩⟩
   obtain ⟨am, Ham⟩ : ∃ v, Shh (v = a * 3303) := ⟨_, ⟨rfl⟩⟩
   obtain ⟨a0, Ha0⟩ : ∃ v, Shh (v = am % 3329) := ⟨_, ⟨rfl⟩⟩
   rw [← Ha.out, ← Ham.out, ← Ha0.out] at HT0
   have ha : a < 3329 := by rw [Ha.out]; exact Nat.mod_lt _ (by decide)
   have Va : Shh (a < 65536 ∧ am ≤ 1000000000000) := ⟨by omega, by have := Ham.out; omega⟩
   clear ha
   obtain ⟨B, HB⟩ : ∃ v, Shh (v = p d1) := ⟨_, ⟨rfl⟩⟩
   rw [← HB.out] at HC HBD HT0 HNX
   obtain ⟨b, Hb⟩ : ∃ v, Shh (v = B % 3329) := ⟨_, ⟨rfl⟩⟩
   obtain ⟨bm, Hbm⟩ : ∃ v, Shh (v = b * 3303) := ⟨_, ⟨rfl⟩⟩
   obtain ⟨b0, Hb0⟩ : ∃ v, Shh (v = bm % 3329) := ⟨_, ⟨rfl⟩⟩
   rw [← Hb.out, ← Hbm.out, ← Hb0.out] at HT0
   have hb : b < 3329 := by rw [Hb.out]; exact Nat.mod_lt _ (by decide)
   have Vb : Shh (b < 65536 ∧ bm ≤ 1000000000000) := ⟨by omega, by have := Hbm.out; omega⟩
   clear hb
   refine wp_region_held_drew (S := fun w' => w'.cell? ⟨N, d, none⟩ = some (.int .u16 (A : Int)) ∧ w'.cell? ⟨N, d1, none⟩ = some (.int .u16 (B : Int))) (by kernel_rfl) (by rw [← hV]; exact HC.out) (fun hS => ?_)
   clear hS
   rw [← hV]
   have hc := HC.out
   clear hV
   refine hdv0 0 18 (.int .i64 (i : Int)) (by rfl) (hc) ?_
   refine hdv 1 19 (.int .i64 (d : Int)) (by rfl) (fun w hS => mul_iin (i := 2) (j := i) Hd.out V3.out rfl (by kernel_rfl) (by kernel_rfl)) (hc) ?_
   refine hdv 2 20 (.pointer (some ⟨N, d, none⟩)) (by rfl) (fun w hS => at_poly hd rfl (by kernel_rfl) (by kernel_rfl)) (hc) ?_
   refine hdv 3 21 (.int .u16 (A : Int)) (by rfl) (fun w hS => load_u16 rfl hS.1 (by kernel_rfl)) (hc) ?_
   refine hdv 4 22 (.int .u16 (a : Int)) (by rfl) (fun w hS => rem_u16 Ha.out HBD.out.1 rfl (by kernel_rfl)) (hc) ?_
   refine hdv 5 23 (.int .i64 (a : Int)) (by rfl) (fun w hS => conv_ui16 Va.out.1 rfl (by kernel_rfl)) (hc) ?_
   refine hdv 6 24 (.int .i64 (am : Int)) (by rfl) (fun w hS => mul_iin (i := a) (j := 3303) Ham.out Va.out.2 rfl (by kernel_rfl) (by kernel_rfl)) (hc) ?_
   refine hdv 7 25 (.int .i64 (a0 : Int)) (by rfl) (fun w hS => rem_iq Ha0.out Va.out.2 rfl (by kernel_rfl)) (hc) ?_
   refine hdv0 8 26 (.int .i64 (i : Int)) (by rfl) (hc) ?_
   refine hdv 9 27 (.int .i64 (d : Int)) (by rfl) (fun w hS => mul_iin (i := 2) (j := i) Hd.out V3.out rfl (by kernel_rfl) (by kernel_rfl)) (hc) ?_
   refine hdv 10 28 (.int .i64 (d1 : Int)) (by rfl) (fun w hS => add_ii (i := d) (j := 1) V4.out rfl (by kernel_rfl) (by kernel_rfl)) (hc) ?_
   refine hdv 11 29 (.pointer (some ⟨N, d1, none⟩)) (by rfl) (fun w hS => at_poly hd1 rfl (by kernel_rfl) (by kernel_rfl)) (hc) ?_
   refine hdv 12 30 (.int .u16 (B : Int)) (by rfl) (fun w hS => load_u16 rfl hS.2 (by kernel_rfl)) (hc) ?_
   refine hdv 13 31 (.int .u16 (b : Int)) (by rfl) (fun w hS => rem_u16 Hb.out HBD.out.2 rfl (by kernel_rfl)) (hc) ?_
   refine hdv 14 32 (.int .i64 (b : Int)) (by rfl) (fun w hS => conv_ui16 Vb.out.1 rfl (by kernel_rfl)) (hc) ?_
   refine hdv 15 33 (.int .i64 (bm : Int)) (by rfl) (fun w hS => mul_iin (i := b) (j := 3303) Hbm.out Vb.out.2 rfl (by kernel_rfl) (by kernel_rfl)) (hc) ?_
   refine hdv 16 34 (.int .i64 (b0 : Int)) (by rfl) (fun w hS => rem_iq Hb0.out Vb.out.2 rfl (by kernel_rfl)) (hc) ?_
   refine hdv0 17 7 (.int .i64 (a0 : Int)) (by rfl) (hc) ?_
   refine hdv0 18 8 (.int .i64 (b0 : Int)) (by rfl) (hc) ?_
   refine wpAnyH_done (by kernel_rfl) ?_ _
   clear hc HC
   rw [HT0.out.1, HT0.out.2]
   clear HT0 HA HB Ha Hb Ham Hbm Ha0 Hb0 Va Vb
   go_wp2
   go_loopw [7, 8, 9, 35] (fun e f _ c wq => ∃ k : Nat, k ≤ 128 ∧ c = .int .i64 (k : Int) ∧ e = .int .i64 (tS g A k : Int) ∧ f = .int .i64 (tS g B k : Int) ∧ Shh (Row wq N 24 (pc p) ∧ Row wq (N + 1) 24 (pc fun _ => 0) ∧ Row wq (N + 2) 51 (ic 128 (SE i k)) ∧ Row wq (N + 3) 51 (ic 128 (SO i k)) ∧ Below N w wq)) (fun _ _ _ c _ => 128 - (intOf c).toNat)
   case atStart => exact ⟨0, Nat.zero_le _, rfl, rfl, rfl, HIV⟩
   case round =>
    clear HIV
    obtain ⟨k, hk, rfl, rfl, rfl, HI⟩ := hrel
    by_cases hlk : k < 128
    ·have hlk2 : (k : Int) < 128 := by omega
     have HNK := Shh.mk (HNX.out k)
     have HL := Shh.mk (H0.out.2.2.2 i k k (Nat.le_of_lt hli))
     have HTT : Shh (tS g A k < 3329 ∧ tS g B k < 3329 ∧ tS g A (k + 1) = tS g A k * g % 3329 ∧ tS g B (k + 1) = tS g B k * g % 3329) := ⟨tS_lt _ _ _, tS_lt _ _ _, rfl, rfl⟩
     have c1 := HI.out.2.2.1.cell k
     rw [ic_get _ hlk] at c1
     have c2 := HI.out.2.2.2.1.cell k
     rw [ic_get _ hlk] at c2
     obtain ⟨e, He⟩ : ∃ v, Shh (v = tS g A k) := ⟨_, ⟨rfl⟩⟩
     obtain ⟨f, Hf⟩ : ∃ v, Shh (v = tS g B k) := ⟨_, ⟨rfl⟩⟩
     rw [← He.out] at HTT HNK ⊢
     rw [← Hf.out] at HTT HNK ⊢
     obtain ⟨x, Hx⟩ : ∃ v, Shh (v = SE i k k) := ⟨_, ⟨rfl⟩⟩
     rw [← Hx.out] at HNK HL c1
     obtain ⟨y, Hy⟩ : ∃ v, Shh (v = SO i k k) := ⟨_, ⟨rfl⟩⟩
     rw [← Hy.out] at HNK HL c2
     clear He Hf Hx Hy
     obtain ⟨s, Hs⟩ : ∃ v, Shh (v = x + e) := ⟨_, ⟨rfl⟩⟩
     obtain ⟨t, Ht⟩ : ∃ v, Shh (v = y + f) := ⟨_, ⟨rfl⟩⟩
     rw [← Hs.out, ← Ht.out] at HNK
     obtain ⟨eg, Heg⟩ : ∃ v, Shh (v = e * g) := ⟨_, ⟨rfl⟩⟩
     obtain ⟨fg, Hfg⟩ : ∃ v, Shh (v = f * g) := ⟨_, ⟨rfl⟩⟩
     obtain ⟨e2, He2⟩ : ∃ v, Shh (v = eg % 3329) := ⟨_, ⟨rfl⟩⟩
     obtain ⟨f2, Hf2⟩ : ∃ v, Shh (v = fg % 3329) := ⟨_, ⟨rfl⟩⟩
     have VL : Shh ((s = x + e ∧ s ≤ 1000000000000) ∧ (t = y + f ∧ t ≤ 1000000000000) ∧ eg ≤ 1000000000000 ∧ fg ≤ 1000000000000) := by
      obtain ⟨h1, h2, _⟩ := HTT.out
      have h3 := HL.out
      have h4 := Hs.out
      have h5 := Ht.out
      refine ⟨⟨h4, by omega⟩, ⟨h5, by omega⟩, ?_, ?_⟩
      ·rw [Heg.out]; exact Nat.le_trans (Nat.mul_le_mul (Nat.le_of_lt h1) (Nat.le_of_lt HG.out)) (by decide)
      ·rw [Hfg.out]; exact Nat.le_trans (Nat.mul_le_mul (Nat.le_of_lt h2) (Nat.le_of_lt HG.out)) (by decide)
     go_wp2_with (first | refine wl_at 39 rfl (.pointer (some ⟨N + 2, k, none⟩)) rfl (at_128 hlk rfl rfl rfl) ?_ | refine wl_at 40 rfl (.int .i64 (x : Int)) rfl (load_ir rfl c1 rfl) ?_ | refine wl_at 42 rfl (.int .i64 (s : Int)) rfl (add_ii VL.out.1 rfl rfl rfl) ?_ | refine wl_at 43 rfl (.pointer (some ⟨N + 2, k, none⟩)) rfl (at_128 hlk rfl rfl rfl) ?_ | refine wl_storeI rfl hlk rfl rfl rfl HI.out.2.2.1 ?_)
     intro w4 r4 b4 z4
     rw [HNK.out.1] at r4
     have c3 : w4.cell? ⟨N + 3, k, none⟩ = some (.int .i64 (y : Int)) := (b4.cell (p := ⟨N + 3, k, none⟩) HI.out.2.2.2.1.lt (by simp)).trans c2
     have H4 : Shh (Row w4 N 24 (pc p) ∧ Row w4 (N + 1) 24 (pc fun _ => 0) ∧ Row w4 (N + 2) 51 (ic 128 (SE i (k + 1))) ∧ Row w4 (N + 3) 51 (ic 128 (SO i k)) ∧ Below N w w4) := ⟨b4.row HI.out.1 HI.out.1.lt (by omega), b4.row HI.out.2.1 HI.out.2.1.lt (by omega), r4, b4.row HI.out.2.2.2.1 HI.out.2.2.2.1.lt (by omega), HI.out.2.2.2.2.trans (b4.under (Nat.le_of_lt HI.out.1.lt) (by omega))⟩
     clear r4 b4 z4 HI c1 c2
     go_wp2_with (first | refine wl_at 45 rfl (.pointer (some ⟨N + 3, k, none⟩)) rfl (at_128 hlk rfl rfl rfl) ?_ | refine wl_at 46 rfl (.int .i64 (y : Int)) rfl (load_ir rfl c3 rfl) ?_ | refine wl_at 48 rfl (.int .i64 (t : Int)) rfl (add_ii VL.out.2.1 rfl rfl rfl) ?_ | refine wl_at 49 rfl (.pointer (some ⟨N + 3, k, none⟩)) rfl (at_128 hlk rfl rfl rfl) ?_ | refine wl_storeI rfl hlk rfl rfl rfl H4.out.2.2.2.1 ?_)
     intro w5 r5 b5 z5
     rw [HNK.out.2] at r5
     have H5 : Shh (Row w5 N 24 (pc p) ∧ Row w5 (N + 1) 24 (pc fun _ => 0) ∧ Row w5 (N + 2) 51 (ic 128 (SE i (k + 1))) ∧ Row w5 (N + 3) 51 (ic 128 (SO i (k + 1))) ∧ Below N w w5) := ⟨b5.row H4.out.1 H4.out.1.lt (by omega), b5.row H4.out.2.1 H4.out.2.1.lt (by omega), b5.row H4.out.2.2.1 H4.out.2.2.1.lt (by omega), r5, H4.out.2.2.2.2.trans (b5.under (Nat.le_of_lt H4.out.1.lt) (by omega))⟩
     clear r5 b5 z5 H4 c3
     go_wp2_with (first | refine wl_at 52 rfl (.int .i64 (eg : Int)) rfl (mul_iin (i := e) (j := g) Heg.out VL.out.2.2.1 rfl rfl rfl) ?_ | refine wl_at 53 rfl (.int .i64 (e2 : Int)) rfl (rem_iq He2.out VL.out.2.2.1 rfl rfl) ?_ | refine wl_at 56 rfl (.int .i64 (fg : Int)) rfl (mul_iin (i := f) (j := g) Hfg.out VL.out.2.2.2 rfl rfl rfl) ?_ | refine wl_at 57 rfl (.int .i64 (f2 : Int)) rfl (rem_iq Hf2.out VL.out.2.2.2 rfl rfl) ?_)
     go_roundw
     case rel =>
      refine ⟨k + 1, by omega, by go_num, ?_, ?_, H5⟩
      ·rw [HTT.out.2.2.1, ← Heg.out, ← He2.out]
      ·rw [HTT.out.2.2.2, ← Hfg.out, ← Hf2.out]
     case measure => simp [intOf]; omega
    ·have hlk2 : ¬ (k : Int) < 128 := by omega
     rw [show k = 128 by omega, (H0.out.2.1 i).1, (H0.out.2.1 i).2] at HI
     go_wp2
     go_roundw
     case rel => exact ⟨i + 1, by omega, by go_num, HI⟩
     case measure => simp [intOf]; omega
  ·have hli2 : ¬ (i : Int) < 128 := by omega
   rw [show i = 128 by omega] at HI
   go_wp2_with (refine wl_allocP rfl rfl ?_)
   obtain ⟨M, hM⟩ : ∃ M, M = wr.heap.size := ⟨_, rfl⟩
   obtain ⟨W2, hW2⟩ : ∃ W2, W2 = wr.alloc (.cells (pc fun _ => 0).toArray 24) := ⟨_, rfl⟩
   have H2 : Shh ((Row W2 (N + 1) 24 (pc fun _ => 0) ∧ Row W2 (N + 2) 51 (ic 128 (SE 128 0)) ∧ Row W2 (N + 3) 51 (ic 128 (SO 128 0)) ∧ Row W2 M 24 (pc (half r (fun _ => 0) (2 * 0))) ∧ Below N w W2) ∧ N + 3 < M) := by
    rw [Nat.mul_zero, half_zero]
    refine ⟨⟨by rw [hW2]; exact HI.out.2.1.alloc _, by rw [hW2]; exact HI.out.2.2.1.alloc _, by rw [hW2]; exact HI.out.2.2.2.1.alloc _, by rw [hW2]; exact Row.new_ hM rfl, by rw [hW2]; exact HI.out.2.2.2.2.trans ((bel1 _ _).mono (Nat.le_of_lt HI.out.1.lt))⟩, by rw [hM]; exact HI.out.2.2.2.1.lt⟩
   have HMN := Shh.mk H2.out.2
   rw [← hW2, ← hM]
   clear hW2 hM HI HP HRT HGB
   go_wp2
   go_loopw [11, 60] (fun _ c wq => ∃ k : Nat, k ≤ 128 ∧ c = .int .i64 (k : Int) ∧ Shh (Row wq (N + 1) 24 (pc fun _ => 0) ∧ Row wq (N + 2) 51 (ic 128 (SE 128 0)) ∧ Row wq (N + 3) 51 (ic 128 (SO 128 0)) ∧ Row wq M 24 (pc (half r (fun _ => 0) (2 * k))) ∧ Below N w wq)) (fun _ c _ => 128 - (intOf c).toNat)
   case atStart => exact ⟨0, Nat.zero_le _, rfl, ⟨H2.out.1⟩⟩
   case round =>
    clear H2
    obtain ⟨k, hk, rfl, HI⟩ := hrel
    by_cases hlk : k < 128
    ·have hlk2 : (k : Int) < 128 := by omega
     obtain ⟨d, Hd⟩ : ∃ d, Shh (d = 2 * k) := ⟨_, ⟨rfl⟩⟩
     obtain ⟨d1, Hd1⟩ : ∃ d1, Shh (d1 = d + 1) := ⟨_, ⟨rfl⟩⟩
     have hd : d < 256 := by have := Hd.out; omega
     have hd1 : d1 < 256 := by have := Hd.out; have := Hd1.out; omega
     have V3 := Shh.mk (show d ≤ 1000000000000 by omega)
     have V4 := Shh.mk (show d1 = d + 1 ∧ d1 ≤ 1000000000000 from ⟨Hd1.out, by omega⟩)
     have hh := half_two r (fun _ => 0) k
     have HZK := Shh.mk (HZ.out k)
     rw [← Hd.out, ← Hd1.out] at hh HZK
     rw [← Hd.out] at HI
     have HH := Shh.mk hh
     clear hh
     have hM1 : ¬ N + 1 = M := by have := HMN.out; omega
     have hM2 : ¬ N + 2 = M := by have := HMN.out; omega
     have hM3 : ¬ N + 3 = M := by have := HMN.out; omega
     have HL := Shh.mk (H0.out.2.2.2 128 0 k (by omega))
     obtain ⟨V, hV⟩ : ∃ V, V = World.drew wr := ⟨_, rfl⟩
     have HIV : Shh (Row V (N + 1) 24 (pc fun _ => 0) ∧ Row V (N + 2) 51 (ic 128 (SE 128 0)) ∧ Row V (N + 3) 51 (ic 128 (SO 128 0)) ∧ Row V M 24 (pc (half r (fun _ => 0) d)) ∧ Below N w V) := by subst hV; exact ⟨HI.out.1.drew, HI.out.2.1.drew, HI.out.2.2.1.drew, HI.out.2.2.2.1.drew, HI.out.2.2.2.2.drew⟩
     have c1 : V.cell? ⟨N + 2, k, none⟩ = some (.int .i64 (SE 128 0 k : Int)) := (HIV.out.2.1.cell k).trans (ic_get _ hlk)
     have c2 : V.cell? ⟨N + 3, k, none⟩ = some (.int .i64 (SO 128 0 k : Int)) := (HIV.out.2.2.1.cell k).trans (ic_get _ hlk)
     obtain ⟨x, Hx⟩ : ∃ v, Shh (v = SE 128 0 k) := ⟨_, ⟨rfl⟩⟩
     rw [← Hx.out] at c1 HL HZK
     obtain ⟨y, Hy⟩ : ∃ v, Shh (v = SO 128 0 k) := ⟨_, ⟨rfl⟩⟩
     rw [← Hy.out] at c2 HL HZK
     obtain ⟨xm, Hxm⟩ : ∃ v, Shh (v = x % 3329) := ⟨_, ⟨rfl⟩⟩
     obtain ⟨ym, Hym⟩ : ∃ v, Shh (v = y % 3329) := ⟨_, ⟨rfl⟩⟩
     rw [← Hxm.out, ← Hym.out] at HZK
     have hxm : xm < 3329 := by rw [Hxm.out]; exact Nat.mod_lt _ (by decide)
     have hym : ym < 3329 := by rw [Hym.out]; exact Nat.mod_lt _ (by decide)
     have VL : Shh (x ≤ 1000000000000 ∧ y ≤ 1000000000000 ∧ xm < 65536 ∧ ym < 65536) := by
      have h1 := HL.out
      exact ⟨⟨by omega, by omega, by omega, by omega⟩⟩
     clear hxm hym HI HL
     obtain ⟨X1, hX1⟩ : ∃ X, X = V.setCell ⟨M, d, none⟩ (.int .u16 (xm : Int)) := ⟨_, rfl⟩
     have hb1 : But V.heap.size M V X1 := by rw [hX1]; exact (But.refl _ _ _).setCell _ _
     have R1 : Shh (Row X1 (N + 1) 24 (pc fun _ => 0) ∧ Row X1 (N + 2) 51 (ic 128 (SE 128 0)) ∧ Row X1 (N + 3) 51 (ic 128 (SO 128 0)) ∧ Row X1 M 24 (pc (upd (half r (fun _ => 0) d) d xm)) ∧ Below N w X1) := by
      have h := HIV.out.2.2.2.1.set_ d (.int .u16 (xm : Int))
      rw [pc_set, ← hX1] at h
      refine ⟨hb1.row HIV.out.1 HIV.out.1.lt hM1, hb1.row HIV.out.2.1 HIV.out.2.1.lt hM2, hb1.row HIV.out.2.2.1 HIV.out.2.2.1.lt hM3, h, HIV.out.2.2.2.2.trans (hb1.under (by have := HIV.out.1.lt; omega) (by have := HMN.out; omega))⟩
     obtain ⟨X2, hX2⟩ : ∃ X, X = X1.setCell ⟨M, d1, none⟩ (.int .u16 (ym : Int)) := ⟨_, rfl⟩
     have hb2 : But X1.heap.size M X1 X2 := by rw [hX2]; exact (But.refl _ _ _).setCell _ _
     have R2 : Shh (Row X2 (N + 1) 24 (pc fun _ => 0) ∧ Row X2 (N + 2) 51 (ic 128 (SE 128 0)) ∧ Row X2 (N + 3) 51 (ic 128 (SO 128 0)) ∧ Row X2 M 24 (pc (half r (fun _ => 0) (2 * (k + 1)))) ∧ Below N w X2) := by
      have h := R1.out.2.2.2.1.set_ d1 (.int .u16 (ym : Int))
      rw [pc_set, ← hX2, HZK.out.1, HZK.out.2, HH.out] at h
      refine ⟨hb2.row R1.out.1 R1.out.1.lt hM1, hb2.row R1.out.2.1 R1.out.2.1.lt hM2, hb2.row R1.out.2.2.1 R1.out.2.2.1.lt hM3, h, R1.out.2.2.2.2.trans (hb2.under (by have := R1.out.1.lt; omega) (by have := HMN.out; omega))⟩
     have C0 : Shh (V.cell? ⟨N + 2, k, none⟩ = some (.int .i64 (x : Int)) ∧ V.cell? ⟨N + 3, k, none⟩ = some (.int .i64 (y : Int))) := ⟨c1, c2⟩
     have C1 : Shh (X1.cell? ⟨N + 2, k, none⟩ = some (.int .i64 (x : Int)) ∧ X1.cell? ⟨N + 3, k, none⟩ = some (.int .i64 (y : Int))) := ⟨(hb1.cell (p := ⟨N + 2, k, none⟩) HIV.out.2.1.lt hM2).trans c1, (hb1.cell (p := ⟨N + 3, k, none⟩) HIV.out.2.2.1.lt hM3).trans c2⟩
     have C2 : Shh (X2.cell? ⟨N + 2, k, none⟩ = some (.int .i64 (x : Int)) ∧ X2.cell? ⟨N + 3, k, none⟩ = some (.int .i64 (y : Int))) := ⟨(hb2.cell (p := ⟨N + 2, k, none⟩) R1.out.2.1.lt hM2).trans C1.out.1, (hb2.cell (p := ⟨N + 3, k, none⟩) R1.out.2.2.1.lt hM3).trans C1.out.2⟩
     clear hb1 hb2 c1 c2
     go_wp2
     refine wp_region_held_drew (S := fun w' => w'.cell? ⟨N + 2, k, none⟩ = some (.int .i64 (x : Int)) ∧ w'.cell? ⟨N + 3, k, none⟩ = some (.int .i64 (y : Int))) (by kernel_rfl) (by rw [← hV]; exact C0.out) (fun hS => ?_)
     clear hS
     rw [← hV]
     clear hV
     refine hdv0 0 63 (.int .i64 (k : Int)) (by rfl) (C0.out) ?_
     refine hdv 1 64 (.int .i64 (d : Int)) (by rfl) (fun w hS => mul_iin (i := 2) (j := k) Hd.out V3.out rfl (by kernel_rfl) (by kernel_rfl)) (C0.out) ?_
     refine hdv0 2 65 (.int .i64 (k : Int)) (by rfl) (C0.out) ?_
     refine hdv 3 66 (.int .i64 (d : Int)) (by rfl) (fun w hS => mul_iin (i := 2) (j := k) Hd.out V3.out rfl (by kernel_rfl) (by kernel_rfl)) (C0.out) ?_
     refine hdv 4 67 (.int .i64 (d1 : Int)) (by rfl) (fun w hS => add_ii (i := d) (j := 1) V4.out rfl (by kernel_rfl) (by kernel_rfl)) (C0.out) ?_
     refine hdv0 5 68 (.int .i64 (k : Int)) (by rfl) (C0.out) ?_
     refine hdv 6 69 (.pointer (some ⟨N + 2, k, none⟩)) (by rfl) (fun w hS => at_128 hlk rfl (by kernel_rfl) (by kernel_rfl)) (C0.out) ?_
     refine hdv 7 70 (.int .i64 (x : Int)) (by rfl) (fun w hS => load_ir rfl hS.1 (by kernel_rfl)) (C0.out) ?_
     refine hdv 8 71 (.int .i64 (xm : Int)) (by rfl) (fun w hS => rem_iq Hxm.out VL.out.1 rfl (by kernel_rfl)) (C0.out) ?_
     refine hdv 9 72 (.int .u16 (xm : Int)) (by rfl) (fun w hS => conv_iu16 VL.out.2.2.1 rfl (by kernel_rfl)) (C0.out) ?_
     refine hdv0 10 73 (.int .i64 (k : Int)) (by rfl) (C0.out) ?_
     refine hdv 11 74 (.pointer (some ⟨N + 3, k, none⟩)) (by rfl) (fun w hS => at_128 hlk rfl (by kernel_rfl) (by kernel_rfl)) (C0.out) ?_
     refine hdv 12 75 (.int .i64 (y : Int)) (by rfl) (fun w hS => load_ir rfl hS.2 (by kernel_rfl)) (C0.out) ?_
     refine hdv 13 76 (.int .i64 (ym : Int)) (by rfl) (fun w hS => rem_iq Hym.out VL.out.2.1 rfl (by kernel_rfl)) (C0.out) ?_
     refine hdv 14 77 (.int .u16 (ym : Int)) (by rfl) (fun w hS => conv_iu16 VL.out.2.2.2 rfl (by kernel_rfl)) (C0.out) ?_
     refine hdv 15 78 (.pointer (some ⟨M, d, none⟩)) (by rfl) (fun w hS => at_poly hd rfl (by kernel_rfl) (by kernel_rfl)) (C0.out) ?_
     refine held_one 16 (by kernel_rfl) ?_
     refine step_store1 16 _ (by rfl) (by kernel_rfl) X1 (by rw [hX1]; exact run_storeP hd HIV.out.2.2.2.1 rfl (by kernel_rfl) (by kernel_rfl)) ⟨C1.out, ?_⟩
     refine hdv 17 79 (.pointer (some ⟨M, d1, none⟩)) (by rfl) (fun w hS => at_poly hd1 rfl (by kernel_rfl) (by kernel_rfl)) (C1.out) ?_
     refine held_one 18 (by kernel_rfl) ?_
     refine step_store1 18 _ (by rfl) (by kernel_rfl) X2 (by rw [hX2]; exact run_storeP hd1 R1.out.2.2.2.1 rfl (by kernel_rfl) (by kernel_rfl)) ⟨C2.out, ?_⟩
     refine wpAnyH_done (by kernel_rfl) ?_ _
     clear HIV R1 C0 C1 C2
     go_wp2
     go_roundw
     case rel => subst hX2; subst hX1; exact ⟨k + 1, by omega, by go_num, R2⟩
     case measure => simp [intOf]; omega
    ·have hlk2 : ¬ (k : Int) < 128 := by omega
     have HL : Shh (pc (half r (fun _ => 0) (2 * k)) = pc r) := ⟨by rw [show 2 * k = 256 by omega]; exact half_all _ _⟩
     rw [HL.out] at HI
     clear HL
     go_wp2_with (first
      | refine wpList_load_any rfl 24 (.tmp 10) rfl M rfl 24 (pc r) (.array 256 22) HI.out.2.2.2.1 Try.underlying24 rfl (info_poly.trans (size_poly r)) ?_
      | refine wpList_store_any rfl 24 (.tmp 2) (.tmp 81) rfl (N + 1) rfl (pc r) rfl 24 _ HI.out.1 (info_poly.trans (size_poly r)) (by rw [pc_length, pc_length]) (pc_one r) ?_)
     intro w9 hr9 b9 _
     have hb9 := HI.out.2.2.2.2.trans (b9.under (by have := HI.out.1.lt; omega) (by omega))
     go_wp2
     exact ret_row Try.results25 rfl rfl hr9 Try.underlying24 rfl (info_poly.trans (size_poly r)) ⟨rfl, hb9⟩
end Go.Proofs.Ytfcgdjgfdbcddaa

/-
 THE DOCUMENT'S OWN Ntt.
-/
namespace Go.Proofs.Ytfcgdjgfdbcddaa
open Go.RowKit
set_option maxRecDepth 100000
set_option maxHeartbeats 2000000 in
theorem refNtt_any (p : Nat → Nat) (hp : ∀ i, i < 256 → p i < 65536) (w : World) : Calls Try.prog 23 #[polyV p] w (PolyIs w (nttN p)) := by
 unfold PolyIs polyV
 generalize hN : w.heap.size = N at *
 have HP := Shh.mk hp
 have HZ : Shh (∀ k, hz (rtN k) (fun j => p (2 * j)) 128 = nttN p (2 * k) ∧ hz (rtN k) (fun j => p (2 * j + 1)) 128 = nttN p (2 * k + 1)) := ⟨fun k => ⟨hz_even p k, hz_odd p k⟩⟩
 have HRT : Shh (∀ k, k < 128 → rtN k < 3329 ∧ ∀ w, Calls Try.prog 47 #[.int .i64 (k : Int)] w (NumIs w (rtN k))) := ⟨fun k hk => ⟨Nat.mod_lt _ (by decide), fun w => Root_any k hk w⟩⟩
 generalize nttN p = r at *
 clear hp
 go_enter Try.func23, Try.ntmps23
 go_wp2_with (refine wl_allocP rfl rfl ?_)
 obtain ⟨W, hW⟩ : ∃ W, W = ((w.alloc (.cells (pc p).toArray 24)).alloc (.cells (pc fun _ => 0).toArray 24)).alloc (.cells (pc fun _ => 0).toArray 24) := ⟨_, rfl⟩
 have HW : Shh (Row W N 24 (pc p) ∧ Row W (N + 1) 24 (pc fun _ => 0) ∧ Row W (N + 2) 24 (pc fun _ => 0) ∧ Below N w W) := by
  refine ⟨by rw [hW]; exact ((Row.new_ hN.symm rfl).alloc _).alloc _, by rw [hW]; exact (Row.new_ (by rw [asz, hN]) rfl).alloc _, by rw [hW]; exact Row.new_ (by rw [asz, asz, hN]) rfl, ?_⟩
  rw [hW, ← hN]
  exact Below.chain (Below.chain (bel1 _ _) (bel1 _ _)) (bel1 _ _)
 try simp only [asz, hN]
 rw [← hW]
 clear hW
 go_wp2
 go_loopw [4, 5, 6, 7, 8, 9] (fun _ _ _ _ _ i wr => ∃ k : Nat, k ≤ 128 ∧ i = .int .i64 (k : Int) ∧ Shh (Row wr N 24 (pc p) ∧ Row wr (N + 1) 24 (pc fun _ => 0) ∧ Row wr (N + 2) 24 (pc (half r (fun _ => 0) (2 * k))) ∧ Below N w wr)) (fun _ _ _ _ _ i _ => 128 - (intOf i).toNat)
 case atStart => exact ⟨0, Nat.zero_le _, rfl, ⟨by rw [half_zero]; exact HW.out⟩⟩
 case round =>
  clear HW
  obtain ⟨k, hk, rfl, HI⟩ := hrel
  by_cases hlt : k < 128
  ·have hlt2 : (k : Int) < 128 := by omega
   have HK := Shh.mk (HRT.out k hlt)
   have HZK := Shh.mk (HZ.out k)
   clear HZ HRT
   generalize rtN k = g at *
   go_wp2_with (go_at_call 47; refine (HK.out.2 _).mono ?_)
   unfold NumIs
   rintro e w2 ⟨rfl, rfl⟩
   go_wp2
   go_loopw [6, 7, 8] (fun e o c wq => ∃ m : Nat, m ≤ 128 ∧ c = .int .i64 (127 - (m : Int)) ∧ e = .int .i64 (hz g (fun j => p (2 * j)) m : Int) ∧ o = .int .i64 (hz g (fun j => p (2 * j + 1)) m : Int) ∧ wq = wr) (fun _ _ c _ => (intOf c + 1).toNat)
   case atStart => exact ⟨0, Nat.zero_le _, rfl, rfl, rfl, rfl⟩
   case round =>
    obtain ⟨m, hm, rfl, rfl, rfl, rfl⟩ := hrel
    by_cases hlm : m < 128
    ·obtain ⟨j, HJ⟩ : ∃ j : Nat, Shh (j + m = 127) := ⟨127 - m, ⟨by omega⟩⟩
     have e0 : (127 : Int) - (m : Int) = (j : Int) := by have := HJ.out; omega
     have HM1 : Shh (j - 1 + (m + 1) = 127 ∨ j = 0 ∧ m = 127) := ⟨by have := HJ.out; omega⟩
     rw [e0]
     clear e0
     have hj0 : (0 : Int) ≤ (j : Int) := by omega
     obtain ⟨d, Hd⟩ : ∃ d, Shh (d = 2 * j) := ⟨_, ⟨rfl⟩⟩
     obtain ⟨d1, Hd1⟩ : ∃ d1, Shh (d1 = d + 1) := ⟨_, ⟨rfl⟩⟩
     have hj1 : d < 256 := by have := HJ.out; have := Hd.out; omega
     have hj2 : d1 < 256 := by have := HJ.out; have := Hd.out; have := Hd1.out; omega
     have c1 := HI.out.1.cell d
     rw [pc_get _ hj1] at c1
     have c2 := HI.out.1.cell d1
     rw [pc_get _ hj2] at c2
     have HT : Shh (hz g (fun j => p (2 * j)) m < 3329 ∧ hz g (fun j => p (2 * j + 1)) m < 3329 ∧ g < 3329 ∧ p d < 65536 ∧ p d1 < 65536 ∧ hz g (fun j => p (2 * j)) (m + 1) = (hz g (fun j => p (2 * j)) m * g + p d) % 3329 ∧ hz g (fun j => p (2 * j + 1)) (m + 1) = (hz g (fun j => p (2 * j + 1)) m * g + p d1) % 3329) := by
      have e1 : 127 - m = j := by have := HJ.out; omega
      refine ⟨hz_lt _ _ _, hz_lt _ _ _, HK.out.1, HP.out _ hj1, HP.out _ hj2, ?_, ?_⟩
      ·show (hz g (fun j => p (2 * j)) m * g + p (2 * (127 - m))) % 3329 = _
       rw [e1, Hd.out]
      ·show (hz g (fun j => p (2 * j + 1)) m * g + p (2 * (127 - m) + 1)) % 3329 = _
       rw [e1, Hd1.out, Hd.out]
     obtain ⟨e, He⟩ : ∃ e, Shh (e = hz g (fun j => p (2 * j)) m) := ⟨_, ⟨rfl⟩⟩
     obtain ⟨o, Ho⟩ : ∃ o, Shh (o = hz g (fun j => p (2 * j + 1)) m) := ⟨_, ⟨rfl⟩⟩
     rw [← He.out, ← Ho.out] at HT ⊢
     clear He Ho
     obtain ⟨a1, Ha1⟩ : ∃ a1, Shh (a1 = p d) := ⟨_, ⟨rfl⟩⟩
     obtain ⟨a2, Ha2⟩ : ∃ a2, Shh (a2 = p d1) := ⟨_, ⟨rfl⟩⟩
     rw [← Ha1.out] at HT c1
     rw [← Ha2.out] at HT c2
     clear Ha1 Ha2
     obtain ⟨x1, Hx1⟩ : ∃ x1, Shh (x1 = e * g) := ⟨_, ⟨rfl⟩⟩
     obtain ⟨x2, Hx2⟩ : ∃ x2, Shh (x2 = o * g) := ⟨_, ⟨rfl⟩⟩
     have HX : Shh (x1 ≤ 3329 * 3329 ∧ x2 ≤ 3329 * 3329) := ⟨by rw [Hx1.out]; exact Nat.mul_le_mul (Nat.le_of_lt HT.out.1) (Nat.le_of_lt HT.out.2.2.1), by rw [Hx2.out]; exact Nat.mul_le_mul (Nat.le_of_lt HT.out.2.1) (Nat.le_of_lt HT.out.2.2.1)⟩
     obtain ⟨y1, Hy1⟩ : ∃ y1, Shh (y1 = x1 + a1) := ⟨_, ⟨rfl⟩⟩
     obtain ⟨y2, Hy2⟩ : ∃ y2, Shh (y2 = x2 + a2) := ⟨_, ⟨rfl⟩⟩
     have HY : Shh (y1 ≤ 1000000000 ∧ y2 ≤ 1000000000) := ⟨by have := HX.out; have := HT.out; have := Hy1.out; omega, by have := HX.out; have := HT.out; have := Hy2.out; omega⟩
     obtain ⟨z1, Hz1⟩ : ∃ z1, Shh (z1 = y1 % 3329) := ⟨_, ⟨rfl⟩⟩
     obtain ⟨z2, Hz2⟩ : ∃ z2, Shh (z2 = y2 % 3329) := ⟨_, ⟨rfl⟩⟩
     have V1 := Shh.mk (show x1 ≤ 1000000000000 by have := HX.out; omega)
     have V2 := Shh.mk (show x2 ≤ 1000000000000 by have := HX.out; omega)
     have V3 := Shh.mk (show d ≤ 1000000000000 by omega)
     have V4 := Shh.mk (show d1 = d + 1 ∧ d1 ≤ 1000000000000 from ⟨Hd1.out, by omega⟩)
     have V5 := Shh.mk (show y1 = x1 + a1 ∧ y1 ≤ 1000000000000 from ⟨Hy1.out, by have := HY.out; omega⟩)
     have V6 := Shh.mk (show y2 = x2 + a2 ∧ y2 ≤ 1000000000000 from ⟨Hy2.out, by have := HY.out; omega⟩)
     have V7 := Shh.mk (show -1 ≤ (j : Int) ∧ (j : Int) ≤ 1000000 from ⟨by omega, by have := HJ.out; omega⟩)
     go_wp2_with (first | refine wl_at 17 rfl (.int .i64 ((j : Int) - 1)) rfl (dec_i (i := (j : Int)) V7.out rfl rfl) ?_ | refine wl_at 20 rfl (.int .i64 (x1 : Int)) rfl (mul_iin (i := e) (j := g) Hx1.out V1.out rfl rfl rfl) ?_ | refine wl_at 22 rfl (.int .i64 (d : Int)) rfl (mul_iin (i := 2) (j := j) Hd.out V3.out rfl rfl rfl) ?_ | refine wl_at 23 rfl (.pointer (some ⟨N, d, none⟩)) rfl (at_poly hj1 rfl rfl rfl) ?_ | refine wl_at 24 rfl (.int .u16 (a1 : Int)) rfl (load_u16 rfl c1 rfl) ?_ | refine wl_at 25 rfl (.int .i64 (a1 : Int)) rfl (conv_ui16 HT.out.2.2.2.1 rfl rfl) ?_ | refine wl_at 26 rfl (.int .i64 (y1 : Int)) rfl (add_ii (i := x1) (j := a1) V5.out rfl rfl rfl) ?_ | refine wl_at 27 rfl (.int .i64 (z1 : Int)) rfl (rem_iq (n := y1) Hz1.out V5.out.2 rfl rfl) ?_ | refine wl_at 30 rfl (.int .i64 (x2 : Int)) rfl (mul_iin (i := o) (j := g) Hx2.out V2.out rfl rfl rfl) ?_ | refine wl_at 32 rfl (.int .i64 (d : Int)) rfl (mul_iin (i := 2) (j := j) Hd.out V3.out rfl rfl rfl) ?_ | refine wl_at 33 rfl (.int .i64 (d1 : Int)) rfl (add_ii (i := d) (j := 1) V4.out rfl rfl rfl) ?_ | refine wl_at 34 rfl (.pointer (some ⟨N, d1, none⟩)) rfl (at_poly hj2 rfl rfl rfl) ?_ | refine wl_at 35 rfl (.int .u16 (a2 : Int)) rfl (load_u16 rfl c2 rfl) ?_ | refine wl_at 36 rfl (.int .i64 (a2 : Int)) rfl (conv_ui16 HT.out.2.2.2.2.1 rfl rfl) ?_ | refine wl_at 37 rfl (.int .i64 (y2 : Int)) rfl (add_ii (i := x2) (j := a2) V6.out rfl rfl rfl) ?_ | refine wl_at 38 rfl (.int .i64 (z2 : Int)) rfl (rem_iq (n := y2) Hz2.out V6.out.2 rfl rfl) ?_)
     go_roundw
     case rel =>
      refine ⟨m + 1, by omega, ?_, ?_, ?_, trivial⟩
      ·congr 1; have := HJ.out; omega
      ·rw [HT.out.2.2.2.2.2.1, ← Hx1.out, ← Hy1.out, ← Hz1.out]
      ·rw [HT.out.2.2.2.2.2.2, ← Hx2.out, ← Hy2.out, ← Hz2.out]
     case measure => simp [intOf]
    ·have HM : Shh (hz g (fun j => p (2 * j)) m = r (2 * k) ∧ hz g (fun j => p (2 * j + 1)) m = r (2 * k + 1) ∧ hz g (fun j => p (2 * j)) m < 3329 ∧ hz g (fun j => p (2 * j + 1)) m < 3329) := ⟨by rw [show m = 128 by omega]; exact HZK.out.1, by rw [show m = 128 by omega]; exact HZK.out.2, hz_lt _ _ _, hz_lt _ _ _⟩
     have hneg : ¬ (0 : Int) ≤ 127 - (m : Int) := by omega
     generalize hz g (fun j => p (2 * j)) m = e at *
     generalize hz g (fun j => p (2 * j + 1)) m = o at *
     obtain ⟨d, Hd⟩ : ∃ d, Shh (d = 2 * k) := ⟨_, ⟨rfl⟩⟩
     obtain ⟨d1, Hd1⟩ : ∃ d1, Shh (d1 = d + 1) := ⟨_, ⟨rfl⟩⟩
     have hk1 : d < 256 := by have := Hd.out; omega
     have hk2 : d1 < 256 := by have := Hd.out; have := Hd1.out; omega
     have V3 := Shh.mk (show d ≤ 1000000000000 by omega)
     have V4 := Shh.mk (show d1 = d + 1 ∧ d1 ≤ 1000000000000 from ⟨Hd1.out, by omega⟩)
     have V5 := Shh.mk (show e < 65536 ∧ o < 65536 by have := HM.out; omega)
     go_wp2_with (first | refine wl_at 40 rfl (.int .i64 (d : Int)) rfl (mul_iin (i := 2) (j := k) Hd.out V3.out rfl rfl rfl) ?_ | refine wl_at 42 rfl (.int .i64 (d : Int)) rfl (mul_iin (i := 2) (j := k) Hd.out V3.out rfl rfl rfl) ?_ | refine wl_at 43 rfl (.int .i64 (d1 : Int)) rfl (add_ii (i := d) (j := 1) V4.out rfl rfl rfl) ?_ | refine wl_at 45 rfl (.int .u16 (e : Int)) rfl (conv_iu16 V5.out.1 rfl rfl) ?_ | refine wl_at 47 rfl (.int .u16 (o : Int)) rfl (conv_iu16 V5.out.2 rfl rfl) ?_ | refine wl_at 48 rfl (.pointer (some ⟨N + 2, d, none⟩)) rfl (at_poly hk1 rfl rfl rfl) ?_ | refine wl_storeP rfl hk1 rfl rfl rfl HI.out.2.2.1 ?_)
     intro w3 r3 b3 z3
     have HI3 : Shh (Row w3 (N + 2) 24 (pc (upd (half r (fun _ => 0) (2 * k)) d e)) ∧ Row w3 N 24 (pc p) ∧ Row w3 (N + 1) 24 (pc fun _ => 0) ∧ Below N w w3) := ⟨r3, b3.row HI.out.1 HI.out.1.lt (by omega), b3.row HI.out.2.1 HI.out.2.1.lt (by omega), HI.out.2.2.2.trans (b3.under (Nat.le_of_lt HI.out.1.lt) (by omega))⟩
     clear r3 b3 z3 HI
     go_wp2_with (first | refine wl_at 49 rfl (.pointer (some ⟨N + 2, d1, none⟩)) rfl (at_poly hk2 rfl rfl rfl) ?_ | refine wl_storeP rfl hk2 rfl rfl rfl HI3.out.1 ?_)
     intro w4 r4 b4 z4
     rw [HM.out.1, HM.out.2.1, Hd1.out, Hd.out, half_two] at r4
     have HI4 : Shh (Row w4 N 24 (pc p) ∧ Row w4 (N + 1) 24 (pc fun _ => 0) ∧ Row w4 (N + 2) 24 (pc (half r (fun _ => 0) (2 * (k + 1)))) ∧ Below N w w4) := ⟨b4.row HI3.out.2.1 HI3.out.2.1.lt (by omega), b4.row HI3.out.2.2.1 HI3.out.2.2.1.lt (by omega), r4, HI3.out.2.2.2.trans (b4.under (Nat.le_of_lt HI3.out.2.1.lt) (by omega))⟩
     clear r4 b4 z4 HI3
     go_wp2
     go_roundw
     case rel => exact ⟨k + 1, by omega, by go_num, HI4⟩
     case measure => simp [intOf]; omega
  ·have hlt2 : ¬ (k : Int) < 128 := by omega
   have HL : Shh (pc (half r (fun _ => 0) (2 * k)) = pc r) := ⟨by rw [show 2 * k = 256 by omega]; exact half_all _ _⟩
   rw [HL.out] at HI
   clear HL HP
   go_wp2_with (first
    | refine wpList_load_any rfl 24 (.tmp 3) rfl (N + 2) rfl 24 (pc r) (.array 256 22) HI.out.2.2.1 Try.underlying24 rfl (info_poly.trans (size_poly r)) ?_
    | refine wpList_store_any rfl 24 (.tmp 2) (.tmp 51) rfl (N + 1) rfl (pc r) rfl 24 _ HI.out.2.1 (info_poly.trans (size_poly r)) (by rw [pc_length, pc_length]) (pc_one r) ?_)
   intro w9 hr9 b9 _
   have hb9 := HI.out.2.2.2.trans (b9.under (Nat.le_of_lt HI.out.1.lt) (by omega))
   go_wp2
   exact ret_row Try.results23 rfl rfl hr9 Try.underlying24 rfl (info_poly.trans (size_poly r)) ⟨rfl, hb9⟩
end Go.Proofs.Ytfcgdjgfdbcddaa

/-
 THE LAWS OF CHAPTER 13 over contracts of the program's own functions: RingPairs, RingSums, RingNtts.
-/
namespace Go.Proofs.Ytfcgdjgfdbcddaa
open Go.RowKit
set_option maxRecDepth 100000
theorem eq_poly (p : Nat → Nat) (hp : ∀ i, i < 256 → p i < 65536) (w : World) : (Op.equalIn 10000 24 (.agg (pc p).toArray) (.agg (pc p).toArray)).run Try.prog w = .ok true w := by
 have e : pc p = ((List.range 256).map fun i => (p i : Int)).map (Value.int .u16) := by simp [pc]
 rw [e, eq_arr (k := .u16) (n := 256) (e := 22) (by kernel_rfl) Try.underlying24 Try.underlying22 (by kernel_rfl) (by kernel_rfl) _ _ (by simp) (by simp) ?_ ?_]
 ·simp
 all_goals
  intro x hx
  obtain ⟨i, hi, rfl⟩ := List.mem_map.1 hx
  have h := hp i (List.mem_range.1 hi)
  simp [Lit.wf, IntKind.min, IntKind.max, IntKind.signed, IntKind.bits]
  omega
theorem rd_16 (x : Int) : rd x < 65536 := Nat.lt_trans (rd_lt x) (by decide)
set_option maxHeartbeats 2000000 in
theorem ringPairs_of (p : Nat → Nat) (p2 : Nat → Nat) (hp : ∀ i, i < 256 → p i < 65536) (hp2 : ∀ i, i < 256 → p2 i < 65536) (w : World)
 (hlive : ∀ W, Calls Try.prog 13 #[] W (TrueIs W))
 (hF0 : ∀ W, Calls Try.prog 26 #[polyV p, polyV p2] W (PolyIs W (pairN p p2)))
 : Calls Try.prog 5 #[polyV p, polyV p2] w (TrueIs w) := by
 unfold TrueIs
 have HLV : Shh (∀ W, Calls Try.prog 13 #[] W (fun e W' => e = .returned (.bool true) ∧ Below W.heap.size W W')) := ⟨hlive⟩
 clear hlive
 obtain ⟨r0, Hr0⟩ : ∃ r, Shh (r = pairN p p2) := ⟨_, ⟨rfl⟩⟩
 have HP0 : Shh (∀ W, Calls Try.prog 26 #[.agg (pc p).toArray, .agg (pc p2).toArray] W (fun e W' => e = .returned (.agg (pc r0).toArray) ∧ Below W.heap.size W W')) := ⟨fun W => by rw [Hr0.out]; exact hF0 W⟩
 have HD0 : Shh (∀ W, Calls Try.prog 27 #[.agg (pc p).toArray, .agg (pc p2).toArray] W (fun e W' => e = .returned (.agg (pc r0).toArray) ∧ Below W.heap.size W W')) := ⟨fun W => by rw [Hr0.out]; exact refMulNtt_any p p2 hp hp2 W⟩
 have HQ0 : Shh (∀ W, (Op.equalIn 10000 24 (.agg (pc r0).toArray) (.agg (pc r0).toArray)).run Try.prog W = .ok true W) := ⟨fun W => eq_poly _ (by rw [Hr0.out]; exact fun i hi => rd_16 _) W⟩
 clear Hr0 hF0
 unfold polyV
 generalize hN : w.heap.size = N at *
 clear hp hp2
 go_enter Try.func5, Try.ntmps5
 obtain ⟨W, hW⟩ : ∃ W, W = ((w.alloc (.cells (pc p).toArray 24)).alloc (.cells (pc p2).toArray 24)) := ⟨_, rfl⟩
 have HW : Shh (Row W N 24 (pc p) ∧ Row W (N + 1) 24 (pc p2) ∧ Below N w W) := by
  refine ⟨by rw [hW]; exact ((Row.new_ hN.symm rfl).alloc _), by rw [hW]; exact (Row.new_ (by rw [asz, hN]) rfl), ?_⟩
  rw [hW, ← hN]
  exact (Below.chain (bel1 _ _) (bel1 _ _))
 go_wp2
 try simp only [asz, hN]
 rw [← hW]
 clear hW
 refine wp_region_held_drew (S := fun w' => Row w' N 24 (pc p) ∧ Row w' (N + 1) 24 (pc p2)) (by kernel_rfl) ⟨HW.out.1.drew, HW.out.2.1.drew⟩ (fun hS => ?_)
 clear hS
 obtain ⟨V, hV⟩ : ∃ V, V = World.drew W := ⟨_, rfl⟩
 rw [← hV]
 have F : Shh (Row V N 24 (pc p) ∧ Row V (N + 1) 24 (pc p2) ∧ Below N w V) := by subst hV; exact ⟨HW.out.1.drew, HW.out.2.1.drew, HW.out.2.2.drew⟩
 clear hV HW
 revert F
 revert V
 intro V F
 have q0 := F.out.1
 have q1 := F.out.2.1
 have bN := F.out.2.2
 clear F
 refine held_one 0 (by kernel_rfl) ?_
 refine step_call 0 _ _ (some 5) 13 #[] (by rfl) (by kernel_rfl) (by first | kernel_rfl | go_simp) ?_
 refine (HLV.out V).mono ?_
 rintro e Y1 ⟨rfl, b0⟩
 have bx : Below V.heap.size V Y1 := b0
 clear b0
 have b_V := bx
 have m_Y1 : V.heap.size ≤ Y1.heap.size := bx.size
 clear bx
 refine ⟨_, rfl, ⟨(q0.go b_V), (q1.go b_V)⟩, ?_⟩
 simp only [Act.put, arr9, hd9, tl9]
 refine hdv0 1 6 (.bool true) (by rfl) (⟨(q0.go b_V), (q1.go b_V)⟩) ?_
 refine held_load 2 24 (.tmp 2) (some 7) (by kernel_rfl) (by rfl) (by kernel_rfl) N 0 (by kernel_rfl) (pc p) _ (fun w h => h.1.range) Try.underlying24 rfl (info_poly.trans (size_poly p)) (fun _ _ _ _ h => h) (⟨(q0.go b_V), (q1.go b_V)⟩) ?_
 simp only [Act.put, arr9, hd9, tl9]
 refine held_load 3 24 (.tmp 3) (some 8) (by kernel_rfl) (by rfl) (by kernel_rfl) (N + 1) 0 (by kernel_rfl) (pc p2) _ (fun w h => h.2.range) Try.underlying24 rfl (info_poly.trans (size_poly p2)) (fun _ _ _ _ h => h) (⟨(q0.go b_V), (q1.go b_V)⟩) ?_
 simp only [Act.put, arr9, hd9, tl9]
 refine held_load 5 24 (.tmp 2) (some 10) (by kernel_rfl) (by rfl) (by kernel_rfl) N 0 (by kernel_rfl) (pc p) _ (fun w h => h.1.range) Try.underlying24 rfl (info_poly.trans (size_poly p)) (fun _ _ _ _ h => h) (⟨(q0.go b_V), (q1.go b_V)⟩) ?_
 simp only [Act.put, arr9, hd9, tl9]
 refine held_load 6 24 (.tmp 3) (some 11) (by kernel_rfl) (by rfl) (by kernel_rfl) (N + 1) 0 (by kernel_rfl) (pc p2) _ (fun w h => h.2.range) Try.underlying24 rfl (info_poly.trans (size_poly p2)) (fun _ _ _ _ h => h) (⟨(q0.go b_V), (q1.go b_V)⟩) ?_
 simp only [Act.put, arr9, hd9, tl9]
 refine held_one 4 (by kernel_rfl) ?_
 refine step_call 4 _ _ (some 9) 26 #[.agg (pc p).toArray, .agg (pc p2).toArray] (by rfl) (by kernel_rfl) (by first | kernel_rfl | go_simp) ?_
 refine (HP0.out Y1).mono ?_
 rintro e Y2 ⟨rfl, bp⟩
 have bx : Below Y1.heap.size Y1 Y2 := bp
 clear bp
 replace b_V := Below.chain b_V bx
 have b_Y1 := bx
 have m_Y2 : Y1.heap.size ≤ Y2.heap.size := bx.size
 clear bx
 refine ⟨_, rfl, ⟨(q0.go b_V), (q1.go b_V)⟩, ?_⟩
 simp only [Act.put, arr9, hd9, tl9]
 refine held_one 7 (by kernel_rfl) ?_
 refine step_call 7 _ _ (some 12) 27 #[.agg (pc p).toArray, .agg (pc p2).toArray] (by rfl) (by kernel_rfl) (by first | kernel_rfl | go_simp) ?_
 refine (HD0.out Y2).mono ?_
 rintro e Y3 ⟨rfl, bd⟩
 have bx : Below Y2.heap.size Y2 Y3 := bd
 clear bd
 replace b_V := Below.chain b_V bx
 replace b_Y1 := Below.chain b_Y1 bx
 have b_Y2 := bx
 have m_Y3 : Y2.heap.size ≤ Y3.heap.size := bx.size
 clear bx
 refine ⟨_, rfl, ⟨(q0.go b_V), (q1.go b_V)⟩, ?_⟩
 simp only [Act.put, arr9, hd9, tl9]
 refine hdv 8 13 (.bool true) (by rfl) (fun w hS => run_eql_agg (by kernel_rfl) (HQ0.out w) (by kernel_rfl) (by kernel_rfl)) (⟨(q0.go b_V), (q1.go b_V)⟩) ?_
 refine hdv0 9 14 (.bool true) (by rfl) (⟨(q0.go b_V), (q1.go b_V)⟩) ?_
 refine hdv0 10 4 (.bool true) (by rfl) (⟨(q0.go b_V), (q1.go b_V)⟩) ?_
 refine wpAnyH_done (by kernel_rfl) ?_ _
 have HR : Shh (Below N w Y3) := ⟨bN.trans (b_V.mono (by have := bN.size; omega))⟩
 clear m_Y3 b_Y2 m_Y2 b_Y1 m_Y1 b_V bN q0 q1
 go_wp2
 go_ret
 exact ⟨rfl, HR.out⟩
set_option maxHeartbeats 2000000 in
theorem ringSums_of (p : Nat → Nat) (p2 : Nat → Nat) (hp : ∀ i, i < 256 → p i < 65536) (hp2 : ∀ i, i < 256 → p2 i < 65536) (w : World)
 (hlive : ∀ W, Calls Try.prog 13 #[] W (TrueIs W))
 (hF0 : ∀ W, Calls Try.prog 14 #[polyV p] W (PolyIs W (redN p)))
 (hF1 : ∀ W, Calls Try.prog 16 #[polyV p, polyV p2] W (PolyIs W (addN p p2)))
 (hF2 : ∀ W, Calls Try.prog 18 #[polyV p, polyV p2] W (PolyIs W (subN p p2)))
 (hF3 : ∀ W, Calls Try.prog 20 #[polyV p, polyV p2] W (PolyIs W (mulN p p2)))
 : Calls Try.prog 3 #[polyV p, polyV p2] w (TrueIs w) := by
 unfold TrueIs
 have HLV : Shh (∀ W, Calls Try.prog 13 #[] W (fun e W' => e = .returned (.bool true) ∧ Below W.heap.size W W')) := ⟨hlive⟩
 clear hlive
 obtain ⟨r0, Hr0⟩ : ∃ r, Shh (r = redN p) := ⟨_, ⟨rfl⟩⟩
 have HP0 : Shh (∀ W, Calls Try.prog 14 #[.agg (pc p).toArray] W (fun e W' => e = .returned (.agg (pc r0).toArray) ∧ Below W.heap.size W W')) := ⟨fun W => by rw [Hr0.out]; exact hF0 W⟩
 have HD0 : Shh (∀ W, Calls Try.prog 15 #[.agg (pc p).toArray] W (fun e W' => e = .returned (.agg (pc r0).toArray) ∧ Below W.heap.size W W')) := ⟨fun W => by rw [Hr0.out]; exact refReduce_any p hp W⟩
 have HQ0 : Shh (∀ W, (Op.equalIn 10000 24 (.agg (pc r0).toArray) (.agg (pc r0).toArray)).run Try.prog W = .ok true W) := ⟨fun W => eq_poly _ (by rw [Hr0.out]; exact fun i hi => rd_16 _) W⟩
 clear Hr0 hF0
 obtain ⟨r1, Hr1⟩ : ∃ r, Shh (r = addN p p2) := ⟨_, ⟨rfl⟩⟩
 have HP1 : Shh (∀ W, Calls Try.prog 16 #[.agg (pc p).toArray, .agg (pc p2).toArray] W (fun e W' => e = .returned (.agg (pc r1).toArray) ∧ Below W.heap.size W W')) := ⟨fun W => by rw [Hr1.out]; exact hF1 W⟩
 have HD1 : Shh (∀ W, Calls Try.prog 17 #[.agg (pc p).toArray, .agg (pc p2).toArray] W (fun e W' => e = .returned (.agg (pc r1).toArray) ∧ Below W.heap.size W W')) := ⟨fun W => by rw [Hr1.out]; exact refAdd_any p p2 hp hp2 W⟩
 have HQ1 : Shh (∀ W, (Op.equalIn 10000 24 (.agg (pc r1).toArray) (.agg (pc r1).toArray)).run Try.prog W = .ok true W) := ⟨fun W => eq_poly _ (by rw [Hr1.out]; exact fun i hi => rd_16 _) W⟩
 clear Hr1 hF1
 obtain ⟨r2, Hr2⟩ : ∃ r, Shh (r = subN p p2) := ⟨_, ⟨rfl⟩⟩
 have HP2 : Shh (∀ W, Calls Try.prog 18 #[.agg (pc p).toArray, .agg (pc p2).toArray] W (fun e W' => e = .returned (.agg (pc r2).toArray) ∧ Below W.heap.size W W')) := ⟨fun W => by rw [Hr2.out]; exact hF2 W⟩
 have HD2 : Shh (∀ W, Calls Try.prog 19 #[.agg (pc p).toArray, .agg (pc p2).toArray] W (fun e W' => e = .returned (.agg (pc r2).toArray) ∧ Below W.heap.size W W')) := ⟨fun W => by rw [Hr2.out]; exact refSub_any p p2 hp hp2 W⟩
 have HQ2 : Shh (∀ W, (Op.equalIn 10000 24 (.agg (pc r2).toArray) (.agg (pc r2).toArray)).run Try.prog W = .ok true W) := ⟨fun W => eq_poly _ (by rw [Hr2.out]; exact fun i hi => rd_16 _) W⟩
 clear Hr2 hF2
 obtain ⟨r3, Hr3⟩ : ∃ r, Shh (r = mulN p p2) := ⟨_, ⟨rfl⟩⟩
 have HP3 : Shh (∀ W, Calls Try.prog 20 #[.agg (pc p).toArray, .agg (pc p2).toArray] W (fun e W' => e = .returned (.agg (pc r3).toArray) ∧ Below W.heap.size W W')) := ⟨fun W => by rw [Hr3.out]; exact hF3 W⟩
 have HD3 : Shh (∀ W, Calls Try.prog 21 #[.agg (pc p).toArray, .agg (pc p2).toArray] W (fun e W' => e = .returned (.agg (pc r3).toArray) ∧ Below W.heap.size W W')) := ⟨fun W => by rw [Hr3.out]; exact refMul_any p p2 hp hp2 W⟩
 have HQ3 : Shh (∀ W, (Op.equalIn 10000 24 (.agg (pc r3).toArray) (.agg (pc r3).toArray)).run Try.prog W = .ok true W) := ⟨fun W => eq_poly _ (by rw [Hr3.out]; exact fun i hi => rd_16 _) W⟩
 clear Hr3 hF3
 unfold polyV
 generalize hN : w.heap.size = N at *
 clear hp hp2
 go_enter Try.func3, Try.ntmps3
 obtain ⟨W, hW⟩ : ∃ W, W = ((w.alloc (.cells (pc p).toArray 24)).alloc (.cells (pc p2).toArray 24)) := ⟨_, rfl⟩
 have HW : Shh (Row W N 24 (pc p) ∧ Row W (N + 1) 24 (pc p2) ∧ Below N w W) := by
  refine ⟨by rw [hW]; exact ((Row.new_ hN.symm rfl).alloc _), by rw [hW]; exact (Row.new_ (by rw [asz, hN]) rfl), ?_⟩
  rw [hW, ← hN]
  exact (Below.chain (bel1 _ _) (bel1 _ _))
 go_wp2
 try simp only [asz, hN]
 rw [← hW]
 clear hW
 refine wp_region_held_drew (S := fun w' => Row w' N 24 (pc p) ∧ Row w' (N + 1) 24 (pc p2)) (by kernel_rfl) ⟨HW.out.1.drew, HW.out.2.1.drew⟩ (fun hS => ?_)
 clear hS
 obtain ⟨V, hV⟩ : ∃ V, V = World.drew W := ⟨_, rfl⟩
 rw [← hV]
 have F : Shh (Row V N 24 (pc p) ∧ Row V (N + 1) 24 (pc p2) ∧ Below N w V) := by subst hV; exact ⟨HW.out.1.drew, HW.out.2.1.drew, HW.out.2.2.drew⟩
 clear hV HW
 revert F
 revert V
 intro V F
 have q0 := F.out.1
 have q1 := F.out.2.1
 have bN := F.out.2.2
 clear F
 refine held_one 0 (by kernel_rfl) ?_
 refine step_call 0 _ _ (some 5) 13 #[] (by rfl) (by kernel_rfl) (by first | kernel_rfl | go_simp) ?_
 refine (HLV.out V).mono ?_
 rintro e Y1 ⟨rfl, b0⟩
 have bx : Below V.heap.size V Y1 := b0
 clear b0
 have b_V := bx
 have m_Y1 : V.heap.size ≤ Y1.heap.size := bx.size
 clear bx
 refine ⟨_, rfl, ⟨(q0.go b_V), (q1.go b_V)⟩, ?_⟩
 simp only [Act.put, arr9, hd9, tl9]
 refine hdv0 1 6 (.bool true) (by rfl) (⟨(q0.go b_V), (q1.go b_V)⟩) ?_
 refine held_load 2 24 (.tmp 2) (some 7) (by kernel_rfl) (by rfl) (by kernel_rfl) N 0 (by kernel_rfl) (pc p) _ (fun w h => h.1.range) Try.underlying24 rfl (info_poly.trans (size_poly p)) (fun _ _ _ _ h => h) (⟨(q0.go b_V), (q1.go b_V)⟩) ?_
 simp only [Act.put, arr9, hd9, tl9]
 refine held_load 4 24 (.tmp 2) (some 9) (by kernel_rfl) (by rfl) (by kernel_rfl) N 0 (by kernel_rfl) (pc p) _ (fun w h => h.1.range) Try.underlying24 rfl (info_poly.trans (size_poly p)) (fun _ _ _ _ h => h) (⟨(q0.go b_V), (q1.go b_V)⟩) ?_
 simp only [Act.put, arr9, hd9, tl9]
 refine held_one 3 (by kernel_rfl) ?_
 refine step_call 3 _ _ (some 8) 14 #[.agg (pc p).toArray] (by rfl) (by kernel_rfl) (by first | kernel_rfl | go_simp) ?_
 refine (HP0.out Y1).mono ?_
 rintro e Y2 ⟨rfl, bp⟩
 have bx : Below Y1.heap.size Y1 Y2 := bp
 clear bp
 replace b_V := Below.chain b_V bx
 have b_Y1 := bx
 have m_Y2 : Y1.heap.size ≤ Y2.heap.size := bx.size
 clear bx
 refine ⟨_, rfl, ⟨(q0.go b_V), (q1.go b_V)⟩, ?_⟩
 simp only [Act.put, arr9, hd9, tl9]
 refine held_one 5 (by kernel_rfl) ?_
 refine step_call 5 _ _ (some 10) 15 #[.agg (pc p).toArray] (by rfl) (by kernel_rfl) (by first | kernel_rfl | go_simp) ?_
 refine (HD0.out Y2).mono ?_
 rintro e Y3 ⟨rfl, bd⟩
 have bx : Below Y2.heap.size Y2 Y3 := bd
 clear bd
 replace b_V := Below.chain b_V bx
 replace b_Y1 := Below.chain b_Y1 bx
 have b_Y2 := bx
 have m_Y3 : Y2.heap.size ≤ Y3.heap.size := bx.size
 clear bx
 refine ⟨_, rfl, ⟨(q0.go b_V), (q1.go b_V)⟩, ?_⟩
 simp only [Act.put, arr9, hd9, tl9]
 refine hdv 6 11 (.bool true) (by rfl) (fun w hS => run_eql_agg (by kernel_rfl) (HQ0.out w) (by kernel_rfl) (by kernel_rfl)) (⟨(q0.go b_V), (q1.go b_V)⟩) ?_
 refine hdv0 7 12 (.bool true) (by rfl) (⟨(q0.go b_V), (q1.go b_V)⟩) ?_
 refine hdv0 8 13 (.bool true) (by rfl) (⟨(q0.go b_V), (q1.go b_V)⟩) ?_
 refine held_load 9 24 (.tmp 2) (some 14) (by kernel_rfl) (by rfl) (by kernel_rfl) N 0 (by kernel_rfl) (pc p) _ (fun w h => h.1.range) Try.underlying24 rfl (info_poly.trans (size_poly p)) (fun _ _ _ _ h => h) (⟨(q0.go b_V), (q1.go b_V)⟩) ?_
 simp only [Act.put, arr9, hd9, tl9]
 refine held_load 10 24 (.tmp 3) (some 15) (by kernel_rfl) (by rfl) (by kernel_rfl) (N + 1) 0 (by kernel_rfl) (pc p2) _ (fun w h => h.2.range) Try.underlying24 rfl (info_poly.trans (size_poly p2)) (fun _ _ _ _ h => h) (⟨(q0.go b_V), (q1.go b_V)⟩) ?_
 simp only [Act.put, arr9, hd9, tl9]
 refine held_load 12 24 (.tmp 2) (some 17) (by kernel_rfl) (by rfl) (by kernel_rfl) N 0 (by kernel_rfl) (pc p) _ (fun w h => h.1.range) Try.underlying24 rfl (info_poly.trans (size_poly p)) (fun _ _ _ _ h => h) (⟨(q0.go b_V), (q1.go b_V)⟩) ?_
 simp only [Act.put, arr9, hd9, tl9]
 refine held_load 13 24 (.tmp 3) (some 18) (by kernel_rfl) (by rfl) (by kernel_rfl) (N + 1) 0 (by kernel_rfl) (pc p2) _ (fun w h => h.2.range) Try.underlying24 rfl (info_poly.trans (size_poly p2)) (fun _ _ _ _ h => h) (⟨(q0.go b_V), (q1.go b_V)⟩) ?_
 simp only [Act.put, arr9, hd9, tl9]
 refine held_one 11 (by kernel_rfl) ?_
 refine step_call 11 _ _ (some 16) 16 #[.agg (pc p).toArray, .agg (pc p2).toArray] (by rfl) (by kernel_rfl) (by first | kernel_rfl | go_simp) ?_
 refine (HP1.out Y3).mono ?_
 rintro e Y4 ⟨rfl, bp⟩
 have bx : Below Y3.heap.size Y3 Y4 := bp
 clear bp
 replace b_V := Below.chain b_V bx
 replace b_Y1 := Below.chain b_Y1 bx
 replace b_Y2 := Below.chain b_Y2 bx
 have b_Y3 := bx
 have m_Y4 : Y3.heap.size ≤ Y4.heap.size := bx.size
 clear bx
 refine ⟨_, rfl, ⟨(q0.go b_V), (q1.go b_V)⟩, ?_⟩
 simp only [Act.put, arr9, hd9, tl9]
 refine held_one 14 (by kernel_rfl) ?_
 refine step_call 14 _ _ (some 19) 17 #[.agg (pc p).toArray, .agg (pc p2).toArray] (by rfl) (by kernel_rfl) (by first | kernel_rfl | go_simp) ?_
 refine (HD1.out Y4).mono ?_
 rintro e Y5 ⟨rfl, bd⟩
 have bx : Below Y4.heap.size Y4 Y5 := bd
 clear bd
 replace b_V := Below.chain b_V bx
 replace b_Y1 := Below.chain b_Y1 bx
 replace b_Y2 := Below.chain b_Y2 bx
 replace b_Y3 := Below.chain b_Y3 bx
 have b_Y4 := bx
 have m_Y5 : Y4.heap.size ≤ Y5.heap.size := bx.size
 clear bx
 refine ⟨_, rfl, ⟨(q0.go b_V), (q1.go b_V)⟩, ?_⟩
 simp only [Act.put, arr9, hd9, tl9]
 refine hdv 15 20 (.bool true) (by rfl) (fun w hS => run_eql_agg (by kernel_rfl) (HQ1.out w) (by kernel_rfl) (by kernel_rfl)) (⟨(q0.go b_V), (q1.go b_V)⟩) ?_
 refine hdv0 16 21 (.bool true) (by rfl) (⟨(q0.go b_V), (q1.go b_V)⟩) ?_
 refine hdv0 17 22 (.bool true) (by rfl) (⟨(q0.go b_V), (q1.go b_V)⟩) ?_
 refine held_load 18 24 (.tmp 2) (some 23) (by kernel_rfl) (by rfl) (by kernel_rfl) N 0 (by kernel_rfl) (pc p) _ (fun w h => h.1.range) Try.underlying24 rfl (info_poly.trans (size_poly p)) (fun _ _ _ _ h => h) (⟨(q0.go b_V), (q1.go b_V)⟩) ?_
 simp only [Act.put, arr9, hd9, tl9]
 refine held_load 19 24 (.tmp 3) (some 24) (by kernel_rfl) (by rfl) (by kernel_rfl) (N + 1) 0 (by kernel_rfl) (pc p2) _ (fun w h => h.2.range) Try.underlying24 rfl (info_poly.trans (size_poly p2)) (fun _ _ _ _ h => h) (⟨(q0.go b_V), (q1.go b_V)⟩) ?_
 simp only [Act.put, arr9, hd9, tl9]
 refine held_load 21 24 (.tmp 2) (some 26) (by kernel_rfl) (by rfl) (by kernel_rfl) N 0 (by kernel_rfl) (pc p) _ (fun w h => h.1.range) Try.underlying24 rfl (info_poly.trans (size_poly p)) (fun _ _ _ _ h => h) (⟨(q0.go b_V), (q1.go b_V)⟩) ?_
 simp only [Act.put, arr9, hd9, tl9]
 refine held_load 22 24 (.tmp 3) (some 27) (by kernel_rfl) (by rfl) (by kernel_rfl) (N + 1) 0 (by kernel_rfl) (pc p2) _ (fun w h => h.2.range) Try.underlying24 rfl (info_poly.trans (size_poly p2)) (fun _ _ _ _ h => h) (⟨(q0.go b_V), (q1.go b_V)⟩) ?_
 simp only [Act.put, arr9, hd9, tl9]
 refine held_one 20 (by kernel_rfl) ?_
 refine step_call 20 _ _ (some 25) 18 #[.agg (pc p).toArray, .agg (pc p2).toArray] (by rfl) (by kernel_rfl) (by first | kernel_rfl | go_simp) ?_
 refine (HP2.out Y5).mono ?_
 rintro e Y6 ⟨rfl, bp⟩
 have bx : Below Y5.heap.size Y5 Y6 := bp
 clear bp
 replace b_V := Below.chain b_V bx
 replace b_Y1 := Below.chain b_Y1 bx
 replace b_Y2 := Below.chain b_Y2 bx
 replace b_Y3 := Below.chain b_Y3 bx
 replace b_Y4 := Below.chain b_Y4 bx
 have b_Y5 := bx
 have m_Y6 : Y5.heap.size ≤ Y6.heap.size := bx.size
 clear bx
 refine ⟨_, rfl, ⟨(q0.go b_V), (q1.go b_V)⟩, ?_⟩
 simp only [Act.put, arr9, hd9, tl9]
 refine held_one 23 (by kernel_rfl) ?_
 refine step_call 23 _ _ (some 28) 19 #[.agg (pc p).toArray, .agg (pc p2).toArray] (by rfl) (by kernel_rfl) (by first | kernel_rfl | go_simp) ?_
 refine (HD2.out Y6).mono ?_
 rintro e Y7 ⟨rfl, bd⟩
 have bx : Below Y6.heap.size Y6 Y7 := bd
 clear bd
 replace b_V := Below.chain b_V bx
 replace b_Y1 := Below.chain b_Y1 bx
 replace b_Y2 := Below.chain b_Y2 bx
 replace b_Y3 := Below.chain b_Y3 bx
 replace b_Y4 := Below.chain b_Y4 bx
 replace b_Y5 := Below.chain b_Y5 bx
 have b_Y6 := bx
 have m_Y7 : Y6.heap.size ≤ Y7.heap.size := bx.size
 clear bx
 refine ⟨_, rfl, ⟨(q0.go b_V), (q1.go b_V)⟩, ?_⟩
 simp only [Act.put, arr9, hd9, tl9]
 refine hdv 24 29 (.bool true) (by rfl) (fun w hS => run_eql_agg (by kernel_rfl) (HQ2.out w) (by kernel_rfl) (by kernel_rfl)) (⟨(q0.go b_V), (q1.go b_V)⟩) ?_
 refine hdv0 25 30 (.bool true) (by rfl) (⟨(q0.go b_V), (q1.go b_V)⟩) ?_
 refine hdv0 26 31 (.bool true) (by rfl) (⟨(q0.go b_V), (q1.go b_V)⟩) ?_
 refine held_load 27 24 (.tmp 2) (some 32) (by kernel_rfl) (by rfl) (by kernel_rfl) N 0 (by kernel_rfl) (pc p) _ (fun w h => h.1.range) Try.underlying24 rfl (info_poly.trans (size_poly p)) (fun _ _ _ _ h => h) (⟨(q0.go b_V), (q1.go b_V)⟩) ?_
 simp only [Act.put, arr9, hd9, tl9]
 refine held_load 28 24 (.tmp 3) (some 33) (by kernel_rfl) (by rfl) (by kernel_rfl) (N + 1) 0 (by kernel_rfl) (pc p2) _ (fun w h => h.2.range) Try.underlying24 rfl (info_poly.trans (size_poly p2)) (fun _ _ _ _ h => h) (⟨(q0.go b_V), (q1.go b_V)⟩) ?_
 simp only [Act.put, arr9, hd9, tl9]
 refine held_load 30 24 (.tmp 2) (some 35) (by kernel_rfl) (by rfl) (by kernel_rfl) N 0 (by kernel_rfl) (pc p) _ (fun w h => h.1.range) Try.underlying24 rfl (info_poly.trans (size_poly p)) (fun _ _ _ _ h => h) (⟨(q0.go b_V), (q1.go b_V)⟩) ?_
 simp only [Act.put, arr9, hd9, tl9]
 refine held_load 31 24 (.tmp 3) (some 36) (by kernel_rfl) (by rfl) (by kernel_rfl) (N + 1) 0 (by kernel_rfl) (pc p2) _ (fun w h => h.2.range) Try.underlying24 rfl (info_poly.trans (size_poly p2)) (fun _ _ _ _ h => h) (⟨(q0.go b_V), (q1.go b_V)⟩) ?_
 simp only [Act.put, arr9, hd9, tl9]
 refine held_one 29 (by kernel_rfl) ?_
 refine step_call 29 _ _ (some 34) 20 #[.agg (pc p).toArray, .agg (pc p2).toArray] (by rfl) (by kernel_rfl) (by first | kernel_rfl | go_simp) ?_
 refine (HP3.out Y7).mono ?_
 rintro e Y8 ⟨rfl, bp⟩
 have bx : Below Y7.heap.size Y7 Y8 := bp
 clear bp
 replace b_V := Below.chain b_V bx
 replace b_Y1 := Below.chain b_Y1 bx
 replace b_Y2 := Below.chain b_Y2 bx
 replace b_Y3 := Below.chain b_Y3 bx
 replace b_Y4 := Below.chain b_Y4 bx
 replace b_Y5 := Below.chain b_Y5 bx
 replace b_Y6 := Below.chain b_Y6 bx
 have b_Y7 := bx
 have m_Y8 : Y7.heap.size ≤ Y8.heap.size := bx.size
 clear bx
 refine ⟨_, rfl, ⟨(q0.go b_V), (q1.go b_V)⟩, ?_⟩
 simp only [Act.put, arr9, hd9, tl9]
 refine held_one 32 (by kernel_rfl) ?_
 refine step_call 32 _ _ (some 37) 21 #[.agg (pc p).toArray, .agg (pc p2).toArray] (by rfl) (by kernel_rfl) (by first | kernel_rfl | go_simp) ?_
 refine (HD3.out Y8).mono ?_
 rintro e Y9 ⟨rfl, bd⟩
 have bx : Below Y8.heap.size Y8 Y9 := bd
 clear bd
 replace b_V := Below.chain b_V bx
 replace b_Y1 := Below.chain b_Y1 bx
 replace b_Y2 := Below.chain b_Y2 bx
 replace b_Y3 := Below.chain b_Y3 bx
 replace b_Y4 := Below.chain b_Y4 bx
 replace b_Y5 := Below.chain b_Y5 bx
 replace b_Y6 := Below.chain b_Y6 bx
 replace b_Y7 := Below.chain b_Y7 bx
 have b_Y8 := bx
 have m_Y9 : Y8.heap.size ≤ Y9.heap.size := bx.size
 clear bx
 refine ⟨_, rfl, ⟨(q0.go b_V), (q1.go b_V)⟩, ?_⟩
 simp only [Act.put, arr9, hd9, tl9]
 refine hdv 33 38 (.bool true) (by rfl) (fun w hS => run_eql_agg (by kernel_rfl) (HQ3.out w) (by kernel_rfl) (by kernel_rfl)) (⟨(q0.go b_V), (q1.go b_V)⟩) ?_
 refine hdv0 34 39 (.bool true) (by rfl) (⟨(q0.go b_V), (q1.go b_V)⟩) ?_
 refine hdv0 35 4 (.bool true) (by rfl) (⟨(q0.go b_V), (q1.go b_V)⟩) ?_
 refine wpAnyH_done (by kernel_rfl) ?_ _
 have HR : Shh (Below N w Y9) := ⟨bN.trans (b_V.mono (by have := bN.size; omega))⟩
 clear m_Y9 b_Y8 m_Y8 b_Y7 m_Y7 b_Y6 m_Y6 b_Y5 m_Y5 b_Y4 m_Y4 b_Y3 m_Y3 b_Y2 m_Y2 b_Y1 m_Y1 b_V bN q0 q1
 go_wp2
 go_ret
 exact ⟨rfl, HR.out⟩
set_option maxHeartbeats 2000000 in
theorem ringNtts_of (p : Nat → Nat) (hp : ∀ i, i < 256 → p i < 65536) (w : World)
 (hlive : ∀ W, Calls Try.prog 13 #[] W (TrueIs W))
 (hF0 : ∀ W, Calls Try.prog 22 #[polyV p] W (PolyIs W (nttN p)))
 (hF1 : ∀ W, Calls Try.prog 24 #[polyV p] W (PolyIs W (invN p)))
 : Calls Try.prog 4 #[polyV p] w (TrueIs w) := by
 unfold TrueIs
 have HLV : Shh (∀ W, Calls Try.prog 13 #[] W (fun e W' => e = .returned (.bool true) ∧ Below W.heap.size W W')) := ⟨hlive⟩
 clear hlive
 obtain ⟨r0, Hr0⟩ : ∃ r, Shh (r = nttN p) := ⟨_, ⟨rfl⟩⟩
 have HP0 : Shh (∀ W, Calls Try.prog 22 #[.agg (pc p).toArray] W (fun e W' => e = .returned (.agg (pc r0).toArray) ∧ Below W.heap.size W W')) := ⟨fun W => by rw [Hr0.out]; exact hF0 W⟩
 have HD0 : Shh (∀ W, Calls Try.prog 23 #[.agg (pc p).toArray] W (fun e W' => e = .returned (.agg (pc r0).toArray) ∧ Below W.heap.size W W')) := ⟨fun W => by rw [Hr0.out]; exact refNtt_any p hp W⟩
 have HQ0 : Shh (∀ W, (Op.equalIn 10000 24 (.agg (pc r0).toArray) (.agg (pc r0).toArray)).run Try.prog W = .ok true W) := ⟨fun W => eq_poly _ (by rw [Hr0.out]; exact fun i hi => rd_16 _) W⟩
 clear Hr0 hF0
 obtain ⟨r1, Hr1⟩ : ∃ r, Shh (r = invN p) := ⟨_, ⟨rfl⟩⟩
 have HP1 : Shh (∀ W, Calls Try.prog 24 #[.agg (pc p).toArray] W (fun e W' => e = .returned (.agg (pc r1).toArray) ∧ Below W.heap.size W W')) := ⟨fun W => by rw [Hr1.out]; exact hF1 W⟩
 have HD1 : Shh (∀ W, Calls Try.prog 25 #[.agg (pc p).toArray] W (fun e W' => e = .returned (.agg (pc r1).toArray) ∧ Below W.heap.size W W')) := ⟨fun W => by rw [Hr1.out]; exact refInv_any p hp W⟩
 have HQ1 : Shh (∀ W, (Op.equalIn 10000 24 (.agg (pc r1).toArray) (.agg (pc r1).toArray)).run Try.prog W = .ok true W) := ⟨fun W => eq_poly _ (by rw [Hr1.out]; exact fun i hi => rd_16 _) W⟩
 clear Hr1 hF1
 unfold polyV
 generalize hN : w.heap.size = N at *
 clear hp
 go_enter Try.func4, Try.ntmps4
 obtain ⟨W, hW⟩ : ∃ W, W = (w.alloc (.cells (pc p).toArray 24)) := ⟨_, rfl⟩
 have HW : Shh (Row W N 24 (pc p) ∧ Below N w W) := by
  refine ⟨by rw [hW]; exact (Row.new_ hN.symm rfl), ?_⟩
  rw [hW, ← hN]
  exact (bel1 _ _)
 go_wp2
 try simp only [asz, hN]
 rw [← hW]
 clear hW
 refine wp_region_held_drew (S := fun w' => Row w' N 24 (pc p)) (by kernel_rfl) HW.out.1.drew (fun hS => ?_)
 clear hS
 obtain ⟨V, hV⟩ : ∃ V, V = World.drew W := ⟨_, rfl⟩
 rw [← hV]
 have F : Shh (Row V N 24 (pc p) ∧ Below N w V) := by subst hV; exact ⟨HW.out.1.drew, HW.out.2.drew⟩
 clear hV HW
 revert F
 revert V
 intro V F
 have q0 := F.out.1
 have bN := F.out.2
 clear F
 refine held_one 0 (by kernel_rfl) ?_
 refine step_call 0 _ _ (some 3) 13 #[] (by rfl) (by kernel_rfl) (by first | kernel_rfl | go_simp) ?_
 refine (HLV.out V).mono ?_
 rintro e Y1 ⟨rfl, b0⟩
 have bx : Below V.heap.size V Y1 := b0
 clear b0
 have b_V := bx
 have m_Y1 : V.heap.size ≤ Y1.heap.size := bx.size
 clear bx
 refine ⟨_, rfl, (q0.go b_V), ?_⟩
 simp only [Act.put, arr9, hd9, tl9]
 refine hdv0 1 4 (.bool true) (by rfl) ((q0.go b_V)) ?_
 refine held_load 2 24 (.tmp 1) (some 5) (by kernel_rfl) (by rfl) (by kernel_rfl) N 0 (by kernel_rfl) (pc p) _ (fun w h => h.range) Try.underlying24 rfl (info_poly.trans (size_poly p)) (fun _ _ _ _ h => h) ((q0.go b_V)) ?_
 simp only [Act.put, arr9, hd9, tl9]
 refine held_load 4 24 (.tmp 1) (some 7) (by kernel_rfl) (by rfl) (by kernel_rfl) N 0 (by kernel_rfl) (pc p) _ (fun w h => h.range) Try.underlying24 rfl (info_poly.trans (size_poly p)) (fun _ _ _ _ h => h) ((q0.go b_V)) ?_
 simp only [Act.put, arr9, hd9, tl9]
 refine held_one 3 (by kernel_rfl) ?_
 refine step_call 3 _ _ (some 6) 22 #[.agg (pc p).toArray] (by rfl) (by kernel_rfl) (by first | kernel_rfl | go_simp) ?_
 refine (HP0.out Y1).mono ?_
 rintro e Y2 ⟨rfl, bp⟩
 have bx : Below Y1.heap.size Y1 Y2 := bp
 clear bp
 replace b_V := Below.chain b_V bx
 have b_Y1 := bx
 have m_Y2 : Y1.heap.size ≤ Y2.heap.size := bx.size
 clear bx
 refine ⟨_, rfl, (q0.go b_V), ?_⟩
 simp only [Act.put, arr9, hd9, tl9]
 refine held_one 5 (by kernel_rfl) ?_
 refine step_call 5 _ _ (some 8) 23 #[.agg (pc p).toArray] (by rfl) (by kernel_rfl) (by first | kernel_rfl | go_simp) ?_
 refine (HD0.out Y2).mono ?_
 rintro e Y3 ⟨rfl, bd⟩
 have bx : Below Y2.heap.size Y2 Y3 := bd
 clear bd
 replace b_V := Below.chain b_V bx
 replace b_Y1 := Below.chain b_Y1 bx
 have b_Y2 := bx
 have m_Y3 : Y2.heap.size ≤ Y3.heap.size := bx.size
 clear bx
 refine ⟨_, rfl, (q0.go b_V), ?_⟩
 simp only [Act.put, arr9, hd9, tl9]
 refine hdv 6 9 (.bool true) (by rfl) (fun w hS => run_eql_agg (by kernel_rfl) (HQ0.out w) (by kernel_rfl) (by kernel_rfl)) ((q0.go b_V)) ?_
 refine hdv0 7 10 (.bool true) (by rfl) ((q0.go b_V)) ?_
 refine hdv0 8 11 (.bool true) (by rfl) ((q0.go b_V)) ?_
 refine held_load 9 24 (.tmp 1) (some 12) (by kernel_rfl) (by rfl) (by kernel_rfl) N 0 (by kernel_rfl) (pc p) _ (fun w h => h.range) Try.underlying24 rfl (info_poly.trans (size_poly p)) (fun _ _ _ _ h => h) ((q0.go b_V)) ?_
 simp only [Act.put, arr9, hd9, tl9]
 refine held_load 11 24 (.tmp 1) (some 14) (by kernel_rfl) (by rfl) (by kernel_rfl) N 0 (by kernel_rfl) (pc p) _ (fun w h => h.range) Try.underlying24 rfl (info_poly.trans (size_poly p)) (fun _ _ _ _ h => h) ((q0.go b_V)) ?_
 simp only [Act.put, arr9, hd9, tl9]
 refine held_one 10 (by kernel_rfl) ?_
 refine step_call 10 _ _ (some 13) 24 #[.agg (pc p).toArray] (by rfl) (by kernel_rfl) (by first | kernel_rfl | go_simp) ?_
 refine (HP1.out Y3).mono ?_
 rintro e Y4 ⟨rfl, bp⟩
 have bx : Below Y3.heap.size Y3 Y4 := bp
 clear bp
 replace b_V := Below.chain b_V bx
 replace b_Y1 := Below.chain b_Y1 bx
 replace b_Y2 := Below.chain b_Y2 bx
 have b_Y3 := bx
 have m_Y4 : Y3.heap.size ≤ Y4.heap.size := bx.size
 clear bx
 refine ⟨_, rfl, (q0.go b_V), ?_⟩
 simp only [Act.put, arr9, hd9, tl9]
 refine held_one 12 (by kernel_rfl) ?_
 refine step_call 12 _ _ (some 15) 25 #[.agg (pc p).toArray] (by rfl) (by kernel_rfl) (by first | kernel_rfl | go_simp) ?_
 refine (HD1.out Y4).mono ?_
 rintro e Y5 ⟨rfl, bd⟩
 have bx : Below Y4.heap.size Y4 Y5 := bd
 clear bd
 replace b_V := Below.chain b_V bx
 replace b_Y1 := Below.chain b_Y1 bx
 replace b_Y2 := Below.chain b_Y2 bx
 replace b_Y3 := Below.chain b_Y3 bx
 have b_Y4 := bx
 have m_Y5 : Y4.heap.size ≤ Y5.heap.size := bx.size
 clear bx
 refine ⟨_, rfl, (q0.go b_V), ?_⟩
 simp only [Act.put, arr9, hd9, tl9]
 refine hdv 13 16 (.bool true) (by rfl) (fun w hS => run_eql_agg (by kernel_rfl) (HQ1.out w) (by kernel_rfl) (by kernel_rfl)) ((q0.go b_V)) ?_
 refine hdv0 14 17 (.bool true) (by rfl) ((q0.go b_V)) ?_
 refine hdv0 15 2 (.bool true) (by rfl) ((q0.go b_V)) ?_
 refine wpAnyH_done (by kernel_rfl) ?_ _
 have HR : Shh (Below N w Y5) := ⟨bN.trans (b_V.mono (by have := bN.size; omega))⟩
 clear m_Y5 b_Y4 m_Y4 b_Y3 m_Y3 b_Y2 m_Y2 b_Y1 m_Y1 b_V bN q0
 go_wp2
 go_ret
 exact ⟨rfl, HR.out⟩
end Go.Proofs.Ytfcgdjgfdbcddaa
