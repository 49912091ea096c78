import Derived.Test.YtfcgdjgfdbcddaaZE
import Derived.Test.YtfcgdjgfdbcddaaZF
/-
 THE PROGRAM'S OWN MulNtt.
-/
namespace Go.Proofs.Ytfcgdjgfdbcddaa
open Go.RowKit
set_option maxRecDepth 100000
theorem rt_w (k : Nat) : 17 * (wN k * wN k % 3329) % 3329 = rtN k := by
 unfold wN rtN
 rw [← Nat.mul_mod, Nat.mul_mod_mod, ← Nat.pow_add, Nat.mul_comm, ← Nat.pow_succ]
 show 17 ^ (rvN k + rvN k + 1) % 3329 = _
 rw [show rvN k + rvN k + 1 = 2 * rvN k + 1 by omega]
theorem pair_E (p r : Nat → Nat) (k : Nat) : (p (2 * k) * r (2 * k) % 3329 + rtN k * (p (2 * k + 1) * r (2 * k + 1) % 3329) % 3329) % 3329 = pairN p r (2 * k) := by
 unfold pairN
 rw [if_pos (by omega), show 2 * k / 2 = k by omega, ← rd_same]
 refine rd_of ?_
 rw [Int.natCast_add]
 refine ((rM_nat _).trans (rM.of (Int.natCast_mul _ _))).add ((rM_nat _).trans ?_)
 rw [Int.natCast_mul]
 exact (rM.of rfl).mul ((rM_nat _).trans (rM.of (Int.natCast_mul _ _)))
theorem pair_O (p r : Nat → Nat) (k : Nat) : (p (2 * k) * r (2 * k + 1) % 3329 + p (2 * k + 1) * r (2 * k) % 3329) % 3329 = pairN p r (2 * k + 1) := by
 unfold pairN
 rw [if_neg (by omega), show (2 * k + 1) / 2 = k by omega, ← rd_same]
 refine rd_of ?_
 rw [Int.natCast_add]
 exact ((rM_nat _).trans (rM.of (Int.natCast_mul _ _))).add ((rM_nat _).trans (rM.of (Int.natCast_mul _ _)))
set_option maxHeartbeats 2000000 in
theorem MulNtt_any (p p2 : Nat → Nat) (hp : ∀ i, i < 256 → p i < 65536) (hp2 : ∀ i, i < 256 → p2 i < 65536) (w : World) : Calls Try.prog 26 #[polyV p, polyV p2] w (PolyIs w (pairN p p2)) := by
 unfold PolyIs polyV
 generalize hN : w.heap.size = N at *
 have HP := Shh.mk (And.intro hp hp2)
 have HZ : Shh (∀ k, (p (2 * k) * p2 (2 * k) % 3329 + rtN k * (p (2 * k + 1) * p2 (2 * k + 1) % 3329) % 3329) % 3329 = pairN p p2 (2 * k) ∧ (p (2 * k) * p2 (2 * k + 1) % 3329 + p (2 * k + 1) * p2 (2 * k) % 3329) % 3329 = pairN p p2 (2 * k + 1)) := ⟨fun k => ⟨pair_E p p2 k, pair_O p p2 k⟩⟩
 have HRT : Shh (∀ W, Calls Try.prog 45 #[] W (RootsIs W)) := ⟨fun W => roots_any W⟩
 generalize pairN p p2 = r at *
 clear hp hp2
 obtain ⟨S0, hS0⟩ : ∃ S0, S0 = (((w.alloc (.cells (pc p).toArray 24)).alloc (.cells (pc p2).toArray 24)).alloc (.cells (pc fun _ => 0).toArray 24)).alloc (.cells (pc fun _ => 0).toArray 24) := ⟨_, rfl⟩
 have HS0 : Shh (Row S0 N 24 (pc p) ∧ Row S0 (N + 1) 24 (pc p2) ∧ Row S0 (N + 2) 24 (pc fun _ => 0) ∧ Row S0 (N + 3) 24 (pc (half r (fun _ => 0) 0)) ∧ Below N w S0) := by
  refine ⟨by rw [hS0]; exact (((Row.new_ hN.symm rfl).alloc _).alloc _).alloc _, by rw [hS0]; exact ((Row.new_ (by rw [asz, hN]) rfl).alloc _).alloc _, by rw [hS0]; exact (Row.new_ (by rw [asz, asz, hN]) rfl).alloc _, by rw [hS0, half_zero]; exact Row.new_ (by rw [asz, asz, asz, hN]) rfl, ?_⟩
  rw [hS0, ← hN]
  exact Below.chain (Below.chain (Below.chain (bel1 _ _) (bel1 _ _)) (bel1 _ _)) (bel1 _ _)
 rw [hS0] at HS0
 clear hS0
 go_enter Try.func26, Try.ntmps26
 go_wp2_with (first | refine wl_allocP rfl rfl ?_ | (go_at_call 45; refine (HRT.out _).mono ?_))
 rintro e w2 ⟨rfl, b2⟩
 have HW2 : Shh (Row w2 N 24 (pc p) ∧ Row w2 (N + 1) 24 (pc p2) ∧ Row w2 (N + 2) 24 (pc fun _ => 0) ∧ Row w2 (N + 3) 24 (pc (half r (fun _ => 0) (2 * 0))) ∧ Below N w w2) := ⟨HS0.out.1.go b2, HS0.out.2.1.go b2, HS0.out.2.2.1.go b2, HS0.out.2.2.2.1.go b2, HS0.out.2.2.2.2.trans (b2.mono (Nat.le_of_lt HS0.out.1.lt))⟩
 clear b2 HS0 HRT S0
 go_wp2
 go_loopw [14] (fun i wr => ∃ k : Nat, k ≤ 128 ∧ i = .int .i64 (k : Int) ∧ Shh (Row wr N 24 (pc p) ∧ Row wr (N + 1) 24 (pc p2) ∧ Row wr (N + 2) 24 (pc fun _ => 0) ∧ Row wr (N + 3) 24 (pc (half r (fun _ => 0) (2 * k))) ∧ Below N w wr)) (fun i _ => 128 - (intOf i).toNat)
 case atStart => exact ⟨0, Nat.zero_le _, rfl, HW2⟩
 case round =>
  clear HW2
  obtain ⟨k, hk, rfl, HI⟩ := hrel
  by_cases hlt : k < 128
  ·have hlt2 : (k : Int) < 128 := by omega
   have HGW := Shh.mk (uc_get wN hlt)
   obtain ⟨d, Hd⟩ : ∃ d, Shh (d = 2 * k ∧ d ≤ 1000000000000) := ⟨_, ⟨rfl, by omega⟩⟩
   obtain ⟨d1, Hd1⟩ : ∃ d1, Shh (d1 = d + 1 ∧ d1 ≤ 1000000000000) := ⟨_, ⟨rfl, by have := Hd.out; omega⟩⟩
   have hd : d < 256 := by have := Hd.out; omega
   have hd1 : d1 < 256 := by have := Hd.out; have := Hd1.out; omega
   have HST := HZ.out k
   have HH2 : Shh (pc (upd (upd (half r (fun _ => 0) (2 * k)) d (r d)) d1 (r d1)) = pc (half r (fun _ => 0) (2 * (k + 1)))) := ⟨by rw [Hd1.out.1, Hd.out.1]; exact half_two r (fun _ => 0) k⟩
   rw [← Hd.out.1, ← Hd1.out.1] at HST
   have hRW := rt_w k
   have B0 := wN_lt k
   have BG : rtN k < 3329 := Nat.mod_lt _ (by decide)
   generalize wN k = z at *
   generalize rtN k = g at *
   have P1 := HP.out.1 d hd
   have P2 := HP.out.1 d1 hd1
   have P3 := HP.out.2 d hd
   have P4 := HP.out.2 d1 hd1
   have c1 := HI.out.1.drew.cell d
   rw [pc_get _ hd] at c1
   have c2 := HI.out.1.drew.cell d1
   rw [pc_get _ hd1] at c2
   have c3 := HI.out.2.1.drew.cell d
   rw [pc_get _ hd] at c3
   have c4 := HI.out.2.1.drew.cell d1
   rw [pc_get _ hd1] at c4
   generalize p d = a0 at *
   generalize p d1 = a1 at *
   generalize p2 d = b0 at *
   generalize p2 d1 = b1 at *
   generalize r d = r0 at *
   generalize r d1 = r1 at *
   obtain ⟨z2, Hz2⟩ : ∃ v, Shh (v = z * z % 3329) := ⟨_, ⟨rfl⟩⟩
   obtain ⟨m1, Hm1⟩ : ∃ v, Shh (v = a0 * b0 % 3329) := ⟨_, ⟨rfl⟩⟩
   obtain ⟨m2, Hm2⟩ : ∃ v, Shh (v = a1 * b1 % 3329) := ⟨_, ⟨rfl⟩⟩
   obtain ⟨m3, Hm3⟩ : ∃ v, Shh (v = g * m2 % 3329) := ⟨_, ⟨rfl⟩⟩
   obtain ⟨m4, Hm4⟩ : ∃ v, Shh (v = a0 * b1 % 3329) := ⟨_, ⟨rfl⟩⟩
   obtain ⟨m5, Hm5⟩ : ∃ v, Shh (v = a1 * b0 % 3329) := ⟨_, ⟨rfl⟩⟩
   have q2 : m2 < 3329 := by rw [Hm2.out]; exact Nat.mod_lt _ (by decide)
   have q1 : m1 < 3329 := by rw [Hm1.out]; exact Nat.mod_lt _ (by decide)
   have q3 : m3 < 3329 := by rw [Hm3.out]; exact Nat.mod_lt _ (by decide)
   have q4 : m4 < 3329 := by rw [Hm4.out]; exact Nat.mod_lt _ (by decide)
   have q5 : m5 < 3329 := by rw [Hm5.out]; exact Nat.mod_lt _ (by decide)
   have q6 : z2 < 3329 := by rw [Hz2.out]; exact Nat.mod_lt _ (by decide)
   rw [← Hm1.out, ← Hm2.out, ← Hm3.out, ← Hm4.out, ← Hm5.out] at HST
   rw [← Hz2.out] at hRW
   have C1 : Shh (∀ W, Calls Try.prog 46 #[.int .u16 (z : Int), .int .u16 (z : Int)] W (U16Is W z2)) := ⟨fun W => by rw [Hz2.out]; exact product_any z z ⟨by omega, by omega⟩ W⟩
   have C2 : Shh (∀ W, Calls Try.prog 46 #[.int .u16 17, .int .u16 (z2 : Int)] W (U16Is W g)) := ⟨fun W => by rw [← hRW]; exact product_any 17 z2 ⟨by omega, by omega⟩ W⟩
   have D1 : Shh (∀ W, Calls Try.prog 46 #[.int .u16 (a0 : Int), .int .u16 (b0 : Int)] W (U16Is W m1)) := ⟨fun W => by rw [Hm1.out]; exact product_any a0 b0 ⟨by omega, by omega⟩ W⟩
   have D2 : Shh (∀ W, Calls Try.prog 46 #[.int .u16 (a1 : Int), .int .u16 (b1 : Int)] W (U16Is W m2)) := ⟨fun W => by rw [Hm2.out]; exact product_any a1 b1 ⟨by omega, by omega⟩ W⟩
   have D3 : Shh (∀ W, Calls Try.prog 46 #[.int .u16 (g : Int), .int .u16 (m2 : Int)] W (U16Is W m3)) := ⟨fun W => by rw [Hm3.out]; exact product_any g m2 ⟨by omega, by omega⟩ W⟩
   have D4 : Shh (∀ W, Calls Try.prog 43 #[.int .u16 (m1 : Int), .int .u16 (m3 : Int)] W (U16Is W r0)) := ⟨fun W => by rw [← HST.1]; exact sum_any m1 m3 (by omega) W⟩
   have E1 : Shh (∀ W, Calls Try.prog 46 #[.int .u16 (a0 : Int), .int .u16 (b1 : Int)] W (U16Is W m4)) := ⟨fun W => by rw [Hm4.out]; exact product_any a0 b1 ⟨by omega, by omega⟩ W⟩
   have E2 : Shh (∀ W, Calls Try.prog 46 #[.int .u16 (a1 : Int), .int .u16 (b0 : Int)] W (U16Is W m5)) := ⟨fun W => by rw [Hm5.out]; exact product_any a1 b0 ⟨by omega, by omega⟩ W⟩
   have E3 : Shh (∀ W, Calls Try.prog 43 #[.int .u16 (m4 : Int), .int .u16 (m5 : Int)] W (U16Is W r1)) := ⟨fun W => by rw [← HST.2]; exact sum_any m4 m5 (by omega) W⟩
   have HC := Shh.mk (And.intro c1 (And.intro c2 (And.intro c3 c4)))
   clear c1 c2 c3 c4 q1 q2 q3 q4 q5 q6 HST hRW B0 BG P1 P2 P3 P4 Hm1 Hm2 Hm3 Hm4 Hm5 Hz2
   go_wp2_with (first | refine wl_at 17 rfl (.int .u16 (z : Int)) rfl (idx_roots hlt HGW.out rfl rfl rfl) ?_ | (go_at_call 46; refine (C1.out _).mono ?_))
   rintro e w3 ⟨rfl, rfl⟩
   go_wp2_with (go_at_call 46; refine (C2.out _).mono ?_)
   rintro e w3 ⟨rfl, rfl⟩
   go_wp2
   refine wp_region_held_drew (S := fun w' => w'.cell? ⟨N, d, none⟩ = some (.int .u16 (a0 : Int)) ∧ w'.cell? ⟨N, d1, none⟩ = some (.int .u16 (a1 : Int)) ∧ w'.cell? ⟨N + 1, d, none⟩ = some (.int .u16 (b0 : Int)) ∧ w'.cell? ⟨N + 1, d1, none⟩ = some (.int .u16 (b1 : Int))) (by kernel_rfl) HC.out (fun hS => ?_)
   clear hS
   obtain ⟨U, hU⟩ : ∃ V, V = World.drew wr := ⟨_, rfl⟩
   rw [← hU] at HC ⊢
   have HIU : Shh (Row U N 24 (pc p) ∧ Row U (N + 1) 24 (pc p2) ∧ Row U (N + 2) 24 (pc fun _ => 0) ∧ Row U (N + 3) 24 (pc (half r (fun _ => 0) (2 * k))) ∧ Below N w U) := by rw [hU]; exact ⟨HI.out.1.drew, HI.out.2.1.drew, HI.out.2.2.1.drew, HI.out.2.2.2.1.drew, HI.out.2.2.2.2.drew⟩
   clear HI hU
   refine hdv0 0 22 (.int .i64 (k : Int)) (by rfl) (HC.out) ?_
   refine hdv 1 23 (.int .i64 (d : Int)) (by rfl) (fun w hS => mul_iin (i := 2) (j := k) Hd.out.1 Hd.out.2 rfl (by kernel_rfl) (by kernel_rfl)) (HC.out) ?_
   refine hdv 2 24 (.pointer (some ⟨N, d, none⟩)) (by rfl) (fun w hS => at_poly hd rfl (by kernel_rfl) (by kernel_rfl)) (HC.out) ?_
   refine hdv 3 25 (.int .u16 (a0 : Int)) (by rfl) (fun w hS => load_u16 rfl hS.1 (by kernel_rfl)) (HC.out) ?_
   refine hdv0 4 26 (.int .i64 (k : Int)) (by rfl) (HC.out) ?_
   refine hdv 5 27 (.int .i64 (d : Int)) (by rfl) (fun w hS => mul_iin (i := 2) (j := k) Hd.out.1 Hd.out.2 rfl (by kernel_rfl) (by kernel_rfl)) (HC.out) ?_
   refine hdv 6 28 (.int .i64 (d1 : Int)) (by rfl) (fun w hS => add_ii (i := d) (j := 1) Hd1.out rfl (by kernel_rfl) (by kernel_rfl)) (HC.out) ?_
   refine hdv 7 29 (.pointer (some ⟨N, d1, none⟩)) (by rfl) (fun w hS => at_poly hd1 rfl (by kernel_rfl) (by kernel_rfl)) (HC.out) ?_
   refine hdv 8 30 (.int .u16 (a1 : Int)) (by rfl) (fun w hS => load_u16 rfl hS.2.1 (by kernel_rfl)) (HC.out) ?_
   refine hdv0 9 31 (.int .i64 (k : Int)) (by rfl) (HC.out) ?_
   refine hdv 10 32 (.int .i64 (d : Int)) (by rfl) (fun w hS => mul_iin (i := 2) (j := k) Hd.out.1 Hd.out.2 rfl (by kernel_rfl) (by kernel_rfl)) (HC.out) ?_
   refine hdv 11 33 (.pointer (some ⟨N + 1, d, none⟩)) (by rfl) (fun w hS => at_poly hd rfl (by kernel_rfl) (by kernel_rfl)) (HC.out) ?_
   refine hdv 12 34 (.int .u16 (b0 : Int)) (by rfl) (fun w hS => load_u16 rfl hS.2.2.1 (by kernel_rfl)) (HC.out) ?_
   refine hdv0 13 35 (.int .i64 (k : Int)) (by rfl) (HC.out) ?_
   refine hdv 14 36 (.int .i64 (d : Int)) (by rfl) (fun w hS => mul_iin (i := 2) (j := k) Hd.out.1 Hd.out.2 rfl (by kernel_rfl) (by kernel_rfl)) (HC.out) ?_
   refine hdv 15 37 (.int .i64 (d1 : Int)) (by rfl) (fun w hS => add_ii (i := d) (j := 1) Hd1.out rfl (by kernel_rfl) (by kernel_rfl)) (HC.out) ?_
   refine hdv 16 38 (.pointer (some ⟨N + 1, d1, none⟩)) (by rfl) (fun w hS => at_poly hd1 rfl (by kernel_rfl) (by kernel_rfl)) (HC.out) ?_
   refine hdv 17 39 (.int .u16 (b1 : Int)) (by rfl) (fun w hS => load_u16 rfl hS.2.2.2 (by kernel_rfl)) (HC.out) ?_
   refine hdv0 18 9 (.int .u16 (a0 : Int)) (by rfl) (HC.out) ?_
   refine hdv0 19 10 (.int .u16 (a1 : Int)) (by rfl) (HC.out) ?_
   refine hdv0 20 11 (.int .u16 (b0 : Int)) (by rfl) (HC.out) ?_
   refine hdv0 21 12 (.int .u16 (b1 : Int)) (by rfl) (HC.out) ?_
   refine wpAnyH_done (by kernel_rfl) ?_ _
   clear HC
   go_wp2_with (first | refine wl_at 41 rfl (.int .i64 (d : Int)) rfl (mul_iin (i := 2) (j := k) Hd.out.1 Hd.out.2 rfl rfl rfl) ?_ | (go_at_call 46; refine (D1.out _).mono ?_))
   rintro e w3 ⟨rfl, rfl⟩
   go_wp2_with (go_at_call 46; refine (D2.out _).mono ?_)
   rintro e w3 ⟨rfl, rfl⟩
   go_wp2_with (go_at_call 46; refine (D3.out _).mono ?_)
   rintro e w3 ⟨rfl, rfl⟩
   go_wp2_with (go_at_call 43; refine (D4.out _).mono ?_)
   rintro e w3 ⟨rfl, rfl⟩
   go_wp2_with (first | refine wl_at 51 rfl (.pointer (some ⟨N + 3, d, none⟩)) rfl (at_poly hd rfl rfl rfl) ?_ | refine wl_storeP rfl hd rfl rfl rfl HIU.out.2.2.2.1 ?_)
   intro w3 r3 b3 z3
   have HI3 : Shh (Row w3 N 24 (pc p) ∧ Row w3 (N + 1) 24 (pc p2) ∧ Row w3 (N + 2) 24 (pc fun _ => 0) ∧ Row w3 (N + 3) 24 (pc (upd (half r (fun _ => 0) (2 * k)) d r0)) ∧ Below N w w3) := ⟨b3.row HIU.out.1 HIU.out.1.lt (by omega), b3.row HIU.out.2.1 HIU.out.2.1.lt (by omega), b3.row HIU.out.2.2.1 HIU.out.2.2.1.lt (by omega), r3, HIU.out.2.2.2.2.trans (b3.under (Nat.le_of_lt HIU.out.1.lt) (by omega))⟩
   clear r3 b3 z3 HIU
   go_wp2_with (first | refine wl_at 53 rfl (.int .i64 (d : Int)) rfl (mul_iin (i := 2) (j := k) Hd.out.1 Hd.out.2 rfl rfl rfl) ?_ | refine wl_at 54 rfl (.int .i64 (d1 : Int)) rfl (add_ii (i := d) (j := 1) Hd1.out rfl rfl rfl) ?_ | (go_at_call 46; refine (E1.out _).mono ?_))
   rintro e w3 ⟨rfl, rfl⟩
   go_wp2_with (go_at_call 46; refine (E2.out _).mono ?_)
   rintro e w3 ⟨rfl, rfl⟩
   go_wp2_with (go_at_call 43; refine (E3.out _).mono ?_)
   rintro e w3 ⟨rfl, rfl⟩
   go_wp2_with (first | refine wl_at 62 rfl (.pointer (some ⟨N + 3, d1, none⟩)) rfl (at_poly hd1 rfl rfl rfl) ?_ | refine wl_storeP rfl hd1 rfl rfl rfl HI3.out.2.2.2.1 ?_)
   intro w4 r4 b4 z4
   rw [HH2.out] at r4
   have HI4 : Shh (Row w4 N 24 (pc p) ∧ Row w4 (N + 1) 24 (pc p2) ∧ Row w4 (N + 2) 24 (pc fun _ => 0) ∧ Row w4 (N + 3) 24 (pc (half r (fun _ => 0) (2 * (k + 1)))) ∧ Below N w w4) := ⟨b4.row HI3.out.1 HI3.out.1.lt (by omega), b4.row HI3.out.2.1 HI3.out.2.1.lt (by omega), b4.row HI3.out.2.2.1 HI3.out.2.2.1.lt (by omega), r4, HI3.out.2.2.2.2.trans (b4.under (Nat.le_of_lt HI3.out.1.lt) (by omega))⟩
   clear r4 b4 z4 HI3
   go_wp2
   go_roundw
   case rel => exact ⟨k + 1, by omega, by go_num, HI4⟩
   case measure => simp [intOf]; omega
  ·have HL : Shh (pc (half r (fun _ => 0) (2 * k)) = pc r) := ⟨by rw [show 2 * k = 256 by omega]; exact half_all _ _⟩
   rw [HL.out] at HI
   have hlt2 : ¬ (k : Int) < 128 := by omega
   clear HL HP HZ
   go_wp2_with (first
    | refine wpList_load_any rfl 24 (.tmp 5) rfl (N + 3) rfl 24 (pc r) (.array 256 22) HI.out.2.2.2.1 Try.underlying24 rfl (info_poly.trans (size_poly r)) ?_
    | refine wpList_store_any rfl 24 (.tmp 4) (.tmp 64) rfl (N + 2) rfl (pc r) rfl 24 _ HI.out.2.2.1 (info_poly.trans (size_poly r)) (by rw [pc_length, pc_length]) (pc_one r) ?_)
   intro w9 hr9 b9 _
   have hb9 := HI.out.2.2.2.2.trans (b9.under (Nat.le_of_lt HI.out.1.lt) (by omega))
   go_wp2
   exact ret_row Try.results26 rfl rfl hr9 Try.underlying24 rfl (info_poly.trans (size_poly r)) ⟨rfl, hb9⟩
end Go.Proofs.Ytfcgdjgfdbcddaa

/-
 THE PROGRAM'S OWN Add, Sub, Mul.
-/
namespace Go.Proofs.Ytfcgdjgfdbcddaa
open Go.RowKit
set_option maxRecDepth 100000
theorem run_loadRow13 {P : Program} {a : Act} {w : World} {dst : Option Tmp} {ty T ty2 : TypeId} {x : Operand} {g : Nat} {cs : List Value} {d : TypeDesc} (hx : a.eval x = .pointer (some ⟨g, 0, none⟩)) (hr : Row w g T cs)
 (hu : P.underlying ty = some d) (hd : (match d with | .struct _ | .array _ _ => true | _ => false) = true) (hi : (P.info? ty).map (·.size) = some cs.length) : (execOp a.eval ⟨dst, .load ty x, ty2, "", #[], none⟩).run P w = .ok (.value (.agg cs.toArray)) w := by
 unfold execOp
 simp only [hx, Instr.loadAt, Instr.sureAddr, Sem.run_bind, Sem.run_pure, Result.andThen_ok, run_loadVar_row w g T ty cs.toArray (0, 0) d hr hu hd (by simpa using hi)]
theorem addR (p p2 : Nat → Nat) (i : Nat) : addN p p2 i = (redN p i + redN p2 i) % 3329 := by unfold addN redN rd; omega
theorem subR (p p2 : Nat → Nat) (i : Nat) : subN p p2 i = (redN p i + 3329 - redN p2 i) % 3329 := by unfold subN redN rd; omega
set_option maxHeartbeats 2000000 in
theorem combined_sum (p p2 : Nat → Nat) (hp : ∀ i, i < 256 → p i < 65536) (hp2 : ∀ i, i < 256 → p2 i < 65536) (w : World) : Calls Try.prog 42 #[polyV p, polyV p2, .func (.func 43) #[] #[]] w (PolyIs w (addN p p2)) := by
 unfold PolyIs polyV
 generalize hN : w.heap.size = N at *
 have HRD : Shh (∀ W, Calls Try.prog 14 #[.agg (pc p).toArray] W (PolyIs W (redN p))) := ⟨fun W => Reduce_any p hp W⟩
 have HRE : Shh (∀ W, Calls Try.prog 14 #[.agg (pc p2).toArray] W (PolyIs W (redN p2))) := ⟨fun W => Reduce_any p2 hp2 W⟩
 have HF : Shh (∀ i, addN p p2 i = (redN p i + redN p2 i) % 3329 ∧ redN p i < 3329 ∧ redN p2 i < 3329) := ⟨fun i => ⟨addR p p2 i, rd_lt _, rd_lt _⟩⟩
 generalize addN p p2 = fin at *
 generalize redN p = r1 at *
 generalize redN p2 = r2 at *
 clear hp hp2
 obtain ⟨S0, hS0⟩ : ∃ S0, S0 = ((w.alloc (.cells (pc p).toArray 24)).alloc (.cells (pc p2).toArray 24)).alloc (.cells (pc fun _ => 0).toArray 24) := ⟨_, rfl⟩
 have HW : Shh (Row S0 N 24 (pc p) ∧ Row S0 (N + 1) 24 (pc p2) ∧ Row S0 (N + 2) 24 (pc fun _ => 0) ∧ Below N w S0) := by
  refine ⟨by rw [hS0]; exact ((Row.new_ hN.symm rfl).alloc _).alloc _, by rw [hS0]; exact (Row.new_ (by rw [asz, hN]) rfl).alloc _, by rw [hS0]; exact Row.new_ (by rw [asz, asz, hN]) rfl, ?_⟩
  rw [hS0, ← hN]
  exact Below.chain (Below.chain (bel1 _ _) (bel1 _ _)) (bel1 _ _)
 go_enter Try.func42, Try.ntmps42
 go_wp2_with (refine wl_allocP rfl rfl ?_)
 try simp only [asz, hN]
 rw [← hS0]
 clear hS0
 try simp only [Act.put, arr9, hd9, tl9]
 refine wp_region_held_drew (S := fun _ => True) (by kernel_rfl) trivial (fun hS => ?_)
 clear hS
 obtain ⟨U, hU⟩ : ∃ V, V = World.drew S0 := ⟨_, rfl⟩
 rw [← hU]
 have q0 : Row U N 24 (pc p) := by rw [hU]; exact HW.out.1.drew
 have q1 : Row U (N + 1) 24 (pc p2) := by rw [hU]; exact HW.out.2.1.drew
 have q2 : Row U (N + 2) 24 (pc fun _ => 0) := by rw [hU]; exact HW.out.2.2.1.drew
 have bN : Below N w U := by rw [hU]; exact HW.out.2.2.2.drew
 have lN : N + 2 < U.heap.size := q2.lt
 clear HW hU
 refine share (T := ?T0) (fun hT => ?gg0) ?tt0
 case gg0 =>
  refine held_two 0 2 (by kernel_rfl) ?_ ?_
  ·refine step_value 0 _ _ (some 9) (.agg (pc p).toArray) U (by rfl) (by kernel_rfl) (run_loadRow13 (g := N) (by kernel_rfl) q0 Try.underlying24 rfl (info_poly.trans (size_poly p))) (trivial) ?_
   simp only [Act.put, arr9, hd9, tl9]
   refine held_two 1 2 (by kernel_rfl) ?_ ?_
   ·refine step_call 1 _ _ (some 10) 14 #[.agg (pc p).toArray] (by rfl) (by kernel_rfl) (by first | kernel_rfl | go_simp) ?_
    refine (HRD.out U).mono ?_
    rintro e Y2 ⟨rfl, b1⟩
    have bx : Below U.heap.size U Y2 := b1
    clear b1
    have b_U := bx
    have m_Y2 : U.heap.size ≤ Y2.heap.size := bx.size
    clear bx
    refine ⟨_, rfl, trivial, ?_⟩
    simp only [Act.put, arr9, hd9, tl9]
    refine held_one 2 (by kernel_rfl) ?_
    refine step_value 2 _ _ (some 11) (.agg (pc p2).toArray) Y2 (by rfl) (by kernel_rfl) (run_loadRow13 (g := (N + 1)) (by kernel_rfl) (q1.go b_U) Try.underlying24 rfl (info_poly.trans (size_poly p2))) (trivial) ?_
    simp only [Act.put, arr9, hd9, tl9]
    refine held_one 3 (by kernel_rfl) ?_
    refine step_call 3 _ _ (some 12) 14 #[.agg (pc p2).toArray] (by rfl) (by kernel_rfl) (by first | kernel_rfl | go_simp) ?_
    refine (HRE.out Y2).mono ?_
    rintro e Y4 ⟨rfl, b1⟩
    have bx : Below Y2.heap.size Y2 Y4 := b1
    clear b1
    replace b_U := Below.chain b_U bx
    have b_Y2 := bx
    have m_Y4 : Y2.heap.size ≤ Y4.heap.size := bx.size
    clear bx
    refine ⟨_, rfl, trivial, ?_⟩
    simp only [Act.put, arr9, hd9, tl9]
    refine held_one 4 (by kernel_rfl) ?_
    refine step_storeRow 4 24 (.tmp 3) (.tmp 10) (by rfl) (by kernel_rfl) N (by kernel_rfl) (pc r1) (by kernel_rfl) 24 _ (q0.go b_U) (info_poly.trans (size_poly r1)) (by rw [pc_length, pc_length]) (pc_one r1) ?_
    intro Y5 r6 b6 z6
    have HA : Shh (Row Y5 N 24 (pc r1) ∧ Row Y5 (N + 1) 24 (pc p2) ∧ Row Y5 (N + 2) 24 (pc fun _ => 0) ∧ Below N w Y5) := ⟨r6, b6.row (q1.go b_U) ((q1.go b_U)).lt (by omega), b6.row (q2.go b_U) ((q2.go b_U)).lt (by omega), (bN.trans (b_U.mono (by omega))).trans (b6.under (Nat.le_of_lt ((q0.go b_U)).lt) (Nat.le_refl _))⟩
    clear r6 b6 z6
    refine ⟨trivial, ?_⟩
    refine held_one 5 (by kernel_rfl) ?_
    refine step_storeRow 5 24 (.tmp 4) (.tmp 12) (by rfl) (by kernel_rfl) (N + 1) (by kernel_rfl) (pc r2) (by kernel_rfl) 24 _ HA.out.2.1 (info_poly.trans (size_poly r2)) (by rw [pc_length, pc_length]) (pc_one r2) ?_
    intro Y6 r6 b6 z6
    have HB : Shh (Row Y6 N 24 (pc r1) ∧ Row Y6 (N + 1) 24 (pc r2) ∧ Row Y6 (N + 2) 24 (pc fun _ => 0) ∧ Below N w Y6) := ⟨b6.row HA.out.1 HA.out.1.lt (by omega), r6, b6.row HA.out.2.2.1 HA.out.2.2.1.lt (by omega), HA.out.2.2.2.trans (b6.under (Nat.le_of_lt HA.out.1.lt) (by omega))⟩
    clear r6 b6 z6 HA
    refine ⟨trivial, ?_⟩
    refine wpAnyH_done (by kernel_rfl) ?_ _
    have HZ := HB
    clear HB m_Y4 b_Y2 m_Y2 b_U
    revert HZ
    revert Y6
    exact hT.out
   ·refine step_value 2 _ _ (some 11) (.agg (pc p2).toArray) U (by rfl) (by kernel_rfl) (run_loadRow13 (g := (N + 1)) (by kernel_rfl) q1 Try.underlying24 rfl (info_poly.trans (size_poly p2))) (trivial) ?_
    simp only [Act.put, arr9, hd9, tl9]
    refine held_one 1 (by kernel_rfl) ?_
    refine step_call 1 _ _ (some 10) 14 #[.agg (pc p).toArray] (by rfl) (by kernel_rfl) (by first | kernel_rfl | go_simp) ?_
    refine (HRD.out U).mono ?_
    rintro e Y3 ⟨rfl, b1⟩
    have bx : Below U.heap.size U Y3 := b1
    clear b1
    have b_U := bx
    have m_Y3 : U.heap.size ≤ Y3.heap.size := bx.size
    clear bx
    refine ⟨_, rfl, trivial, ?_⟩
    simp only [Act.put, arr9, hd9, tl9]
    refine held_one 3 (by kernel_rfl) ?_
    refine step_call 3 _ _ (some 12) 14 #[.agg (pc p2).toArray] (by rfl) (by kernel_rfl) (by first | kernel_rfl | go_simp) ?_
    refine (HRE.out Y3).mono ?_
    rintro e Y4 ⟨rfl, b1⟩
    have bx : Below Y3.heap.size Y3 Y4 := b1
    clear b1
    replace b_U := Below.chain b_U bx
    have b_Y3 := bx
    have m_Y4 : Y3.heap.size ≤ Y4.heap.size := bx.size
    clear bx
    refine ⟨_, rfl, trivial, ?_⟩
    simp only [Act.put, arr9, hd9, tl9]
    refine held_one 4 (by kernel_rfl) ?_
    refine step_storeRow 4 24 (.tmp 3) (.tmp 10) (by rfl) (by kernel_rfl) N (by kernel_rfl) (pc r1) (by kernel_rfl) 24 _ (q0.go b_U) (info_poly.trans (size_poly r1)) (by rw [pc_length, pc_length]) (pc_one r1) ?_
    intro Y5 r6 b6 z6
    have HA : Shh (Row Y5 N 24 (pc r1) ∧ Row Y5 (N + 1) 24 (pc p2) ∧ Row Y5 (N + 2) 24 (pc fun _ => 0) ∧ Below N w Y5) := ⟨r6, b6.row (q1.go b_U) ((q1.go b_U)).lt (by omega), b6.row (q2.go b_U) ((q2.go b_U)).lt (by omega), (bN.trans (b_U.mono (by omega))).trans (b6.under (Nat.le_of_lt ((q0.go b_U)).lt) (Nat.le_refl _))⟩
    clear r6 b6 z6
    refine ⟨trivial, ?_⟩
    refine held_one 5 (by kernel_rfl) ?_
    refine step_storeRow 5 24 (.tmp 4) (.tmp 12) (by rfl) (by kernel_rfl) (N + 1) (by kernel_rfl) (pc r2) (by kernel_rfl) 24 _ HA.out.2.1 (info_poly.trans (size_poly r2)) (by rw [pc_length, pc_length]) (pc_one r2) ?_
    intro Y6 r6 b6 z6
    have HB : Shh (Row Y6 N 24 (pc r1) ∧ Row Y6 (N + 1) 24 (pc r2) ∧ Row Y6 (N + 2) 24 (pc fun _ => 0) ∧ Below N w Y6) := ⟨b6.row HA.out.1 HA.out.1.lt (by omega), r6, b6.row HA.out.2.2.1 HA.out.2.2.1.lt (by omega), HA.out.2.2.2.trans (b6.under (Nat.le_of_lt HA.out.1.lt) (by omega))⟩
    clear r6 b6 z6 HA
    refine ⟨trivial, ?_⟩
    refine wpAnyH_done (by kernel_rfl) ?_ _
    have HZ := HB
    clear HB m_Y4 b_Y3 m_Y3 b_U
    revert HZ
    revert Y6
    exact hT.out
  ·refine step_value 2 _ _ (some 11) (.agg (pc p2).toArray) U (by rfl) (by kernel_rfl) (run_loadRow13 (g := (N + 1)) (by kernel_rfl) q1 Try.underlying24 rfl (info_poly.trans (size_poly p2))) (trivial) ?_
   simp only [Act.put, arr9, hd9, tl9]
   refine held_one 0 (by kernel_rfl) ?_
   refine step_value 0 _ _ (some 9) (.agg (pc p).toArray) U (by rfl) (by kernel_rfl) (run_loadRow13 (g := N) (by kernel_rfl) q0 Try.underlying24 rfl (info_poly.trans (size_poly p))) (trivial) ?_
   simp only [Act.put, arr9, hd9, tl9]
   refine held_one 1 (by kernel_rfl) ?_
   refine step_call 1 _ _ (some 10) 14 #[.agg (pc p).toArray] (by rfl) (by kernel_rfl) (by first | kernel_rfl | go_simp) ?_
   refine (HRD.out U).mono ?_
   rintro e Y3 ⟨rfl, b1⟩
   have bx : Below U.heap.size U Y3 := b1
   clear b1
   have b_U := bx
   have m_Y3 : U.heap.size ≤ Y3.heap.size := bx.size
   clear bx
   refine ⟨_, rfl, trivial, ?_⟩
   simp only [Act.put, arr9, hd9, tl9]
   refine held_one 3 (by kernel_rfl) ?_
   refine step_call 3 _ _ (some 12) 14 #[.agg (pc p2).toArray] (by rfl) (by kernel_rfl) (by first | kernel_rfl | go_simp) ?_
   refine (HRE.out Y3).mono ?_
   rintro e Y4 ⟨rfl, b1⟩
   have bx : Below Y3.heap.size Y3 Y4 := b1
   clear b1
   replace b_U := Below.chain b_U bx
   have b_Y3 := bx
   have m_Y4 : Y3.heap.size ≤ Y4.heap.size := bx.size
   clear bx
   refine ⟨_, rfl, trivial, ?_⟩
   simp only [Act.put, arr9, hd9, tl9]
   refine held_one 4 (by kernel_rfl) ?_
   refine step_storeRow 4 24 (.tmp 3) (.tmp 10) (by rfl) (by kernel_rfl) N (by kernel_rfl) (pc r1) (by kernel_rfl) 24 _ (q0.go b_U) (info_poly.trans (size_poly r1)) (by rw [pc_length, pc_length]) (pc_one r1) ?_
   intro Y5 r6 b6 z6
   have HA : Shh (Row Y5 N 24 (pc r1) ∧ Row Y5 (N + 1) 24 (pc p2) ∧ Row Y5 (N + 2) 24 (pc fun _ => 0) ∧ Below N w Y5) := ⟨r6, b6.row (q1.go b_U) ((q1.go b_U)).lt (by omega), b6.row (q2.go b_U) ((q2.go b_U)).lt (by omega), (bN.trans (b_U.mono (by omega))).trans (b6.under (Nat.le_of_lt ((q0.go b_U)).lt) (Nat.le_refl _))⟩
   clear r6 b6 z6
   refine ⟨trivial, ?_⟩
   refine held_one 5 (by kernel_rfl) ?_
   refine step_storeRow 5 24 (.tmp 4) (.tmp 12) (by rfl) (by kernel_rfl) (N + 1) (by kernel_rfl) (pc r2) (by kernel_rfl) 24 _ HA.out.2.1 (info_poly.trans (size_poly r2)) (by rw [pc_length, pc_length]) (pc_one r2) ?_
   intro Y6 r6 b6 z6
   have HB : Shh (Row Y6 N 24 (pc r1) ∧ Row Y6 (N + 1) 24 (pc r2) ∧ Row Y6 (N + 2) 24 (pc fun _ => 0) ∧ Below N w Y6) := ⟨b6.row HA.out.1 HA.out.1.lt (by omega), r6, b6.row HA.out.2.2.1 HA.out.2.2.1.lt (by omega), HA.out.2.2.2.trans (b6.under (Nat.le_of_lt HA.out.1.lt) (by omega))⟩
   clear r6 b6 z6 HA
   refine ⟨trivial, ?_⟩
   refine wpAnyH_done (by kernel_rfl) ?_ _
   have HZ := HB
   clear HB m_Y4 b_Y3 m_Y3 b_U
   revert HZ
   revert Y6
   exact hT.out
 case tt0 =>
  clear q0 q1 q2 bN lN HRD HRE
  intro Z HB
  go_wp2_with (refine wpList_load_any rfl 24 (.tmp 3) rfl N rfl 24 (pc r1) (.array 256 22) HB.out.1 Try.underlying24 rfl (info_poly.trans (size_poly r1)) ?_)
  go_loopw [14] (fun i wr => ∃ k : Nat, k ≤ 256 ∧ i = .int .i64 (k : Int) ∧ Shh (Row wr N 24 (pc (half fin r1 k)) ∧ Row wr (N + 1) 24 (pc r2) ∧ Row wr (N + 2) 24 (pc fun _ => 0) ∧ Below N w wr)) (fun i _ => 256 - (intOf i).toNat)
  case atStart => exact ⟨0, Nat.zero_le _, rfl, ⟨by rw [half_zero]; exact HB.out⟩⟩
  case round =>
   clear HB
   obtain ⟨k, hk, rfl, HI⟩ := hrel
   by_cases hkt : k < 256
   ·have HE := HF.out k
    have HN2 := Shh.mk (half_next fin r1 k)
    have HG := Shh.mk (pc_get r1 hkt)
    have c1 := HI.out.2.1.cell k
    rw [pc_get _ hkt] at c1
    generalize fin k = rk at *
    generalize r1 k = ak at *
    generalize r2 k = bk at *
    have C1 : Shh (∀ W, Calls Try.prog 43 #[.int .u16 (ak : Int), .int .u16 (bk : Int)] W (U16Is W rk)) := ⟨fun W => by rw [HE.1]; exact sum_any ak bk (by omega) W⟩
    have HC := Shh.mk c1
    clear HE c1
    have hlt3 : (k : Int) < 256 := by omega
    go_wp2_with (first | refine wl_at 17 rfl (.int .u16 (ak : Int)) rfl (idx_poly hkt HG.out rfl rfl rfl) ?_ | refine wl_at 22 rfl (.pointer (some ⟨N + 1, k, none⟩)) rfl (at_poly hkt rfl rfl rfl) ?_ | refine wl_at 23 rfl (.int .u16 (bk : Int)) rfl (load_u16 rfl HC.out rfl) ?_ | (go_at_call 43; refine (C1.out _).mono ?_))
    rintro e w2 ⟨rfl, rfl⟩
    go_wp2_with (first | refine wl_at 25 rfl (.pointer (some ⟨N, k, none⟩)) rfl (at_poly hkt rfl rfl rfl) ?_ | refine wl_storeP rfl hkt rfl rfl rfl HI.out.1 ?_)
    intro w3 r3 b3 z3
    rw [HN2.out] at r3
    have HI3 : Shh (Row w3 N 24 (pc (half fin r1 (k + 1))) ∧ Row w3 (N + 1) 24 (pc r2) ∧ Row w3 (N + 2) 24 (pc fun _ => 0) ∧ Below N w w3) := ⟨r3, b3.row HI.out.2.1 HI.out.2.1.lt (by omega), b3.row HI.out.2.2.1 HI.out.2.2.1.lt (by omega), HI.out.2.2.2.trans (b3.under (Nat.le_of_lt HI.out.1.lt) (by omega))⟩
    clear r3 b3 z3 HI
    go_wp2
    go_roundw
    case rel => exact ⟨k + 1, by omega, by go_num, HI3⟩
    case measure => simp [intOf]; omega
   ·have HL : Shh (pc (half fin r1 k) = pc fin) := ⟨by rw [show k = 256 by omega]; exact half_all _ _⟩
    rw [HL.out] at HI
    have hlt3 : ¬ (k : Int) < 256 := by omega
    clear HL HF
    go_wp2_with (first
     | refine wpList_load_any rfl 24 (.tmp 3) rfl N rfl 24 (pc fin) (.array 256 22) HI.out.1 Try.underlying24 rfl (info_poly.trans (size_poly fin)) ?_
     | refine wpList_store_any rfl 24 (.tmp 6) (.tmp 27) rfl (N + 2) rfl (pc fin) rfl 24 _ HI.out.2.2.1 (info_poly.trans (size_poly fin)) (by rw [pc_length, pc_length]) (pc_one fin) ?_)
    intro w9 hr9 b9 _
    have hb9 := HI.out.2.2.2.trans (b9.under (Nat.le_of_lt HI.out.1.lt) (by omega))
    go_wp2
    exact ret_row Try.results42 rfl rfl hr9 Try.underlying24 rfl (info_poly.trans (size_poly fin)) ⟨rfl, hb9⟩
set_option maxHeartbeats 2000000 in
theorem combined_diff (p p2 : Nat → Nat) (hp : ∀ i, i < 256 → p i < 65536) (hp2 : ∀ i, i < 256 → p2 i < 65536) (w : World) : Calls Try.prog 42 #[polyV p, polyV p2, .func (.func 44) #[] #[]] w (PolyIs w (subN p p2)) := by
 unfold PolyIs polyV
 generalize hN : w.heap.size = N at *
 have HRD : Shh (∀ W, Calls Try.prog 14 #[.agg (pc p).toArray] W (PolyIs W (redN p))) := ⟨fun W => Reduce_any p hp W⟩
 have HRE : Shh (∀ W, Calls Try.prog 14 #[.agg (pc p2).toArray] W (PolyIs W (redN p2))) := ⟨fun W => Reduce_any p2 hp2 W⟩
 have HF : Shh (∀ i, subN p p2 i = (redN p i + 3329 - redN p2 i) % 3329 ∧ redN p i < 3329 ∧ redN p2 i < 3329) := ⟨fun i => ⟨subR p p2 i, rd_lt _, rd_lt _⟩⟩
 generalize subN p p2 = fin at *
 generalize redN p = r1 at *
 generalize redN p2 = r2 at *
 clear hp hp2
 obtain ⟨S0, hS0⟩ : ∃ S0, S0 = ((w.alloc (.cells (pc p).toArray 24)).alloc (.cells (pc p2).toArray 24)).alloc (.cells (pc fun _ => 0).toArray 24) := ⟨_, rfl⟩
 have HW : Shh (Row S0 N 24 (pc p) ∧ Row S0 (N + 1) 24 (pc p2) ∧ Row S0 (N + 2) 24 (pc fun _ => 0) ∧ Below N w S0) := by
  refine ⟨by rw [hS0]; exact ((Row.new_ hN.symm rfl).alloc _).alloc _, by rw [hS0]; exact (Row.new_ (by rw [asz, hN]) rfl).alloc _, by rw [hS0]; exact Row.new_ (by rw [asz, asz, hN]) rfl, ?_⟩
  rw [hS0, ← hN]
  exact Below.chain (Below.chain (bel1 _ _) (bel1 _ _)) (bel1 _ _)
 go_enter Try.func42, Try.ntmps42
 go_wp2_with (refine wl_allocP rfl rfl ?_)
 try simp only [asz, hN]
 rw [← hS0]
 clear hS0
 try simp only [Act.put, arr9, hd9, tl9]
 refine wp_region_held_drew (S := fun _ => True) (by kernel_rfl) trivial (fun hS => ?_)
 clear hS
 obtain ⟨U, hU⟩ : ∃ V, V = World.drew S0 := ⟨_, rfl⟩
 rw [← hU]
 have q0 : Row U N 24 (pc p) := by rw [hU]; exact HW.out.1.drew
 have q1 : Row U (N + 1) 24 (pc p2) := by rw [hU]; exact HW.out.2.1.drew
 have q2 : Row U (N + 2) 24 (pc fun _ => 0) := by rw [hU]; exact HW.out.2.2.1.drew
 have bN : Below N w U := by rw [hU]; exact HW.out.2.2.2.drew
 have lN : N + 2 < U.heap.size := q2.lt
 clear HW hU
 refine share (T := ?T0) (fun hT => ?gg0) ?tt0
 case gg0 =>
  refine held_two 0 2 (by kernel_rfl) ?_ ?_
  ·refine step_value 0 _ _ (some 9) (.agg (pc p).toArray) U (by rfl) (by kernel_rfl) (run_loadRow13 (g := N) (by kernel_rfl) q0 Try.underlying24 rfl (info_poly.trans (size_poly p))) (trivial) ?_
   simp only [Act.put, arr9, hd9, tl9]
   refine held_two 1 2 (by kernel_rfl) ?_ ?_
   ·refine step_call 1 _ _ (some 10) 14 #[.agg (pc p).toArray] (by rfl) (by kernel_rfl) (by first | kernel_rfl | go_simp) ?_
    refine (HRD.out U).mono ?_
    rintro e Y2 ⟨rfl, b1⟩
    have bx : Below U.heap.size U Y2 := b1
    clear b1
    have b_U := bx
    have m_Y2 : U.heap.size ≤ Y2.heap.size := bx.size
    clear bx
    refine ⟨_, rfl, trivial, ?_⟩
    simp only [Act.put, arr9, hd9, tl9]
    refine held_one 2 (by kernel_rfl) ?_
    refine step_value 2 _ _ (some 11) (.agg (pc p2).toArray) Y2 (by rfl) (by kernel_rfl) (run_loadRow13 (g := (N + 1)) (by kernel_rfl) (q1.go b_U) Try.underlying24 rfl (info_poly.trans (size_poly p2))) (trivial) ?_
    simp only [Act.put, arr9, hd9, tl9]
    refine held_one 3 (by kernel_rfl) ?_
    refine step_call 3 _ _ (some 12) 14 #[.agg (pc p2).toArray] (by rfl) (by kernel_rfl) (by first | kernel_rfl | go_simp) ?_
    refine (HRE.out Y2).mono ?_
    rintro e Y4 ⟨rfl, b1⟩
    have bx : Below Y2.heap.size Y2 Y4 := b1
    clear b1
    replace b_U := Below.chain b_U bx
    have b_Y2 := bx
    have m_Y4 : Y2.heap.size ≤ Y4.heap.size := bx.size
    clear bx
    refine ⟨_, rfl, trivial, ?_⟩
    simp only [Act.put, arr9, hd9, tl9]
    refine held_one 4 (by kernel_rfl) ?_
    refine step_storeRow 4 24 (.tmp 3) (.tmp 10) (by rfl) (by kernel_rfl) N (by kernel_rfl) (pc r1) (by kernel_rfl) 24 _ (q0.go b_U) (info_poly.trans (size_poly r1)) (by rw [pc_length, pc_length]) (pc_one r1) ?_
    intro Y5 r6 b6 z6
    have HA : Shh (Row Y5 N 24 (pc r1) ∧ Row Y5 (N + 1) 24 (pc p2) ∧ Row Y5 (N + 2) 24 (pc fun _ => 0) ∧ Below N w Y5) := ⟨r6, b6.row (q1.go b_U) ((q1.go b_U)).lt (by omega), b6.row (q2.go b_U) ((q2.go b_U)).lt (by omega), (bN.trans (b_U.mono (by omega))).trans (b6.under (Nat.le_of_lt ((q0.go b_U)).lt) (Nat.le_refl _))⟩
    clear r6 b6 z6
    refine ⟨trivial, ?_⟩
    refine held_one 5 (by kernel_rfl) ?_
    refine step_storeRow 5 24 (.tmp 4) (.tmp 12) (by rfl) (by kernel_rfl) (N + 1) (by kernel_rfl) (pc r2) (by kernel_rfl) 24 _ HA.out.2.1 (info_poly.trans (size_poly r2)) (by rw [pc_length, pc_length]) (pc_one r2) ?_
    intro Y6 r6 b6 z6
    have HB : Shh (Row Y6 N 24 (pc r1) ∧ Row Y6 (N + 1) 24 (pc r2) ∧ Row Y6 (N + 2) 24 (pc fun _ => 0) ∧ Below N w Y6) := ⟨b6.row HA.out.1 HA.out.1.lt (by omega), r6, b6.row HA.out.2.2.1 HA.out.2.2.1.lt (by omega), HA.out.2.2.2.trans (b6.under (Nat.le_of_lt HA.out.1.lt) (by omega))⟩
    clear r6 b6 z6 HA
    refine ⟨trivial, ?_⟩
    refine wpAnyH_done (by kernel_rfl) ?_ _
    have HZ := HB
    clear HB m_Y4 b_Y2 m_Y2 b_U
    revert HZ
    revert Y6
    exact hT.out
   ·refine step_value 2 _ _ (some 11) (.agg (pc p2).toArray) U (by rfl) (by kernel_rfl) (run_loadRow13 (g := (N + 1)) (by kernel_rfl) q1 Try.underlying24 rfl (info_poly.trans (size_poly p2))) (trivial) ?_
    simp only [Act.put, arr9, hd9, tl9]
    refine held_one 1 (by kernel_rfl) ?_
    refine step_call 1 _ _ (some 10) 14 #[.agg (pc p).toArray] (by rfl) (by kernel_rfl) (by first | kernel_rfl | go_simp) ?_
    refine (HRD.out U).mono ?_
    rintro e Y3 ⟨rfl, b1⟩
    have bx : Below U.heap.size U Y3 := b1
    clear b1
    have b_U := bx
    have m_Y3 : U.heap.size ≤ Y3.heap.size := bx.size
    clear bx
    refine ⟨_, rfl, trivial, ?_⟩
    simp only [Act.put, arr9, hd9, tl9]
    refine held_one 3 (by kernel_rfl) ?_
    refine step_call 3 _ _ (some 12) 14 #[.agg (pc p2).toArray] (by rfl) (by kernel_rfl) (by first | kernel_rfl | go_simp) ?_
    refine (HRE.out Y3).mono ?_
    rintro e Y4 ⟨rfl, b1⟩
    have bx : Below Y3.heap.size Y3 Y4 := b1
    clear b1
    replace b_U := Below.chain b_U bx
    have b_Y3 := bx
    have m_Y4 : Y3.heap.size ≤ Y4.heap.size := bx.size
    clear bx
    refine ⟨_, rfl, trivial, ?_⟩
    simp only [Act.put, arr9, hd9, tl9]
    refine held_one 4 (by kernel_rfl) ?_
    refine step_storeRow 4 24 (.tmp 3) (.tmp 10) (by rfl) (by kernel_rfl) N (by kernel_rfl) (pc r1) (by kernel_rfl) 24 _ (q0.go b_U) (info_poly.trans (size_poly r1)) (by rw [pc_length, pc_length]) (pc_one r1) ?_
    intro Y5 r6 b6 z6
    have HA : Shh (Row Y5 N 24 (pc r1) ∧ Row Y5 (N + 1) 24 (pc p2) ∧ Row Y5 (N + 2) 24 (pc fun _ => 0) ∧ Below N w Y5) := ⟨r6, b6.row (q1.go b_U) ((q1.go b_U)).lt (by omega), b6.row (q2.go b_U) ((q2.go b_U)).lt (by omega), (bN.trans (b_U.mono (by omega))).trans (b6.under (Nat.le_of_lt ((q0.go b_U)).lt) (Nat.le_refl _))⟩
    clear r6 b6 z6
    refine ⟨trivial, ?_⟩
    refine held_one 5 (by kernel_rfl) ?_
    refine step_storeRow 5 24 (.tmp 4) (.tmp 12) (by rfl) (by kernel_rfl) (N + 1) (by kernel_rfl) (pc r2) (by kernel_rfl) 24 _ HA.out.2.1 (info_poly.trans (size_poly r2)) (by rw [pc_length, pc_length]) (pc_one r2) ?_
    intro Y6 r6 b6 z6
    have HB : Shh (Row Y6 N 24 (pc r1) ∧ Row Y6 (N + 1) 24 (pc r2) ∧ Row Y6 (N + 2) 24 (pc fun _ => 0) ∧ Below N w Y6) := ⟨b6.row HA.out.1 HA.out.1.lt (by omega), r6, b6.row HA.out.2.2.1 HA.out.2.2.1.lt (by omega), HA.out.2.2.2.trans (b6.under (Nat.le_of_lt HA.out.1.lt) (by omega))⟩
    clear r6 b6 z6 HA
    refine ⟨trivial, ?_⟩
    refine wpAnyH_done (by kernel_rfl) ?_ _
    have HZ := HB
    clear HB m_Y4 b_Y3 m_Y3 b_U
    revert HZ
    revert Y6
    exact hT.out
  ·refine step_value 2 _ _ (some 11) (.agg (pc p2).toArray) U (by rfl) (by kernel_rfl) (run_loadRow13 (g := (N + 1)) (by kernel_rfl) q1 Try.underlying24 rfl (info_poly.trans (size_poly p2))) (trivial) ?_
   simp only [Act.put, arr9, hd9, tl9]
   refine held_one 0 (by kernel_rfl) ?_
   refine step_value 0 _ _ (some 9) (.agg (pc p).toArray) U (by rfl) (by kernel_rfl) (run_loadRow13 (g := N) (by kernel_rfl) q0 Try.underlying24 rfl (info_poly.trans (size_poly p))) (trivial) ?_
   simp only [Act.put, arr9, hd9, tl9]
   refine held_one 1 (by kernel_rfl) ?_
   refine step_call 1 _ _ (some 10) 14 #[.agg (pc p).toArray] (by rfl) (by kernel_rfl) (by first | kernel_rfl | go_simp) ?_
   refine (HRD.out U).mono ?_
   rintro e Y3 ⟨rfl, b1⟩
   have bx : Below U.heap.size U Y3 := b1
   clear b1
   have b_U := bx
   have m_Y3 : U.heap.size ≤ Y3.heap.size := bx.size
   clear bx
   refine ⟨_, rfl, trivial, ?_⟩
   simp only [Act.put, arr9, hd9, tl9]
   refine held_one 3 (by kernel_rfl) ?_
   refine step_call 3 _ _ (some 12) 14 #[.agg (pc p2).toArray] (by rfl) (by kernel_rfl) (by first | kernel_rfl | go_simp) ?_
   refine (HRE.out Y3).mono ?_
   rintro e Y4 ⟨rfl, b1⟩
   have bx : Below Y3.heap.size Y3 Y4 := b1
   clear b1
   replace b_U := Below.chain b_U bx
   have b_Y3 := bx
   have m_Y4 : Y3.heap.size ≤ Y4.heap.size := bx.size
   clear bx
   refine ⟨_, rfl, trivial, ?_⟩
   simp only [Act.put, arr9, hd9, tl9]
   refine held_one 4 (by kernel_rfl) ?_
   refine step_storeRow 4 24 (.tmp 3) (.tmp 10) (by rfl) (by kernel_rfl) N (by kernel_rfl) (pc r1) (by kernel_rfl) 24 _ (q0.go b_U) (info_poly.trans (size_poly r1)) (by rw [pc_length, pc_length]) (pc_one r1) ?_
   intro Y5 r6 b6 z6
   have HA : Shh (Row Y5 N 24 (pc r1) ∧ Row Y5 (N + 1) 24 (pc p2) ∧ Row Y5 (N + 2) 24 (pc fun _ => 0) ∧ Below N w Y5) := ⟨r6, b6.row (q1.go b_U) ((q1.go b_U)).lt (by omega), b6.row (q2.go b_U) ((q2.go b_U)).lt (by omega), (bN.trans (b_U.mono (by omega))).trans (b6.under (Nat.le_of_lt ((q0.go b_U)).lt) (Nat.le_refl _))⟩
   clear r6 b6 z6
   refine ⟨trivial, ?_⟩
   refine held_one 5 (by kernel_rfl) ?_
   refine step_storeRow 5 24 (.tmp 4) (.tmp 12) (by rfl) (by kernel_rfl) (N + 1) (by kernel_rfl) (pc r2) (by kernel_rfl) 24 _ HA.out.2.1 (info_poly.trans (size_poly r2)) (by rw [pc_length, pc_length]) (pc_one r2) ?_
   intro Y6 r6 b6 z6
   have HB : Shh (Row Y6 N 24 (pc r1) ∧ Row Y6 (N + 1) 24 (pc r2) ∧ Row Y6 (N + 2) 24 (pc fun _ => 0) ∧ Below N w Y6) := ⟨b6.row HA.out.1 HA.out.1.lt (by omega), r6, b6.row HA.out.2.2.1 HA.out.2.2.1.lt (by omega), HA.out.2.2.2.trans (b6.under (Nat.le_of_lt HA.out.1.lt) (by omega))⟩
   clear r6 b6 z6 HA
   refine ⟨trivial, ?_⟩
   refine wpAnyH_done (by kernel_rfl) ?_ _
   have HZ := HB
   clear HB m_Y4 b_Y3 m_Y3 b_U
   revert HZ
   revert Y6
   exact hT.out
 case tt0 =>
  clear q0 q1 q2 bN lN HRD HRE
  intro Z HB
  go_wp2_with (refine wpList_load_any rfl 24 (.tmp 3) rfl N rfl 24 (pc r1) (.array 256 22) HB.out.1 Try.underlying24 rfl (info_poly.trans (size_poly r1)) ?_)
  go_loopw [14] (fun i wr => ∃ k : Nat, k ≤ 256 ∧ i = .int .i64 (k : Int) ∧ Shh (Row wr N 24 (pc (half fin r1 k)) ∧ Row wr (N + 1) 24 (pc r2) ∧ Row wr (N + 2) 24 (pc fun _ => 0) ∧ Below N w wr)) (fun i _ => 256 - (intOf i).toNat)
  case atStart => exact ⟨0, Nat.zero_le _, rfl, ⟨by rw [half_zero]; exact HB.out⟩⟩
  case round =>
   clear HB
   obtain ⟨k, hk, rfl, HI⟩ := hrel
   by_cases hkt : k < 256
   ·have HE := HF.out k
    have HN2 := Shh.mk (half_next fin r1 k)
    have HG := Shh.mk (pc_get r1 hkt)
    have c1 := HI.out.2.1.cell k
    rw [pc_get _ hkt] at c1
    generalize fin k = rk at *
    generalize r1 k = ak at *
    generalize r2 k = bk at *
    have C1 : Shh (∀ W, Calls Try.prog 44 #[.int .u16 (ak : Int), .int .u16 (bk : Int)] W (U16Is W rk)) := ⟨fun W => by rw [HE.1]; exact difference_any ak bk ⟨by omega, by omega⟩ W⟩
    have HC := Shh.mk c1
    clear HE c1
    have hlt3 : (k : Int) < 256 := by omega
    go_wp2_with (first | refine wl_at 17 rfl (.int .u16 (ak : Int)) rfl (idx_poly hkt HG.out rfl rfl rfl) ?_ | refine wl_at 22 rfl (.pointer (some ⟨N + 1, k, none⟩)) rfl (at_poly hkt rfl rfl rfl) ?_ | refine wl_at 23 rfl (.int .u16 (bk : Int)) rfl (load_u16 rfl HC.out rfl) ?_ | (go_at_call 44; refine (C1.out _).mono ?_))
    rintro e w2 ⟨rfl, rfl⟩
    go_wp2_with (first | refine wl_at 25 rfl (.pointer (some ⟨N, k, none⟩)) rfl (at_poly hkt rfl rfl rfl) ?_ | refine wl_storeP rfl hkt rfl rfl rfl HI.out.1 ?_)
    intro w3 r3 b3 z3
    rw [HN2.out] at r3
    have HI3 : Shh (Row w3 N 24 (pc (half fin r1 (k + 1))) ∧ Row w3 (N + 1) 24 (pc r2) ∧ Row w3 (N + 2) 24 (pc fun _ => 0) ∧ Below N w w3) := ⟨r3, b3.row HI.out.2.1 HI.out.2.1.lt (by omega), b3.row HI.out.2.2.1 HI.out.2.2.1.lt (by omega), HI.out.2.2.2.trans (b3.under (Nat.le_of_lt HI.out.1.lt) (by omega))⟩
    clear r3 b3 z3 HI
    go_wp2
    go_roundw
    case rel => exact ⟨k + 1, by omega, by go_num, HI3⟩
    case measure => simp [intOf]; omega
   ·have HL : Shh (pc (half fin r1 k) = pc fin) := ⟨by rw [show k = 256 by omega]; exact half_all _ _⟩
    rw [HL.out] at HI
    have hlt3 : ¬ (k : Int) < 256 := by omega
    clear HL HF
    go_wp2_with (first
     | refine wpList_load_any rfl 24 (.tmp 3) rfl N rfl 24 (pc fin) (.array 256 22) HI.out.1 Try.underlying24 rfl (info_poly.trans (size_poly fin)) ?_
     | refine wpList_store_any rfl 24 (.tmp 6) (.tmp 27) rfl (N + 2) rfl (pc fin) rfl 24 _ HI.out.2.2.1 (info_poly.trans (size_poly fin)) (by rw [pc_length, pc_length]) (pc_one fin) ?_)
    intro w9 hr9 b9 _
    have hb9 := HI.out.2.2.2.trans (b9.under (Nat.le_of_lt HI.out.1.lt) (by omega))
    go_wp2
    exact ret_row Try.results42 rfl rfl hr9 Try.underlying24 rfl (info_poly.trans (size_poly fin)) ⟨rfl, hb9⟩
set_option maxHeartbeats 1000000 in
theorem Add_any (p p2 : Nat → Nat) (hp : ∀ i, i < 256 → p i < 65536) (hp2 : ∀ i, i < 256 → p2 i < 65536) (w : World) : Calls Try.prog 16 #[polyV p, polyV p2] w (PolyIs w (addN p p2)) := by
 unfold PolyIs polyV
 generalize hN : w.heap.size = N at *
 have HC : Shh (∀ W, Calls Try.prog 42 #[.agg (pc p).toArray, .agg (pc p2).toArray, .func (.func 43) #[] #[]] W (PolyIs W (addN p p2))) := ⟨fun W => combined_sum p p2 hp hp2 W⟩
 generalize addN p p2 = fin at *
 clear hp hp2
 obtain ⟨S0, hS0⟩ : ∃ S0, S0 = ((w.alloc (.cells (pc p).toArray 24)).alloc (.cells (pc p2).toArray 24)).alloc (.cells (pc fun _ => 0).toArray 24) := ⟨_, rfl⟩
 have HW : Shh (Row S0 N 24 (pc p) ∧ Row S0 (N + 1) 24 (pc p2) ∧ Row S0 (N + 2) 24 (pc fun _ => 0) ∧ Below N w S0) := by
  refine ⟨by rw [hS0]; exact ((Row.new_ hN.symm rfl).alloc _).alloc _, by rw [hS0]; exact (Row.new_ (by rw [asz, hN]) rfl).alloc _, by rw [hS0]; exact Row.new_ (by rw [asz, asz, hN]) rfl, ?_⟩
  rw [hS0, ← hN]
  exact Below.chain (Below.chain (bel1 _ _) (bel1 _ _)) (bel1 _ _)
 rw [hS0] at HW
 clear hS0
 go_enter Try.func16, Try.ntmps16
 go_wp2_with (first | refine wl_allocP rfl rfl ?_ | refine wpList_load_any rfl 24 (.tmp 2) rfl N rfl 24 (pc p) (.array 256 22) HW.out.1 Try.underlying24 rfl (info_poly.trans (size_poly p)) ?_ | refine wpList_load_any rfl 24 (.tmp 3) rfl (N + 1) rfl 24 (pc p2) (.array 256 22) HW.out.2.1 Try.underlying24 rfl (info_poly.trans (size_poly p2)) ?_ | (go_at_call 42; refine (HC.out _).mono ?_))
 rintro e w2 ⟨rfl, b2⟩
 have HI : Shh (Row w2 N 24 (pc p) ∧ Row w2 (N + 1) 24 (pc p2) ∧ Row w2 (N + 2) 24 (pc fun _ => 0) ∧ Below N w w2) := ⟨HW.out.1.go b2, HW.out.2.1.go b2, HW.out.2.2.1.go b2, HW.out.2.2.2.trans (b2.mono (Nat.le_of_lt HW.out.1.lt))⟩
 clear b2 HW HC S0
 go_wp2_with (refine wpList_store_any rfl 24 (.tmp 4) (.tmp 7) rfl (N + 2) rfl (pc fin) rfl 24 _ HI.out.2.2.1 (info_poly.trans (size_poly fin)) (by rw [pc_length, pc_length]) (pc_one fin) ?_)
 intro w9 hr9 b9 _
 have hb9 := HI.out.2.2.2.trans (b9.under (Nat.le_of_lt HI.out.1.lt) (by omega))
 go_wp2
 exact ret_row Try.results16 rfl rfl hr9 Try.underlying24 rfl (info_poly.trans (size_poly fin)) ⟨rfl, hb9⟩
set_option maxHeartbeats 1000000 in
theorem Sub_any (p p2 : Nat → Nat) (hp : ∀ i, i < 256 → p i < 65536) (hp2 : ∀ i, i < 256 → p2 i < 65536) (w : World) : Calls Try.prog 18 #[polyV p, polyV p2] w (PolyIs w (subN p p2)) := by
 unfold PolyIs polyV
 generalize hN : w.heap.size = N at *
 have HC : Shh (∀ W, Calls Try.prog 42 #[.agg (pc p).toArray, .agg (pc p2).toArray, .func (.func 44) #[] #[]] W (PolyIs W (subN p p2))) := ⟨fun W => combined_diff p p2 hp hp2 W⟩
 generalize subN p p2 = fin at *
 clear hp hp2
 obtain ⟨S0, hS0⟩ : ∃ S0, S0 = ((w.alloc (.cells (pc p).toArray 24)).alloc (.cells (pc p2).toArray 24)).alloc (.cells (pc fun _ => 0).toArray 24) := ⟨_, rfl⟩
 have HW : Shh (Row S0 N 24 (pc p) ∧ Row S0 (N + 1) 24 (pc p2) ∧ Row S0 (N + 2) 24 (pc fun _ => 0) ∧ Below N w S0) := by
  refine ⟨by rw [hS0]; exact ((Row.new_ hN.symm rfl).alloc _).alloc _, by rw [hS0]; exact (Row.new_ (by rw [asz, hN]) rfl).alloc _, by rw [hS0]; exact Row.new_ (by rw [asz, asz, hN]) rfl, ?_⟩
  rw [hS0, ← hN]
  exact Below.chain (Below.chain (bel1 _ _) (bel1 _ _)) (bel1 _ _)
 rw [hS0] at HW
 clear hS0
 go_enter Try.func18, Try.ntmps18
 go_wp2_with (first | refine wl_allocP rfl rfl ?_ | refine wpList_load_any rfl 24 (.tmp 2) rfl N rfl 24 (pc p) (.array 256 22) HW.out.1 Try.underlying24 rfl (info_poly.trans (size_poly p)) ?_ | refine wpList_load_any rfl 24 (.tmp 3) rfl (N + 1) rfl 24 (pc p2) (.array 256 22) HW.out.2.1 Try.underlying24 rfl (info_poly.trans (size_poly p2)) ?_ | (go_at_call 42; refine (HC.out _).mono ?_))
 rintro e w2 ⟨rfl, b2⟩
 have HI : Shh (Row w2 N 24 (pc p) ∧ Row w2 (N + 1) 24 (pc p2) ∧ Row w2 (N + 2) 24 (pc fun _ => 0) ∧ Below N w w2) := ⟨HW.out.1.go b2, HW.out.2.1.go b2, HW.out.2.2.1.go b2, HW.out.2.2.2.trans (b2.mono (Nat.le_of_lt HW.out.1.lt))⟩
 clear b2 HW HC S0
 go_wp2_with (refine wpList_store_any rfl 24 (.tmp 4) (.tmp 7) rfl (N + 2) rfl (pc fin) rfl 24 _ HI.out.2.2.1 (info_poly.trans (size_poly fin)) (by rw [pc_length, pc_length]) (pc_one fin) ?_)
 intro w9 hr9 b9 _
 have hb9 := HI.out.2.2.2.trans (b9.under (Nat.le_of_lt HI.out.1.lt) (by omega))
 go_wp2
 exact ret_row Try.results18 rfl rfl hr9 Try.underlying24 rfl (info_poly.trans (size_poly fin)) ⟨rfl, hb9⟩
set_option maxHeartbeats 1000000 in
theorem Mul_any (p p2 : Nat → Nat) (hp : ∀ i, i < 256 → p i < 65536) (hp2 : ∀ i, i < 256 → p2 i < 65536) (w : World) : Calls Try.prog 20 #[polyV p, polyV p2] w (PolyIs w (mulN p p2)) := by
 unfold PolyIs polyV
 generalize hN : w.heap.size = N at *
 have bq : ∀ x : Int, rd x < 65536 := fun x => Nat.lt_trans (rd_lt x) (by decide)
 have H1 : Shh (∀ W, Calls Try.prog 22 #[.agg (pc p).toArray] W (PolyIs W (nttN p))) := ⟨fun W => Ntt_any p hp W⟩
 have H2 : Shh (∀ W, Calls Try.prog 22 #[.agg (pc p2).toArray] W (PolyIs W (nttN p2))) := ⟨fun W => Ntt_any p2 hp2 W⟩
 have H3 : Shh (∀ W, Calls Try.prog 26 #[.agg (pc (nttN p)).toArray, .agg (pc (nttN p2)).toArray] W (PolyIs W (pairN (nttN p) (nttN p2)))) := ⟨fun W => MulNtt_any _ _ (fun i _ => bq _) (fun i _ => bq _) W⟩
 have H4 : Shh (∀ W, Calls Try.prog 24 #[.agg (pc (pairN (nttN p) (nttN p2))).toArray] W (PolyIs W (mulN p p2))) := ⟨fun W => by
  unfold PolyIs polyV
  rw [show pc (mulN p p2) = pc (invN (pairN (nttN p) (nttN p2))) from pc_of fun i hi => mul_inv p p2 i hi]
  exact Inv_any _ (fun i _ => bq _) W⟩
 generalize mulN p p2 = fin at *
 generalize pairN (nttN p) (nttN p2) = x3 at *
 generalize nttN p = x1 at *
 generalize nttN p2 = x2 at *
 clear hp hp2 bq
 obtain ⟨S0, hS0⟩ : ∃ S0, S0 = ((w.alloc (.cells (pc p).toArray 24)).alloc (.cells (pc p2).toArray 24)).alloc (.cells (pc fun _ => 0).toArray 24) := ⟨_, rfl⟩
 have HW : Shh (Row S0 N 24 (pc p) ∧ Row S0 (N + 1) 24 (pc p2) ∧ Row S0 (N + 2) 24 (pc fun _ => 0) ∧ Below N w S0) := by
  refine ⟨by rw [hS0]; exact ((Row.new_ hN.symm rfl).alloc _).alloc _, by rw [hS0]; exact (Row.new_ (by rw [asz, hN]) rfl).alloc _, by rw [hS0]; exact Row.new_ (by rw [asz, asz, hN]) rfl, ?_⟩
  rw [hS0, ← hN]
  exact Below.chain (Below.chain (bel1 _ _) (bel1 _ _)) (bel1 _ _)
 go_enter Try.func20, Try.ntmps20
 go_wp2_with (refine wl_allocP rfl rfl ?_)
 try simp only [asz, hN]
 rw [← hS0]
 clear hS0
 try simp only [Act.put, arr9, hd9, tl9]
 refine wp_region_held_drew (S := fun w' => Row w' N 24 (pc p) ∧ Row w' (N + 1) 24 (pc p2)) (by kernel_rfl) ⟨HW.out.1.drew, HW.out.2.1.drew⟩ (fun hS => ?_)
 clear hS
 obtain ⟨U, hU⟩ : ∃ V, V = World.drew S0 := ⟨_, rfl⟩
 rw [← hU]
 have q0 : Row U N 24 (pc p) := by rw [hU]; exact HW.out.1.drew
 have q1 : Row U (N + 1) 24 (pc p2) := by rw [hU]; exact HW.out.2.1.drew
 have q2 : Row U (N + 2) 24 (pc fun _ => 0) := by rw [hU]; exact HW.out.2.2.1.drew
 have bN : Below N w U := by rw [hU]; exact HW.out.2.2.2.drew
 have lN : N + 2 < U.heap.size := q2.lt
 clear HW hU
 refine held_load 0 24 (.tmp 2) (some 5) (by kernel_rfl) (by rfl) (by kernel_rfl) N 0 (by kernel_rfl) (pc p) _ (fun w h => h.1.range) Try.underlying24 rfl (info_poly.trans (size_poly p)) (fun _ _ _ _ h => h) (⟨q0, q1⟩) ?_
 simp only [Act.put, arr9, hd9, tl9]
 refine held_load 2 24 (.tmp 3) (some 7) (by kernel_rfl) (by rfl) (by kernel_rfl) (N + 1) 0 (by kernel_rfl) (pc p2) _ (fun w h => h.2.range) Try.underlying24 rfl (info_poly.trans (size_poly p2)) (fun _ _ _ _ h => h) (⟨q0, q1⟩) ?_
 simp only [Act.put, arr9, hd9, tl9]
 refine held_one 1 (by kernel_rfl) ?_
 refine step_call 1 _ _ (some 6) 22 #[.agg (pc p).toArray] (by rfl) (by kernel_rfl) (by first | kernel_rfl | go_simp) ?_
 refine (H1.out U).mono ?_
 rintro e Y1 ⟨rfl, b1⟩
 have bx : Below U.heap.size U Y1 := b1
 clear b1
 have b_U := bx
 have m_Y1 : U.heap.size ≤ Y1.heap.size := bx.size
 clear bx
 refine ⟨_, rfl, ⟨(q0.go b_U), (q1.go b_U)⟩, ?_⟩
 simp only [Act.put, arr9, hd9, tl9]
 refine held_one 3 (by kernel_rfl) ?_
 refine step_call 3 _ _ (some 8) 22 #[.agg (pc p2).toArray] (by rfl) (by kernel_rfl) (by first | kernel_rfl | go_simp) ?_
 refine (H2.out Y1).mono ?_
 rintro e Y2 ⟨rfl, b1⟩
 have bx : Below Y1.heap.size Y1 Y2 := b1
 clear b1
 replace b_U := Below.chain b_U bx
 have b_Y1 := bx
 have m_Y2 : Y1.heap.size ≤ Y2.heap.size := bx.size
 clear bx
 refine ⟨_, rfl, ⟨(q0.go b_U), (q1.go b_U)⟩, ?_⟩
 simp only [Act.put, arr9, hd9, tl9]
 refine held_one 4 (by kernel_rfl) ?_
 refine step_call 4 _ _ (some 9) 26 #[.agg (pc x1).toArray, .agg (pc x2).toArray] (by rfl) (by kernel_rfl) (by first | kernel_rfl | go_simp) ?_
 refine (H3.out Y2).mono ?_
 rintro e Y3 ⟨rfl, b1⟩
 have bx : Below Y2.heap.size Y2 Y3 := b1
 clear b1
 replace b_U := Below.chain b_U bx
 replace b_Y1 := Below.chain b_Y1 bx
 have b_Y2 := bx
 have m_Y3 : Y2.heap.size ≤ Y3.heap.size := bx.size
 clear bx
 refine ⟨_, rfl, ⟨(q0.go b_U), (q1.go b_U)⟩, ?_⟩
 simp only [Act.put, arr9, hd9, tl9]
 refine held_one 5 (by kernel_rfl) ?_
 refine step_call 5 _ _ (some 10) 24 #[.agg (pc x3).toArray] (by rfl) (by kernel_rfl) (by first | kernel_rfl | go_simp) ?_
 refine (H4.out Y3).mono ?_
 rintro e Y4 ⟨rfl, b1⟩
 have bx : Below Y3.heap.size Y3 Y4 := b1
 clear b1
 replace b_U := Below.chain b_U bx
 replace b_Y1 := Below.chain b_Y1 bx
 replace b_Y2 := Below.chain b_Y2 bx
 have b_Y3 := bx
 have m_Y4 : Y3.heap.size ≤ Y4.heap.size := bx.size
 clear bx
 refine ⟨_, rfl, ⟨(q0.go b_U), (q1.go b_U)⟩, ?_⟩
 simp only [Act.put, arr9, hd9, tl9]
 refine held_one 6 (by kernel_rfl) ?_
 refine step_storeRow 6 24 (.tmp 4) (.tmp 10) (by rfl) (by kernel_rfl) (N + 2) (by kernel_rfl) (pc fin) (by kernel_rfl) 24 _ (q2.go b_U) (info_poly.trans (size_poly fin)) (by rw [pc_length, pc_length]) (pc_one fin) ?_
 intro Y5 r6 b6 z6
 have HB := Shh.mk ((bN.trans (b_U.mono (by omega))).trans (b6.under (Nat.le_of_lt ((q0.go b_U)).lt) (by omega)))
 refine ⟨⟨b6.row (q0.go b_U) ((q0.go b_U)).lt (by omega), b6.row (q1.go b_U) ((q1.go b_U)).lt (by omega)⟩, ?_⟩
 refine wpAnyH_done (by kernel_rfl) ?_ _
 have HZ := Shh.mk (And.intro r6 HB.out)
 clear HB b6 r6 m_Y4 b_Y3 m_Y3 b_Y2 m_Y2 b_Y1 m_Y1 b_U bN q0 q1 q2 lN
 go_wp2
 exact ret_row Try.results20 rfl rfl HZ.out.1 Try.underlying24 rfl (info_poly.trans (size_poly fin)) ⟨rfl, HZ.out.2⟩
end Go.Proofs.Ytfcgdjgfdbcddaa
