/-
 THE PROGRAM'S OWN Compress, Decompress.
-/
import Derived.Test.YtfcgdjgfdbcddaaDoorZR4
namespace Go.Proofs.YtfcgdjgfdbcddaaDoor
open Go.RowKit
set_option maxRecDepth 100000
section
variable {ops : Array Oper} {rest : List Oper} {o : Oper} {a : Act} {w : World} {Q : Exit → Act → World → Prop} {x y : Operand} {op : Oper}
theorem build_poly (ho : op.op = .build 25 #[]) : (execOp a.eval op).run Tryd.prog w = .ok (.value (.agg (pc fun _ => 0).toArray)) w := by
 have h : (execOp a.eval ⟨none, .build 25 #[], 0, "", #[], none⟩).run Tryd.prog w = .ok (.value (.agg (pc fun _ => 0).toArray)) w := by kernel_rfl
 rw [← h]
 unfold execOp
 simp only [ho]
end
theorem cmp_eq (d x : Nat) : cmpN d x = (x * 2 ^ d + 1664) / 3329 % 2 ^ d := by
 unfold cmpN
 rw [Nat.mul_assoc]
 generalize x * 2 ^ d = X
 rw [show (2 * X + 3329) / (2 * 3329) = (X + 1664) / 3329 by omega]
theorem dcm_eq (d y : Nat) (hd : 1 ≤ d) : dcmN d y = (3329 * y + 2 ^ (d - 1)) / 2 ^ d := by
 obtain ⟨e, rfl⟩ : ∃ e, d = e + 1 := ⟨d - 1, by omega⟩
 unfold dcmN
 rw [show e + 1 - 1 = e by omega, Nat.pow_succ]
 rw [show 2 * y * 3329 + 2 ^ e * 2 = 2 * (3329 * y + 2 ^ e) by omega, Nat.mul_div_mul_left _ _ (by decide)]
set_option maxHeartbeats 2000000 in
theorem Compress_any (d : Nat) (hd : 1 ≤ d ∧ d ≤ 11) (p : Nat → Nat) (hp : ∀ i, i < 256 → p i < 65536) (w : World) : Calls Tryd.prog 12 #[.int .i64 (d : Int), polyV p] w (CodeIs w (cmpP d p) 0) := by
 unfold CodeIs polyV
 generalize hN : w.heap.size = N at *
 have i1 : ¬ (d : Int) < 1 := by omega
 have i2 : ¬ (12 : Int) ≤ (d : Int) := by omega
 have hd16 : d ≤ 16 := by omega
 have HRD : Shh (∀ W, Calls Tryd.prog 18 #[.agg (pc p).toArray] W (PolyIs W (redN p))) := ⟨fun W => Reduce_any p hp W⟩
 obtain ⟨P, hPP⟩ : ∃ P, Shh (P = 2 ^ d) := ⟨_, ⟨rfl⟩⟩
 have HPB : Shh (0 < P ∧ P ≤ 2048) := ⟨by rw [hPP.out]; exact Nat.two_pow_pos d, by rw [hPP.out]; exact Nat.le_trans (Nat.pow_le_pow_right (by decide) hd.2) (by decide)⟩
 have HLO : Shh (∀ n : Nat, n < 65536 → ∀ W, Calls Tryd.prog 23 #[.int .i64 (d : Int), .int .u16 (n : Int)] W (U16Is W (n % P))) := ⟨fun n hn W => by rw [hPP.out]; exact low_any d n hd16 hn W⟩
 have HR : Shh (∀ i, cmpP d p i = (redN p i * P + 1664) / 3329 % P ∧ redN p i < 3329) := ⟨fun i => ⟨by unfold cmpP; rw [cmp_eq, hPP.out, show redN p i = p i % 3329 from rd_same _], rd_lt _⟩⟩
 have HD := Shh.mk hd
 generalize cmpP d p = r at *
 generalize redN p = q at *
 clear hp hd hd16
 have HL0 : Shh (Row ((w.alloc (.cells (pc p).toArray 25)).alloc (.cells (pc fun _ => 0).toArray 25)) N 25 (pc p) ∧ Row ((w.alloc (.cells (pc p).toArray 25)).alloc (.cells (pc fun _ => 0).toArray 25)) (N + 1) 25 (pc fun _ => 0) ∧ Below N w ((w.alloc (.cells (pc p).toArray 25)).alloc (.cells (pc fun _ => 0).toArray 25))) := by
  refine ⟨(Row.new_ hN.symm rfl).alloc _, Row.new_ (by rw [asz, hN]) rfl, ?_⟩
  rw [← hN]
  exact Below.chain (bel1 _ _) (bel1 _ _)
 go_enter Tryd.func12, Tryd.ntmps12
 go_wp2_with (first | refine wl_allocP rfl rfl ?_ | refine wpList_load_any rfl 25 (.tmp 3) rfl N rfl 25 (pc p) (.array 256 23) HL0.out.1 Tryd.underlying25 rfl (info_poly.trans (size_poly p)) ?_ | (go_at_call 18; refine (HRD.out _).mono ?_))
 rintro e w2 ⟨rfl, b2⟩
 have HW : Shh (Row w2 N 25 (pc p) ∧ Row w2 (N + 1) 25 (pc fun _ => 0) ∧ Below N w w2) := ⟨HL0.out.1.go b2, HL0.out.2.1.go b2, HL0.out.2.2.trans (b2.mono (by have := HL0.out.1.lt; omega))⟩
 clear b2 HL0 HRD
 go_wp2
 go_loopw [17] (fun i wr => ∃ k : Nat, k ≤ 256 ∧ i = .int .i64 (k : Int) ∧ Shh (Row wr N 25 (pc (half r p k)) ∧ Row wr (N + 1) 25 (pc fun _ => 0) ∧ Below N w wr)) (fun i _ => 256 - (intOf i).toNat)
 case atStart => exact ⟨0, Nat.zero_le _, rfl, ⟨by rw [half_zero]; exact HW.out⟩⟩
 case round =>
  clear HW
  obtain ⟨k, hk, rfl, HI⟩ := hrel
  by_cases hlt : k < 256
  ·have hlt2 : (k : Int) < 256 := by omega
   have HX := HR.out k
   have HN2 := Shh.mk (half_next r p k)
   have HG := Shh.mk (pc_get q hlt)
   generalize r k = rk at *
   generalize q k = qk at *
   obtain ⟨X, hX⟩ : ∃ v, Shh (v = qk * P) := ⟨_, ⟨rfl⟩⟩
   have hXl : X ≤ 3329 * 2048 := by rw [hX.out]; exact Nat.mul_le_mul (by omega) HPB.out.2
   rw [← hX.out] at HX
   obtain ⟨Y, hY⟩ : ∃ v, Shh (v = X + 1664 ∧ v < 4294967296) := ⟨_, ⟨rfl, by omega⟩⟩
   rw [← hY.out.1] at HX
   obtain ⟨Z, hZ⟩ : ∃ v, Shh (v = Y / 3329) := ⟨_, ⟨rfl⟩⟩
   rw [← hZ.out] at HX
   have hZl : Z < 65536 := by have := hZ.out; have := hY.out; omega
   have HV : Shh (X = qk * 2 ^ d ∧ d ≤ 31 ∧ X < 4294967296 ∧ qk < 65536 ∧ Z = Z % 65536) := ⟨by rw [← hPP.out]; exact hX.out, by have := HD.out; omega, by omega, by omega, by omega⟩
   have C1 : Shh (∀ W, Calls Tryd.prog 23 #[.int .i64 (d : Int), .int .u16 (Z : Int)] W (U16Is W rk)) := ⟨fun W => by rw [HX.1]; exact HLO.out Z hZl W⟩
   clear HX hXl hZl
   go_wp2_with (first | refine wl_at 20 rfl (.int .u16 (qk : Int)) rfl (idx_poly hlt HG.out rfl rfl rfl) ?_ | refine wl_at 24 rfl (.int .u32 (qk : Int)) rfl (conv_u32 HV.out.2.2.2.1 rfl rfl) ?_ | refine wl_at 26 rfl (.int .u32 (X : Int)) rfl (shl_32 (n := qk) (d := d) HV.out.1 HV.out.2.1 HV.out.2.2.1 rfl rfl rfl) ?_ | refine wl_at 27 rfl (.int .u32 (Y : Int)) rfl (add_32 (i := X) (j := 1664) hY.out rfl rfl rfl) ?_ | refine wl_at 28 rfl (.int .u32 (Z : Int)) rfl (quo_32q (n := Y) hZ.out hY.out.2 rfl rfl) ?_ | refine wl_at 29 rfl (.int .u16 (Z : Int)) rfl (conv_32 (n := Z) HV.out.2.2.2.2 rfl rfl) ?_ | (go_at_call 23; refine (C1.out _).mono ?_))
   rintro e w2 ⟨rfl, rfl⟩
   go_wp2_with (first | refine wl_at 31 rfl (.pointer (some ⟨N, k, none⟩)) rfl (at_poly hlt rfl rfl rfl) ?_ | refine wl_storeP rfl hlt rfl rfl rfl HI.out.1 ?_)
   intro w3 r3 b3 z3
   rw [HN2.out] at r3
   have HI3 : Shh (Row w3 N 25 (pc (half r p (k + 1))) ∧ Row w3 (N + 1) 25 (pc fun _ => 0) ∧ Below N w w3) := ⟨r3, b3.row HI.out.2.1 HI.out.2.1.lt (by omega), HI.out.2.2.trans (b3.under (Nat.le_of_lt HI.out.1.lt) (by omega))⟩
   clear r3 b3 z3 HI
   go_wp2
   go_roundw
   case rel => exact ⟨k + 1, by omega, by go_num, HI3⟩
   case measure => simp [intOf]; omega
  ·have HL : Shh (pc (half r p k) = pc r) := ⟨by rw [show k = 256 by omega]; exact half_all _ _⟩
   rw [HL.out] at HI
   have hlt2 : ¬ (k : Int) < 256 := by omega
   clear HL HR HLO
   go_wp2_with (first
    | refine wpList_load_any rfl 25 (.tmp 3) rfl N rfl 25 (pc r) (.array 256 23) HI.out.1 Tryd.underlying25 rfl (info_poly.trans (size_poly r)) ?_
    | refine wpList_store_any rfl 25 (.tmp 4) (.tmp 33) rfl (N + 1) rfl (pc r) rfl 25 _ HI.out.2.1 (info_poly.trans (size_poly r)) (by rw [pc_length, pc_length]) (pc_one r) ?_)
   intro w9 hr9 b9 _
   have hb9 := HI.out.2.2.trans (b9.under (Nat.le_of_lt HI.out.1.lt) (Nat.le_succ _))
   go_wp2
   exact ret_rs7 Tryd.results12 rfl rfl rfl hr9 Tryd.underlying25 rfl (info_poly.trans (size_poly r)) ⟨rfl, hb9⟩
set_option maxHeartbeats 2000000 in
theorem Decompress_any (d : Nat) (hd : 1 ≤ d ∧ d ≤ 11) (p : Nat → Nat) (hp : ∀ i, i < 256 → p i < 65536) (w : World) : Calls Tryd.prog 13 #[.int .i64 (d : Int), polyV p] w (CodeIs w (dcmP d p) 0) := by
 unfold CodeIs polyV
 generalize hN : w.heap.size = N at *
 have i1 : ¬ (d : Int) < 1 := by omega
 have i2 : ¬ (12 : Int) ≤ (d : Int) := by omega
 have hd16 : d ≤ 16 := by omega
 obtain ⟨P, hPP⟩ : ∃ P, Shh (P = 2 ^ d) := ⟨_, ⟨rfl⟩⟩
 have HPB : Shh (0 < P ∧ P ≤ 2048) := ⟨by rw [hPP.out]; exact Nat.two_pow_pos d, by rw [hPP.out]; exact Nat.le_trans (Nat.pow_le_pow_right (by decide) hd.2) (by decide)⟩
 obtain ⟨d0, hd0⟩ : ∃ e, Shh (d = e + 1 ∧ d ≤ 1000000000000) := ⟨d - 1, ⟨by omega, by omega⟩⟩
 obtain ⟨B, hB⟩ : ∃ B, Shh (B = 1 * 2 ^ d0 ∧ B = 2 ^ (d - 1)) := ⟨_, ⟨rfl, by rw [Nat.one_mul]; congr 1; have := hd0.out; omega⟩⟩
 have HBB : Shh (B ≤ 2048 ∧ d0 ≤ 31 ∧ B < 4294967296) := ⟨by
  have h1 : 2 ^ (d - 1) ≤ 2 ^ 11 := Nat.pow_le_pow_right (by decide) (by omega)
  have h2 := hB.out.2
  have h3 : 2 ^ 11 = 2048 := rfl
  have h4 := hd0.out
  refine ⟨?_, ?_, ?_⟩ <;> omega⟩
 have HLO : Shh (∀ n : Nat, n < 65536 → ∀ W, Calls Tryd.prog 23 #[.int .i64 (d : Int), .int .u16 (n : Int)] W (U16Is W (n % P))) := ⟨fun n hn W => by rw [hPP.out]; exact low_any d n hd16 hn W⟩
 have HR : Shh (∀ i, i < 256 → dcmP d p i = (3329 * (p i % P) + B) / P ∧ p i < 65536 ∧ dcmP d p i < 65536) := ⟨fun i hi => ⟨by unfold dcmP; rw [dcm_eq d _ hd.1, hPP.out, ← hB.out.2], hp i hi, dcmN_lt d _ (by omega) (Nat.mod_lt _ (Nat.two_pow_pos d))⟩⟩
 have HD := Shh.mk hd
 generalize dcmP d p = r at *
 clear hp hd hd16
 have HL0 : Shh (Row ((w.alloc (.cells (pc p).toArray 25)).alloc (.cells (pc fun _ => 0).toArray 25)) N 25 (pc p)) := ⟨(Row.new_ hN.symm rfl).alloc _⟩
 go_enter Tryd.func13, Tryd.ntmps13
 go_wp2_with (first | refine wl_allocP rfl rfl ?_ | refine wl_at 17 rfl (.int .i64 (d0 : Int)) rfl (sub_ii (i := d) (j := 1) hd0.out rfl rfl rfl) ?_ | refine wl_at 18 rfl (.int .u32 (B : Int)) rfl (shl_32 (n := 1) (d := d0) hB.out.1 HBB.out.2.1 HBB.out.2.2 rfl rfl rfl) ?_ | refine wpList_load_any rfl 25 (.tmp 3) rfl N rfl 25 (pc p) (.array 256 23) HL0.out Tryd.underlying25 rfl (info_poly.trans (size_poly p)) ?_)
 obtain ⟨W, hW⟩ : ∃ W, W = (w.alloc (.cells (pc p).toArray 25)).alloc (.cells (pc fun _ => 0).toArray 25) := ⟨_, rfl⟩
 have HW : Shh (Row W N 25 (pc p) ∧ Row W (N + 1) 25 (pc fun _ => 0) ∧ Below N w W) := by
  refine ⟨by rw [hW]; exact (Row.new_ hN.symm rfl).alloc _, by rw [hW]; exact Row.new_ (by rw [asz, hN]) rfl, ?_⟩
  rw [hW, ← hN]
  exact Below.chain (bel1 _ _) (bel1 _ _)
 try simp only [asz, hN]
 rw [← hW]
 clear hW HL0
 go_wp2
 go_loopw [20] (fun i wr => ∃ k : Nat, k ≤ 256 ∧ i = .int .i64 (k : Int) ∧ Shh (Row wr N 25 (pc (half r p k)) ∧ Row wr (N + 1) 25 (pc fun _ => 0) ∧ Below N w wr)) (fun i _ => 256 - (intOf i).toNat)
 case atStart => exact ⟨0, Nat.zero_le _, rfl, ⟨by rw [half_zero]; exact HW.out⟩⟩
 case round =>
  clear HW
  obtain ⟨k, hk, rfl, HI⟩ := hrel
  by_cases hlt : k < 256
  ·have hlt2 : (k : Int) < 256 := by omega
   have HX := HR.out k hlt
   have HN2 := Shh.mk (half_next r p k)
   have HG := Shh.mk (pc_get p hlt)
   generalize r k = rk at *
   generalize p k = pk at *
   obtain ⟨x, hx⟩ : ∃ v, Shh (v = pk % P) := ⟨_, ⟨rfl⟩⟩
   have hxl : x < 2048 := by have h := Nat.mod_lt pk HPB.out.1; have h2 := HPB.out.2; have h3 := hx.out; omega
   rw [← hx.out] at HX
   obtain ⟨X, hX⟩ : ∃ v, Shh (v = 3329 * x) := ⟨_, ⟨rfl⟩⟩
   have hXl : X ≤ 3329 * 2048 := by rw [hX.out]; omega
   rw [← hX.out] at HX
   obtain ⟨Y, hY⟩ : ∃ v, Shh (v = X + B ∧ v < 4294967296) := ⟨_, ⟨rfl, by have := HBB.out; omega⟩⟩
   rw [← hY.out.1] at HX
   have HV : Shh (x < 65536 ∧ X < 4294967296 ∧ rk = Y / 2 ^ d ∧ d ≤ 31 ∧ rk = rk % 65536) := ⟨by omega, by omega, by rw [HX.1, hPP.out], by have := HD.out; omega, by omega⟩
   have C1 : Shh (∀ W, Calls Tryd.prog 23 #[.int .i64 (d : Int), .int .u16 (pk : Int)] W (U16Is W x)) := ⟨fun W => by rw [hx.out]; exact HLO.out pk HX.2.1 W⟩
   clear HX hXl hxl
   go_wp2_with (first | refine wl_at 23 rfl (.int .u16 (pk : Int)) rfl (idx_poly hlt HG.out rfl rfl rfl) ?_ | (go_at_call 23; refine (C1.out _).mono ?_))
   rintro e w2 ⟨rfl, rfl⟩
   go_wp2_with (first | refine wl_at 28 rfl (.int .u32 (x : Int)) rfl (conv_u32 HV.out.1 rfl rfl) ?_ | refine wl_at 29 rfl (.int .u32 (X : Int)) rfl (mul_32 (i := 3329) (j := x) hX.out HV.out.2.1 rfl rfl rfl) ?_ | refine wl_at 31 rfl (.int .u32 (Y : Int)) rfl (add_32 (i := X) (j := B) hY.out rfl rfl rfl) ?_ | refine wl_at 33 rfl (.int .u32 (rk : Int)) rfl (shr_32 (n := Y) (d := d) HV.out.2.2.1 HV.out.2.2.2.1 hY.out.2 rfl rfl rfl) ?_ | refine wl_at 34 rfl (.int .u16 (rk : Int)) rfl (conv_32 (n := rk) HV.out.2.2.2.2 rfl rfl) ?_ | refine wl_at 35 rfl (.pointer (some ⟨N, k, none⟩)) rfl (at_poly hlt rfl rfl rfl) ?_ | refine wl_storeP rfl hlt rfl rfl rfl HI.out.1 ?_)
   intro w3 r3 b3 z3
   rw [HN2.out] at r3
   have HI3 : Shh (Row w3 N 25 (pc (half r p (k + 1))) ∧ Row w3 (N + 1) 25 (pc fun _ => 0) ∧ Below N w w3) := ⟨r3, b3.row HI.out.2.1 HI.out.2.1.lt (by omega), HI.out.2.2.trans (b3.under (Nat.le_of_lt HI.out.1.lt) (by omega))⟩
   clear r3 b3 z3 HI
   go_wp2
   go_roundw
   case rel => exact ⟨k + 1, by omega, by go_num, HI3⟩
   case measure => simp [intOf]; omega
  ·have HL : Shh (pc (half r p k) = pc r) := ⟨by rw [show k = 256 by omega]; exact half_all _ _⟩
   rw [HL.out] at HI
   have hlt2 : ¬ (k : Int) < 256 := by omega
   clear HL HR HLO
   go_wp2_with (first
    | refine wpList_load_any rfl 25 (.tmp 3) rfl N rfl 25 (pc r) (.array 256 23) HI.out.1 Tryd.underlying25 rfl (info_poly.trans (size_poly r)) ?_
    | refine wpList_store_any rfl 25 (.tmp 4) (.tmp 37) rfl (N + 1) rfl (pc r) rfl 25 _ HI.out.2.1 (info_poly.trans (size_poly r)) (by rw [pc_length, pc_length]) (pc_one r) ?_)
   intro w9 hr9 b9 _
   have hb9 := HI.out.2.2.trans (b9.under (Nat.le_of_lt HI.out.1.lt) (Nat.le_succ _))
   go_wp2
   exact ret_rs7 Tryd.results13 rfl rfl rfl hr9 Tryd.underlying25 rfl (info_poly.trans (size_poly r)) ⟨rfl, hb9⟩
end Go.Proofs.YtfcgdjgfdbcddaaDoor
