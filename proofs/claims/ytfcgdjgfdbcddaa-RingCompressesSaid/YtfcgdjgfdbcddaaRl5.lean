/-
 THE LAW RingCompresses.
-/
import Derived.Test.YtfcgdjgfdbcddaaRp9
import Derived.Test.YtfcgdjgfdbcddaaRq10
import Derived.Test.YtfcgdjgfdbcddaaRq9
import Derived.Test.YtfcgdjgfdbcddaaRl1
namespace Go.Proofs.Ytfcgdjgfdbcddaa
open Go.RowKit
set_option maxRecDepth 100000
set_option maxHeartbeats 2000000 in
theorem ringCompresses_of (n er : Int) (p x z : Nat → Nat) (hx : ∀ i, i < 256 → x i < 65536) (hz : ∀ i, i < 256 → z i < 65536) (w : World)
 (h1 : ∀ W, Calls Try.prog 28 #[.int .i64 n, polyV p] W (CodeIs W x er)) (h2 : ∀ W, Calls Try.prog 29 #[.int .i64 n, polyV p] W (CodeIs W x er))
 (h3 : ∀ W, Calls Try.prog 30 #[.int .i64 n, polyV p] W (CodeIs W z er)) (h4 : ∀ W, Calls Try.prog 31 #[.int .i64 n, polyV p] W (CodeIs W z er)) : Calls Try.prog 6 #[.int .i64 n, polyV p] w (TrueIs w) := by
 unfold TrueIs polyV
 unfold polyV at h1 h2 h3 h4
 generalize hN : w.heap.size = N at *
 have HLV : Shh (∀ W, Calls Try.prog 13 #[] W (TrueIs W)) := ⟨live13⟩
 have C0 := Shh.mk h1
 have C1 := Shh.mk h2
 have C2 := Shh.mk h3
 have C3 := Shh.mk h4
 have HE1 : Shh (∀ W, (Op.equalIn 10000 24 (.agg (pc x).toArray) (.agg (pc x).toArray)).run Try.prog W = .ok true W) := ⟨fun W => eq_poly _ hx W⟩
 have HE2 : Shh (∀ W, (Op.equalIn 10000 24 (.agg (pc z).toArray) (.agg (pc z).toArray)).run Try.prog W = .ok true W) := ⟨fun W => eq_poly _ hz W⟩
 clear h1 h2 h3 h4 hx hz
 obtain ⟨S0, hS0⟩ : ∃ S0, S0 = w.alloc (.cells (pc p).toArray 24) := ⟨_, rfl⟩
 have HJ : Shh (Row S0 N 24 (pc p) ∧ Below N w S0) := by
  refine ⟨by rw [hS0]; exact Row.new_ hN.symm rfl, ?_⟩
  rw [hS0, ← hN]
  exact bel1 _ _
 rw [hS0] at HJ
 clear hS0
 go_enter Try.func6, Try.ntmps6
 go_wp2_with (first | refine wpList_load_any rfl 24 (.tmp 3) rfl N rfl 24 (pc p) (.array 256 22) HJ.out.1 Try.underlying24 rfl (info_poly.trans (size_poly p)) ?_ | (go_at_call 28; refine (C0.out _).mono ?_))
 rintro e w2 ⟨rfl, b2⟩
 have HI : Shh (Row w2 N 24 (pc p) ∧ Below N w w2) := ⟨HJ.out.1.go b2, HJ.out.2.trans (b2.mono (by have := HJ.out.1.lt; omega))⟩
 clear b2 HJ C0
 go_wp2_with (refine wl_newP 5 x rfl rfl rfl rfl rfl rfl rfl rfl ?_)
 intro G0 w3 hG r3 b3
 simp only [Act.put, arr9, hd9, tl9]
 have HJ : Shh (Row w3 N 24 (pc p) ∧ Row w3 G0 24 (pc x) ∧ Below N w w3) := ⟨HI.out.1.go b3, r3, HI.out.2.trans (b3.mono (by have := HI.out.1.lt; omega))⟩
 clear r3 b3 HI hG
 go_wp2_with (first | refine wpList_load_any rfl 24 (.tmp 3) rfl N rfl 24 (pc p) (.array 256 22) HJ.out.1 Try.underlying24 rfl (info_poly.trans (size_poly p)) ?_ | (go_at_call 29; refine (C1.out _).mono ?_))
 rintro e w4 ⟨rfl, b2⟩
 have HI : Shh (Row w4 N 24 (pc p) ∧ Row w4 G0 24 (pc x) ∧ Below N w w4) := ⟨HJ.out.1.go b2, HJ.out.2.1.go b2, HJ.out.2.2.trans (b2.mono (by have := HJ.out.1.lt; omega))⟩
 clear b2 HJ C1
 go_wp2_with (refine wl_newP 7 x rfl rfl rfl rfl rfl rfl rfl rfl ?_)
 intro G1 w5 hG r3 b3
 simp only [Act.put, arr9, hd9, tl9]
 have HJ : Shh (Row w5 N 24 (pc p) ∧ Row w5 G0 24 (pc x) ∧ Row w5 G1 24 (pc x) ∧ Below N w w5) := ⟨HI.out.1.go b3, HI.out.2.1.go b3, r3, HI.out.2.2.trans (b3.mono (by have := HI.out.1.lt; omega))⟩
 clear r3 b3 HI hG
 go_wp2_with (first | refine wpList_load_any rfl 24 (.tmp 3) rfl N rfl 24 (pc p) (.array 256 22) HJ.out.1 Try.underlying24 rfl (info_poly.trans (size_poly p)) ?_ | (go_at_call 30; refine (C2.out _).mono ?_))
 rintro e w6 ⟨rfl, b2⟩
 have HI : Shh (Row w6 N 24 (pc p) ∧ Row w6 G0 24 (pc x) ∧ Row w6 G1 24 (pc x) ∧ Below N w w6) := ⟨HJ.out.1.go b2, HJ.out.2.1.go b2, HJ.out.2.2.1.go b2, HJ.out.2.2.2.trans (b2.mono (by have := HJ.out.1.lt; omega))⟩
 clear b2 HJ C2
 go_wp2_with (refine wl_newP 9 z rfl rfl rfl rfl rfl rfl rfl rfl ?_)
 intro G2 w7 hG r3 b3
 simp only [Act.put, arr9, hd9, tl9]
 have HJ : Shh (Row w7 N 24 (pc p) ∧ Row w7 G0 24 (pc x) ∧ Row w7 G1 24 (pc x) ∧ Row w7 G2 24 (pc z) ∧ Below N w w7) := ⟨HI.out.1.go b3, HI.out.2.1.go b3, HI.out.2.2.1.go b3, r3, HI.out.2.2.2.trans (b3.mono (by have := HI.out.1.lt; omega))⟩
 clear r3 b3 HI hG
 go_wp2_with (first | refine wpList_load_any rfl 24 (.tmp 3) rfl N rfl 24 (pc p) (.array 256 22) HJ.out.1 Try.underlying24 rfl (info_poly.trans (size_poly p)) ?_ | (go_at_call 31; refine (C3.out _).mono ?_))
 rintro e w8 ⟨rfl, b2⟩
 have HI : Shh (Row w8 N 24 (pc p) ∧ Row w8 G0 24 (pc x) ∧ Row w8 G1 24 (pc x) ∧ Row w8 G2 24 (pc z) ∧ Below N w w8) := ⟨HJ.out.1.go b2, HJ.out.2.1.go b2, HJ.out.2.2.1.go b2, HJ.out.2.2.2.1.go b2, HJ.out.2.2.2.2.trans (b2.mono (by have := HJ.out.1.lt; omega))⟩
 clear b2 HJ C3
 go_wp2_with (refine wl_newP 11 z rfl rfl rfl rfl rfl rfl rfl rfl ?_)
 intro G3 w9 hG r3 b3
 simp only [Act.put, arr9, hd9, tl9]
 have HJ : Shh (Row w9 N 24 (pc p) ∧ Row w9 G0 24 (pc x) ∧ Row w9 G1 24 (pc x) ∧ Row w9 G2 24 (pc z) ∧ Row w9 G3 24 (pc z) ∧ Below N w w9) := ⟨HI.out.1.go b3, HI.out.2.1.go b3, HI.out.2.2.1.go b3, HI.out.2.2.2.1.go b3, r3, HI.out.2.2.2.2.trans (b3.mono (by have := HI.out.1.lt; omega))⟩
 clear r3 b3 HI hG
 go_wp2_with (go_at_call 13; refine (HLV.out _).mono ?_)
 rintro e wa ⟨rfl, b2⟩
 have HI : Shh (Row wa N 24 (pc p) ∧ Row wa G0 24 (pc x) ∧ Row wa G1 24 (pc x) ∧ Row wa G2 24 (pc z) ∧ Row wa G3 24 (pc z) ∧ Below N w wa) := ⟨HJ.out.1.go b2, HJ.out.2.1.go b2, HJ.out.2.2.1.go b2, HJ.out.2.2.2.1.go b2, HJ.out.2.2.2.2.1.go b2, HJ.out.2.2.2.2.2.trans (b2.mono (Nat.le_of_lt HJ.out.1.lt))⟩
 clear b2 HJ HLV
 go_wp2_with (first | refine wl_loadW 24 (.tmp 5) rfl G0 rfl 24 (pc x) _ rfl HI.out.2.1 Try.underlying24 rfl (info_poly.trans (size_poly x)) ?_ | refine wl_loadW 24 (.tmp 7) rfl G1 rfl 24 (pc x) _ rfl HI.out.2.2.1 Try.underlying24 rfl (info_poly.trans (size_poly x)) ?_ | refine wl_eqlW 24 24 (.tmp 39) (.tmp 40) rfl (pc x).toArray (pc x).toArray rfl rfl rfl (by kernel_rfl) true (HE1.out _) ?_ | refine wl_loadW 24 (.tmp 9) rfl G2 rfl 24 (pc z) _ rfl HI.out.2.2.2.1 Try.underlying24 rfl (info_poly.trans (size_poly z)) ?_ | refine wl_loadW 24 (.tmp 11) rfl G3 rfl 24 (pc z) _ rfl HI.out.2.2.2.2.1 Try.underlying24 rfl (info_poly.trans (size_poly z)) ?_ | refine wl_eqlW 24 24 (.tmp 49) (.tmp 50) rfl (pc z).toArray (pc z).toArray rfl rfl rfl (by kernel_rfl) true (HE2.out _) ?_)
 go_ret
 exact ⟨rfl, HI.out.2.2.2.2.2⟩
theorem ringCompresses_law (n : Int) (p : Nat → Nat) (hn : -9223372036854775808 ≤ n ∧ n ≤ 9223372036854775807) (hp : ∀ i, i < 256 → p i < 65536) (w : World) : Calls Try.prog 6 #[.int .i64 n, polyV p] w (TrueIs w) := by
 by_cases h : 1 ≤ n ∧ n ≤ 11
 ·obtain ⟨d, rfl⟩ := Int.eq_ofNat_of_zero_le (show 0 ≤ n by omega)
  have hd : 1 ≤ d ∧ d ≤ 11 := by omega
  have h11 : 2 ^ d ≤ 2048 := Nat.le_trans (Nat.pow_le_pow_right (by decide) hd.2) (by decide)
  exact ringCompresses_of d 0 p (cmpP d p) (dcmP d p) (fun i _ => by have := cmpN_lt d (p i % 3329); unfold cmpP; omega) (fun i _ => dcmN_lt d _ (by omega) (Nat.mod_lt _ (Nat.two_pow_pos d))) w
   (fun W => Compress_any d hd p hp W) (fun W => refCompress_any d hd p hp W) (fun W => Decompress_any d hd p hp W) (fun W => refDecompress_any d hd p hp W)
 ·have hb : n < 1 ∨ 11 < n := by omega
  exact ringCompresses_of n 1 p (fun _ => 0) (fun _ => 0) (fun _ _ => by decide) (fun _ _ => by decide) w
   (fun W => Compress_bad n hb p W) (fun W => refCompress_bad n hb p W) (fun W => Decompress_bad n hb p W) (fun W => refDecompress_bad n hb p W)
end Go.Proofs.Ytfcgdjgfdbcddaa
