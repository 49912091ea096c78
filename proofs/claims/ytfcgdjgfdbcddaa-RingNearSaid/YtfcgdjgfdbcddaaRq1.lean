/-
 THE PROGRAM'S OWN sum, difference, product, low, ones, rev.
-/
import Derived.Test.YtfcgdjgfdbcddaaRp6
import Derived.Lib.BitFns
namespace Go.Proofs.Ytfcgdjgfdbcddaa
open Go.RowKit
set_option maxRecDepth 100000
theorem sum_any (i j : Nat) (h : i + j < 65536) (w : World) : Calls Try.prog 43 #[.int .u16 (i : Int), .int .u16 (j : Int)] w (U16Is w ((i + j) % 3329)) := by
 unfold U16Is
 have HR : Shh ((IntKind.u16.wrap ((i : Int) + (j : Int))).tmod 3329 = (((i + j) % 3329 : Nat) : Int)) := ⟨by
  rw [IntKind.wrap_u16, Int.tmod_eq_emod_of_nonneg (by omega)]
  omega⟩
 clear h
 generalize (i + j) % 3329 = r at *
 go_enter Try.func43, Try.ntmps43
 go_wp2
 go_ret
 exact ⟨ret_int HR.out, rfl⟩
theorem difference_any (i j : Nat) (h : i < 60000 ∧ j ≤ i + 3329) (w : World) : Calls Try.prog 44 #[.int .u16 (i : Int), .int .u16 (j : Int)] w (U16Is w ((i + 3329 - j) % 3329)) := by
 unfold U16Is
 have HR : Shh ((IntKind.u16.wrap (IntKind.u16.wrap ((i : Int) + 3329) - (j : Int))).tmod 3329 = (((i + 3329 - j) % 3329 : Nat) : Int)) := ⟨by
  rw [IntKind.wrap_u16, IntKind.wrap_u16, Int.tmod_eq_emod_of_nonneg (by omega)]
  omega⟩
 clear h
 generalize (i + 3329 - j) % 3329 = r at *
 go_enter Try.func44, Try.ntmps44
 go_wp2
 go_ret
 exact ⟨ret_int HR.out, rfl⟩
theorem product_any (i j : Nat) (h : i < 65536 ∧ j < 65536) (w : World) : Calls Try.prog 46 #[.int .u16 (i : Int), .int .u16 (j : Int)] w (U16Is w (i * j % 3329)) := by
 unfold U16Is
 have HR : Shh ((i : Int) % 4294967296 * ((j : Int) % 4294967296) % 4294967296 % 3329 = ((i * j % 3329 : Nat) : Int)) := ⟨by
  have h1 : i * j < 4294967296 := Nat.lt_of_le_of_lt (Nat.mul_le_mul (Nat.le_of_lt_succ h.1) (Nat.le_of_lt_succ h.2)) (by decide)
  rw [show (i : Int) % 4294967296 = i by omega, show (j : Int) % 4294967296 = j by omega, ← Int.natCast_mul]
  omega⟩
 clear h
 generalize i * j % 3329 = r at *
 go_enter Try.func46, Try.ntmps46
 go_wp2
 go_ret
 exact ⟨ret_int HR.out, rfl⟩
theorem and_low (n d : Nat) (hn : n < 65536) (hd : d ≤ 16) : bits .and .u16 (n : Int) ((2 ^ d - 1 : Nat) : Int) = ((n % 2 ^ d : Nat) : Int) := by
 have h2 : 2 ^ d ≤ 65536 := Nat.le_trans (Nat.pow_le_pow_right (by decide) hd) (by decide)
 have h0 := Nat.two_pow_pos d
 rw [(bits_nat .u16 16 (by decide) (fun m h0 h1 => by rw [IntKind.wrap_u16]; omega) n (2 ^ d - 1) hn (by omega)).1, Nat.and_two_pow_sub_one_eq_mod]
theorem low_any (d n : Nat) (hd : d ≤ 16) (hn : n < 65536) (w : World) : Calls Try.prog 49 #[.int .i64 (d : Int), .int .u16 (n : Int)] w (U16Is w (n % 2 ^ d)) := by
 unfold U16Is
 have HA : Shh (bits .and .u16 (n : Int) (IntKind.u16.wrap (IntKind.u16.wrap (2 ^ min d 16) - 1)) = ((n % 2 ^ d : Nat) : Int)) := ⟨by
  have h2 : 2 ^ d ≤ 65536 := Nat.le_trans (Nat.pow_le_pow_right (by decide) hd) (by decide)
  have h0 := Nat.two_pow_pos d
  rw [← and_low n d hn hd, show min d 16 = d by omega, show ((2 : Int) ^ d) = ((2 ^ d : Nat) : Int) by rw [Int.natCast_pow]; rfl]
  congr 1
  rw [IntKind.wrap_u16, IntKind.wrap_u16]
  generalize 2 ^ d = P at *
  omega⟩
 generalize n % 2 ^ d = r at *
 have h1 : ¬ (d : Int) < 0 := by omega
 clear hd hn
 go_enter Try.func49, Try.ntmps49
 go_wp2
 go_ret
 exact ⟨ret_int HA.out, rfl⟩
theorem rev8_is : ((List.range 128).all fun i => decide (Lib.rev8 (i : Int) / 2 = (rvN i : Int))) = true := by decide +kernel
theorem rev_prog (i : Nat) (hi : i < 128) (w : World) : Calls Try.prog 57 #[.int .i64 (i : Int)] w (NumIs w (rvN i)) := by
 unfold NumIs
 have HR : Shh (wrap64 (Lib.rev8 (i : Int) / 2) = (rvN i : Int)) := ⟨by
  have h := List.all_eq_true.1 rev8_is i (List.mem_range.2 hi)
  have h2 := rv_lt i hi
  simp only [decide_eq_true_eq] at h
  rw [h]
  unfold wrap64
  omega⟩
 have HB : (0 : Int) ≤ (i : Int) ∧ (i : Int) ≤ 255 := by omega
 have hw : (i : Int) % 256 = (i : Int) := by omega
 generalize rvN i = r at *
 go_enter Try.func57, Try.ntmps57
 go_wp2
 go_ret
 exact ⟨ret_int HR.out, rfl⟩
end Go.Proofs.Ytfcgdjgfdbcddaa
