/-
 THE TRANSFORM there and back: the roots.
-/
import Derived.Test.YtfcgdjgfdbcddaaRg1
namespace Go.Proofs.Ytfcgdjgfdbcddaa
set_option maxRecDepth 100000
/-- seven digits from behind -/
def rvN (i : Nat) : Nat := (((((i % 2 * 2 + i / 2 % 2) * 2 + i / 4 % 2) * 2 + i / 8 % 2) * 2 + i / 16 % 2) * 2 + i / 32 % 2) * 2 + i / 64 % 2
/-- the root of pair i -/
def rtN (i : Nat) : Nat := 17 ^ (2 * rvN i + 1) % 3329
def nS : Nat → (Nat → Nat) → Nat
 | 0, _ => 0
 | n + 1, f => nS n f + f n
theorem nS_int (f : Nat → Nat) : ∀ n, ((nS n f : Nat) : Int) = rS n (fun i => (f i : Int))
 | 0 => rfl
 | n + 1 => by
  show ((nS n f + f n : Nat) : Int) = rS n (fun i => (f i : Int)) + (f n : Int)
  rw [Int.natCast_add, nS_int f n]
theorem rt_half : ((List.range 128).all fun i => decide (rtN i ^ 128 % 3329 = 3328)) = true := by decide +kernel
theorem rt_128 (i : Nat) (hi : i < 128) : rM ((rtN i : Int) ^ 128) (-1) := by
 have h := of_decide_eq_true (List.all_eq_true.1 rt_half i (List.mem_range.2 hi))
 have h2 : ((rtN i ^ 128 % 3329 : Nat) : Int) = 3328 := by rw [h]; rfl
 rw [Int.natCast_emod, Int.natCast_pow] at h2
 exact h2.trans (by decide)
theorem rv_back : ((List.range 128).all fun i => decide (rvN i < 128) && decide (rvN (rvN i) = i)) = true := by decide +kernel
theorem rv_lt (i : Nat) (hi : i < 128) : rvN i < 128 := by
 have h := List.all_eq_true.1 rv_back i (List.mem_range.2 hi)
 rw [Bool.and_eq_true] at h
 exact of_decide_eq_true h.1
theorem rv_rv (i : Nat) (hi : i < 128) : rvN (rvN i) = i := by
 have h := List.all_eq_true.1 rv_back i (List.mem_range.2 hi)
 rw [Bool.and_eq_true] at h
 exact of_decide_eq_true h.2
/-- the sum over all roots of the power m -/
theorem sum_roots : ((List.range 256).all fun m => decide (nS 128 (fun i => rtN i ^ m % 3329) % 3329 = if m = 0 then 128 else if m = 128 then 3201 else 0)) = true := by decide +kernel
/-- the sum of the powers of one quotient of roots -/
theorem sum_quot : ((List.range 256).all fun d => decide (nS 128 (fun j => 17 ^ (2 * d * j % 256) % 3329) % 3329 = if d % 128 = 0 then 128 else 0)) = true := by decide +kernel
theorem pow17 : 17 ^ 256 % 3329 = 1 := by decide +kernel
theorem rM_pow17 (n : Nat) : rM ((17 : Int) ^ n) (((17 ^ (n % 256) % 3329 : Nat) : Int)) := by
 have h : rM ((17 : Int) ^ 256) 1 := by
  have h2 : ((17 ^ 256 % 3329 : Nat) : Int) = 1 := by rw [pow17]; rfl
  rw [Int.natCast_emod, Int.natCast_pow] at h2
  exact h2.trans (by decide)
 have e : (17 : Int) ^ n = ((17 : Int) ^ 256) ^ (n / 256) * (17 : Int) ^ (n % 256) := by
  rw [← Int.pow_mul, ← Int.pow_add, Nat.div_add_mod]
 rw [e]
 have h3 : rM (((17 : Int) ^ 256) ^ (n / 256) * (17 : Int) ^ (n % 256)) (1 ^ (n / 256) * (17 : Int) ^ (n % 256)) := (h.pow _).mul (rM.of rfl)
 rw [Int.one_pow, Int.one_mul] at h3
 refine h3.trans ?_
 rw [Int.natCast_emod, Int.natCast_pow]
 exact (rM_mod _).symm
theorem rt_256 (i : Nat) (hi : i < 128) : rM ((rtN i : Int) ^ 256) 1 := by
 have h := (rt_128 i hi).mul (rt_128 i hi)
 rw [← Int.pow_add] at h
 exact h
theorem rt_pow (i : Nat) (hi : i < 128) (n : Nat) : rM ((rtN i : Int) ^ n) (((rtN i ^ (n % 256) % 3329 : Nat) : Int)) := by
 have e : (rtN i : Int) ^ n = ((rtN i : Int) ^ 256) ^ (n / 256) * (rtN i : Int) ^ (n % 256) := by
  rw [← Int.pow_mul, ← Int.pow_add, Nat.div_add_mod]
 rw [e]
 have h3 : rM (((rtN i : Int) ^ 256) ^ (n / 256) * (rtN i : Int) ^ (n % 256)) (1 ^ (n / 256) * (rtN i : Int) ^ (n % 256)) := ((rt_256 i hi).pow _).mul (rM.of rfl)
 rw [Int.one_pow, Int.one_mul] at h3
 refine h3.trans ?_
 rw [Int.natCast_emod, Int.natCast_pow]
 exact (rM_mod _).symm
/-- the roots' powers k + 255 j add up to 128 or to nothing -/
theorem orth (k j : Nat) (hk : k < 128) (hj : j < 128) : rM (rS 128 (fun i => (rtN i : Int) ^ (k + 255 * j))) (if k = j then 128 else 0) := by
 have h1 : rM (rS 128 (fun i => (rtN i : Int) ^ (k + 255 * j))) (rS 128 (fun i => (((rtN i ^ ((k + 255 * j) % 256) % 3329 : Nat)) : Int))) := rM_S fun i hi => rt_pow i hi _
 rw [← nS_int (fun i => rtN i ^ ((k + 255 * j) % 256) % 3329)] at h1
 refine h1.trans ?_
 have h2 := of_decide_eq_true (List.all_eq_true.1 sum_roots ((k + 255 * j) % 256) (List.mem_range.2 (Nat.mod_lt _ (by decide))))
 generalize hm : (k + 255 * j) % 256 = m at *
 generalize hz : nS 128 (fun i => rtN i ^ m % 3329) = z at *
 unfold rM
 by_cases h : k = j
 ·rw [if_pos h]
  rw [if_pos (by omega)] at h2
  omega
 ·rw [if_neg h]
  rw [if_neg (by omega), if_neg (by omega)] at h2
  omega
theorem back_there (c : Nat → Int) (j : Nat) (hj : j < 128) : rM (rS 128 (fun i => rS 128 (fun k => c k * (rtN i : Int) ^ k) * 3303 * (rtN i : Int) ^ (255 * j))) (c j) := by
 have e : rS 128 (fun i => rS 128 (fun k => c k * (rtN i : Int) ^ k) * 3303 * (rtN i : Int) ^ (255 * j)) = rS 128 (fun k => c k * 3303 * rS 128 (fun i => (rtN i : Int) ^ (k + 255 * j))) := by
  have e1 : ∀ i, i < 128 → rS 128 (fun k => c k * (rtN i : Int) ^ k) * 3303 * (rtN i : Int) ^ (255 * j) = rS 128 (fun k => c k * 3303 * (rtN i : Int) ^ (k + 255 * j)) := fun i _ => by
   rw [← rS_mulr, ← rS_mulr]
   refine rS_congr fun k _ => ?_
   rw [Int.pow_add]
   grind
  rw [rS_congr e1, rS_swap]
  exact rS_congr fun k _ => rS_mul _ _ _
 rw [e]
 have h1 : rM (rS 128 (fun k => c k * 3303 * rS 128 (fun i => (rtN i : Int) ^ (k + 255 * j)))) (rS 128 (fun k => if j = k then c k * 3303 * 128 else 0)) := rM_S fun k hk => by
  refine ((rM.of rfl).mul (orth k j hk hj)).trans (rM.of ?_)
  by_cases h : k = j
  ·rw [if_pos h, if_pos h.symm]
  ·rw [if_neg h, if_neg (fun q => h q.symm), Int.mul_zero]
 refine h1.trans ?_
 rw [rS_pick (fun k => c k * 3303 * 128) j, if_pos hj]
 unfold rM
 omega
theorem rt_17 (i : Nat) : rM (rtN i : Int) ((17 : Int) ^ (2 * rvN i + 1)) := by
 unfold rtN
 rw [Int.natCast_emod, Int.natCast_pow]
 exact rM_mod _
theorem quot_pow (i k j : Nat) (hi : i < 128) (hk : k < 128) : rM ((rtN i : Int) ^ (255 * j) * (rtN k : Int) ^ j) (((17 ^ (2 * (rvN k + 128 - rvN i) * j % 256) % 3329 : Nat) : Int)) := by
 refine (((rt_17 i).pow _).mul ((rt_17 k).pow _)).trans ?_
 rw [← Int.pow_mul, ← Int.pow_mul, ← Int.pow_add]
 have h := rM_pow17 ((2 * rvN i + 1) * (255 * j) + (2 * rvN k + 1) * j)
 have h2 := rv_lt i hi
 have h3 := rv_lt k hk
 have e : ((2 * rvN i + 1) * (255 * j) + (2 * rvN k + 1) * j) % 256 = 2 * (rvN k + 128 - rvN i) * j % 256 := by
  obtain ⟨d, hd⟩ : ∃ d, rvN k + 128 = rvN i + d := ⟨rvN k + 128 - rvN i, by omega⟩
  rw [show rvN k + 128 - rvN i = d by omega]
  have e2 : (2 * rvN i + 1) * (255 * j) + (2 * rvN k + 1) * j + 256 * j = 2 * d * j + 256 * ((2 * rvN i + 1) * j) := by
   have e3 : (2 * rvN k + 1) * j + 256 * j = (2 * rvN i + 2 * d + 1) * j := by rw [← Nat.add_mul]; congr 1; omega
   rw [Nat.add_assoc, e3]
   grind
  omega
 rw [e] at h
 exact h
theorem there_back (c : Nat → Int) (k : Nat) (hk : k < 128) : rM (rS 128 (fun j => rS 128 (fun i => c i * 3303 * (rtN i : Int) ^ (255 * j)) * (rtN k : Int) ^ j)) (c k) := by
 have e : rS 128 (fun j => rS 128 (fun i => c i * 3303 * (rtN i : Int) ^ (255 * j)) * (rtN k : Int) ^ j) = rS 128 (fun i => c i * 3303 * rS 128 (fun j => (rtN i : Int) ^ (255 * j) * (rtN k : Int) ^ j)) := by
  have e1 : ∀ j, j < 128 → rS 128 (fun i => c i * 3303 * (rtN i : Int) ^ (255 * j)) * (rtN k : Int) ^ j = rS 128 (fun i => c i * 3303 * ((rtN i : Int) ^ (255 * j) * (rtN k : Int) ^ j)) := fun j _ => by
   rw [← rS_mulr]
   refine rS_congr fun i _ => ?_
   grind
  rw [rS_congr e1, rS_swap]
  exact rS_congr fun i _ => rS_mul _ _ _
 rw [e]
 have h1 : rM (rS 128 (fun i => c i * 3303 * rS 128 (fun j => (rtN i : Int) ^ (255 * j) * (rtN k : Int) ^ j))) (rS 128 (fun i => if k = i then c i * 3303 * 128 else 0)) := rM_S fun i hi => by
  have h2 : rM (rS 128 (fun j => (rtN i : Int) ^ (255 * j) * (rtN k : Int) ^ j)) (if i = k then 128 else 0) := by
   have h3 : rM (rS 128 (fun j => (rtN i : Int) ^ (255 * j) * (rtN k : Int) ^ j)) (rS 128 (fun j => (((17 ^ (2 * (rvN k + 128 - rvN i) * j % 256) % 3329 : Nat)) : Int))) := rM_S fun j _ => quot_pow i k j hi hk
   rw [← nS_int (fun j => 17 ^ (2 * (rvN k + 128 - rvN i) * j % 256) % 3329)] at h3
   refine h3.trans ?_
   have h4 := rv_lt i hi
   have h5 := rv_lt k hk
   by_cases hd : rvN k + 128 - rvN i < 256
   ·have h6 := of_decide_eq_true (List.all_eq_true.1 sum_quot (rvN k + 128 - rvN i) (List.mem_range.2 hd))
    generalize nS 128 (fun j => 17 ^ (2 * (rvN k + 128 - rvN i) * j % 256) % 3329) = z at *
    unfold rM
    by_cases h : i = k
    ·rw [if_pos h]
     rw [if_pos (by rw [h]; omega)] at h6
     omega
    ·rw [if_neg h]
     have h7 : rvN k ≠ rvN i := fun q => h (by rw [← rv_rv i hi, ← rv_rv k hk, q])
     rw [if_neg (by omega)] at h6
     omega
   ·omega
  refine ((rM.of rfl).mul h2).trans (rM.of ?_)
  by_cases h : i = k
  ·rw [if_pos h, if_pos h.symm]
  ·rw [if_neg h, if_neg (fun q => h q.symm), Int.mul_zero]
 refine h1.trans ?_
 rw [rS_pick (fun i => c i * 3303 * 128) k, if_pos hk]
 unfold rM
 omega
end Go.Proofs.Ytfcgdjgfdbcddaa
