/-
 THE TRANSFORM there and back: the roots.
-/
import Derived.Test.YtflalpcceeocaaaDg1
namespace Go.Proofs.Ytflalpcceeocaaa
set_option maxRecDepth 100000
/-- eight digits from behind -/
def rvQ (i : Nat) : Nat := ((((((i % 2 * 2 + i / 2 % 2) * 2 + i / 4 % 2) * 2 + i / 8 % 2) * 2 + i / 16 % 2) * 2 + i / 32 % 2) * 2 + i / 64 % 2) * 2 + i / 128 % 2
/-- the root of pair i -/
def rtQ (i : Nat) : Nat := 1753 ^ (2 * rvQ i + 1) % 8380417
def nSQ : Nat → (Nat → Nat) → Nat
 | 0, _ => 0
 | n + 1, f => nSQ n f + f n
theorem nSQ_int (f : Nat → Nat) : ∀ n, ((nSQ n f : Nat) : Int) = rS n (fun i => (f i : Int))
 | 0 => rfl
 | n + 1 => by
  show ((nSQ n f + f n : Nat) : Int) = rS n (fun i => (f i : Int)) + (f n : Int)
  rw [Int.natCast_add, nSQ_int f n]
theorem rtQ_halfs : ((List.range 256).all fun i => decide (rtQ i ^ 256 % 8380417 = 8380416)) = true := by decide +kernel
theorem rtQ_half (i : Nat) (hi : i < 256) : qM ((rtQ i : Int) ^ 256) (-1) := by
 have h := of_decide_eq_true (List.all_eq_true.1 rtQ_halfs i (List.mem_range.2 hi))
 have h2 : ((rtQ i ^ 256 % 8380417 : Nat) : Int) = 8380416 := by rw [h]; rfl
 rw [Int.natCast_emod, Int.natCast_pow] at h2
 exact h2.trans (by decide)
theorem rvQ_back : ((List.range 256).all fun i => decide (rvQ i < 256) && decide (rvQ (rvQ i) = i)) = true := by decide +kernel
theorem rvQ_lt (i : Nat) (hi : i < 256) : rvQ i < 256 := by
 have h := List.all_eq_true.1 rvQ_back i (List.mem_range.2 hi)
 rw [Bool.and_eq_true] at h
 exact of_decide_eq_true h.1
theorem rvQ_rv (i : Nat) (hi : i < 256) : rvQ (rvQ i) = i := by
 have h := List.all_eq_true.1 rvQ_back i (List.mem_range.2 hi)
 rw [Bool.and_eq_true] at h
 exact of_decide_eq_true h.2
/-- the sum over all roots of the power m -/
theorem sum_rootsQ : ((List.range 512).all fun m => decide (nSQ 256 (fun i => rtQ i ^ m % 8380417) % 8380417 = if m = 0 then 256 else if m = 256 then 8380161 else 0)) = true := by decide +kernel
/-- the sum of the powers of one quotient of roots -/
theorem sum_quotQ : ((List.range 512).all fun d => decide (nSQ 256 (fun j => 1753 ^ (2 * d * j % 512) % 8380417) % 8380417 = if d % 256 = 0 then 256 else 0)) = true := by decide +kernel
theorem pow1753 : 1753 ^ 256 % 8380417 = 8380416 := by decide +kernel
theorem qM_pow (n : Nat) : qM ((1753 : Int) ^ n) (((1753 ^ (n % 512) % 8380417 : Nat) : Int)) := by
 have h : qM ((1753 : Int) ^ 512) 1 := by
  have h2 : ((1753 ^ 256 % 8380417 : Nat) : Int) = 8380416 := by rw [pow1753]; rfl
  rw [Int.natCast_emod, Int.natCast_pow] at h2
  have h3 : qM ((1753 : Int) ^ 256) (-1) := h2.trans (by decide)
  have h4 := h3.mul h3
  rw [← Int.pow_add] at h4
  exact h4
 have e : (1753 : Int) ^ n = ((1753 : Int) ^ 512) ^ (n / 512) * (1753 : Int) ^ (n % 512) := by
  rw [← Int.pow_mul, ← Int.pow_add, Nat.div_add_mod]
 rw [e]
 have h3 : qM (((1753 : Int) ^ 512) ^ (n / 512) * (1753 : Int) ^ (n % 512)) (1 ^ (n / 512) * (1753 : Int) ^ (n % 512)) := (h.pow _).mul (qM.of rfl)
 rw [Int.one_pow, Int.one_mul] at h3
 refine h3.trans ?_
 rw [Int.natCast_emod, Int.natCast_pow]
 exact (qM_mod _).symm
theorem rtQ_full (i : Nat) (hi : i < 256) : qM ((rtQ i : Int) ^ 512) 1 := by
 have h := (rtQ_half i hi).mul (rtQ_half i hi)
 rw [← Int.pow_add] at h
 exact h
theorem rtQ_pow (i : Nat) (hi : i < 256) (n : Nat) : qM ((rtQ i : Int) ^ n) (((rtQ i ^ (n % 512) % 8380417 : Nat) : Int)) := by
 have e : (rtQ i : Int) ^ n = ((rtQ i : Int) ^ 512) ^ (n / 512) * (rtQ i : Int) ^ (n % 512) := by
  rw [← Int.pow_mul, ← Int.pow_add, Nat.div_add_mod]
 rw [e]
 have h3 : qM (((rtQ i : Int) ^ 512) ^ (n / 512) * (rtQ i : Int) ^ (n % 512)) (1 ^ (n / 512) * (rtQ i : Int) ^ (n % 512)) := ((rtQ_full i hi).pow _).mul (qM.of rfl)
 rw [Int.one_pow, Int.one_mul] at h3
 refine h3.trans ?_
 rw [Int.natCast_emod, Int.natCast_pow]
 exact (qM_mod _).symm
/-- the roots' powers k + 511 j add up to 256 or to nothing -/
theorem orthQ (k j : Nat) (hk : k < 256) (hj : j < 256) : qM (rS 256 (fun i => (rtQ i : Int) ^ (k + 511 * j))) (if k = j then 256 else 0) := by
 have h1 : qM (rS 256 (fun i => (rtQ i : Int) ^ (k + 511 * j))) (rS 256 (fun i => (((rtQ i ^ ((k + 511 * j) % 512) % 8380417 : Nat)) : Int))) := qM_S fun i hi => rtQ_pow i hi _
 rw [← nSQ_int (fun i => rtQ i ^ ((k + 511 * j) % 512) % 8380417)] at h1
 refine h1.trans ?_
 have h2 := of_decide_eq_true (List.all_eq_true.1 sum_rootsQ ((k + 511 * j) % 512) (List.mem_range.2 (Nat.mod_lt _ (by decide))))
 generalize hm : (k + 511 * j) % 512 = m at *
 generalize hz : nSQ 256 (fun i => rtQ i ^ m % 8380417) = z at *
 unfold qM
 by_cases h : k = j
 ·rw [if_pos h]
  rw [if_pos (by omega)] at h2
  omega
 ·rw [if_neg h]
  rw [if_neg (by omega), if_neg (by omega)] at h2
  omega
theorem back_thereQ (c : Nat → Int) (j : Nat) (hj : j < 256) : qM (rS 256 (fun i => rS 256 (fun k => c k * (rtQ i : Int) ^ k) * 8347681 * (rtQ i : Int) ^ (511 * j))) (c j) := by
 have e : rS 256 (fun i => rS 256 (fun k => c k * (rtQ i : Int) ^ k) * 8347681 * (rtQ i : Int) ^ (511 * j)) = rS 256 (fun k => c k * 8347681 * rS 256 (fun i => (rtQ i : Int) ^ (k + 511 * j))) := by
  have e1 : ∀ i, i < 256 → rS 256 (fun k => c k * (rtQ i : Int) ^ k) * 8347681 * (rtQ i : Int) ^ (511 * j) = rS 256 (fun k => c k * 8347681 * (rtQ i : Int) ^ (k + 511 * j)) := fun i _ => by
   rw [← rS_mulr, ← rS_mulr]
   refine rS_congr fun k _ => ?_
   rw [Int.pow_add]
   grind
  rw [rS_congr e1, rS_swap]
  exact rS_congr fun k _ => rS_mul _ _ _
 rw [e]
 have h1 : qM (rS 256 (fun k => c k * 8347681 * rS 256 (fun i => (rtQ i : Int) ^ (k + 511 * j)))) (rS 256 (fun k => if j = k then c k * 8347681 * 256 else 0)) := qM_S fun k hk => by
  refine ((qM.of rfl).mul (orthQ k j hk hj)).trans (qM.of ?_)
  by_cases h : k = j
  ·rw [if_pos h, if_pos h.symm]
  ·rw [if_neg h, if_neg (fun q => h q.symm), Int.mul_zero]
 refine h1.trans ?_
 rw [rS_pick (fun k => c k * 8347681 * 256) j, if_pos hj]
 unfold qM
 omega
theorem rtQ_root (i : Nat) : qM (rtQ i : Int) ((1753 : Int) ^ (2 * rvQ i + 1)) := by
 unfold rtQ
 rw [Int.natCast_emod, Int.natCast_pow]
 exact qM_mod _
theorem quot_powQ (i k j : Nat) (hi : i < 256) (hk : k < 256) : qM ((rtQ i : Int) ^ (511 * j) * (rtQ k : Int) ^ j) (((1753 ^ (2 * (rvQ k + 256 - rvQ i) * j % 512) % 8380417 : Nat) : Int)) := by
 refine (((rtQ_root i).pow _).mul ((rtQ_root k).pow _)).trans ?_
 rw [← Int.pow_mul, ← Int.pow_mul, ← Int.pow_add]
 have h := qM_pow ((2 * rvQ i + 1) * (511 * j) + (2 * rvQ k + 1) * j)
 have h2 := rvQ_lt i hi
 have h3 := rvQ_lt k hk
 have e : ((2 * rvQ i + 1) * (511 * j) + (2 * rvQ k + 1) * j) % 512 = 2 * (rvQ k + 256 - rvQ i) * j % 512 := by
  obtain ⟨d, hd⟩ : ∃ d, rvQ k + 256 = rvQ i + d := ⟨rvQ k + 256 - rvQ i, by omega⟩
  rw [show rvQ k + 256 - rvQ i = d by omega]
  have e2 : (2 * rvQ i + 1) * (511 * j) + (2 * rvQ k + 1) * j + 512 * j = 2 * d * j + 512 * ((2 * rvQ i + 1) * j) := by
   have e3 : (2 * rvQ k + 1) * j + 512 * j = (2 * rvQ i + 2 * d + 1) * j := by rw [← Nat.add_mul]; congr 1; omega
   rw [Nat.add_assoc, e3]
   grind
  omega
 rw [e] at h
 exact h
theorem there_backQ (c : Nat → Int) (k : Nat) (hk : k < 256) : qM (rS 256 (fun j => rS 256 (fun i => c i * 8347681 * (rtQ i : Int) ^ (511 * j)) * (rtQ k : Int) ^ j)) (c k) := by
 have e : rS 256 (fun j => rS 256 (fun i => c i * 8347681 * (rtQ i : Int) ^ (511 * j)) * (rtQ k : Int) ^ j) = rS 256 (fun i => c i * 8347681 * rS 256 (fun j => (rtQ i : Int) ^ (511 * j) * (rtQ k : Int) ^ j)) := by
  have e1 : ∀ j, j < 256 → rS 256 (fun i => c i * 8347681 * (rtQ i : Int) ^ (511 * j)) * (rtQ k : Int) ^ j = rS 256 (fun i => c i * 8347681 * ((rtQ i : Int) ^ (511 * j) * (rtQ k : Int) ^ j)) := fun j _ => by
   rw [← rS_mulr]
   refine rS_congr fun i _ => ?_
   grind
  rw [rS_congr e1, rS_swap]
  exact rS_congr fun i _ => rS_mul _ _ _
 rw [e]
 have h1 : qM (rS 256 (fun i => c i * 8347681 * rS 256 (fun j => (rtQ i : Int) ^ (511 * j) * (rtQ k : Int) ^ j))) (rS 256 (fun i => if k = i then c i * 8347681 * 256 else 0)) := qM_S fun i hi => by
  have h2 : qM (rS 256 (fun j => (rtQ i : Int) ^ (511 * j) * (rtQ k : Int) ^ j)) (if i = k then 256 else 0) := by
   have h3 : qM (rS 256 (fun j => (rtQ i : Int) ^ (511 * j) * (rtQ k : Int) ^ j)) (rS 256 (fun j => (((1753 ^ (2 * (rvQ k + 256 - rvQ i) * j % 512) % 8380417 : Nat)) : Int))) := qM_S fun j _ => quot_powQ i k j hi hk
   rw [← nSQ_int (fun j => 1753 ^ (2 * (rvQ k + 256 - rvQ i) * j % 512) % 8380417)] at h3
   refine h3.trans ?_
   have h4 := rvQ_lt i hi
   have h5 := rvQ_lt k hk
   by_cases hd : rvQ k + 256 - rvQ i < 512
   ·have h6 := of_decide_eq_true (List.all_eq_true.1 sum_quotQ (rvQ k + 256 - rvQ i) (List.mem_range.2 hd))
    generalize nSQ 256 (fun j => 1753 ^ (2 * (rvQ k + 256 - rvQ i) * j % 512) % 8380417) = z at *
    unfold qM
    by_cases h : i = k
    ·rw [if_pos h]
     rw [if_pos (by rw [h]; omega)] at h6
     omega
    ·rw [if_neg h]
     have h7 : rvQ k ≠ rvQ i := fun q => h (by rw [← rvQ_rv i hi, ← rvQ_rv k hk, q])
     rw [if_neg (by omega)] at h6
     omega
   ·omega
  refine ((qM.of rfl).mul h2).trans (qM.of ?_)
  by_cases h : i = k
  ·rw [if_pos h, if_pos h.symm]
  ·rw [if_neg h, if_neg (fun q => h q.symm), Int.mul_zero]
 refine h1.trans ?_
 rw [rS_pick (fun i => c i * 8347681 * 256) k, if_pos hk]
 unfold qM
 omega
end Go.Proofs.Ytflalpcceeocaaa
