/-
  PLAIN MATHEMATICS: the document's round on a list of lanes. Nothing of the program is named here.
-/
import Derived.Test.YtjondbamnbgiaaaDoorKMath2
namespace Go.Proofs.YtjondbamnbgiaaaDoor
open Go.RowKit
set_option maxRecDepth 100000

/-- a lane turned left -/
def trn (x : UInt64) (n : Nat) : UInt64 := if n = 0 then x else rotl x n
/-- the sums of the columns, i lanes in -/
def sumL (a : List UInt64) : Nat → List UInt64
  | 0 => List.replicate 5 0
  | i + 1 => (sumL a i).set (i % 5) (lane (sumL a i) (i % 5) ^^^ lane a i)
/-- lanes with the sums of the columns beside them, i lanes in -/
def thetaL (a s : List UInt64) : Nat → List UInt64
  | 0 => a
  | i + 1 => (thetaL a s i).set i (lane (thetaL a s i) i ^^^ (lane s ((i + 4) % 5) ^^^ trn (lane s ((i + 1) % 5)) 1))
/-- the walk over the lanes -/
def xyN : Nat → Nat × Nat
  | 0 => (1, 0)
  | t + 1 => ((xyN t).2, (2 * (xyN t).1 + 3 * (xyN t).2) % 5)
def rhoL (a : List UInt64) : Nat → List UInt64
  | 0 => (List.replicate 25 0).set 0 (lane a 0)
  | t + 1 => (rhoL a t).set (5 * (xyN (t + 1)).2 + (xyN (t + 1)).1) (trn (lane a (5 * (xyN t).2 + (xyN t).1)) ((t + 1) * (t + 2) / 2 % 64))
def chiR (a b : List UInt64) : Nat → List UInt64
  | 0 => a
  | i + 1 => (chiR a b i).set i (lane b i ^^^ andn (lane b (i / 5 * 5 + (i + 2) % 5)) (lane b (i / 5 * 5 + (i + 1) % 5)))
def roundL (a : List UInt64) (c : UInt64) : List UInt64 := iotaL (chiR (thetaL a (sumL a 25) 25) (rhoL (thetaL a (sumL a 25) 25) 24) 25) c
theorem sumL_length (a : List UInt64) (i : Nat) : (sumL a i).length = 5 := by
  induction i with
  | zero => rfl
  | succ i ih => rw [sumL, List.length_set, ih]
theorem thetaL_length (a s : List UInt64) (i : Nat) : (thetaL a s i).length = a.length := by
  induction i with
  | zero => rfl
  | succ i ih => rw [thetaL, List.length_set, ih]
theorem rhoL_length (a : List UInt64) (i : Nat) : (rhoL a i).length = 25 := by
  induction i with
  | zero => rfl
  | succ i ih => rw [rhoL, List.length_set, ih]
theorem chiR_length (a b : List UInt64) (i : Nat) : (chiR a b i).length = a.length := by
  induction i with
  | zero => rfl
  | succ i ih => rw [chiR, List.length_set, ih]
theorem xyN_lt (t : Nat) : (xyN t).1 < 5 ∧ (xyN t).2 < 5 := by
  induction t with
  | zero => exact ⟨by decide, by decide⟩
  | succ t ih => exact ⟨ih.2, Nat.mod_lt _ (by decide)⟩
theorem thetaL_ahead (a s : List UInt64) (i j : Nat) (h : i ≤ j) : lane (thetaL a s i) j = lane a j := by
  induction i with
  | zero => rfl
  | succ i ih => rw [thetaL, lane_set_ne _ _ _ _ (by omega), ih (by omega)]

section
variable (a0 a1 a2 a3 a4 a5 a6 a7 a8 a9 a10 a11 a12 a13 a14 a15 a16 a17 a18 a19 a20 a21 a22 a23 a24 c : UInt64)
theorem sumL_all : sumL [a0, a1, a2, a3, a4, a5, a6, a7, a8, a9, a10, a11, a12, a13, a14, a15, a16, a17, a18, a19, a20, a21, a22, a23, a24] 25 =
    [a0 ^^^ a5 ^^^ a10 ^^^ a15 ^^^ a20, a1 ^^^ a6 ^^^ a11 ^^^ a16 ^^^ a21, a2 ^^^ a7 ^^^ a12 ^^^ a17 ^^^ a22, a3 ^^^ a8 ^^^ a13 ^^^ a18 ^^^ a23, a4 ^^^ a9 ^^^ a14 ^^^ a19 ^^^ a24] := by
  have h : sumL [a0, a1, a2, a3, a4, a5, a6, a7, a8, a9, a10, a11, a12, a13, a14, a15, a16, a17, a18, a19, a20, a21, a22, a23, a24] 25 =
    [0 ^^^ a0 ^^^ a5 ^^^ a10 ^^^ a15 ^^^ a20, 0 ^^^ a1 ^^^ a6 ^^^ a11 ^^^ a16 ^^^ a21, 0 ^^^ a2 ^^^ a7 ^^^ a12 ^^^ a17 ^^^ a22, 0 ^^^ a3 ^^^ a8 ^^^ a13 ^^^ a18 ^^^ a23, 0 ^^^ a4 ^^^ a9 ^^^ a14 ^^^ a19 ^^^ a24] := by kernel_rfl
  rw [h]
  simp only [UInt64.zero_xor]
variable (c0 c1 c2 c3 c4 : UInt64)
theorem thetaL_all : thetaL [a0, a1, a2, a3, a4, a5, a6, a7, a8, a9, a10, a11, a12, a13, a14, a15, a16, a17, a18, a19, a20, a21, a22, a23, a24] [c0, c1, c2, c3, c4] 25 =
    [a0 ^^^ (c4 ^^^ rotl c1 1), a1 ^^^ (c0 ^^^ rotl c2 1), a2 ^^^ (c1 ^^^ rotl c3 1), a3 ^^^ (c2 ^^^ rotl c4 1), a4 ^^^ (c3 ^^^ rotl c0 1),
     a5 ^^^ (c4 ^^^ rotl c1 1), a6 ^^^ (c0 ^^^ rotl c2 1), a7 ^^^ (c1 ^^^ rotl c3 1), a8 ^^^ (c2 ^^^ rotl c4 1), a9 ^^^ (c3 ^^^ rotl c0 1),
     a10 ^^^ (c4 ^^^ rotl c1 1), a11 ^^^ (c0 ^^^ rotl c2 1), a12 ^^^ (c1 ^^^ rotl c3 1), a13 ^^^ (c2 ^^^ rotl c4 1), a14 ^^^ (c3 ^^^ rotl c0 1),
     a15 ^^^ (c4 ^^^ rotl c1 1), a16 ^^^ (c0 ^^^ rotl c2 1), a17 ^^^ (c1 ^^^ rotl c3 1), a18 ^^^ (c2 ^^^ rotl c4 1), a19 ^^^ (c3 ^^^ rotl c0 1),
     a20 ^^^ (c4 ^^^ rotl c1 1), a21 ^^^ (c0 ^^^ rotl c2 1), a22 ^^^ (c1 ^^^ rotl c3 1), a23 ^^^ (c2 ^^^ rotl c4 1), a24 ^^^ (c3 ^^^ rotl c0 1)] := by kernel_rfl
theorem rhoL_all : rhoL [a0, a1, a2, a3, a4, a5, a6, a7, a8, a9, a10, a11, a12, a13, a14, a15, a16, a17, a18, a19, a20, a21, a22, a23, a24] 24 =
    [a0, rotl a6 44, rotl a12 43, rotl a18 21, rotl a24 14, rotl a3 28, rotl a9 20, rotl a10 3, rotl a16 45, rotl a22 61, rotl a1 1, rotl a7 6, rotl a13 25, rotl a19 8, rotl a20 18,
     rotl a4 27, rotl a5 36, rotl a11 10, rotl a17 15, rotl a23 56, rotl a2 62, rotl a8 55, rotl a14 39, rotl a15 41, rotl a21 2] := by kernel_rfl
theorem chiR_all (b : List UInt64) : chiR [a0, a1, a2, a3, a4, a5, a6, a7, a8, a9, a10, a11, a12, a13, a14, a15, a16, a17, a18, a19, a20, a21, a22, a23, a24] b 25 = chiL b := by kernel_rfl
end
theorem len25 (l : List UInt64) (h : l.length = 25) : ∃ a0 a1 a2 a3 a4 a5 a6 a7 a8 a9 a10 a11 a12 a13 a14 a15 a16 a17 a18 a19 a20 a21 a22 a23 a24 : UInt64, l = [a0, a1, a2, a3, a4, a5, a6, a7, a8, a9, a10, a11, a12, a13, a14, a15, a16, a17, a18, a19, a20, a21, a22, a23, a24] := by
  match l, h with
  | [a0, a1, a2, a3, a4, a5, a6, a7, a8, a9, a10, a11, a12, a13, a14, a15, a16, a17, a18, a19, a20, a21, a22, a23, a24], _ => exact ⟨a0, a1, a2, a3, a4, a5, a6, a7, a8, a9, a10, a11, a12, a13, a14, a15, a16, a17, a18, a19, a20, a21, a22, a23, a24, rfl⟩
theorem chiR_any (a b : List UInt64) (h : a.length = 25) : chiR a b 25 = chiL b := by
  obtain ⟨a0, a1, a2, a3, a4, a5, a6, a7, a8, a9, a10, a11, a12, a13, a14, a15, a16, a17, a18, a19, a20, a21, a22, a23, a24, rfl⟩ := len25 a h
  exact chiR_all a0 a1 a2 a3 a4 a5 a6 a7 a8 a9 a10 a11 a12 a13 a14 a15 a16 a17 a18 a19 a20 a21 a22 a23 a24 b
/-- the document's round is one of the permutation -/
theorem roundL_eq (a : List UInt64) (h : a.length = 25) (c : UInt64) : roundL a c = iotaL (chiL (mixL a)) c := by
  have hb : rhoL (thetaL a (sumL a 25) 25) 24 = mixL a := by
    obtain ⟨a0, a1, a2, a3, a4, a5, a6, a7, a8, a9, a10, a11, a12, a13, a14, a15, a16, a17, a18, a19, a20, a21, a22, a23, a24, rfl⟩ := len25 a h
    exact (congrArg (fun z => rhoL z 24) ((congrArg (fun z => thetaL [a0, a1, a2, a3, a4, a5, a6, a7, a8, a9, a10, a11, a12, a13, a14, a15, a16, a17, a18, a19, a20, a21, a22, a23, a24] z 25) (sumL_all a0 a1 a2 a3 a4 a5 a6 a7 a8 a9 a10 a11 a12 a13 a14 a15 a16 a17 a18 a19 a20 a21 a22 a23 a24)).trans (thetaL_all a0 a1 a2 a3 a4 a5 a6 a7 a8 a9 a10 a11 a12 a13 a14 a15 a16 a17 a18 a19 a20 a21 a22 a23 a24 _ _ _ _ _))).trans ((rhoL_all _ _ _ _ _ _ _ _ _ _ _ _ _ _ _ _ _ _ _ _ _ _ _ _ _).trans (by kernel_rfl))
  exact congrArg (fun z => iotaL z c) ((chiR_any _ _ ((thetaL_length _ _ _).trans h)).trans (congrArg chiL hb))
/-- so many rounds of the document -/
def refPerm (s : List UInt64) : Nat → List UInt64
  | 0 => s
  | n + 1 => roundL (refPerm s n) (lane kC n)
theorem refPerm_eq (s : List UInt64) (h : s.length = 25) (n : Nat) : refPerm s n = permK s n := by
  induction n with
  | zero => rfl
  | succ n ih => rw [refPerm, ih, roundL_eq _ (permK_length s h n), permK]
end Go.Proofs.YtjondbamnbgiaaaDoor
