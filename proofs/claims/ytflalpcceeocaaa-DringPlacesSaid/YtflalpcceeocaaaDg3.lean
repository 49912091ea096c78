/-
 POLYNOMIALS of 256 numbers modulo q = 8380417: sums, products, transforms, and what follows.
-/
import Derived.Test.YtflalpcceeocaaaDg2
namespace Go.Proofs.Ytflalpcceeocaaa
set_option maxRecDepth 100000
def redD (a : Nat → Int) (k : Nat) : Int := qd (a k)
def addD (a b : Nat → Int) (k : Nat) : Int := qd (a k + b k)
def subD (a b : Nat → Int) (k : Nat) : Int := qd (a k - b k)
def mulD (a b : Nat → Int) (k : Nat) : Int := qd (ngc a b k)
def nttD (a : Nat → Int) (k : Nat) : Int := qd (evD (rtQ k) a)
def invD (a : Nat → Int) (k : Nat) : Int := qd (rS 256 (fun i => a i * 8347681 * (rtQ i : Int) ^ (511 * k)))
def pairD (a b : Nat → Int) (k : Nat) : Int := qd (a k * b k)
theorem nttD_of {a b : Nat → Int} (h : pQ a b) (k : Nat) : nttD a k = nttD b k := qd_of (evD_of h)
theorem invD_of {a b : Nat → Int} (h : pQ a b) (k : Nat) : invD a k = invD b k := qd_of (qM_S fun _ hi => ((h _ hi).mul (qM.of rfl)).mul (qM.of rfl))
theorem mulD_of {a b a' b' : Nat → Int} (h : pQ a a') (h2 : pQ b b') (k : Nat) : mulD a b k = mulD a' b' k := qd_of (ngcQ_of h h2 k)
theorem pQ_eq {a b : Nat → Int} (h : ∀ k, k < 256 → a k = b k) : pQ a b := fun k hk => qM.of (h k hk)
theorem pQ_refl (a : Nat → Int) : pQ a a := fun _ _ => rfl
theorem pQ_red (a : Nat → Int) : pQ (redD a) a := fun _ _ => qM_qd _
theorem ntt_mulD (a b : Nat → Int) (k : Nat) (hk : k < 256) : nttD (mulD a b) k = pairD (nttD a) (nttD b) k := by
 have h : pQ (mulD a b) (ngc a b) := fun k _ => qM_qd _
 unfold pairD
 rw [nttD]
 refine qd_of (((evD_of h).trans (ev_ngcD (rtQ_half k hk) _ _)).trans ?_)
 exact (qM_qd _).symm.mul (qM_qd _).symm
theorem ntt_addD (a b : Nat → Int) (k : Nat) : nttD (addD a b) k = addD (nttD a) (nttD b) k := by
 have h : pQ (addD a b) (fun i => a i + b i) := fun k _ => qM_qd _
 unfold addD
 rw [nttD]
 refine qd_of ((evD_of h).trans ?_)
 rw [evD_add]
 exact (qM_qd _).symm.add (qM_qd _).symm
theorem inv_nttD (a : Nat → Int) (k : Nat) (hk : k < 256) : invD (nttD a) k = redD a k := by
 unfold invD redD
 refine qd_of ((qM_S fun _ _ => ?_).trans (back_thereQ a k hk))
 exact ((qM_qd _).mul (qM.of rfl)).mul (qM.of rfl)
theorem ntt_invD (a : Nat → Int) (k : Nat) (hk : k < 256) : nttD (invD a) k = redD a k := by
 unfold nttD redD
 refine qd_of ((qM_S fun _ _ => ?_).trans (there_backQ a k hk))
 exact (qM_qd _).mul (qM.of rfl)
/-- a product by its transforms -/
theorem mul_invD (a b : Nat → Int) (k : Nat) (hk : k < 256) : mulD a b k = invD (pairD (nttD a) (nttD b)) k := by
 rw [← invD_of (pQ_eq fun k hk => ntt_mulD a b k hk) k, inv_nttD _ k hk]
 unfold redD mulD
 exact (qd_qd _).symm
theorem pair_commD (a b : Nat → Int) (k : Nat) : pairD a b k = pairD b a k := by unfold pairD; rw [Int.mul_comm]
theorem mul_commD (a b : Nat → Int) (k : Nat) (hk : k < 256) : mulD a b k = mulD b a k := by
 rw [mul_invD a b k hk, mul_invD b a k hk]
 exact invD_of (pQ_eq fun k _ => pair_commD _ _ k) k
theorem sub_addD (a b : Nat → Int) (k : Nat) : subD (addD a b) b k = redD a k := by
 unfold subD addD redD
 refine qd_of (((qM_qd _).sub (qM.of rfl)).trans (qM.of (by omega)))
theorem inv_redD (p : Nat → Int) (x : Nat) : redD (invD p) x = invD p x := qd_qd _
end Go.Proofs.Ytflalpcceeocaaa
