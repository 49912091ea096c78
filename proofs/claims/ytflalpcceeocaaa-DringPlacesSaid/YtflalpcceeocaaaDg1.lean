/-
 NUMBERS MODULO q = 8380417: congruence, values at a root, products.
-/
import Derived.Test.YtflalpcceeocaaaRg1
namespace Go.Proofs.Ytflalpcceeocaaa
set_option maxRecDepth 100000
/-- equal modulo q -/
def qM (a b : Int) : Prop := a % 8380417 = b % 8380417
theorem qM.add {a b c d : Int} (h : qM a b) (k : qM c d) : qM (a + c) (b + d) := by unfold qM at *; omega
theorem qM.sub {a b c d : Int} (h : qM a b) (k : qM c d) : qM (a - c) (b - d) := by unfold qM at *; omega
theorem qM.mul {a b c d : Int} (h : qM a b) (k : qM c d) : qM (a * c) (b * d) := by unfold qM at *; rw [Int.mul_emod, h, k, ← Int.mul_emod]
theorem qM.trans {a b c : Int} (h : qM a b) (k : qM b c) : qM a c := Eq.trans h k
theorem qM.symm {a b : Int} (h : qM a b) : qM b a := Eq.symm h
theorem qM.of {a b : Int} (h : a = b) : qM a b := by rw [h]; exact rfl
theorem qM_mod (a : Int) : qM (a % 8380417) a := Int.emod_emod_of_dvd _ ⟨1, rfl⟩
theorem qM.pow {a b : Int} (h : qM a b) : ∀ n : Nat, qM (a ^ n) (b ^ n)
 | 0 => by rw [Int.pow_zero, Int.pow_zero]; exact rfl
 | n + 1 => by rw [Int.pow_succ, Int.pow_succ]; exact (h.pow n).mul h
theorem qM_S {f g : Nat → Int} : ∀ {n : Nat}, (∀ i, i < n → qM (f i) (g i)) → qM (rS n f) (rS n g)
 | 0, _ => rfl
 | n + 1, h => (qM_S fun i hi => h i (by omega)).add (h n (by omega))
/-- a number's remainder, from 0 on -/
def qd (x : Int) : Int := x % 8380417
theorem qd_lt (x : Int) : 0 ≤ qd x ∧ qd x < 8380417 := by unfold qd; omega
theorem qd_of {x y : Int} (h : qM x y) : qd x = qd y := h
theorem qM_qd (x : Int) : qM (qd x) x := qM_mod x
theorem qd_qd (x : Int) : qd (qd x) = qd x := qd_of (qM_qd x)
theorem qd_small {x : Int} (h : 0 ≤ x ∧ x < 8380417) : qd x = x := by unfold qd; omega
theorem qd_eq {x y : Int} (h : qM x y) (hy : 0 ≤ y ∧ y < 8380417) : qd x = y := (qd_of h).trans (qd_small hy)
theorem qM_eq {x y : Int} (h : qM x y) (hx : 0 ≤ x ∧ x < 8380417) (hy : 0 ≤ y ∧ y < 8380417) : x = y := by unfold qM at h; omega
/-- a polynomial's value -/
def evD (g : Int) (a : Nat → Int) : Int := rS 256 (fun k => a k * g ^ k)
theorem evD_mul (g : Int) (a b : Nat → Int) : evD g a * evD g b = rS 512 (fun m => cnv a b m * g ^ m) := by
 unfold evD
 rw [cnv_dot, dot_mul]
 refine rS_congr fun i _ => rS_congr fun k _ => ?_
 rw [Int.pow_add]
theorem ev_ngcD {g : Int} (hg : qM (g ^ 256) (-1)) (a b : Nat → Int) : qM (evD g (ngc a b)) (evD g a * evD g b) := by
 rw [evD_mul]
 unfold evD ngc
 refine qM.symm ?_
 rw [show (512 : Nat) = 256 + 256 from rfl, rS_split, ← rS_add]
 refine qM_S fun m _ => ?_
 rw [Int.pow_add, Nat.add_comm 256 m]
 have h1 : qM (cnv a b (m + 256) * (g ^ 256 * g ^ m)) (cnv a b (m + 256) * (-1 * g ^ m)) := (qM.of rfl).mul (hg.mul (qM.of rfl))
 refine ((qM.of rfl).add h1).trans (qM.of ?_)
 grind
theorem evD_add (g : Int) (a b : Nat → Int) : evD g (fun i => a i + b i) = evD g a + evD g b := by
 unfold evD
 rw [← rS_add]
 exact rS_congr fun _ _ => Int.add_mul _ _ _
/-- equal below 256, modulo q -/
def pQ (a b : Nat → Int) : Prop := ∀ k, k < 256 → qM (a k) (b k)
theorem evD_of {g : Int} {a b : Nat → Int} (h : pQ a b) : qM (evD g a) (evD g b) := qM_S fun _ hj => (h _ hj).mul (qM.of rfl)
theorem cnvQ_of {a b a' b' : Nat → Int} (h : pQ a a') (h2 : pQ b b') (m : Nat) : qM (cnv a b m) (cnv a' b' m) := qM_S fun i hi => qM_S fun k hk => by
 split
 ·exact (h i hi).mul (h2 k hk)
 ·exact rfl
theorem ngcQ_of {a b a' b' : Nat → Int} (h : pQ a a') (h2 : pQ b b') (m : Nat) : qM (ngc a b m) (ngc a' b' m) := (cnvQ_of h h2 _).sub (cnvQ_of h h2 _)
end Go.Proofs.Ytflalpcceeocaaa
