/-
 POLYNOMIALS of 256 numbers modulo q: their sums, products and transforms, and the laws of the ring.
-/
import Derived.Test.YtfcgdjgfdbcddaaRg2
namespace Go.Proofs.Ytfcgdjgfdbcddaa
set_option maxRecDepth 100000
def rd (x : Int) : Nat := (x % 3329).toNat
theorem rd_int (x : Int) : ((rd x : Nat) : Int) = x % 3329 := by unfold rd; omega
theorem rd_lt (x : Int) : rd x < 3329 := by unfold rd; omega
theorem rd_of {x y : Int} (h : rM x y) : rd x = rd y := by unfold rd; rw [show x % 3329 = y % 3329 from h]
theorem rM_rd (x : Int) : rM ((rd x : Nat) : Int) x := by unfold rM; rw [rd_int]; exact rM_mod x
theorem rd_same (n : Nat) : rd (n : Int) = n % 3329 := by unfold rd; omega
theorem rM_nat (n : Nat) : rM ((n % 3329 : Nat) : Int) (n : Int) := by unfold rM; omega
def iP (a : Nat → Nat) : Nat → Int := fun i => (a i : Int)
def redN (a : Nat → Nat) (k : Nat) : Nat := rd (a k)
def addN (a b : Nat → Nat) (k : Nat) : Nat := rd (a k + b k)
def subN (a b : Nat → Nat) (k : Nat) : Nat := rd (a k - b k)
def mulN (a b : Nat → Nat) (k : Nat) : Nat := rd (ngc (iP a) (iP b) k)
def nttN (a : Nat → Nat) (k : Nat) : Nat := rd (if k % 2 = 0 then evP (rtN (k / 2)) (iP a) else odP (rtN (k / 2)) (iP a))
def invN (a : Nat → Nat) (k : Nat) : Nat := rd (rS 128 (fun i => iP a (2 * i + k % 2) * 3303 * (rtN i : Int) ^ (255 * (k / 2))))
def pairN (a b : Nat → Nat) (k : Nat) : Nat := rd (if k % 2 = 0 then iP a (2 * (k / 2)) * iP b (2 * (k / 2)) + rtN (k / 2) * (iP a (2 * (k / 2) + 1) * iP b (2 * (k / 2) + 1)) else iP a (2 * (k / 2)) * iP b (2 * (k / 2) + 1) + iP a (2 * (k / 2) + 1) * iP b (2 * (k / 2)))
/-- equal below 256, modulo q -/
def pM (a b : Nat → Int) : Prop := ∀ k, k < 256 → rM (a k) (b k)
theorem evP_of {g : Int} {a b : Nat → Int} (h : pM a b) : rM (evP g a) (evP g b) := rM_S fun j hj => (h _ (by omega)).mul (rM.of rfl)
theorem odP_of {g : Int} {a b : Nat → Int} (h : pM a b) : rM (odP g a) (odP g b) := rM_S fun j hj => (h _ (by omega)).mul (rM.of rfl)
theorem cnv_of {a b a' b' : Nat → Int} (h : pM a a') (h2 : pM b b') (m : Nat) : rM (cnv a b m) (cnv a' b' m) := rM_S fun i hi => rM_S fun k hk => by
 split
 ·exact (h i hi).mul (h2 k hk)
 ·exact rfl
theorem ngc_of {a b a' b' : Nat → Int} (h : pM a a') (h2 : pM b b') (m : Nat) : rM (ngc a b m) (ngc a' b' m) := (cnv_of h h2 _).sub (cnv_of h h2 _)
theorem nttN_of {a b : Nat → Nat} (h : pM (iP a) (iP b)) (k : Nat) : nttN a k = nttN b k := by
 unfold nttN
 refine rd_of ?_
 split
 ·exact evP_of h
 ·exact odP_of h
theorem invN_of {a b : Nat → Nat} (h : pM (iP a) (iP b)) (k : Nat) : invN a k = invN b k := by
 unfold invN
 refine rd_of (rM_S fun i hi => ((h _ (by omega)).mul (rM.of rfl)).mul (rM.of rfl))
theorem mulN_of {a b a' b' : Nat → Nat} (h : pM (iP a) (iP a')) (h2 : pM (iP b) (iP b')) (k : Nat) : mulN a b k = mulN a' b' k := rd_of (ngc_of h h2 k)
theorem pairN_of {a b a' b' : Nat → Nat} (h : pM (iP a) (iP a')) (h2 : pM (iP b) (iP b')) (k : Nat) (hk : k < 256) : pairN a b k = pairN a' b' k := by
 unfold pairN
 refine rd_of ?_
 split
 ·exact ((h _ (by omega)).mul (h2 _ (by omega))).add ((rM.of rfl).mul ((h _ (by omega)).mul (h2 _ (by omega))))
 ·exact ((h _ (by omega)).mul (h2 _ (by omega))).add ((h _ (by omega)).mul (h2 _ (by omega)))
theorem pM_eq {a b : Nat → Nat} (h : ∀ k, k < 256 → a k = b k) : pM (iP a) (iP b) := fun k hk => rM.of (by unfold iP; rw [h k hk])
theorem pM_refl (a : Nat → Int) : pM a a := fun _ _ => rfl
theorem pM_red (a : Nat → Nat) : pM (iP (redN a)) (iP a) := fun _ _ => rM_rd _
/-- what the transform's numbers are -/
theorem ntt_even (a : Nat → Nat) (i : Nat) : rM (iP (nttN a) (2 * i)) (evP (rtN i) (iP a)) := by
 unfold iP nttN
 rw [if_pos (by omega), show 2 * i / 2 = i by omega]
 exact rM_rd _
theorem ntt_odd (a : Nat → Nat) (i : Nat) : rM (iP (nttN a) (2 * i + 1)) (odP (rtN i) (iP a)) := by
 unfold iP nttN
 rw [if_neg (by omega), show (2 * i + 1) / 2 = i by omega]
 exact rM_rd _
theorem ntt_mulN (a b : Nat → Nat) (k : Nat) (hk : k < 256) : nttN (mulN a b) k = pairN (nttN a) (nttN b) k := by
 have hg := rt_128 (k / 2) (by omega)
 have h : pM (iP (mulN a b)) (ngc (iP a) (iP b)) := fun k _ => rM_rd _
 unfold pairN
 rw [nttN]
 refine rd_of ?_
 split
 ·refine ((evP_of h).trans (ev_ngc hg _ _)).trans ?_
  exact ((ntt_even a _).symm.mul (ntt_even b _).symm).add ((rM.of rfl).mul ((ntt_odd a _).symm.mul (ntt_odd b _).symm))
 ·refine ((odP_of h).trans (od_ngc hg _ _)).trans ?_
  exact ((ntt_even a _).symm.mul (ntt_odd b _).symm).add ((ntt_odd a _).symm.mul (ntt_even b _).symm)
theorem ntt_addN (a b : Nat → Nat) (k : Nat) : nttN (addN a b) k = addN (nttN a) (nttN b) k := by
 have h : pM (iP (addN a b)) (fun i => iP a i + iP b i) := fun k _ => rM_rd _
 unfold addN
 rw [nttN]
 refine rd_of ?_
 have e1 : ∀ g, evP g (fun i => iP a i + iP b i) = evP g (iP a) + evP g (iP b) := fun g => by
  unfold evP
  rw [← rS_add]
  exact rS_congr fun j _ => Int.add_mul _ _ _
 have e2 : ∀ g, odP g (fun i => iP a i + iP b i) = odP g (iP a) + odP g (iP b) := fun g => by
  unfold odP
  rw [← rS_add]
  exact rS_congr fun j _ => Int.add_mul _ _ _
 by_cases hk : k % 2 = 0
 ·rw [if_pos hk]
  refine (evP_of h).trans ?_
  rw [e1]
  have h1 := ntt_even a (k / 2)
  have h2 := ntt_even b (k / 2)
  rw [show 2 * (k / 2) = k by omega] at h1 h2
  exact h1.symm.add h2.symm
 ·rw [if_neg hk]
  refine (odP_of h).trans ?_
  rw [e2]
  have h1 := ntt_odd a (k / 2)
  have h2 := ntt_odd b (k / 2)
  rw [show 2 * (k / 2) + 1 = k by omega] at h1 h2
  exact h1.symm.add h2.symm
theorem inv_ntt (a : Nat → Nat) (k : Nat) (hk : k < 256) : invN (nttN a) k = redN a k := by
 unfold invN redN
 refine rd_of ?_
 by_cases h : k % 2 = 0
 ·have h1 := back_there (fun j => iP a (2 * j)) (k / 2) (by omega)
  rw [show 2 * (k / 2) = k by omega] at h1
  refine (rM_S fun i hi => ?_).trans h1
  rw [h]
  exact ((ntt_even a i).mul (rM.of rfl)).mul (rM.of rfl)
 ·have h1 := back_there (fun j => iP a (2 * j + 1)) (k / 2) (by omega)
  rw [show 2 * (k / 2) + 1 = k by omega] at h1
  refine (rM_S fun i hi => ?_).trans h1
  rw [show k % 2 = 1 by omega]
  exact ((ntt_odd a i).mul (rM.of rfl)).mul (rM.of rfl)
theorem ntt_inv (a : Nat → Nat) (k : Nat) (hk : k < 256) : nttN (invN a) k = redN a k := by
 unfold nttN redN
 refine rd_of ?_
 by_cases h : k % 2 = 0
 ·rw [if_pos h]
  have h1 := there_back (fun i => iP a (2 * i)) (k / 2) (by omega)
  rw [show 2 * (k / 2) = k by omega] at h1
  refine (rM_S fun j hj => ?_).trans h1
  refine rM.mul ?_ (rM.of rfl)
  unfold iP invN
  rw [show 2 * j % 2 = 0 by omega, show 2 * j / 2 = j by omega]
  exact rM_rd _
 ·rw [if_neg h]
  have h1 := there_back (fun i => iP a (2 * i + 1)) (k / 2) (by omega)
  rw [show 2 * (k / 2) + 1 = k by omega] at h1
  refine (rM_S fun j hj => ?_).trans h1
  refine rM.mul ?_ (rM.of rfl)
  unfold iP invN
  rw [show (2 * j + 1) % 2 = 1 by omega, show (2 * j + 1) / 2 = j by omega]
  exact rM_rd _
theorem rd_rd (x : Int) : rd ((rd x : Nat) : Int) = rd x := rd_of (rM_rd x)
/-- a product by its transforms -/
theorem mul_inv (a b : Nat → Nat) (k : Nat) (hk : k < 256) : mulN a b k = invN (pairN (nttN a) (nttN b)) k := by
 rw [← invN_of (pM_eq fun k hk => ntt_mulN a b k hk) k, inv_ntt _ k hk]
 unfold redN mulN
 exact (rd_rd _).symm
theorem add_comm' (a b : Nat → Nat) (k : Nat) : addN a b k = addN b a k := by unfold addN; rw [Int.add_comm]
theorem add_assoc' (a b c : Nat → Nat) (k : Nat) : addN (addN a b) c k = addN a (addN b c) k := by
 unfold addN
 refine rd_of ?_
 refine ((rM_rd _).add (rM.of rfl)).trans (rM.trans (rM.of (by omega)) ((rM.of rfl).add (rM_rd _).symm))
theorem sub_add' (a b : Nat → Nat) (k : Nat) : subN (addN a b) b k = redN a k := by
 unfold subN addN redN
 refine rd_of (((rM_rd _).sub (rM.of rfl)).trans (rM.of (by omega)))
theorem pair_comm (a b : Nat → Nat) (k : Nat) : pairN a b k = pairN b a k := by
 unfold pairN
 refine rd_of (rM.of ?_)
 split <;> grind
theorem pair_even (a b : Nat → Nat) (i : Nat) : rM (iP (pairN a b) (2 * i)) (iP a (2 * i) * iP b (2 * i) + rtN i * (iP a (2 * i + 1) * iP b (2 * i + 1))) := by
 rw [show iP (pairN a b) (2 * i) = ((pairN a b (2 * i) : Nat) : Int) from rfl]
 unfold pairN
 rw [if_pos (by omega), show 2 * i / 2 = i by omega]
 exact rM_rd _
theorem pair_odd (a b : Nat → Nat) (i : Nat) : rM (iP (pairN a b) (2 * i + 1)) (iP a (2 * i) * iP b (2 * i + 1) + iP a (2 * i + 1) * iP b (2 * i)) := by
 rw [show iP (pairN a b) (2 * i + 1) = ((pairN a b (2 * i + 1) : Nat) : Int) from rfl]
 unfold pairN
 rw [if_neg (by omega), show (2 * i + 1) / 2 = i by omega]
 exact rM_rd _
theorem pair_assoc (a b c : Nat → Nat) (k : Nat) : pairN (pairN a b) c k = pairN a (pairN b c) k := by
 rw [pairN, pairN]
 refine rd_of ?_
 have e1 := pair_even a b (k / 2)
 have e2 := pair_odd a b (k / 2)
 have e3 := pair_even b c (k / 2)
 have e4 := pair_odd b c (k / 2)
 by_cases h : k % 2 = 0
 ·rw [if_pos h, if_pos h]
  refine ((e1.mul (rM.of rfl)).add ((rM.of rfl).mul (e2.mul (rM.of rfl)))).trans (rM.trans (rM.of ?_) (((rM.of rfl).mul e3.symm).add ((rM.of rfl).mul ((rM.of rfl).mul e4.symm))))
  grind
 ·rw [if_neg h, if_neg h]
  refine ((e1.mul (rM.of rfl)).add (e2.mul (rM.of rfl))).trans (rM.trans (rM.of ?_) (((rM.of rfl).mul e4.symm).add ((rM.of rfl).mul e3.symm)))
  grind
theorem pair_add (a b c : Nat → Nat) (k : Nat) : pairN a (addN b c) k = addN (pairN a b) (pairN a c) k := by
 have e : ∀ j, rM (iP (addN b c) j) (iP b j + iP c j) := fun j => rM_rd _
 have e1 := pair_even a b (k / 2)
 have e2 := pair_odd a b (k / 2)
 have e3 := pair_even a c (k / 2)
 have e4 := pair_odd a c (k / 2)
 rw [pairN]
 rw [show addN (pairN a b) (pairN a c) k = rd (iP (pairN a b) k + iP (pairN a c) k) from rfl]
 refine rd_of ?_
 by_cases h : k % 2 = 0
 ·rw [show 2 * (k / 2) = k by omega] at *
  rw [if_pos h]
  refine (((rM.of rfl).mul (e _)).add ((rM.of rfl).mul ((rM.of rfl).mul (e _)))).trans (rM.trans (rM.of ?_) (e1.symm.add e3.symm))
  grind
 ·rw [if_neg h]
  refine (((rM.of rfl).mul (e _)).add ((rM.of rfl).mul (e _))).trans (rM.trans (rM.of ?_) (rM.trans (e2.symm.add e4.symm) (rM.of ?_)))
  ·grind
  ·rw [show 2 * (k / 2) + 1 = k by omega]
theorem mul_comm' (a b : Nat → Nat) (k : Nat) (hk : k < 256) : mulN a b k = mulN b a k := by
 rw [mul_inv a b k hk, mul_inv b a k hk]
 exact invN_of (pM_eq fun k _ => pair_comm _ _ k) k
theorem mul_assoc' (a b c : Nat → Nat) (k : Nat) (hk : k < 256) : mulN (mulN a b) c k = mulN a (mulN b c) k := by
 rw [mul_inv _ _ k hk, mul_inv a _ k hk]
 refine invN_of (pM_eq fun k hk => ?_) k
 rw [pairN_of (pM_eq fun k hk => ntt_mulN a b k hk) (pM_refl _) k hk, pairN_of (pM_refl _) (pM_eq fun k hk => ntt_mulN b c k hk) k hk]
 exact pair_assoc _ _ _ k
theorem inv_addN (a b : Nat → Nat) (k : Nat) (hk : k < 256) : invN (addN a b) k = addN (invN a) (invN b) k := by
 have h : pM (iP (addN a b)) (iP (nttN (addN (invN a) (invN b)))) := fun k hk => by
  refine rM.trans ?_ (rM.of (show iP (addN (nttN (invN a)) (nttN (invN b))) k = _ from by unfold iP; rw [ntt_addN]))
  refine (rM_rd _).trans (rM.trans ?_ (rM_rd _).symm)
  rw [ntt_inv a k hk, ntt_inv b k hk]
  exact (rM_rd _).symm.add (rM_rd _).symm
 rw [invN_of h k, inv_ntt _ k hk]
 exact rd_rd _
theorem mul_add' (a b c : Nat → Nat) (k : Nat) (hk : k < 256) : mulN a (addN b c) k = addN (mulN a b) (mulN a c) k := by
 have h1 : mulN a (addN b c) k = invN (addN (pairN (nttN a) (nttN b)) (pairN (nttN a) (nttN c))) k := by
  rw [mul_inv _ _ k hk]
  refine invN_of (pM_eq fun k hk => ?_) k
  rw [pairN_of (pM_refl _) (pM_eq fun k _ => ntt_addN b c k) k hk]
  exact pair_add _ _ _ k
 rw [h1, inv_addN _ _ k hk]
 unfold addN
 rw [mul_inv a b k hk, mul_inv a c k hk]
/-- the polynomial 1 -/
def oneN (k : Nat) : Nat := if k = 0 then 1 else 0
theorem ntt_one (i : Nat) : rM (iP (nttN oneN) (2 * i)) 1 ∧ rM (iP (nttN oneN) (2 * i + 1)) 0 := by
 constructor
 ·refine (ntt_even _ _).trans (rM.of ?_)
  unfold evP
  rw [show (fun j => iP oneN (2 * j) * (rtN i : Int) ^ j) = (fun j => if 0 = j then 1 else 0) from funext fun j => by
   unfold iP oneN
   by_cases h : j = 0
   ·subst h; rfl
   ·rw [if_neg (by omega), if_neg (by omega)]; simp]
  rw [rS_pick (fun _ => 1) 0, if_pos (by decide)]
 ·refine (ntt_odd _ _).trans (rM.of ?_)
  unfold odP
  rw [← rS_zero 128]
  refine rS_congr fun j _ => ?_
  unfold iP oneN
  rw [if_neg (by omega)]
  simp
theorem mul_one' (a : Nat → Nat) (k : Nat) (hk : k < 256) : mulN a oneN k = redN a k := by
 rw [mul_inv a _ k hk, ← inv_ntt a k hk]
 refine invN_of (fun k hk => ?_) k
 obtain ⟨h1, h2⟩ := ntt_one (k / 2)
 rw [show iP (pairN (nttN a) (nttN oneN)) k = ((pairN (nttN a) (nttN oneN) k : Nat) : Int) from rfl, pairN]
 refine (rM_rd _).trans ?_
 by_cases h : k % 2 = 0
 ·rw [if_pos h]
  refine (((rM.of rfl).mul h1).add ((rM.of rfl).mul ((rM.of rfl).mul h2))).trans (rM.of ?_)
  rw [show 2 * (k / 2) = k by omega]
  simp
 ·rw [if_neg h]
  refine (((rM.of rfl).mul h2).add ((rM.of rfl).mul h1)).trans (rM.of ?_)
  rw [show 2 * (k / 2) + 1 = k by omega]
  simp
end Go.Proofs.Ytfcgdjgfdbcddaa
