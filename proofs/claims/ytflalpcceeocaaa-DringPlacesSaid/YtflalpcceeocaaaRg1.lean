/-
 THE TRANSFORM as mathematics: products, there and back.
-/
namespace Go.Proofs.Ytflalpcceeocaaa
set_option maxRecDepth 100000
/-- a finite sum -/
def rS : Nat → (Nat → Int) → Int
 | 0, _ => 0
 | n + 1, f => rS n f + f n
theorem rS_congr {f g : Nat → Int} : ∀ {n : Nat}, (∀ i, i < n → f i = g i) → rS n f = rS n g
 | 0, _ => rfl
 | n + 1, h => by
  show rS n f + f n = rS n g + g n
  rw [rS_congr fun i hi => h i (by omega), h n (by omega)]
theorem rS_add (f g : Nat → Int) : ∀ n, rS n (fun i => f i + g i) = rS n f + rS n g
 | 0 => rfl
 | n + 1 => by
  show rS n (fun i => f i + g i) + (f n + g n) = (rS n f + f n) + (rS n g + g n)
  rw [rS_add f g n]
  omega
theorem rS_mul (c : Int) (f : Nat → Int) : ∀ n, rS n (fun i => c * f i) = c * rS n f
 | 0 => by show (0 : Int) = c * 0; rw [Int.mul_zero]
 | n + 1 => by
  show rS n (fun i => c * f i) + c * f n = c * (rS n f + f n)
  rw [rS_mul c f n, Int.mul_add]
theorem rS_mulr (c : Int) (f : Nat → Int) (n : Nat) : rS n (fun i => f i * c) = rS n f * c := by
 rw [Int.mul_comm, ← rS_mul]
 exact rS_congr fun i _ => Int.mul_comm _ _
theorem rS_zero : ∀ n, rS n (fun _ => 0) = 0
 | 0 => rfl
 | n + 1 => by show rS n (fun _ => 0) + 0 = 0; rw [rS_zero n]; rfl
theorem rS_swap (f : Nat → Nat → Int) (m : Nat) : ∀ n, rS n (fun i => rS m (fun j => f i j)) = rS m (fun j => rS n (fun i => f i j))
 | 0 => (rS_zero m).symm
 | n + 1 => by
  show rS n (fun i => rS m (fun j => f i j)) + rS m (fun j => f n j) = rS m (fun j => rS n (fun i => f i j) + f n j)
  rw [rS_swap f m n, rS_add]
theorem rS_split (f : Nat → Int) (n : Nat) : ∀ m, rS (n + m) f = rS n f + rS m (fun i => f (n + i))
 | 0 => by show rS n f = rS n f + 0; omega
 | m + 1 => by
  show rS (n + m) f + f (n + m) = rS n f + (rS m (fun i => f (n + i)) + f (n + m))
  rw [rS_split f n m]
  omega
theorem rS_two (f : Nat → Int) : ∀ n, rS (2 * n) f = rS n (fun j => f (2 * j)) + rS n (fun j => f (2 * j + 1))
 | 0 => rfl
 | n + 1 => by
  show rS (2 * n) f + f (2 * n) + f (2 * n + 1) = (rS n (fun j => f (2 * j)) + f (2 * n)) + (rS n (fun j => f (2 * j + 1)) + f (2 * n + 1))
  rw [rS_two f n]
  omega
/-- equal modulo q -/
def rM (a b : Int) : Prop := a % 3329 = b % 3329
theorem rM.add {a b c d : Int} (h : rM a b) (k : rM c d) : rM (a + c) (b + d) := by unfold rM at *; omega
theorem rM.sub {a b c d : Int} (h : rM a b) (k : rM c d) : rM (a - c) (b - d) := by unfold rM at *; omega
theorem rM.mul {a b c d : Int} (h : rM a b) (k : rM c d) : rM (a * c) (b * d) := by unfold rM at *; rw [Int.mul_emod, h, k, ← Int.mul_emod]
theorem rM.trans {a b c : Int} (h : rM a b) (k : rM b c) : rM a c := Eq.trans h k
theorem rM.symm {a b : Int} (h : rM a b) : rM b a := Eq.symm h
theorem rM.of {a b : Int} (h : a = b) : rM a b := by rw [h]; exact rfl
theorem rM_mod (a : Int) : rM (a % 3329) a := Int.emod_emod_of_dvd _ ⟨1, rfl⟩
theorem rM.pow {a b : Int} (h : rM a b) : ∀ n : Nat, rM (a ^ n) (b ^ n)
 | 0 => by rw [Int.pow_zero, Int.pow_zero]; exact rfl
 | n + 1 => by rw [Int.pow_succ, Int.pow_succ]; exact (h.pow n).mul h
theorem rM_S {f g : Nat → Int} : ∀ {n : Nat}, (∀ i, i < n → rM (f i) (g i)) → rM (rS n f) (rS n g)
 | 0, _ => rfl
 | n + 1, h => (rM_S fun i hi => h i (by omega)).add (h n (by omega))
/-- one term of a sum -/
theorem rS_pick (f : Nat → Int) (j : Nat) : ∀ n, rS n (fun m => if j = m then f m else 0) = if j < n then f j else 0
 | 0 => by rw [if_neg (by omega)]; rfl
 | n + 1 => by
  show rS n (fun m => if j = m then f m else 0) + (if j = n then f n else 0) = _
  rw [rS_pick f j n]
  by_cases h : j < n
  ·rw [if_pos h, if_neg (by omega), if_pos (by omega)]; omega
  ·by_cases h2 : j = n
   ·subst h2
    rw [if_neg h, if_pos rfl, if_pos (by omega)]; omega
   ·rw [if_neg h, if_neg h2, if_neg (by omega)]; rfl
/-- the sums of products whose places add up to m -/
def cnv (a b : Nat → Int) (m : Nat) : Int := rS 256 (fun i => rS 256 (fun k => if i + k = m then a i * b k else 0))
theorem cnv_dot (a b p : Nat → Int) : rS 512 (fun m => cnv a b m * p m) = rS 256 (fun i => rS 256 (fun k => a i * b k * p (i + k))) := by
 have e1 : ∀ m, m < 512 → cnv a b m * p m = rS 256 (fun i => rS 256 (fun k => if i + k = m then a i * b k * p m else 0)) := fun m _ => by
  unfold cnv
  rw [← rS_mulr]
  refine rS_congr fun i _ => ?_
  rw [← rS_mulr]
  refine rS_congr fun k _ => ?_
  split
  ·rfl
  ·exact Int.zero_mul _
 rw [rS_congr e1, rS_swap]
 refine rS_congr fun i hi => ?_
 rw [rS_swap]
 refine rS_congr fun k hk => ?_
 rw [rS_pick (fun m => a i * b k * p m) (i + k), if_pos (by omega)]
/-- the even and odd parts of the powers of x, where x * x = g -/
def pE (g : Int) (k : Nat) : Int := if k % 2 = 0 then g ^ (k / 2) else 0
def pO (g : Int) (k : Nat) : Int := if k % 2 = 1 then g ^ (k / 2) else 0
theorem pE_add (g : Int) (i k : Nat) : pE g (i + k) = pE g i * pE g k + g * (pO g i * pO g k) := by
 unfold pE pO
 by_cases hi : i % 2 = 0 <;> by_cases hk : k % 2 = 0
 ·rw [if_pos (by omega), if_pos hi, if_pos hk, if_neg (by omega), show (i + k) / 2 = i / 2 + k / 2 by omega, Int.pow_add]
  simp
 ·rw [if_neg (by omega), if_pos hi, if_neg hk, if_neg (by omega)]
  simp
 ·rw [if_neg (by omega), if_neg hi, if_pos hk, if_pos (by omega), if_neg (by omega)]
  simp
 ·rw [if_pos (by omega), if_neg hi, if_neg hk, if_pos (by omega), if_pos (by omega), show (i + k) / 2 = (i / 2 + k / 2) + 1 by omega, Int.pow_succ, Int.pow_add]
  grind
theorem pO_add (g : Int) (i k : Nat) : pO g (i + k) = pE g i * pO g k + pO g i * pE g k := by
 unfold pE pO
 by_cases hi : i % 2 = 0 <;> by_cases hk : k % 2 = 0
 ·rw [if_neg (by omega), if_pos hi, if_neg (by omega), if_neg (by omega)]
  simp
 ·rw [if_pos (by omega), if_pos hi, if_pos (by omega), if_neg (by omega), show (i + k) / 2 = i / 2 + k / 2 by omega, Int.pow_add]
  simp
 ·rw [if_pos (by omega), if_neg hi, if_neg (by omega), if_pos (by omega), if_pos hk, show (i + k) / 2 = i / 2 + k / 2 by omega, Int.pow_add]
  simp
 ·rw [if_neg (by omega), if_neg hi, if_pos (by omega), if_pos (by omega), if_neg hk]
  simp
def evP (g : Int) (a : Nat → Int) : Int := rS 128 (fun j => a (2 * j) * g ^ j)
def odP (g : Int) (a : Nat → Int) : Int := rS 128 (fun j => a (2 * j + 1) * g ^ j)
theorem evP_eq (g : Int) (a : Nat → Int) : evP g a = rS 256 (fun k => a k * pE g k) := by
 rw [show (256 : Nat) = 2 * 128 from rfl, rS_two, show rS 128 (fun j => a (2 * j + 1) * pE g (2 * j + 1)) = 0 from by
  rw [← rS_zero 128]
  refine rS_congr fun j _ => ?_
  unfold pE
  rw [if_neg (by omega), Int.mul_zero], Int.add_zero]
 refine rS_congr fun j _ => ?_
 unfold pE
 rw [if_pos (by omega), show 2 * j / 2 = j by omega]
theorem odP_eq (g : Int) (a : Nat → Int) : odP g a = rS 256 (fun k => a k * pO g k) := by
 rw [show (256 : Nat) = 2 * 128 from rfl, rS_two, show rS 128 (fun j => a (2 * j) * pO g (2 * j)) = 0 from by
  rw [← rS_zero 128]
  refine rS_congr fun j _ => ?_
  unfold pO
  rw [if_neg (by omega), Int.mul_zero], Int.zero_add]
 refine rS_congr fun j _ => ?_
 unfold pO
 rw [if_pos (by omega), show (2 * j + 1) / 2 = j by omega]
theorem dot_mul (a b p r : Nat → Int) : rS 256 (fun i => a i * p i) * rS 256 (fun k => b k * r k) = rS 256 (fun i => rS 256 (fun k => a i * b k * (p i * r k))) := by
 rw [← rS_mulr]
 refine rS_congr fun i _ => ?_
 rw [← rS_mul]
 refine rS_congr fun k _ => ?_
 grind
theorem evP_mul (g : Int) (a b : Nat → Int) : evP g a * evP g b + g * (odP g a * odP g b) = rS 512 (fun m => cnv a b m * pE g m) := by
 rw [cnv_dot, evP_eq, evP_eq, odP_eq, odP_eq, dot_mul, dot_mul, ← rS_mul, ← rS_add]
 refine rS_congr fun i _ => ?_
 rw [← rS_mul, ← rS_add]
 refine rS_congr fun k _ => ?_
 rw [pE_add]
 grind
theorem odP_mul (g : Int) (a b : Nat → Int) : evP g a * odP g b + odP g a * evP g b = rS 512 (fun m => cnv a b m * pO g m) := by
 rw [cnv_dot, evP_eq, evP_eq, odP_eq, odP_eq, dot_mul, dot_mul, ← rS_add]
 refine rS_congr fun i _ => ?_
 rw [← rS_add]
 refine rS_congr fun k _ => ?_
 rw [pO_add]
 grind
/-- the product modulo X^256 + 1, not yet modulo q -/
def ngc (a b : Nat → Int) (m : Nat) : Int := cnv a b m - cnv a b (m + 256)
theorem fold_g {g : Int} (hg : rM (g ^ 128) (-1)) (c p : Nat → Int) (hp : ∀ m, p (256 + m) = g ^ 128 * p m) : rM (rS 512 (fun m => c m * p m)) (rS 256 (fun m => (c m - c (m + 256)) * p m)) := by
 rw [show (512 : Nat) = 256 + 256 from rfl, rS_split, ← rS_add]
 refine rM_S fun m _ => ?_
 rw [hp, Nat.add_comm 256 m]
 have h1 : rM (c (m + 256) * (g ^ 128 * p m)) (c (m + 256) * (-1 * p m)) := (rM.of rfl).mul (hg.mul (rM.of rfl))
 refine ((rM.of rfl).add h1).trans (rM.of ?_)
 grind
theorem pE_256 (g : Int) (m : Nat) : pE g (256 + m) = g ^ 128 * pE g m := by
 unfold pE
 by_cases h : m % 2 = 0
 ·rw [if_pos (by omega), if_pos h, show (256 + m) / 2 = 128 + m / 2 by omega, Int.pow_add]
 ·rw [if_neg (by omega), if_neg h, Int.mul_zero]
theorem pO_256 (g : Int) (m : Nat) : pO g (256 + m) = g ^ 128 * pO g m := by
 unfold pO
 by_cases h : m % 2 = 1
 ·rw [if_pos (by omega), if_pos h, show (256 + m) / 2 = 128 + m / 2 by omega, Int.pow_add]
 ·rw [if_neg (by omega), if_neg h, Int.mul_zero]
theorem ev_ngc {g : Int} (hg : rM (g ^ 128) (-1)) (a b : Nat → Int) : rM (evP g (ngc a b)) (evP g a * evP g b + g * (odP g a * odP g b)) := by
 rw [evP_mul, evP_eq]
 exact (fold_g hg _ _ (pE_256 g)).symm
theorem od_ngc {g : Int} (hg : rM (g ^ 128) (-1)) (a b : Nat → Int) : rM (odP g (ngc a b)) (evP g a * odP g b + odP g a * evP g b) := by
 rw [odP_mul, odP_eq]
 exact (fold_g hg _ _ (pO_256 g)).symm
end Go.Proofs.Ytflalpcceeocaaa
