
/-
 THE TRANSFORM as mathematics: products, there and back.
-/
namespace Go.Proofs.YtfcgdjgfdbcddaaDoor
set_option maxRecDepth 100000
/-- a finite sum -/
def rS : Nat → (Nat → Int) → Int
 | 0, _ => 0
 | n + 1, f => rS n f + f n
theorem rS_congr {f g : Nat → Int} : ∀ {n : Nat}, (∀ i, i < n → f i = g i) → rS n f = rS n g
 | 0, _ => rfl
 | n + 1, h => by
  show rS n f + f n = rS n g + g n
  rw [rS_congr fun i hi => h i (by omega), h n (by omega)]
theorem rS_add (f g : Nat → Int) : ∀ n, rS n (fun i => f i + g i) = rS n f + rS n g
 | 0 => rfl
 | n + 1 => by
  show rS n (fun i => f i + g i) + (f n + g n) = (rS n f + f n) + (rS n g + g n)
  rw [rS_add f g n]
  omega
theorem rS_mul (c : Int) (f : Nat → Int) : ∀ n, rS n (fun i => c * f i) = c * rS n f
 | 0 => by show (0 : Int) = c * 0; rw [Int.mul_zero]
 | n + 1 => by
  show rS n (fun i => c * f i) + c * f n = c * (rS n f + f n)
  rw [rS_mul c f n, Int.mul_add]
theorem rS_mulr (c : Int) (f : Nat → Int) (n : Nat) : rS n (fun i => f i * c) = rS n f * c := by
 rw [Int.mul_comm, ← rS_mul]
 exact rS_congr fun i _ => Int.mul_comm _ _
theorem rS_zero : ∀ n, rS n (fun _ => 0) = 0
 | 0 => rfl
 | n + 1 => by show rS n (fun _ => 0) + 0 = 0; rw [rS_zero n]; rfl
theorem rS_swap (f : Nat → Nat → Int) (m : Nat) : ∀ n, rS n (fun i => rS m (fun j => f i j)) = rS m (fun j => rS n (fun i => f i j))
 | 0 => (rS_zero m).symm
 | n + 1 => by
  show rS n (fun i => rS m (fun j => f i j)) + rS m (fun j => f n j) = rS m (fun j => rS n (fun i => f i j) + f n j)
  rw [rS_swap f m n, rS_add]
theorem rS_split (f : Nat → Int) (n : Nat) : ∀ m, rS (n + m) f = rS n f + rS m (fun i => f (n + i))
 | 0 => by show rS n f = rS n f + 0; omega
 | m + 1 => by
  show rS (n + m) f + f (n + m) = rS n f + (rS m (fun i => f (n + i)) + f (n + m))
  rw [rS_split f n m]
  omega
theorem rS_two (f : Nat → Int) : ∀ n, rS (2 * n) f = rS n (fun j => f (2 * j)) + rS n (fun j => f (2 * j + 1))
 | 0 => rfl
 | n + 1 => by
  show rS (2 * n) f + f (2 * n) + f (2 * n + 1) = (rS n (fun j => f (2 * j)) + f (2 * n)) + (rS n (fun j => f (2 * j + 1)) + f (2 * n + 1))
  rw [rS_two f n]
  omega
/-- equal modulo q -/
def rM (a b : Int) : Prop := a % 3329 = b % 3329
theorem rM.add {a b c d : Int} (h : rM a b) (k : rM c d) : rM (a + c) (b + d) := by unfold rM at *; omega
theorem rM.sub {a b c d : Int} (h : rM a b) (k : rM c d) : rM (a - c) (b - d) := by unfold rM at *; omega
theorem rM.mul {a b c d : Int} (h : rM a b) (k : rM c d) : rM (a * c) (b * d) := by unfold rM at *; rw [Int.mul_emod, h, k, ← Int.mul_emod]
theorem rM.trans {a b c : Int} (h : rM a b) (k : rM b c) : rM a c := Eq.trans h k
theorem rM.symm {a b : Int} (h : rM a b) : rM b a := Eq.symm h
theorem rM.of {a b : Int} (h : a = b) : rM a b := by rw [h]; exact rfl
theorem rM_mod (a : Int) : rM (a % 3329) a := Int.emod_emod_of_dvd _ ⟨1, rfl⟩
theorem rM.pow {a b : Int} (h : rM a b) : ∀ n : Nat, rM (a ^ n) (b ^ n)
 | 0 => by rw [Int.pow_zero, Int.pow_zero]; exact rfl
 | n + 1 => by rw [Int.pow_succ, Int.pow_succ]; exact (h.pow n).mul h
theorem rM_S {f g : Nat → Int} : ∀ {n : Nat}, (∀ i, i < n → rM (f i) (g i)) → rM (rS n f) (rS n g)
 | 0, _ => rfl
 | n + 1, h => (rM_S fun i hi => h i (by omega)).add (h n (by omega))
/-- one term of a sum -/
theorem rS_pick (f : Nat → Int) (j : Nat) : ∀ n, rS n (fun m => if j = m then f m else 0) = if j < n then f j else 0
 | 0 => by rw [if_neg (by omega)]; rfl
 | n + 1 => by
  show rS n (fun m => if j = m then f m else 0) + (if j = n then f n else 0) = _
  rw [rS_pick f j n]
  by_cases h : j < n
  ·rw [if_pos h, if_neg (by omega), if_pos (by omega)]; omega
  ·by_cases h2 : j = n
   ·subst h2
    rw [if_neg h, if_pos rfl, if_pos (by omega)]; omega
   ·rw [if_neg h, if_neg h2, if_neg (by omega)]; rfl
/-- the sums of products whose places add up to m -/
def cnv (a b : Nat → Int) (m : Nat) : Int := rS 256 (fun i => rS 256 (fun k => if i + k = m then a i * b k else 0))
theorem cnv_dot (a b p : Nat → Int) : rS 512 (fun m => cnv a b m * p m) = rS 256 (fun i => rS 256 (fun k => a i * b k * p (i + k))) := by
 have e1 : ∀ m, m < 512 → cnv a b m * p m = rS 256 (fun i => rS 256 (fun k => if i + k = m then a i * b k * p m else 0)) := fun m _ => by
  unfold cnv
  rw [← rS_mulr]
  refine rS_congr fun i _ => ?_
  rw [← rS_mulr]
  refine rS_congr fun k _ => ?_
  split
  ·rfl
  ·exact Int.zero_mul _
 rw [rS_congr e1, rS_swap]
 refine rS_congr fun i hi => ?_
 rw [rS_swap]
 refine rS_congr fun k hk => ?_
 rw [rS_pick (fun m => a i * b k * p m) (i + k), if_pos (by omega)]
/-- the even and odd parts of the powers of x, where x * x = g -/
def pE (g : Int) (k : Nat) : Int := if k % 2 = 0 then g ^ (k / 2) else 0
def pO (g : Int) (k : Nat) : Int := if k % 2 = 1 then g ^ (k / 2) else 0
theorem pE_add (g : Int) (i k : Nat) : pE g (i + k) = pE g i * pE g k + g * (pO g i * pO g k) := by
 unfold pE pO
 by_cases hi : i % 2 = 0 <;> by_cases hk : k % 2 = 0
 ·rw [if_pos (by omega), if_pos hi, if_pos hk, if_neg (by omega), show (i + k) / 2 = i / 2 + k / 2 by omega, Int.pow_add]
  simp
 ·rw [if_neg (by omega), if_pos hi, if_neg hk, if_neg (by omega)]
  simp
 ·rw [if_neg (by omega), if_neg hi, if_pos hk, if_pos (by omega), if_neg (by omega)]
  simp
 ·rw [if_pos (by omega), if_neg hi, if_neg hk, if_pos (by omega), if_pos (by omega), show (i + k) / 2 = (i / 2 + k / 2) + 1 by omega, Int.pow_succ, Int.pow_add]
  grind
theorem pO_add (g : Int) (i k : Nat) : pO g (i + k) = pE g i * pO g k + pO g i * pE g k := by
 unfold pE pO
 by_cases hi : i % 2 = 0 <;> by_cases hk : k % 2 = 0
 ·rw [if_neg (by omega), if_pos hi, if_neg (by omega), if_neg (by omega)]
  simp
 ·rw [if_pos (by omega), if_pos hi, if_pos (by omega), if_neg (by omega), show (i + k) / 2 = i / 2 + k / 2 by omega, Int.pow_add]
  simp
 ·rw [if_pos (by omega), if_neg hi, if_neg (by omega), if_pos (by omega), if_pos hk, show (i + k) / 2 = i / 2 + k / 2 by omega, Int.pow_add]
  simp
 ·rw [if_neg (by omega), if_neg hi, if_pos (by omega), if_pos (by omega), if_neg hk]
  simp
def evP (g : Int) (a : Nat → Int) : Int := rS 128 (fun j => a (2 * j) * g ^ j)
def odP (g : Int) (a : Nat → Int) : Int := rS 128 (fun j => a (2 * j + 1) * g ^ j)
theorem evP_eq (g : Int) (a : Nat → Int) : evP g a = rS 256 (fun k => a k * pE g k) := by
 rw [show (256 : Nat) = 2 * 128 from rfl, rS_two, show rS 128 (fun j => a (2 * j + 1) * pE g (2 * j + 1)) = 0 from by
  rw [← rS_zero 128]
  refine rS_congr fun j _ => ?_
  unfold pE
  rw [if_neg (by omega), Int.mul_zero], Int.add_zero]
 refine rS_congr fun j _ => ?_
 unfold pE
 rw [if_pos (by omega), show 2 * j / 2 = j by omega]
theorem odP_eq (g : Int) (a : Nat → Int) : odP g a = rS 256 (fun k => a k * pO g k) := by
 rw [show (256 : Nat) = 2 * 128 from rfl, rS_two, show rS 128 (fun j => a (2 * j) * pO g (2 * j)) = 0 from by
  rw [← rS_zero 128]
  refine rS_congr fun j _ => ?_
  unfold pO
  rw [if_neg (by omega), Int.mul_zero], Int.zero_add]
 refine rS_congr fun j _ => ?_
 unfold pO
 rw [if_pos (by omega), show (2 * j + 1) / 2 = j by omega]
theorem dot_mul (a b p r : Nat → Int) : rS 256 (fun i => a i * p i) * rS 256 (fun k => b k * r k) = rS 256 (fun i => rS 256 (fun k => a i * b k * (p i * r k))) := by
 rw [← rS_mulr]
 refine rS_congr fun i _ => ?_
 rw [← rS_mul]
 refine rS_congr fun k _ => ?_
 grind
theorem evP_mul (g : Int) (a b : Nat → Int) : evP g a * evP g b + g * (odP g a * odP g b) = rS 512 (fun m => cnv a b m * pE g m) := by
 rw [cnv_dot, evP_eq, evP_eq, odP_eq, odP_eq, dot_mul, dot_mul, ← rS_mul, ← rS_add]
 refine rS_congr fun i _ => ?_
 rw [← rS_mul, ← rS_add]
 refine rS_congr fun k _ => ?_
 rw [pE_add]
 grind
theorem odP_mul (g : Int) (a b : Nat → Int) : evP g a * odP g b + odP g a * evP g b = rS 512 (fun m => cnv a b m * pO g m) := by
 rw [cnv_dot, evP_eq, evP_eq, odP_eq, odP_eq, dot_mul, dot_mul, ← rS_add]
 refine rS_congr fun i _ => ?_
 rw [← rS_add]
 refine rS_congr fun k _ => ?_
 rw [pO_add]
 grind
/-- the product modulo X^256 + 1, not yet modulo q -/
def ngc (a b : Nat → Int) (m : Nat) : Int := cnv a b m - cnv a b (m + 256)
theorem fold_g {g : Int} (hg : rM (g ^ 128) (-1)) (c p : Nat → Int) (hp : ∀ m, p (256 + m) = g ^ 128 * p m) : rM (rS 512 (fun m => c m * p m)) (rS 256 (fun m => (c m - c (m + 256)) * p m)) := by
 rw [show (512 : Nat) = 256 + 256 from rfl, rS_split, ← rS_add]
 refine rM_S fun m _ => ?_
 rw [hp, Nat.add_comm 256 m]
 have h1 : rM (c (m + 256) * (g ^ 128 * p m)) (c (m + 256) * (-1 * p m)) := (rM.of rfl).mul (hg.mul (rM.of rfl))
 refine ((rM.of rfl).add h1).trans (rM.of ?_)
 grind
theorem pE_256 (g : Int) (m : Nat) : pE g (256 + m) = g ^ 128 * pE g m := by
 unfold pE
 by_cases h : m % 2 = 0
 ·rw [if_pos (by omega), if_pos h, show (256 + m) / 2 = 128 + m / 2 by omega, Int.pow_add]
 ·rw [if_neg (by omega), if_neg h, Int.mul_zero]
theorem pO_256 (g : Int) (m : Nat) : pO g (256 + m) = g ^ 128 * pO g m := by
 unfold pO
 by_cases h : m % 2 = 1
 ·rw [if_pos (by omega), if_pos h, show (256 + m) / 2 = 128 + m / 2 by omega, Int.pow_add]
 ·rw [if_neg (by omega), if_neg h, Int.mul_zero]
theorem ev_ngc {g : Int} (hg : rM (g ^ 128) (-1)) (a b : Nat → Int) : rM (evP g (ngc a b)) (evP g a * evP g b + g * (odP g a * odP g b)) := by
 rw [evP_mul, evP_eq]
 exact (fold_g hg _ _ (pE_256 g)).symm
theorem od_ngc {g : Int} (hg : rM (g ^ 128) (-1)) (a b : Nat → Int) : rM (odP g (ngc a b)) (evP g a * odP g b + odP g a * evP g b) := by
 rw [odP_mul, odP_eq]
 exact (fold_g hg _ _ (pO_256 g)).symm
end Go.Proofs.YtfcgdjgfdbcddaaDoor

/-
 THE TRANSFORM there and back: the roots.
-/
namespace Go.Proofs.YtfcgdjgfdbcddaaDoor
set_option maxRecDepth 100000
/-- seven digits from behind -/
def rvN (i : Nat) : Nat := (((((i % 2 * 2 + i / 2 % 2) * 2 + i / 4 % 2) * 2 + i / 8 % 2) * 2 + i / 16 % 2) * 2 + i / 32 % 2) * 2 + i / 64 % 2
/-- the root of pair i -/
def rtN (i : Nat) : Nat := 17 ^ (2 * rvN i + 1) % 3329
def nS : Nat → (Nat → Nat) → Nat
 | 0, _ => 0
 | n + 1, f => nS n f + f n
theorem nS_int (f : Nat → Nat) : ∀ n, ((nS n f : Nat) : Int) = rS n (fun i => (f i : Int))
 | 0 => rfl
 | n + 1 => by
  show ((nS n f + f n : Nat) : Int) = rS n (fun i => (f i : Int)) + (f n : Int)
  rw [Int.natCast_add, nS_int f n]
theorem rt_half : ((List.range 128).all fun i => decide (rtN i ^ 128 % 3329 = 3328)) = true := by decide +kernel
theorem rt_128 (i : Nat) (hi : i < 128) : rM ((rtN i : Int) ^ 128) (-1) := by
 have h := of_decide_eq_true (List.all_eq_true.1 rt_half i (List.mem_range.2 hi))
 have h2 : ((rtN i ^ 128 % 3329 : Nat) : Int) = 3328 := by rw [h]; rfl
 rw [Int.natCast_emod, Int.natCast_pow] at h2
 exact h2.trans (by decide)
theorem rv_back : ((List.range 128).all fun i => decide (rvN i < 128) && decide (rvN (rvN i) = i)) = true := by decide +kernel
theorem rv_lt (i : Nat) (hi : i < 128) : rvN i < 128 := by
 have h := List.all_eq_true.1 rv_back i (List.mem_range.2 hi)
 rw [Bool.and_eq_true] at h
 exact of_decide_eq_true h.1
theorem rv_rv (i : Nat) (hi : i < 128) : rvN (rvN i) = i := by
 have h := List.all_eq_true.1 rv_back i (List.mem_range.2 hi)
 rw [Bool.and_eq_true] at h
 exact of_decide_eq_true h.2
/-- the sum over all roots of the power m -/
theorem sum_roots : ((List.range 256).all fun m => decide (nS 128 (fun i => rtN i ^ m % 3329) % 3329 = if m = 0 then 128 else if m = 128 then 3201 else 0)) = true := by decide +kernel
/-- the sum of the powers of one quotient of roots -/
theorem sum_quot : ((List.range 256).all fun d => decide (nS 128 (fun j => 17 ^ (2 * d * j % 256) % 3329) % 3329 = if d % 128 = 0 then 128 else 0)) = true := by decide +kernel
theorem pow17 : 17 ^ 256 % 3329 = 1 := by decide +kernel
theorem rM_pow17 (n : Nat) : rM ((17 : Int) ^ n) (((17 ^ (n % 256) % 3329 : Nat) : Int)) := by
 have h : rM ((17 : Int) ^ 256) 1 := by
  have h2 : ((17 ^ 256 % 3329 : Nat) : Int) = 1 := by rw [pow17]; rfl
  rw [Int.natCast_emod, Int.natCast_pow] at h2
  exact h2.trans (by decide)
 have e : (17 : Int) ^ n = ((17 : Int) ^ 256) ^ (n / 256) * (17 : Int) ^ (n % 256) := by
  rw [← Int.pow_mul, ← Int.pow_add, Nat.div_add_mod]
 rw [e]
 have h3 : rM (((17 : Int) ^ 256) ^ (n / 256) * (17 : Int) ^ (n % 256)) (1 ^ (n / 256) * (17 : Int) ^ (n % 256)) := (h.pow _).mul (rM.of rfl)
 rw [Int.one_pow, Int.one_mul] at h3
 refine h3.trans ?_
 rw [Int.natCast_emod, Int.natCast_pow]
 exact (rM_mod _).symm
theorem rt_256 (i : Nat) (hi : i < 128) : rM ((rtN i : Int) ^ 256) 1 := by
 have h := (rt_128 i hi).mul (rt_128 i hi)
 rw [← Int.pow_add] at h
 exact h
theorem rt_pow (i : Nat) (hi : i < 128) (n : Nat) : rM ((rtN i : Int) ^ n) (((rtN i ^ (n % 256) % 3329 : Nat) : Int)) := by
 have e : (rtN i : Int) ^ n = ((rtN i : Int) ^ 256) ^ (n / 256) * (rtN i : Int) ^ (n % 256) := by
  rw [← Int.pow_mul, ← Int.pow_add, Nat.div_add_mod]
 rw [e]
 have h3 : rM (((rtN i : Int) ^ 256) ^ (n / 256) * (rtN i : Int) ^ (n % 256)) (1 ^ (n / 256) * (rtN i : Int) ^ (n % 256)) := ((rt_256 i hi).pow _).mul (rM.of rfl)
 rw [Int.one_pow, Int.one_mul] at h3
 refine h3.trans ?_
 rw [Int.natCast_emod, Int.natCast_pow]
 exact (rM_mod _).symm
/-- the roots' powers k + 255 j add up to 128 or to nothing -/
theorem orth (k j : Nat) (hk : k < 128) (hj : j < 128) : rM (rS 128 (fun i => (rtN i : Int) ^ (k + 255 * j))) (if k = j then 128 else 0) := by
 have h1 : rM (rS 128 (fun i => (rtN i : Int) ^ (k + 255 * j))) (rS 128 (fun i => (((rtN i ^ ((k + 255 * j) % 256) % 3329 : Nat)) : Int))) := rM_S fun i hi => rt_pow i hi _
 rw [← nS_int (fun i => rtN i ^ ((k + 255 * j) % 256) % 3329)] at h1
 refine h1.trans ?_
 have h2 := of_decide_eq_true (List.all_eq_true.1 sum_roots ((k + 255 * j) % 256) (List.mem_range.2 (Nat.mod_lt _ (by decide))))
 generalize hm : (k + 255 * j) % 256 = m at *
 generalize hz : nS 128 (fun i => rtN i ^ m % 3329) = z at *
 unfold rM
 by_cases h : k = j
 ·rw [if_pos h]
  rw [if_pos (by omega)] at h2
  omega
 ·rw [if_neg h]
  rw [if_neg (by omega), if_neg (by omega)] at h2
  omega
theorem back_there (c : Nat → Int) (j : Nat) (hj : j < 128) : rM (rS 128 (fun i => rS 128 (fun k => c k * (rtN i : Int) ^ k) * 3303 * (rtN i : Int) ^ (255 * j))) (c j) := by
 have e : rS 128 (fun i => rS 128 (fun k => c k * (rtN i : Int) ^ k) * 3303 * (rtN i : Int) ^ (255 * j)) = rS 128 (fun k => c k * 3303 * rS 128 (fun i => (rtN i : Int) ^ (k + 255 * j))) := by
  have e1 : ∀ i, i < 128 → rS 128 (fun k => c k * (rtN i : Int) ^ k) * 3303 * (rtN i : Int) ^ (255 * j) = rS 128 (fun k => c k * 3303 * (rtN i : Int) ^ (k + 255 * j)) := fun i _ => by
   rw [← rS_mulr, ← rS_mulr]
   refine rS_congr fun k _ => ?_
   rw [Int.pow_add]
   grind
  rw [rS_congr e1, rS_swap]
  exact rS_congr fun k _ => rS_mul _ _ _
 rw [e]
 have h1 : rM (rS 128 (fun k => c k * 3303 * rS 128 (fun i => (rtN i : Int) ^ (k + 255 * j)))) (rS 128 (fun k => if j = k then c k * 3303 * 128 else 0)) := rM_S fun k hk => by
  refine ((rM.of rfl).mul (orth k j hk hj)).trans (rM.of ?_)
  by_cases h : k = j
  ·rw [if_pos h, if_pos h.symm]
  ·rw [if_neg h, if_neg (fun q => h q.symm), Int.mul_zero]
 refine h1.trans ?_
 rw [rS_pick (fun k => c k * 3303 * 128) j, if_pos hj]
 unfold rM
 omega
theorem rt_17 (i : Nat) : rM (rtN i : Int) ((17 : Int) ^ (2 * rvN i + 1)) := by
 unfold rtN
 rw [Int.natCast_emod, Int.natCast_pow]
 exact rM_mod _
theorem quot_pow (i k j : Nat) (hi : i < 128) (hk : k < 128) : rM ((rtN i : Int) ^ (255 * j) * (rtN k : Int) ^ j) (((17 ^ (2 * (rvN k + 128 - rvN i) * j % 256) % 3329 : Nat) : Int)) := by
 refine (((rt_17 i).pow _).mul ((rt_17 k).pow _)).trans ?_
 rw [← Int.pow_mul, ← Int.pow_mul, ← Int.pow_add]
 have h := rM_pow17 ((2 * rvN i + 1) * (255 * j) + (2 * rvN k + 1) * j)
 have h2 := rv_lt i hi
 have h3 := rv_lt k hk
 have e : ((2 * rvN i + 1) * (255 * j) + (2 * rvN k + 1) * j) % 256 = 2 * (rvN k + 128 - rvN i) * j % 256 := by
  obtain ⟨d, hd⟩ : ∃ d, rvN k + 128 = rvN i + d := ⟨rvN k + 128 - rvN i, by omega⟩
  rw [show rvN k + 128 - rvN i = d by omega]
  have e2 : (2 * rvN i + 1) * (255 * j) + (2 * rvN k + 1) * j + 256 * j = 2 * d * j + 256 * ((2 * rvN i + 1) * j) := by
   have e3 : (2 * rvN k + 1) * j + 256 * j = (2 * rvN i + 2 * d + 1) * j := by rw [← Nat.add_mul]; congr 1; omega
   rw [Nat.add_assoc, e3]
   grind
  omega
 rw [e] at h
 exact h
theorem there_back (c : Nat → Int) (k : Nat) (hk : k < 128) : rM (rS 128 (fun j => rS 128 (fun i => c i * 3303 * (rtN i : Int) ^ (255 * j)) * (rtN k : Int) ^ j)) (c k) := by
 have e : rS 128 (fun j => rS 128 (fun i => c i * 3303 * (rtN i : Int) ^ (255 * j)) * (rtN k : Int) ^ j) = rS 128 (fun i => c i * 3303 * rS 128 (fun j => (rtN i : Int) ^ (255 * j) * (rtN k : Int) ^ j)) := by
  have e1 : ∀ j, j < 128 → rS 128 (fun i => c i * 3303 * (rtN i : Int) ^ (255 * j)) * (rtN k : Int) ^ j = rS 128 (fun i => c i * 3303 * ((rtN i : Int) ^ (255 * j) * (rtN k : Int) ^ j)) := fun j _ => by
   rw [← rS_mulr]
   refine rS_congr fun i _ => ?_
   grind
  rw [rS_congr e1, rS_swap]
  exact rS_congr fun i _ => rS_mul _ _ _
 rw [e]
 have h1 : rM (rS 128 (fun i => c i * 3303 * rS 128 (fun j => (rtN i : Int) ^ (255 * j) * (rtN k : Int) ^ j))) (rS 128 (fun i => if k = i then c i * 3303 * 128 else 0)) := rM_S fun i hi => by
  have h2 : rM (rS 128 (fun j => (rtN i : Int) ^ (255 * j) * (rtN k : Int) ^ j)) (if i = k then 128 else 0) := by
   have h3 : rM (rS 128 (fun j => (rtN i : Int) ^ (255 * j) * (rtN k : Int) ^ j)) (rS 128 (fun j => (((17 ^ (2 * (rvN k + 128 - rvN i) * j % 256) % 3329 : Nat)) : Int))) := rM_S fun j _ => quot_pow i k j hi hk
   rw [← nS_int (fun j => 17 ^ (2 * (rvN k + 128 - rvN i) * j % 256) % 3329)] at h3
   refine h3.trans ?_
   have h4 := rv_lt i hi
   have h5 := rv_lt k hk
   by_cases hd : rvN k + 128 - rvN i < 256
   ·have h6 := of_decide_eq_true (List.all_eq_true.1 sum_quot (rvN k + 128 - rvN i) (List.mem_range.2 hd))
    generalize nS 128 (fun j => 17 ^ (2 * (rvN k + 128 - rvN i) * j % 256) % 3329) = z at *
    unfold rM
    by_cases h : i = k
    ·rw [if_pos h]
     rw [if_pos (by rw [h]; omega)] at h6
     omega
    ·rw [if_neg h]
     have h7 : rvN k ≠ rvN i := fun q => h (by rw [← rv_rv i hi, ← rv_rv k hk, q])
     rw [if_neg (by omega)] at h6
     omega
   ·omega
  refine ((rM.of rfl).mul h2).trans (rM.of ?_)
  by_cases h : i = k
  ·rw [if_pos h, if_pos h.symm]
  ·rw [if_neg h, if_neg (fun q => h q.symm), Int.mul_zero]
 refine h1.trans ?_
 rw [rS_pick (fun i => c i * 3303 * 128) k, if_pos hk]
 unfold rM
 omega
end Go.Proofs.YtfcgdjgfdbcddaaDoor

/-
 POLYNOMIALS of 256 numbers modulo q: their sums, products and transforms, and the laws of the ring.
-/
namespace Go.Proofs.YtfcgdjgfdbcddaaDoor
set_option maxRecDepth 100000
def rd (x : Int) : Nat := (x % 3329).toNat
theorem rd_int (x : Int) : ((rd x : Nat) : Int) = x % 3329 := by unfold rd; omega
theorem rd_lt (x : Int) : rd x < 3329 := by unfold rd; omega
theorem rd_of {x y : Int} (h : rM x y) : rd x = rd y := by unfold rd; rw [show x % 3329 = y % 3329 from h]
theorem rM_rd (x : Int) : rM ((rd x : Nat) : Int) x := by unfold rM; rw [rd_int]; exact rM_mod x
theorem rd_same (n : Nat) : rd (n : Int) = n % 3329 := by unfold rd; omega
theorem rM_nat (n : Nat) : rM ((n % 3329 : Nat) : Int) (n : Int) := by unfold rM; omega
def iP (a : Nat → Nat) : Nat → Int := fun i => (a i : Int)
def redN (a : Nat → Nat) (k : Nat) : Nat := rd (a k)
def addN (a b : Nat → Nat) (k : Nat) : Nat := rd (a k + b k)
def subN (a b : Nat → Nat) (k : Nat) : Nat := rd (a k - b k)
def mulN (a b : Nat → Nat) (k : Nat) : Nat := rd (ngc (iP a) (iP b) k)
def nttN (a : Nat → Nat) (k : Nat) : Nat := rd (if k % 2 = 0 then evP (rtN (k / 2)) (iP a) else odP (rtN (k / 2)) (iP a))
def invN (a : Nat → Nat) (k : Nat) : Nat := rd (rS 128 (fun i => iP a (2 * i + k % 2) * 3303 * (rtN i : Int) ^ (255 * (k / 2))))
def pairN (a b : Nat → Nat) (k : Nat) : Nat := rd (if k % 2 = 0 then iP a (2 * (k / 2)) * iP b (2 * (k / 2)) + rtN (k / 2) * (iP a (2 * (k / 2) + 1) * iP b (2 * (k / 2) + 1)) else iP a (2 * (k / 2)) * iP b (2 * (k / 2) + 1) + iP a (2 * (k / 2) + 1) * iP b (2 * (k / 2)))
/-- equal below 256, modulo q -/
def pM (a b : Nat → Int) : Prop := ∀ k, k < 256 → rM (a k) (b k)
theorem evP_of {g : Int} {a b : Nat → Int} (h : pM a b) : rM (evP g a) (evP g b) := rM_S fun j hj => (h _ (by omega)).mul (rM.of rfl)
theorem odP_of {g : Int} {a b : Nat → Int} (h : pM a b) : rM (odP g a) (odP g b) := rM_S fun j hj => (h _ (by omega)).mul (rM.of rfl)
theorem cnv_of {a b a' b' : Nat → Int} (h : pM a a') (h2 : pM b b') (m : Nat) : rM (cnv a b m) (cnv a' b' m) := rM_S fun i hi => rM_S fun k hk => by
 split
 ·exact (h i hi).mul (h2 k hk)
 ·exact rfl
theorem ngc_of {a b a' b' : Nat → Int} (h : pM a a') (h2 : pM b b') (m : Nat) : rM (ngc a b m) (ngc a' b' m) := (cnv_of h h2 _).sub (cnv_of h h2 _)
theorem nttN_of {a b : Nat → Nat} (h : pM (iP a) (iP b)) (k : Nat) : nttN a k = nttN b k := by
 unfold nttN
 refine rd_of ?_
 split
 ·exact evP_of h
 ·exact odP_of h
theorem invN_of {a b : Nat → Nat} (h : pM (iP a) (iP b)) (k : Nat) : invN a k = invN b k := by
 unfold invN
 refine rd_of (rM_S fun i hi => ((h _ (by omega)).mul (rM.of rfl)).mul (rM.of rfl))
theorem mulN_of {a b a' b' : Nat → Nat} (h : pM (iP a) (iP a')) (h2 : pM (iP b) (iP b')) (k : Nat) : mulN a b k = mulN a' b' k := rd_of (ngc_of h h2 k)
theorem pairN_of {a b a' b' : Nat → Nat} (h : pM (iP a) (iP a')) (h2 : pM (iP b) (iP b')) (k : Nat) (hk : k < 256) : pairN a b k = pairN a' b' k := by
 unfold pairN
 refine rd_of ?_
 split
 ·exact ((h _ (by omega)).mul (h2 _ (by omega))).add ((rM.of rfl).mul ((h _ (by omega)).mul (h2 _ (by omega))))
 ·exact ((h _ (by omega)).mul (h2 _ (by omega))).add ((h _ (by omega)).mul (h2 _ (by omega)))
theorem pM_eq {a b : Nat → Nat} (h : ∀ k, k < 256 → a k = b k) : pM (iP a) (iP b) := fun k hk => rM.of (by unfold iP; rw [h k hk])
theorem pM_refl (a : Nat → Int) : pM a a := fun _ _ => rfl
theorem pM_red (a : Nat → Nat) : pM (iP (redN a)) (iP a) := fun _ _ => rM_rd _
/-- what the transform's numbers are -/
theorem ntt_even (a : Nat → Nat) (i : Nat) : rM (iP (nttN a) (2 * i)) (evP (rtN i) (iP a)) := by
 unfold iP nttN
 rw [if_pos (by omega), show 2 * i / 2 = i by omega]
 exact rM_rd _
theorem ntt_odd (a : Nat → Nat) (i : Nat) : rM (iP (nttN a) (2 * i + 1)) (odP (rtN i) (iP a)) := by
 unfold iP nttN
 rw [if_neg (by omega), show (2 * i + 1) / 2 = i by omega]
 exact rM_rd _
theorem ntt_mulN (a b : Nat → Nat) (k : Nat) (hk : k < 256) : nttN (mulN a b) k = pairN (nttN a) (nttN b) k := by
 have hg := rt_128 (k / 2) (by omega)
 have h : pM (iP (mulN a b)) (ngc (iP a) (iP b)) := fun k _ => rM_rd _
 unfold pairN
 rw [nttN]
 refine rd_of ?_
 split
 ·refine ((evP_of h).trans (ev_ngc hg _ _)).trans ?_
  exact ((ntt_even a _).symm.mul (ntt_even b _).symm).add ((rM.of rfl).mul ((ntt_odd a _).symm.mul (ntt_odd b _).symm))
 ·refine ((odP_of h).trans (od_ngc hg _ _)).trans ?_
  exact ((ntt_even a _).symm.mul (ntt_odd b _).symm).add ((ntt_odd a _).symm.mul (ntt_even b _).symm)
theorem ntt_addN (a b : Nat → Nat) (k : Nat) : nttN (addN a b) k = addN (nttN a) (nttN b) k := by
 have h : pM (iP (addN a b)) (fun i => iP a i + iP b i) := fun k _ => rM_rd _
 unfold addN
 rw [nttN]
 refine rd_of ?_
 have e1 : ∀ g, evP g (fun i => iP a i + iP b i) = evP g (iP a) + evP g (iP b) := fun g => by
  unfold evP
  rw [← rS_add]
  exact rS_congr fun j _ => Int.add_mul _ _ _
 have e2 : ∀ g, odP g (fun i => iP a i + iP b i) = odP g (iP a) + odP g (iP b) := fun g => by
  unfold odP
  rw [← rS_add]
  exact rS_congr fun j _ => Int.add_mul _ _ _
 by_cases hk : k % 2 = 0
 ·rw [if_pos hk]
  refine (evP_of h).trans ?_
  rw [e1]
  have h1 := ntt_even a (k / 2)
  have h2 := ntt_even b (k / 2)
  rw [show 2 * (k / 2) = k by omega] at h1 h2
  exact h1.symm.add h2.symm
 ·rw [if_neg hk]
  refine (odP_of h).trans ?_
  rw [e2]
  have h1 := ntt_odd a (k / 2)
  have h2 := ntt_odd b (k / 2)
  rw [show 2 * (k / 2) + 1 = k by omega] at h1 h2
  exact h1.symm.add h2.symm
theorem inv_ntt (a : Nat → Nat) (k : Nat) (hk : k < 256) : invN (nttN a) k = redN a k := by
 unfold invN redN
 refine rd_of ?_
 by_cases h : k % 2 = 0
 ·have h1 := back_there (fun j => iP a (2 * j)) (k / 2) (by omega)
  rw [show 2 * (k / 2) = k by omega] at h1
  refine (rM_S fun i hi => ?_).trans h1
  rw [h]
  exact ((ntt_even a i).mul (rM.of rfl)).mul (rM.of rfl)
 ·have h1 := back_there (fun j => iP a (2 * j + 1)) (k / 2) (by omega)
  rw [show 2 * (k / 2) + 1 = k by omega] at h1
  refine (rM_S fun i hi => ?_).trans h1
  rw [show k % 2 = 1 by omega]
  exact ((ntt_odd a i).mul (rM.of rfl)).mul (rM.of rfl)
theorem ntt_inv (a : Nat → Nat) (k : Nat) (hk : k < 256) : nttN (invN a) k = redN a k := by
 unfold nttN redN
 refine rd_of ?_
 by_cases h : k % 2 = 0
 ·rw [if_pos h]
  have h1 := there_back (fun i => iP a (2 * i)) (k / 2) (by omega)
  rw [show 2 * (k / 2) = k by omega] at h1
  refine (rM_S fun j hj => ?_).trans h1
  refine rM.mul ?_ (rM.of rfl)
  unfold iP invN
  rw [show 2 * j % 2 = 0 by omega, show 2 * j / 2 = j by omega]
  exact rM_rd _
 ·rw [if_neg h]
  have h1 := there_back (fun i => iP a (2 * i + 1)) (k / 2) (by omega)
  rw [show 2 * (k / 2) + 1 = k by omega] at h1
  refine (rM_S fun j hj => ?_).trans h1
  refine rM.mul ?_ (rM.of rfl)
  unfold iP invN
  rw [show (2 * j + 1) % 2 = 1 by omega, show (2 * j + 1) / 2 = j by omega]
  exact rM_rd _
theorem rd_rd (x : Int) : rd ((rd x : Nat) : Int) = rd x := rd_of (rM_rd x)
/-- a product by its transforms -/
theorem mul_inv (a b : Nat → Nat) (k : Nat) (hk : k < 256) : mulN a b k = invN (pairN (nttN a) (nttN b)) k := by
 rw [← invN_of (pM_eq fun k hk => ntt_mulN a b k hk) k, inv_ntt _ k hk]
 unfold redN mulN
 exact (rd_rd _).symm
theorem add_comm' (a b : Nat → Nat) (k : Nat) : addN a b k = addN b a k := by unfold addN; rw [Int.add_comm]
theorem add_assoc' (a b c : Nat → Nat) (k : Nat) : addN (addN a b) c k = addN a (addN b c) k := by
 unfold addN
 refine rd_of ?_
 refine ((rM_rd _).add (rM.of rfl)).trans (rM.trans (rM.of (by omega)) ((rM.of rfl).add (rM_rd _).symm))
theorem sub_add' (a b : Nat → Nat) (k : Nat) : subN (addN a b) b k = redN a k := by
 unfold subN addN redN
 refine rd_of (((rM_rd _).sub (rM.of rfl)).trans (rM.of (by omega)))
theorem pair_comm (a b : Nat → Nat) (k : Nat) : pairN a b k = pairN b a k := by
 unfold pairN
 refine rd_of (rM.of ?_)
 split <;> grind
theorem pair_even (a b : Nat → Nat) (i : Nat) : rM (iP (pairN a b) (2 * i)) (iP a (2 * i) * iP b (2 * i) + rtN i * (iP a (2 * i + 1) * iP b (2 * i + 1))) := by
 rw [show iP (pairN a b) (2 * i) = ((pairN a b (2 * i) : Nat) : Int) from rfl]
 unfold pairN
 rw [if_pos (by omega), show 2 * i / 2 = i by omega]
 exact rM_rd _
theorem pair_odd (a b : Nat → Nat) (i : Nat) : rM (iP (pairN a b) (2 * i + 1)) (iP a (2 * i) * iP b (2 * i + 1) + iP a (2 * i + 1) * iP b (2 * i)) := by
 rw [show iP (pairN a b) (2 * i + 1) = ((pairN a b (2 * i + 1) : Nat) : Int) from rfl]
 unfold pairN
 rw [if_neg (by omega), show (2 * i + 1) / 2 = i by omega]
 exact rM_rd _
theorem pair_assoc (a b c : Nat → Nat) (k : Nat) : pairN (pairN a b) c k = pairN a (pairN b c) k := by
 rw [pairN, pairN]
 refine rd_of ?_
 have e1 := pair_even a b (k / 2)
 have e2 := pair_odd a b (k / 2)
 have e3 := pair_even b c (k / 2)
 have e4 := pair_odd b c (k / 2)
 by_cases h : k % 2 = 0
 ·rw [if_pos h, if_pos h]
  refine ((e1.mul (rM.of rfl)).add ((rM.of rfl).mul (e2.mul (rM.of rfl)))).trans (rM.trans (rM.of ?_) (((rM.of rfl).mul e3.symm).add ((rM.of rfl).mul ((rM.of rfl).mul e4.symm))))
  grind
 ·rw [if_neg h, if_neg h]
  refine ((e1.mul (rM.of rfl)).add (e2.mul (rM.of rfl))).trans (rM.trans (rM.of ?_) (((rM.of rfl).mul e4.symm).add ((rM.of rfl).mul e3.symm)))
  grind
theorem pair_add (a b c : Nat → Nat) (k : Nat) : pairN a (addN b c) k = addN (pairN a b) (pairN a c) k := by
 have e : ∀ j, rM (iP (addN b c) j) (iP b j + iP c j) := fun j => rM_rd _
 have e1 := pair_even a b (k / 2)
 have e2 := pair_odd a b (k / 2)
 have e3 := pair_even a c (k / 2)
 have e4 := pair_odd a c (k / 2)
 rw [pairN]
 rw [show addN (pairN a b) (pairN a c) k = rd (iP (pairN a b) k + iP (pairN a c) k) from rfl]
 refine rd_of ?_
 by_cases h : k % 2 = 0
 ·rw [show 2 * (k / 2) = k by omega] at *
  rw [if_pos h]
  refine (((rM.of rfl).mul (e _)).add ((rM.of rfl).mul ((rM.of rfl).mul (e _)))).trans (rM.trans (rM.of ?_) (e1.symm.add e3.symm))
  grind
 ·rw [if_neg h]
  refine (((rM.of rfl).mul (e _)).add ((rM.of rfl).mul (e _))).trans (rM.trans (rM.of ?_) (rM.trans (e2.symm.add e4.symm) (rM.of ?_)))
  ·grind
  ·rw [show 2 * (k / 2) + 1 = k by omega]
theorem mul_comm' (a b : Nat → Nat) (k : Nat) (hk : k < 256) : mulN a b k = mulN b a k := by
 rw [mul_inv a b k hk, mul_inv b a k hk]
 exact invN_of (pM_eq fun k _ => pair_comm _ _ k) k
theorem mul_assoc' (a b c : Nat → Nat) (k : Nat) (hk : k < 256) : mulN (mulN a b) c k = mulN a (mulN b c) k := by
 rw [mul_inv _ _ k hk, mul_inv a _ k hk]
 refine invN_of (pM_eq fun k hk => ?_) k
 rw [pairN_of (pM_eq fun k hk => ntt_mulN a b k hk) (pM_refl _) k hk, pairN_of (pM_refl _) (pM_eq fun k hk => ntt_mulN b c k hk) k hk]
 exact pair_assoc _ _ _ k
theorem inv_addN (a b : Nat → Nat) (k : Nat) (hk : k < 256) : invN (addN a b) k = addN (invN a) (invN b) k := by
 have h : pM (iP (addN a b)) (iP (nttN (addN (invN a) (invN b)))) := fun k hk => by
  refine rM.trans ?_ (rM.of (show iP (addN (nttN (invN a)) (nttN (invN b))) k = _ from by unfold iP; rw [ntt_addN]))
  refine (rM_rd _).trans (rM.trans ?_ (rM_rd _).symm)
  rw [ntt_inv a k hk, ntt_inv b k hk]
  exact (rM_rd _).symm.add (rM_rd _).symm
 rw [invN_of h k, inv_ntt _ k hk]
 exact rd_rd _
theorem mul_add' (a b c : Nat → Nat) (k : Nat) (hk : k < 256) : mulN a (addN b c) k = addN (mulN a b) (mulN a c) k := by
 have h1 : mulN a (addN b c) k = invN (addN (pairN (nttN a) (nttN b)) (pairN (nttN a) (nttN c))) k := by
  rw [mul_inv _ _ k hk]
  refine invN_of (pM_eq fun k hk => ?_) k
  rw [pairN_of (pM_refl _) (pM_eq fun k _ => ntt_addN b c k) k hk]
  exact pair_add _ _ _ k
 rw [h1, inv_addN _ _ k hk]
 unfold addN
 rw [mul_inv a b k hk, mul_inv a c k hk]
/-- the polynomial 1 -/
def oneN (k : Nat) : Nat := if k = 0 then 1 else 0
theorem ntt_one (i : Nat) : rM (iP (nttN oneN) (2 * i)) 1 ∧ rM (iP (nttN oneN) (2 * i + 1)) 0 := by
 constructor
 ·refine (ntt_even _ _).trans (rM.of ?_)
  unfold evP
  rw [show (fun j => iP oneN (2 * j) * (rtN i : Int) ^ j) = (fun j => if 0 = j then 1 else 0) from funext fun j => by
   unfold iP oneN
   by_cases h : j = 0
   ·subst h; rfl
   ·rw [if_neg (by omega), if_neg (by omega)]; simp]
  rw [rS_pick (fun _ => 1) 0, if_pos (by decide)]
 ·refine (ntt_odd _ _).trans (rM.of ?_)
  unfold odP
  rw [← rS_zero 128]
  refine rS_congr fun j _ => ?_
  unfold iP oneN
  rw [if_neg (by omega)]
  simp
theorem mul_one' (a : Nat → Nat) (k : Nat) (hk : k < 256) : mulN a oneN k = redN a k := by
 rw [mul_inv a _ k hk, ← inv_ntt a k hk]
 refine invN_of (fun k hk => ?_) k
 obtain ⟨h1, h2⟩ := ntt_one (k / 2)
 rw [show iP (pairN (nttN a) (nttN oneN)) k = ((pairN (nttN a) (nttN oneN) k : Nat) : Int) from rfl, pairN]
 refine (rM_rd _).trans ?_
 by_cases h : k % 2 = 0
 ·rw [if_pos h]
  refine (((rM.of rfl).mul h1).add ((rM.of rfl).mul ((rM.of rfl).mul h2))).trans (rM.of ?_)
  rw [show 2 * (k / 2) = k by omega]
  simp
 ·rw [if_neg h]
  refine (((rM.of rfl).mul h2).add ((rM.of rfl).mul h1)).trans (rM.of ?_)
  rw [show 2 * (k / 2) + 1 = k by omega]
  simp
end Go.Proofs.YtfcgdjgfdbcddaaDoor

/-
 THE FAST TRANSFORM, layer by layer: a block of L numbers is the remainder modulo X^L - r.
-/
namespace Go.Proofs.YtfcgdjgfdbcddaaDoor
set_option maxRecDepth 100000
/-- number i of the remainder modulo X^L - r of a polynomial of L * J numbers -/
def blk (L J : Nat) (r : Int) (a : Nat → Int) (i : Nat) : Int := rS J (fun j => a (i + L * j) * r ^ j)
theorem blk_one (L : Nat) (r : Int) (a : Nat → Int) (i : Nat) : blk L 1 r a i = a i := by
 unfold blk
 show 0 + a (i + L * 0) * r ^ 0 = a i
 rw [Int.pow_zero, Nat.mul_zero, Nat.add_zero]
 omega
theorem blk_even (g : Int) (a : Nat → Int) : blk 2 128 g a 0 = evP g a := rS_congr fun j _ => by rw [Nat.zero_add]
theorem blk_odd (g : Int) (a : Nat → Int) : blk 2 128 g a 1 = odP g a := rS_congr fun j _ => by rw [Nat.add_comm 1]
/-- a block parts into two -/
theorem blk_split (L J : Nat) {s r : Int} (h : rM (s * s) r) (a : Nat → Int) (i : Nat) : rM (blk L (2 * J) s a i) (blk (2 * L) J r a i + s * blk (2 * L) J r a (i + L)) := by
 unfold blk
 rw [rS_two, ← rS_mul]
 refine rM.add (rM_S fun j _ => ?_) (rM_S fun j _ => ?_)
 ·rw [show i + L * (2 * j) = i + 2 * L * j by grind, Int.pow_mul]
  exact (rM.of rfl).mul (rM.pow (by rw [show s ^ 2 = s * s by grind]; exact h) j)
 ·rw [show i + L * (2 * j + 1) = i + L + 2 * L * j by grind, Int.pow_succ, Int.pow_mul]
  refine ((rM.of rfl).mul ((rM.pow (by rw [show s ^ 2 = s * s by grind]; exact h) j).mul (rM.of rfl))).trans (rM.of ?_)
  grind
theorem blk_split' (L J : Nat) {s r : Int} (h : rM (s * s) r) (a : Nat → Int) (i : Nat) : rM (blk L (2 * J) (-s) a i) (blk (2 * L) J r a i - s * blk (2 * L) J r a (i + L)) := by
 refine (blk_split L J (s := -s) (by rw [show -s * -s = s * s by grind]; exact h) a i).trans (rM.of ?_)
 grind
/-- two halves are put together: twice the block -/
theorem blk_join (L J : Nat) {s r : Int} (h : rM (s * s) r) (a : Nat → Int) (i : Nat) : rM (blk L (2 * J) s a i + blk L (2 * J) (-s) a i) (2 * blk (2 * L) J r a i) :=
 ((blk_split L J h a i).add (blk_split' L J h a i)).trans (rM.of (by omega))
theorem blk_join' (L J : Nat) {s r t : Int} (h : rM (s * s) r) (ht : rM (s * t) 1) (a : Nat → Int) (i : Nat) : rM ((blk L (2 * J) s a i - blk L (2 * J) (-s) a i) * t) (2 * blk (2 * L) J r a (i + L)) := by
 refine (((blk_split L J h a i).sub (blk_split' L J h a i)).mul (rM.of rfl)).trans ?_
 refine rM.trans (rM.of (show _ = 2 * blk (2 * L) J r a (i + L) * (s * t) by grind)) ?_
 refine ((rM.of rfl).mul ht).trans (rM.of (by omega))
end Go.Proofs.YtfcgdjgfdbcddaaDoor

/-
 COMPRESSION, number by number.
-/
namespace Go.Proofs.YtfcgdjgfdbcddaaDoor
def cmpN (d x : Nat) : Nat := ((2 * x * 2 ^ d + 3329) / (2 * 3329)) % 2 ^ d
def dcmN (d y : Nat) : Nat := (2 * y * 3329 + 2 ^ d) / (2 * 2 ^ d)
theorem cmpN_lt (d x : Nat) : cmpN d x < 2 ^ d := Nat.mod_lt _ (Nat.two_pow_pos d)
theorem dcmN_lt (d y : Nat) (hd : d ≤ 12) (hy : y < 2 ^ d) : dcmN d y < 65536 := by
 unfold dcmN
 have h1 : 2 ^ d ≤ 2 ^ 12 := Nat.pow_le_pow_right (by decide) hd
 have h2 : 2 ^ 12 = 4096 := by decide
 have h0 := Nat.two_pow_pos d
 generalize 2 ^ d = P at *
 refine Nat.div_lt_of_lt_mul ?_
 have : P * 65536 ≥ P * 1 := Nat.mul_le_mul_left _ (by decide)
 have h3 : y * 3329 ≤ 4096 * 3329 := Nat.mul_le_mul_right _ (by omega)
 have h4 : y ≤ P - 1 := by omega
 have h5 : y * 3329 ≤ P * 3329 := Nat.mul_le_mul_right _ (by omega)
 rw [Nat.mul_assoc, Nat.mul_assoc]
 omega
def cmpP (d : Nat) (p : Nat → Nat) (k : Nat) : Nat := cmpN d (p k % 3329)
def dcmP (d : Nat) (p : Nat → Nat) (k : Nat) : Nat := dcmN d (p k % 2 ^ d)
end Go.Proofs.YtfcgdjgfdbcddaaDoor
