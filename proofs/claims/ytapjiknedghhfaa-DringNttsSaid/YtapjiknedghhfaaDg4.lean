/-
 THE FAST TRANSFORM, layer by layer: a block of L numbers is the remainder modulo X^L - r.
-/
import Derived.Test.YtapjiknedghhfaaDg3
import Derived.Test.YtapjiknedghhfaaDd1
namespace Go.Proofs.Ytapjiknedghhfaa
set_option maxRecDepth 100000
/-- number i of the remainder modulo X^L - r of a polynomial of L * J numbers -/
def qblk (L J : Nat) (r : Int) (a : Nat → Int) (i : Nat) : Int := rS J (fun j => a (i + L * j) * r ^ j)
theorem qblk_one (L : Nat) (r : Int) (a : Nat → Int) (i : Nat) : qblk L 1 r a i = a i := by
 unfold qblk
 show 0 + a (i + L * 0) * r ^ 0 = a i
 rw [Int.pow_zero, Nat.mul_zero, Nat.add_zero]
 omega
/-- a block parts into two -/
theorem qblk_split (L J : Nat) {s r : Int} (h : qM (s * s) r) (a : Nat → Int) (i : Nat) : qM (qblk L (2 * J) s a i) (qblk (2 * L) J r a i + s * qblk (2 * L) J r a (i + L)) := by
 unfold qblk
 rw [rS_two, ← rS_mul]
 refine qM.add (qM_S fun j _ => ?_) (qM_S fun j _ => ?_)
 ·rw [show i + L * (2 * j) = i + 2 * L * j by grind, Int.pow_mul]
  exact (qM.of rfl).mul (qM.pow (by rw [show s ^ 2 = s * s by grind]; exact h) j)
 ·rw [show i + L * (2 * j + 1) = i + L + 2 * L * j by grind, Int.pow_succ, Int.pow_mul]
  refine ((qM.of rfl).mul ((qM.pow (by rw [show s ^ 2 = s * s by grind]; exact h) j).mul (qM.of rfl))).trans (qM.of ?_)
  grind
theorem qblk_split' (L J : Nat) {s r : Int} (h : qM (s * s) r) (a : Nat → Int) (i : Nat) : qM (qblk L (2 * J) (-s) a i) (qblk (2 * L) J r a i - s * qblk (2 * L) J r a (i + L)) := by
 refine (qblk_split L J (s := -s) (by rw [show -s * -s = s * s by grind]; exact h) a i).trans (qM.of ?_)
 grind
/-- two halves are put together: twice the block -/
theorem qblk_join (L J : Nat) {s r : Int} (h : qM (s * s) r) (a : Nat → Int) (i : Nat) : qM (qblk L (2 * J) s a i + qblk L (2 * J) (-s) a i) (2 * qblk (2 * L) J r a i) :=
 ((qblk_split L J h a i).add (qblk_split' L J h a i)).trans (qM.of (by omega))
theorem qblk_join' (L J : Nat) {s r t : Int} (h : qM (s * s) r) (ht : qM (s * t) 1) (a : Nat → Int) (i : Nat) : qM ((qblk L (2 * J) s a i - qblk L (2 * J) (-s) a i) * t) (2 * qblk (2 * L) J r a (i + L)) := by
 refine (((qblk_split L J h a i).sub (qblk_split' L J h a i)).mul (qM.of rfl)).trans ?_
 refine qM.trans (qM.of (show _ = 2 * qblk (2 * L) J r a (i + L) * (s * t) by grind)) ?_
 refine ((qM.of rfl).mul ht).trans (qM.of (by omega))
/-- 1753 to the power rev -/
def wQ (t : Nat) : Nat := 1753 ^ rvQ t % 8380417
theorem wQ_lt (t : Nat) : wQ t < 8380417 := Nat.mod_lt _ (by decide)
/-- the root of a node of the tree: node 1 is all, 2 t and 2 t + 1 are the halves of t -/
def qnodeR (u : Nat) : Int := if u = 1 then -1 else if u % 2 = 0 then (wQ (u / 2) : Int) else -(wQ (u / 2) : Int)
theorem qnode_sq' : ((List.range 256).all fun t => decide (t = 0 ∨ (wQ t * wQ t) % 8380417 = if t = 1 then 8380416 else if t % 2 = 0 then wQ (t / 2) else (8380417 - wQ (t / 2)) % 8380417)) = true := by decide +kernel
theorem qnode_leaf' : ((List.range 256).all fun i => decide (rtQ i = if i % 2 = 0 then wQ (128 + i / 2) else (8380417 - wQ (128 + i / 2)) % 8380417)) = true := by decide +kernel
theorem qnode_inv' : (([1, 2, 4, 8, 16, 32, 64, 128] : List Nat).all fun J => (List.range J).all fun k => decide (wQ (2 * J - 1 - k) * wQ (J + k) % 8380417 = 8380416)) = true := by decide +kernel
theorem qnode_sq (t : Nat) (h0 : 1 ≤ t) (ht : t < 256) : qM ((wQ t : Int) * (wQ t : Int)) (qnodeR t) := by
 have h := List.all_eq_true.1 qnode_sq' t (List.mem_range.2 ht)
 simp only [decide_eq_true_eq] at h
 have h1 : (wQ t * wQ t) % 8380417 = if t = 1 then 8380416 else if t % 2 = 0 then wQ (t / 2) else (8380417 - wQ (t / 2)) % 8380417 := by
  rcases h with h | h
  ·omega
  ·exact h
 have h2 := wQ_lt (t / 2)
 unfold qM qnodeR
 rw [← Int.natCast_mul]
 generalize wQ t * wQ t = X at *
 generalize wQ (t / 2) = Y at *
 split at h1
 ·rw [if_pos (by assumption)]
  omega
 ·rw [if_neg (by assumption)]
  split at h1
  ·rw [if_pos (by assumption)]
   omega
  ·rw [if_neg (by assumption)]
   omega
theorem qnode_leaf (i : Nat) (hi : i < 256) : qM (qnodeR (256 + i)) (rtQ i : Int) := by
 have h := List.all_eq_true.1 qnode_leaf' i (List.mem_range.2 hi)
 simp only [decide_eq_true_eq] at h
 unfold qM qnodeR
 rw [if_neg (by omega), show (256 + i) / 2 = 128 + i / 2 by omega]
 have h2 := wQ_lt (128 + i / 2)
 generalize wQ (128 + i / 2) = Y at *
 by_cases hp : i % 2 = 0
 ·rw [if_pos (by omega)]
  rw [if_pos hp] at h
  omega
 ·rw [if_neg (by omega)]
  rw [if_neg hp] at h
  omega
theorem qnode_inv (J k : Nat) (hJ : J = 1 ∨ J = 2 ∨ J = 4 ∨ J = 8 ∨ J = 16 ∨ J = 32 ∨ J = 64 ∨ J = 128) (hk : k < J) : qM ((wQ (2 * J - 1 - k) : Int) * (wQ (J + k) : Int)) (-1) := by
 have h := List.all_eq_true.1 qnode_inv' J (by rcases hJ with rfl | rfl | rfl | rfl | rfl | rfl | rfl | rfl <;> decide)
 have h2 := List.all_eq_true.1 h k (List.mem_range.2 hk)
 simp only [decide_eq_true_eq] at h2
 unfold qM
 rw [← Int.natCast_mul]
 omega
theorem qnode_two (t : Nat) : qnodeR (2 * t) = (wQ t : Int) := by
 unfold qnodeR
 rw [if_neg (by omega), if_pos (by omega), show 2 * t / 2 = t by omega]
theorem qnode_odd (t : Nat) (h : 1 ≤ t) : qnodeR (2 * t + 1) = -(wQ t : Int) := by
 unfold qnodeR
 rw [if_neg (by omega), if_neg (by omega), show (2 * t + 1) / 2 = t by omega]
/-- a layer: J blocks of L numbers each -/
def qlay (L J : Nat) (a : Nat → Int) (x : Nat) : Int := qblk L J (qnodeR (J + x / L)) a (x % L)
theorem qblk_r {L J : Nat} {s t : Int} (h : qM s t) (a : Nat → Int) (i : Nat) : qM (qblk L J s a i) (qblk L J t a i) := qM_S fun j _ => (qM.of rfl).mul (h.pow j)
theorem qlay_first (a : Nat → Int) (x : Nat) (hx : x < 256) : qlay 256 1 a x = a x := by
 unfold qlay
 rw [qblk_one, Nat.mod_eq_of_lt hx]
theorem qlay_last (a : Nat → Int) (x : Nat) (hx : x < 256) : qM (qlay 1 256 a x) (evD (rtQ x) a) := by
 unfold qlay
 rw [Nat.div_one, Nat.mod_one]
 refine (qblk_r (qnode_leaf x hx) a _).trans (qM.of ?_)
 unfold qblk evD
 exact rS_congr fun j _ => by rw [Nat.zero_add, Nat.one_mul]
theorem qdivs (H k j : Nat) (hj : j < H) : (2 * H * k + j) / H = 2 * k ∧ (2 * H * k + j) % H = j ∧ (2 * H * k + j) / (2 * H) = k ∧ (2 * H * k + j) % (2 * H) = j ∧ (2 * H * k + j + H) / H = 2 * k + 1 ∧ (2 * H * k + j + H) % H = j ∧ (2 * H * k + j + H) / (2 * H) = k ∧ (2 * H * k + j + H) % (2 * H) = j + H := by
 have h0 : 0 < H := by omega
 have e1 : 2 * H * k + j = j + H * (2 * k) := by grind
 have e2 : 2 * H * k + j + H = j + H * (2 * k + 1) := by grind
 have e3 : 2 * H * k + j = j + 2 * H * k := by omega
 have e4 : 2 * H * k + j + H = j + H + 2 * H * k := by omega
 refine ⟨?_, ?_, ?_, ?_, ?_, ?_, ?_, ?_⟩
 ·rw [e1, Nat.add_mul_div_left _ _ h0, Nat.div_eq_of_lt hj, Nat.zero_add]
 ·rw [e1, Nat.add_mul_mod_self_left, Nat.mod_eq_of_lt hj]
 ·rw [e3, Nat.add_mul_div_left _ _ (by omega), Nat.div_eq_of_lt (by omega), Nat.zero_add]
 ·rw [e3, Nat.add_mul_mod_self_left, Nat.mod_eq_of_lt (by omega)]
 ·rw [e2, Nat.add_mul_div_left _ _ h0, Nat.div_eq_of_lt hj, Nat.zero_add]
 ·rw [e2, Nat.add_mul_mod_self_left, Nat.mod_eq_of_lt hj]
 ·rw [e4, Nat.add_mul_div_left _ _ (by omega), Nat.div_eq_of_lt (by omega), Nat.zero_add]
 ·rw [e4, Nat.add_mul_mod_self_left, Nat.mod_eq_of_lt (by omega)]
theorem qlay_lo (H J k j : Nat) (hJ : 1 ≤ J) (hJ2 : J ≤ 128) (hk : k < J) (hj : j < H) (a : Nat → Int) : qM (qlay H (2 * J) a (2 * H * k + j)) (qlay (2 * H) J a (2 * H * k + j) + (wQ (J + k) : Int) * qlay (2 * H) J a (2 * H * k + j + H)) := by
 obtain ⟨d1, d2, d3, d4, d5, d6, d7, d8⟩ := qdivs H k j hj
 unfold qlay
 rw [d1, d2, d3, d4, d7, d8, show 2 * J + 2 * k = 2 * (J + k) by omega, qnode_two]
 exact qblk_split H J (qnode_sq (J + k) (by omega) (by omega)) a j
theorem qlay_hi (H J k j : Nat) (hJ : 1 ≤ J) (hJ2 : J ≤ 128) (hk : k < J) (hj : j < H) (a : Nat → Int) : qM (qlay H (2 * J) a (2 * H * k + j + H)) (qlay (2 * H) J a (2 * H * k + j) - (wQ (J + k) : Int) * qlay (2 * H) J a (2 * H * k + j + H)) := by
 obtain ⟨d1, d2, d3, d4, d5, d6, d7, d8⟩ := qdivs H k j hj
 unfold qlay
 rw [d5, d6, d3, d4, d7, d8, show 2 * J + (2 * k + 1) = 2 * (J + k) + 1 by omega, qnode_odd _ (by omega)]
 exact qblk_split' H J (qnode_sq (J + k) (by omega) (by omega)) a j
/-- the numbers of a layer, times e -/
def layD (e : Int) (L J : Nat) (p : Nat → Int) (x : Nat) : Int := qd (e * qlay L J p x)
theorem layD_lt (e : Int) (L J : Nat) (p : Nat → Int) (x : Nat) : 0 ≤ layD e L J p x ∧ layD e L J p x < 8380417 := qd_lt _
theorem layD_first (p : Nat → Int) (x : Nat) (hx : x < 256) : layD 1 256 1 p x = redD p x := by
 unfold layD redD
 rw [qlay_first _ _ hx, Int.one_mul]
theorem layD_last (p : Nat → Int) (x : Nat) (hx : x < 256) : layD 1 1 256 p x = nttD p x := by
 unfold layD nttD
 rw [Int.one_mul]
 exact qd_of (qlay_last _ _ hx)
theorem qM_layD (e : Int) (L J : Nat) (p : Nat → Int) (x : Nat) : qM (layD e L J p x) (e * qlay L J p x) := qM_qd _
theorem layD_lo (H J k j : Nat) (hJ : 1 ≤ J) (hJ2 : J ≤ 128) (hk : k < J) (hj : j < H) (p : Nat → Int) : layD 1 H (2 * J) p (2 * H * k + j) = qd (layD 1 (2 * H) J p (2 * H * k + j) + qd ((wQ (J + k) : Int) * layD 1 (2 * H) J p (2 * H * k + j + H))) := by
 refine qd_of ?_
 rw [Int.one_mul]
 refine (qlay_lo H J k j hJ hJ2 hk hj _).trans (qM.symm ?_)
 refine ((qM_layD _ _ _ _ _).trans (qM.of (Int.one_mul _))).add ?_
 exact (qM_qd _).trans ((qM.of rfl).mul ((qM_layD _ _ _ _ _).trans (qM.of (Int.one_mul _))))
theorem layD_hi (H J k j : Nat) (hJ : 1 ≤ J) (hJ2 : J ≤ 128) (hk : k < J) (hj : j < H) (p : Nat → Int) : layD 1 H (2 * J) p (2 * H * k + j + H) = qd (layD 1 (2 * H) J p (2 * H * k + j) - qd ((wQ (J + k) : Int) * layD 1 (2 * H) J p (2 * H * k + j + H))) := by
 refine qd_of ?_
 rw [Int.one_mul]
 refine (qlay_hi H J k j hJ hJ2 hk hj _).trans (qM.symm ?_)
 refine ((qM_layD _ _ _ _ _).trans (qM.of (Int.one_mul _))).sub ?_
 exact (qM_qd _).trans ((qM.of rfl).mul ((qM_layD _ _ _ _ _).trans (qM.of (Int.one_mul _))))
/-- back: two halves make twice the block -/
theorem layE_lo (e : Int) (H J k j : Nat) (hJ : 1 ≤ J) (hJ2 : J ≤ 128) (hk : k < J) (hj : j < H) (p : Nat → Int) : layD (2 * e) (2 * H) J p (2 * H * k + j) = qd (layD e H (2 * J) p (2 * H * k + j) + layD e H (2 * J) p (2 * H * k + j + H)) := by
 refine qd_of (qM.symm ?_)
 refine ((qM_layD _ _ _ _ _).add (qM_layD _ _ _ _ _)).trans ?_
 refine (((qM.of rfl).mul (qlay_lo H J k j hJ hJ2 hk hj _)).add ((qM.of rfl).mul (qlay_hi H J k j hJ hJ2 hk hj _))).trans (qM.of ?_)
 generalize qlay (2 * H) J p (2 * H * k + j) = A
 generalize (wQ (J + k) : Int) * qlay (2 * H) J p (2 * H * k + j + H) = B
 grind
theorem layE_hi (e : Int) (H J k j : Nat) (hJ : J = 1 ∨ J = 2 ∨ J = 4 ∨ J = 8 ∨ J = 16 ∨ J = 32 ∨ J = 64 ∨ J = 128) (hk : k < J) (hj : j < H) (p : Nat → Int) : layD (2 * e) (2 * H) J p (2 * H * k + j + H) = qd ((wQ (2 * J - 1 - k) : Int) * qd (layD e H (2 * J) p (2 * H * k + j + H) - layD e H (2 * J) p (2 * H * k + j))) := by
 have hJ1 : 1 ≤ J := by omega
 have hJ2 : J ≤ 128 := by omega
 refine qd_of (qM.symm ?_)
 have h2 : qM (qd (layD e H (2 * J) p (2 * H * k + j + H) - layD e H (2 * J) p (2 * H * k + j))) (-(2 * e) * ((wQ (J + k) : Int) * qlay (2 * H) J p (2 * H * k + j + H))) := by
  refine (qM_qd _).trans (((qM_layD _ _ _ _ _).sub (qM_layD _ _ _ _ _)).trans ?_)
  refine (((qM.of rfl).mul (qlay_hi H J k j hJ1 hJ2 hk hj _)).sub ((qM.of rfl).mul (qlay_lo H J k j hJ1 hJ2 hk hj _))).trans (qM.of ?_)
  generalize qlay (2 * H) J p (2 * H * k + j) = A
  generalize (wQ (J + k) : Int) * qlay (2 * H) J p (2 * H * k + j + H) = B
  grind
 refine ((qM.of rfl).mul h2).trans ?_
 generalize qlay (2 * H) J p (2 * H * k + j + H) = A
 refine (qM.of (show _ = (-(2 * e) * A) * ((wQ (2 * J - 1 - k) : Int) * (wQ (J + k) : Int)) by grind)).trans ?_
 refine ((qM.of rfl).mul (qnode_inv J k hJ hk)).trans (qM.of ?_)
 grind
/-- at the end of the way back -/
theorem layE_end (p : Nat → Int) (x : Nat) (hx : x < 256) : qd (layD 256 256 1 p x * 8347681) = redD p x := by
 refine qd_of (((qM_layD _ _ _ _ _).mul (qM.of rfl)).trans ?_)
 rw [qlay_first _ _ hx]
 unfold qM
 omega
theorem layE_start (p : Nat → Int) (x : Nat) (hx : x < 256) : layD 1 1 256 (invD p) x = redD p x := by rw [layD_last _ _ hx, ntt_invD _ _ hx]
/-- in the middle of a layer: k blocks and j numbers of the next one are done -/
def midD (H k j : Nat) (r p : Nat → Int) (x : Nat) : Int := if x / (2 * H) < k ∨ x / (2 * H) = k ∧ x % H < j then r x else p x
def qisHalf (H : Nat) : Prop := H = 128 ∨ H = 64 ∨ H = 32 ∨ H = 16 ∨ H = 8 ∨ H = 4 ∨ H = 2 ∨ H = 1
theorem qmid_start (H : Nat) (r p : Nat → Int) : dc (midD H 0 0 r p) = dc p := dc_of fun i _ => by
 unfold midD
 rw [if_neg (fun h => h.elim (Nat.not_lt_zero _) (fun h => Nat.not_lt_zero _ h.2))]
theorem qmid_next (H k : Nat) (hH : qisHalf H) (r p : Nat → Int) : dc (midD H k H r p) = dc (midD H (k + 1) 0 r p) := dc_of fun i _ => by
 unfold midD
 have h : (i / (2 * H) < k ∨ i / (2 * H) = k ∧ i % H < H) ↔ (i / (2 * H) < k + 1 ∨ i / (2 * H) = k + 1 ∧ i % H < 0) := by
  rcases hH with rfl | rfl | rfl | rfl | rfl | rfl | rfl | rfl <;> omega
 by_cases h1 : i / (2 * H) < k ∨ i / (2 * H) = k ∧ i % H < H
 ·rw [if_pos h1, if_pos (h.1 h1)]
 ·rw [if_neg h1, if_neg (fun q => h1 (h.2 q))]
theorem qmid_end (H J : Nat) (hH : qisHalf H) (hJ : H * J = 128) (r p : Nat → Int) : dc (midD H J 0 r p) = dc r := dc_of fun i hi => by
 unfold midD
 rw [if_pos]
 rcases hH with rfl | rfl | rfl | rfl | rfl | rfl | rfl | rfl <;> omega
theorem qmid_lo (H k j : Nat) (hj : j < H) (r p : Nat → Int) : midD H k j r p (2 * H * k + j) = p (2 * H * k + j) := by
 unfold midD
 obtain ⟨_, d2, d3, _⟩ := qdivs H k j hj
 rw [d2, d3, if_neg (by omega)]
theorem qmid_hi (H k j : Nat) (hj : j < H) (r p : Nat → Int) : midD H k j r p (2 * H * k + j + H) = p (2 * H * k + j + H) := by
 unfold midD
 obtain ⟨_, _, _, _, _, d6, d7, _⟩ := qdivs H k j hj
 rw [d6, d7, if_neg (by omega)]
theorem qmid_two (H k j : Nat) (hH : qisHalf H) (hj : j < H) (r p : Nat → Int) : dc (dup (dup (midD H k j r p) (2 * H * k + j) (r (2 * H * k + j))) (2 * H * k + j + H) (r (2 * H * k + j + H))) = dc (midD H k (j + 1) r p) := dc_of fun i _ => by
 have h : (i / (2 * H) < k ∨ i / (2 * H) = k ∧ i % H < j + 1) ↔ ((i / (2 * H) < k ∨ i / (2 * H) = k ∧ i % H < j) ∨ i = 2 * H * k + j ∨ i = 2 * H * k + j + H) := by
  rcases hH with rfl | rfl | rfl | rfl | rfl | rfl | rfl | rfl <;> omega
 unfold dup midD
 by_cases h1 : i = 2 * H * k + j + H
 ·rw [if_pos h1, if_pos (h.2 (by omega)), h1]
 ·rw [if_neg h1]
  by_cases h2 : i = 2 * H * k + j
  ·rw [if_pos h2, if_pos (h.2 (by omega)), h2]
  ·rw [if_neg h2]
   by_cases h3 : i / (2 * H) < k ∨ i / (2 * H) = k ∧ i % H < j
   ·rw [if_pos h3, if_pos (h.2 (.inl h3))]
   ·rw [if_neg h3, if_neg (fun q => (h.1 q).elim h3 (fun q => q.elim h2 h1))]
end Go.Proofs.Ytapjiknedghhfaa
