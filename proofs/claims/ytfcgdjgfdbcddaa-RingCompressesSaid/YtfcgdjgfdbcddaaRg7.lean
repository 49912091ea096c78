/-
 THE FAST TRANSFORM: the tree of remainders, layer by layer.
-/
import Derived.Test.YtfcgdjgfdbcddaaRg4
import Derived.Test.YtfcgdjgfdbcddaaRp1
namespace Go.Proofs.Ytfcgdjgfdbcddaa
set_option maxRecDepth 100000
/-- 17 to the power rev -/
def wN (t : Nat) : Nat := 17 ^ rvN t % 3329
theorem wN_lt (t : Nat) : wN t < 3329 := Nat.mod_lt _ (by decide)
/-- the root of a node of the tree: node 1 is all, 2 t and 2 t + 1 are the halves of t -/
def nodeR (u : Nat) : Int := if u = 1 then -1 else if u % 2 = 0 then (wN (u / 2) : Int) else -(wN (u / 2) : Int)
theorem node_sq' : ((List.range 128).all fun t => decide (t = 0 ∨ (wN t * wN t) % 3329 = if t = 1 then 3328 else if t % 2 = 0 then wN (t / 2) else (3329 - wN (t / 2)) % 3329)) = true := by decide +kernel
theorem node_leaf' : ((List.range 128).all fun i => decide (rtN i = if i % 2 = 0 then wN (64 + i / 2) else (3329 - wN (64 + i / 2)) % 3329)) = true := by decide +kernel
theorem node_inv' : (([1, 2, 4, 8, 16, 32, 64] : List Nat).all fun J => (List.range J).all fun k => decide (wN (2 * J - 1 - k) * wN (J + k) % 3329 = 3328)) = true := by decide +kernel
theorem node_sq (t : Nat) (h0 : 1 ≤ t) (ht : t < 128) : rM ((wN t : Int) * (wN t : Int)) (nodeR t) := by
 have h := List.all_eq_true.1 node_sq' t (List.mem_range.2 ht)
 simp only [decide_eq_true_eq] at h
 have h1 : (wN t * wN t) % 3329 = if t = 1 then 3328 else if t % 2 = 0 then wN (t / 2) else (3329 - wN (t / 2)) % 3329 := by
  rcases h with h | h
  ·omega
  ·exact h
 have h2 := wN_lt (t / 2)
 unfold rM nodeR
 rw [← Int.natCast_mul]
 generalize wN t * wN t = X at *
 generalize wN (t / 2) = Y at *
 split at h1
 ·rw [if_pos (by assumption)]
  omega
 ·rw [if_neg (by assumption)]
  split at h1
  ·rw [if_pos (by assumption)]
   omega
  ·rw [if_neg (by assumption)]
   omega
theorem node_leaf (i : Nat) (hi : i < 128) : rM (nodeR (128 + i)) (rtN i : Int) := by
 have h := List.all_eq_true.1 node_leaf' i (List.mem_range.2 hi)
 simp only [decide_eq_true_eq] at h
 unfold rM nodeR
 rw [if_neg (by omega), show (128 + i) / 2 = 64 + i / 2 by omega]
 have h2 := wN_lt (64 + i / 2)
 generalize wN (64 + i / 2) = Y at *
 by_cases hp : i % 2 = 0
 ·rw [if_pos (by omega)]
  rw [if_pos hp] at h
  omega
 ·rw [if_neg (by omega)]
  rw [if_neg hp] at h
  omega
theorem node_inv (J k : Nat) (hJ : J = 1 ∨ J = 2 ∨ J = 4 ∨ J = 8 ∨ J = 16 ∨ J = 32 ∨ J = 64) (hk : k < J) : rM ((wN (2 * J - 1 - k) : Int) * (wN (J + k) : Int)) (-1) := by
 have h := List.all_eq_true.1 node_inv' J (by rcases hJ with rfl | rfl | rfl | rfl | rfl | rfl | rfl <;> decide)
 have h2 := List.all_eq_true.1 h k (List.mem_range.2 hk)
 simp only [decide_eq_true_eq] at h2
 unfold rM
 rw [← Int.natCast_mul]
 omega
theorem node_two (t : Nat) : nodeR (2 * t) = (wN t : Int) := by
 unfold nodeR
 rw [if_neg (by omega), if_pos (by omega), show 2 * t / 2 = t by omega]
theorem node_odd (t : Nat) (h : 1 ≤ t) : nodeR (2 * t + 1) = -(wN t : Int) := by
 unfold nodeR
 rw [if_neg (by omega), if_neg (by omega), show (2 * t + 1) / 2 = t by omega]
/-- a layer: J blocks of L numbers each -/
def lay (L J : Nat) (a : Nat → Int) (x : Nat) : Int := blk L J (nodeR (J + x / L)) a (x % L)
theorem blk_r {L J : Nat} {s t : Int} (h : rM s t) (a : Nat → Int) (i : Nat) : rM (blk L J s a i) (blk L J t a i) := rM_S fun j _ => (rM.of rfl).mul (h.pow j)
theorem lay_first (a : Nat → Int) (x : Nat) (hx : x < 256) : lay 256 1 a x = a x := by
 unfold lay
 rw [blk_one, Nat.mod_eq_of_lt hx]
theorem lay_last (a : Nat → Int) (x : Nat) (hx : x < 256) : rM (lay 2 128 a x) (if x % 2 = 0 then evP (rtN (x / 2)) a else odP (rtN (x / 2)) a) := by
 unfold lay
 refine (blk_r (node_leaf (x / 2) (by omega)) a _).trans (rM.of ?_)
 by_cases h : x % 2 = 0
 ·rw [if_pos h, h, blk_even]
 ·rw [if_neg h, show x % 2 = 1 by omega, blk_odd]
theorem divs (H k j : Nat) (hj : j < H) : (2 * H * k + j) / H = 2 * k ∧ (2 * H * k + j) % H = j ∧ (2 * H * k + j) / (2 * H) = k ∧ (2 * H * k + j) % (2 * H) = j ∧ (2 * H * k + j + H) / H = 2 * k + 1 ∧ (2 * H * k + j + H) % H = j ∧ (2 * H * k + j + H) / (2 * H) = k ∧ (2 * H * k + j + H) % (2 * H) = j + H := by
 have h0 : 0 < H := by omega
 have e1 : 2 * H * k + j = j + H * (2 * k) := by grind
 have e2 : 2 * H * k + j + H = j + H * (2 * k + 1) := by grind
 have e3 : 2 * H * k + j = j + 2 * H * k := by omega
 have e4 : 2 * H * k + j + H = j + H + 2 * H * k := by omega
 refine ⟨?_, ?_, ?_, ?_, ?_, ?_, ?_, ?_⟩
 ·rw [e1, Nat.add_mul_div_left _ _ h0, Nat.div_eq_of_lt hj, Nat.zero_add]
 ·rw [e1, Nat.add_mul_mod_self_left, Nat.mod_eq_of_lt hj]
 ·rw [e3, Nat.add_mul_div_left _ _ (by omega), Nat.div_eq_of_lt (by omega), Nat.zero_add]
 ·rw [e3, Nat.add_mul_mod_self_left, Nat.mod_eq_of_lt (by omega)]
 ·rw [e2, Nat.add_mul_div_left _ _ h0, Nat.div_eq_of_lt hj, Nat.zero_add]
 ·rw [e2, Nat.add_mul_mod_self_left, Nat.mod_eq_of_lt hj]
 ·rw [e4, Nat.add_mul_div_left _ _ (by omega), Nat.div_eq_of_lt (by omega), Nat.zero_add]
 ·rw [e4, Nat.add_mul_mod_self_left, Nat.mod_eq_of_lt (by omega)]
theorem lay_lo (H J k j : Nat) (hJ : 1 ≤ J) (hJ2 : J ≤ 64) (hk : k < J) (hj : j < H) (a : Nat → Int) : rM (lay H (2 * J) a (2 * H * k + j)) (lay (2 * H) J a (2 * H * k + j) + (wN (J + k) : Int) * lay (2 * H) J a (2 * H * k + j + H)) := by
 obtain ⟨d1, d2, d3, d4, d5, d6, d7, d8⟩ := divs H k j hj
 unfold lay
 rw [d1, d2, d3, d4, d7, d8, show 2 * J + 2 * k = 2 * (J + k) by omega, node_two]
 exact blk_split H J (node_sq (J + k) (by omega) (by omega)) a j
theorem lay_hi (H J k j : Nat) (hJ : 1 ≤ J) (hJ2 : J ≤ 64) (hk : k < J) (hj : j < H) (a : Nat → Int) : rM (lay H (2 * J) a (2 * H * k + j + H)) (lay (2 * H) J a (2 * H * k + j) - (wN (J + k) : Int) * lay (2 * H) J a (2 * H * k + j + H)) := by
 obtain ⟨d1, d2, d3, d4, d5, d6, d7, d8⟩ := divs H k j hj
 unfold lay
 rw [d5, d6, d3, d4, d7, d8, show 2 * J + (2 * k + 1) = 2 * (J + k) + 1 by omega, node_odd _ (by omega)]
 exact blk_split' H J (node_sq (J + k) (by omega) (by omega)) a j
/-- the numbers of a layer, times e -/
def layN (e : Nat) (L J : Nat) (p : Nat → Nat) (x : Nat) : Nat := rd ((e : Int) * lay L J (iP p) x)
theorem layN_lt (e L J : Nat) (p : Nat → Nat) (x : Nat) : layN e L J p x < 3329 := rd_lt _
theorem layN_first (p : Nat → Nat) (x : Nat) (hx : x < 256) : layN 1 256 1 p x = redN p x := by
 unfold layN redN
 rw [lay_first _ _ hx]
 exact rd_of (rM.of (by unfold iP; omega))
theorem layN_last (p : Nat → Nat) (x : Nat) (hx : x < 256) : layN 1 2 128 p x = nttN p x := by
 unfold layN nttN
 refine rd_of ((rM.of (by omega)).trans (lay_last _ _ hx))
theorem rM_layN (e L J : Nat) (p : Nat → Nat) (x : Nat) : rM (layN e L J p x : Int) ((e : Int) * lay L J (iP p) x) := rM_rd _
theorem rM_lay1 (L J : Nat) (p : Nat → Nat) (x : Nat) : rM (layN 1 L J p x : Int) (lay L J (iP p) x) := (rM_layN 1 L J p x).trans (rM.of (Int.one_mul _))
theorem nat_of {a b : Nat} (h : rM (a : Int) (b : Int)) (ha : a < 3329) (hb : b < 3329) : a = b := by unfold rM at h; omega
theorem layN_lo (H J k j : Nat) (hJ : 1 ≤ J) (hJ2 : J ≤ 64) (hk : k < J) (hj : j < H) (p : Nat → Nat) : layN 1 H (2 * J) p (2 * H * k + j) = (layN 1 (2 * H) J p (2 * H * k + j) + wN (J + k) * layN 1 (2 * H) J p (2 * H * k + j + H) % 3329) % 3329 := by
 refine nat_of ?_ (layN_lt _ _ _ _ _) (Nat.mod_lt _ (by decide))
 refine ((rM_lay1 _ _ _ _).trans (lay_lo H J k j hJ hJ2 hk hj _)).trans ?_
 refine rM.symm ((rM_nat _).trans ?_)
 rw [Int.natCast_add]
 refine (rM_lay1 _ _ _ _).add ?_
 refine (rM_nat _).trans ?_
 rw [Int.natCast_mul]
 exact (rM.of rfl).mul (rM_lay1 _ _ _ _)
theorem layN_hi (H J k j : Nat) (hJ : 1 ≤ J) (hJ2 : J ≤ 64) (hk : k < J) (hj : j < H) (p : Nat → Nat) : layN 1 H (2 * J) p (2 * H * k + j + H) = (layN 1 (2 * H) J p (2 * H * k + j) + 3329 - wN (J + k) * layN 1 (2 * H) J p (2 * H * k + j + H) % 3329) % 3329 := by
 refine nat_of ?_ (layN_lt _ _ _ _ _) (Nat.mod_lt _ (by decide))
 refine ((rM_lay1 _ _ _ _).trans (lay_hi H J k j hJ hJ2 hk hj _)).trans ?_
 refine rM.symm ((rM_nat _).trans ?_)
 have h1 := Nat.mod_lt (wN (J + k) * layN 1 (2 * H) J p (2 * H * k + j + H)) (show 0 < 3329 by decide)
 rw [Int.ofNat_sub (by omega), Int.natCast_add]
 refine rM.sub (((rM_lay1 _ _ _ _).add (show rM ((3329 : Nat) : Int) 0 from rfl)).trans (rM.of (Int.add_zero _))) ?_
 refine (rM_nat _).trans ?_
 rw [Int.natCast_mul]
 exact (rM.of rfl).mul (rM_lay1 _ _ _ _)
/-- back: two halves make twice the block -/
theorem layB_lo (e H J k j : Nat) (hJ : 1 ≤ J) (hJ2 : J ≤ 64) (hk : k < J) (hj : j < H) (p : Nat → Nat) : layN (2 * e) (2 * H) J p (2 * H * k + j) = (layN e H (2 * J) p (2 * H * k + j) + layN e H (2 * J) p (2 * H * k + j + H)) % 3329 := by
 refine nat_of ?_ (layN_lt _ _ _ _ _) (Nat.mod_lt _ (by decide))
 refine (rM_layN _ _ _ _ _).trans ?_
 refine rM.symm ((rM_nat _).trans ?_)
 rw [Int.natCast_add]
 refine ((rM_layN _ _ _ _ _).add (rM_layN _ _ _ _ _)).trans ?_
 refine (((rM.of rfl).mul (lay_lo H J k j hJ hJ2 hk hj _)).add ((rM.of rfl).mul (lay_hi H J k j hJ hJ2 hk hj _))).trans (rM.of ?_)
 rw [Int.natCast_mul]
 generalize lay (2 * H) J (iP p) (2 * H * k + j) = A
 generalize (wN (J + k) : Int) * lay (2 * H) J (iP p) (2 * H * k + j + H) = B
 grind
theorem layB_hi (e H J k j : Nat) (hJ : J = 1 ∨ J = 2 ∨ J = 4 ∨ J = 8 ∨ J = 16 ∨ J = 32 ∨ J = 64) (hk : k < J) (hj : j < H) (p : Nat → Nat) : layN (2 * e) (2 * H) J p (2 * H * k + j + H) = wN (2 * J - 1 - k) * ((layN e H (2 * J) p (2 * H * k + j + H) + 3329 - layN e H (2 * J) p (2 * H * k + j)) % 3329) % 3329 := by
 refine nat_of ?_ (layN_lt _ _ _ _ _) (Nat.mod_lt _ (by decide))
 refine (rM_layN _ _ _ _ _).trans ?_
 refine rM.symm ((rM_nat _).trans ?_)
 have h1 := layN_lt e H (2 * J) p (2 * H * k + j)
 have hJ1 : 1 ≤ J := by omega
 have hJ2 : J ≤ 64 := by omega
 rw [Int.natCast_mul]
 have h2 : rM (((layN e H (2 * J) p (2 * H * k + j + H) + 3329 - layN e H (2 * J) p (2 * H * k + j)) % 3329 : Nat) : Int) (-(2 * (e : Int)) * ((wN (J + k) : Int) * lay (2 * H) J (iP p) (2 * H * k + j + H))) := by
  refine (rM_nat _).trans ?_
  rw [Int.ofNat_sub (by omega), Int.natCast_add]
  refine rM.trans (rM.sub (((rM_layN _ _ _ _ _).add (show rM ((3329 : Nat) : Int) 0 from rfl)).trans (rM.of (Int.add_zero _))) (rM_layN _ _ _ _ _)) ?_
  refine (((rM.of rfl).mul (lay_hi H J k j hJ1 hJ2 hk hj _)).sub ((rM.of rfl).mul (lay_lo H J k j hJ1 hJ2 hk hj _))).trans (rM.of ?_)
  generalize lay (2 * H) J (iP p) (2 * H * k + j) = A
  generalize (wN (J + k) : Int) * lay (2 * H) J (iP p) (2 * H * k + j + H) = B
  grind
 refine ((rM.of rfl).mul h2).trans ?_
 generalize lay (2 * H) J (iP p) (2 * H * k + j + H) = A
 refine (rM.of (show _ = (-(2 * (e : Int)) * A) * ((wN (2 * J - 1 - k) : Int) * (wN (J + k) : Int)) by grind)).trans ?_
 refine ((rM.of rfl).mul (node_inv J k hJ hk)).trans (rM.of ?_)
 rw [Int.natCast_mul]
 grind
/-- at the end of the way back -/
theorem layB_end (p : Nat → Nat) (x : Nat) (hx : x < 256) : layN 128 256 1 p x * 3303 % 3329 = redN p x := by
 refine nat_of ?_ (Nat.mod_lt _ (by decide)) (rd_lt _)
 refine (rM_nat _).trans ?_
 rw [Int.natCast_mul]
 refine ((rM_layN _ _ _ _ _).mul (rM.of rfl)).trans ?_
 rw [lay_first _ _ hx]
 refine rM.trans ?_ (rM_rd _).symm
 unfold rM iP
 omega
theorem layB_start (p : Nat → Nat) (x : Nat) (hx : x < 256) : layN 1 2 128 (invN p) x = redN p x := by rw [layN_last _ _ hx, ntt_inv _ _ hx]
theorem inv_red (p : Nat → Nat) (x : Nat) : redN (invN p) x = invN p x := by
 unfold redN invN
 exact rd_rd _
/-- in the middle of a layer: k blocks and j numbers of the next one are done -/
def midN (H k j : Nat) (r p : Nat → Nat) (x : Nat) : Nat := if x / (2 * H) < k ∨ x / (2 * H) = k ∧ x % H < j then r x else p x
def isHalf (H : Nat) : Prop := H = 128 ∨ H = 64 ∨ H = 32 ∨ H = 16 ∨ H = 8 ∨ H = 4 ∨ H = 2
theorem mid_start (H : Nat) (r p : Nat → Nat) : pc (midN H 0 0 r p) = pc p := pc_of fun i _ => by
 unfold midN
 rw [if_neg (fun h => h.elim (Nat.not_lt_zero _) (fun h => Nat.not_lt_zero _ h.2))]
theorem mid_next (H k : Nat) (hH : isHalf H) (r p : Nat → Nat) : pc (midN H k H r p) = pc (midN H (k + 1) 0 r p) := pc_of fun i _ => by
 unfold midN
 have h : (i / (2 * H) < k ∨ i / (2 * H) = k ∧ i % H < H) ↔ (i / (2 * H) < k + 1 ∨ i / (2 * H) = k + 1 ∧ i % H < 0) := by
  rcases hH with rfl | rfl | rfl | rfl | rfl | rfl | rfl <;> omega
 by_cases h1 : i / (2 * H) < k ∨ i / (2 * H) = k ∧ i % H < H
 ·rw [if_pos h1, if_pos (h.1 h1)]
 ·rw [if_neg h1, if_neg (fun q => h1 (h.2 q))]
theorem mid_end (H J : Nat) (hH : isHalf H) (hJ : H * J = 128) (r p : Nat → Nat) : pc (midN H J 0 r p) = pc r := pc_of fun i hi => by
 unfold midN
 rw [if_pos]
 rcases hH with rfl | rfl | rfl | rfl | rfl | rfl | rfl <;> omega
theorem mid_lo (H k j : Nat) (hj : j < H) (r p : Nat → Nat) : midN H k j r p (2 * H * k + j) = p (2 * H * k + j) := by
 unfold midN
 obtain ⟨_, d2, d3, _⟩ := divs H k j hj
 rw [d2, d3, if_neg (by omega)]
theorem mid_hi (H k j : Nat) (hj : j < H) (r p : Nat → Nat) : midN H k j r p (2 * H * k + j + H) = p (2 * H * k + j + H) := by
 unfold midN
 obtain ⟨_, _, _, _, _, d6, d7, _⟩ := divs H k j hj
 rw [d6, d7, if_neg (by omega)]
theorem mid_two (H k j : Nat) (hH : isHalf H) (hj : j < H) (r p : Nat → Nat) : pc (upd (upd (midN H k j r p) (2 * H * k + j) (r (2 * H * k + j))) (2 * H * k + j + H) (r (2 * H * k + j + H))) = pc (midN H k (j + 1) r p) := pc_of fun i _ => by
 have h : (i / (2 * H) < k ∨ i / (2 * H) = k ∧ i % H < j + 1) ↔ ((i / (2 * H) < k ∨ i / (2 * H) = k ∧ i % H < j) ∨ i = 2 * H * k + j ∨ i = 2 * H * k + j + H) := by
  rcases hH with rfl | rfl | rfl | rfl | rfl | rfl | rfl <;> omega
 unfold upd midN
 by_cases h1 : i = 2 * H * k + j + H
 ·rw [if_pos h1, if_pos (h.2 (by omega)), h1]
 ·rw [if_neg h1]
  by_cases h2 : i = 2 * H * k + j
  ·rw [if_pos h2, if_pos (h.2 (by omega)), h2]
  ·rw [if_neg h2]
   by_cases h3 : i / (2 * H) < k ∨ i / (2 * H) = k ∧ i % H < j
   ·rw [if_pos h3, if_pos (h.2 (.inl h3))]
   ·rw [if_neg h3, if_neg (fun q => (h.1 q).elim h3 (fun q => q.elim h2 h1))]
end Go.Proofs.Ytfcgdjgfdbcddaa
