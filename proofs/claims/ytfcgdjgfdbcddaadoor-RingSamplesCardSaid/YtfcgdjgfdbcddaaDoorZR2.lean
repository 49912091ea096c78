import Derived.Test.YtfcgdjgfdbcddaaDoorLaw
import Derived.Test.YtfcgdjgfdbcddaaDoorZR1
import Derived.Test.YtfcgdjgfdbcddaaDoorHand
import Derived.Test.YtfcgdjgfdbcddaaDoorKLa
import Derived.Test.YtfcgdjgfdbcddaaDoorCov0
/-
 POLYNOMIALS IN MEMORY: 256 cells of 16 bits.
-/
namespace Go.Proofs.YtfcgdjgfdbcddaaDoor
open Go.RowKit
set_option maxRecDepth 100000
def pc (p : Nat → Nat) : List Value := (List.range 256).map fun i => .int .u16 (p i : Int)
theorem pc_length (p : Nat → Nat) : (pc p).length = 256 := by simp [pc]
theorem pc_get (p : Nat → Nat) {k : Nat} (h : k < 256) : (pc p)[k]? = some (.int .u16 (p k : Int)) := by
 unfold pc
 rw [List.getElem?_map, List.getElem?_range h]
 rfl
theorem pc_of {p r : Nat → Nat} (h : ∀ i, i < 256 → p i = r i) : pc p = pc r := by
 unfold pc
 exact List.map_congr_left fun i hi => by rw [h i (List.mem_range.1 hi)]
theorem pc_inj {p r : Nat → Nat} (h : pc p = pc r) (i : Nat) (hi : i < 256) : p i = r i := by
 have h1 := pc_get p hi
 rw [h, pc_get r hi] at h1
 simp only [Option.some.injEq, Value.int.injEq, true_and] at h1
 omega
theorem pc_iff {p r : Nat → Nat} : pc p = pc r ↔ ∀ i, i < 256 → p i = r i := ⟨fun h i hi => pc_inj h i hi, pc_of⟩
def upd (p : Nat → Nat) (k v : Nat) (i : Nat) : Nat := if i = k then v else p i
theorem pc_set (p : Nat → Nat) (k v : Nat) : (pc p).set k (.int .u16 (v : Int)) = pc (upd p k v) := by
 apply List.ext_getElem?
 intro i
 rw [List.getElem?_set]
 by_cases hi : i < 256
 ·rw [pc_get _ hi]
  by_cases h : k = i
  ·subst h
   rw [if_pos rfl, if_pos (by rw [pc_length]; exact hi), pc_get _ hi]
   unfold upd
   rw [if_pos rfl]
  ·rw [if_neg h, pc_get _ hi]
   unfold upd
   rw [if_neg (fun q => h q.symm)]
 ·rw [List.getElem?_eq_none (by rw [pc_length]; omega)]
  by_cases h : k = i
  ·rw [if_pos h, if_neg (by rw [pc_length]; omega), List.getElem?_eq_none (by rw [pc_length]; omega)]
  ·rw [if_neg h, List.getElem?_eq_none (by rw [pc_length]; omega)]
theorem pc_one (p : Nat → Nat) : ∀ u ∈ pc p, u.oneCell' = true := by
 intro u hu
 unfold pc at hu
 obtain ⟨i, _, rfl⟩ := List.mem_map.1 hu
 rfl
theorem pc_zero : pc (fun _ => 0) = List.replicate 256 (.int .u16 0) := rfl
/-- the numbers of a list -/
def nthN (zs : List Int) (i : Nat) : Nat := (zs.getD i 0).toNat
theorem pc_list (zs : List Int) (hl : zs.length = 256) (h : ∀ z ∈ zs, (0 : Int) ≤ z) : zs.map (Value.int .u16) = pc (nthN zs) := by
 apply List.ext_getElem?
 intro i
 by_cases hi : i < 256
 ·rw [pc_get _ hi, List.getElem?_map, List.getElem?_eq_getElem (by omega)]
  unfold nthN
  rw [List.getD_eq_getElem?_getD, List.getElem?_eq_getElem (by omega)]
  have h1 := h zs[i] (List.getElem_mem _)
  simp
  omega
 ·rw [List.getElem?_eq_none (by simp; omega), List.getElem?_eq_none (by rw [pc_length]; omega)]
end Go.Proofs.YtfcgdjgfdbcddaaDoor

/-
 THE FAST TRANSFORM: the tree of remainders, layer by layer.
-/
namespace Go.Proofs.YtfcgdjgfdbcddaaDoor
set_option maxRecDepth 100000
/-- 17 to the power rev -/
def wN (t : Nat) : Nat := 17 ^ rvN t % 3329
theorem wN_lt (t : Nat) : wN t < 3329 := Nat.mod_lt _ (by decide)
/-- the root of a node of the tree: node 1 is all, 2 t and 2 t + 1 are the halves of t -/
def nodeR (u : Nat) : Int := if u = 1 then -1 else if u % 2 = 0 then (wN (u / 2) : Int) else -(wN (u / 2) : Int)
theorem node_sq' : ((List.range 128).all fun t => decide (t = 0 ∨ (wN t * wN t) % 3329 = if t = 1 then 3328 else if t % 2 = 0 then wN (t / 2) else (3329 - wN (t / 2)) % 3329)) = true := by decide +kernel
theorem node_leaf' : ((List.range 128).all fun i => decide (rtN i = if i % 2 = 0 then wN (64 + i / 2) else (3329 - wN (64 + i / 2)) % 3329)) = true := by decide +kernel
theorem node_inv' : (([1, 2, 4, 8, 16, 32, 64] : List Nat).all fun J => (List.range J).all fun k => decide (wN (2 * J - 1 - k) * wN (J + k) % 3329 = 3328)) = true := by decide +kernel
theorem node_sq (t : Nat) (h0 : 1 ≤ t) (ht : t < 128) : rM ((wN t : Int) * (wN t : Int)) (nodeR t) := by
 have h := List.all_eq_true.1 node_sq' t (List.mem_range.2 ht)
 simp only [decide_eq_true_eq] at h
 have h1 : (wN t * wN t) % 3329 = if t = 1 then 3328 else if t % 2 = 0 then wN (t / 2) else (3329 - wN (t / 2)) % 3329 := by
  rcases h with h | h
  ·omega
  ·exact h
 have h2 := wN_lt (t / 2)
 unfold rM nodeR
 rw [← Int.natCast_mul]
 generalize wN t * wN t = X at *
 generalize wN (t / 2) = Y at *
 split at h1
 ·rw [if_pos (by assumption)]
  omega
 ·rw [if_neg (by assumption)]
  split at h1
  ·rw [if_pos (by assumption)]
   omega
  ·rw [if_neg (by assumption)]
   omega
theorem node_leaf (i : Nat) (hi : i < 128) : rM (nodeR (128 + i)) (rtN i : Int) := by
 have h := List.all_eq_true.1 node_leaf' i (List.mem_range.2 hi)
 simp only [decide_eq_true_eq] at h
 unfold rM nodeR
 rw [if_neg (by omega), show (128 + i) / 2 = 64 + i / 2 by omega]
 have h2 := wN_lt (64 + i / 2)
 generalize wN (64 + i / 2) = Y at *
 by_cases hp : i % 2 = 0
 ·rw [if_pos (by omega)]
  rw [if_pos hp] at h
  omega
 ·rw [if_neg (by omega)]
  rw [if_neg hp] at h
  omega
theorem node_inv (J k : Nat) (hJ : J = 1 ∨ J = 2 ∨ J = 4 ∨ J = 8 ∨ J = 16 ∨ J = 32 ∨ J = 64) (hk : k < J) : rM ((wN (2 * J - 1 - k) : Int) * (wN (J + k) : Int)) (-1) := by
 have h := List.all_eq_true.1 node_inv' J (by rcases hJ with rfl | rfl | rfl | rfl | rfl | rfl | rfl <;> decide)
 have h2 := List.all_eq_true.1 h k (List.mem_range.2 hk)
 simp only [decide_eq_true_eq] at h2
 unfold rM
 rw [← Int.natCast_mul]
 omega
theorem node_two (t : Nat) : nodeR (2 * t) = (wN t : Int) := by
 unfold nodeR
 rw [if_neg (by omega), if_pos (by omega), show 2 * t / 2 = t by omega]
theorem node_odd (t : Nat) (h : 1 ≤ t) : nodeR (2 * t + 1) = -(wN t : Int) := by
 unfold nodeR
 rw [if_neg (by omega), if_neg (by omega), show (2 * t + 1) / 2 = t by omega]
/-- a layer: J blocks of L numbers each -/
def lay (L J : Nat) (a : Nat → Int) (x : Nat) : Int := blk L J (nodeR (J + x / L)) a (x % L)
theorem blk_r {L J : Nat} {s t : Int} (h : rM s t) (a : Nat → Int) (i : Nat) : rM (blk L J s a i) (blk L J t a i) := rM_S fun j _ => (rM.of rfl).mul (h.pow j)
theorem lay_first (a : Nat → Int) (x : Nat) (hx : x < 256) : lay 256 1 a x = a x := by
 unfold lay
 rw [blk_one, Nat.mod_eq_of_lt hx]
theorem lay_last (a : Nat → Int) (x : Nat) (hx : x < 256) : rM (lay 2 128 a x) (if x % 2 = 0 then evP (rtN (x / 2)) a else odP (rtN (x / 2)) a) := by
 unfold lay
 refine (blk_r (node_leaf (x / 2) (by omega)) a _).trans (rM.of ?_)
 by_cases h : x % 2 = 0
 ·rw [if_pos h, h, blk_even]
 ·rw [if_neg h, show x % 2 = 1 by omega, blk_odd]
theorem divs (H k j : Nat) (hj : j < H) : (2 * H * k + j) / H = 2 * k ∧ (2 * H * k + j) % H = j ∧ (2 * H * k + j) / (2 * H) = k ∧ (2 * H * k + j) % (2 * H) = j ∧ (2 * H * k + j + H) / H = 2 * k + 1 ∧ (2 * H * k + j + H) % H = j ∧ (2 * H * k + j + H) / (2 * H) = k ∧ (2 * H * k + j + H) % (2 * H) = j + H := by
 have h0 : 0 < H := by omega
 have e1 : 2 * H * k + j = j + H * (2 * k) := by grind
 have e2 : 2 * H * k + j + H = j + H * (2 * k + 1) := by grind
 have e3 : 2 * H * k + j = j + 2 * H * k := by omega
 have e4 : 2 * H * k + j + H = j + H + 2 * H * k := by omega
 refine ⟨?_, ?_, ?_, ?_, ?_, ?_, ?_, ?_⟩
 ·rw [e1, Nat.add_mul_div_left _ _ h0, Nat.div_eq_of_lt hj, Nat.zero_add]
 ·rw [e1, Nat.add_mul_mod_self_left, Nat.mod_eq_of_lt hj]
 ·rw [e3, Nat.add_mul_div_left _ _ (by omega), Nat.div_eq_of_lt (by omega), Nat.zero_add]
 ·rw [e3, Nat.add_mul_mod_self_left, Nat.mod_eq_of_lt (by omega)]
 ·rw [e2, Nat.add_mul_div_left _ _ h0, Nat.div_eq_of_lt hj, Nat.zero_add]
 ·rw [e2, Nat.add_mul_mod_self_left, Nat.mod_eq_of_lt hj]
 ·rw [e4, Nat.add_mul_div_left _ _ (by omega), Nat.div_eq_of_lt (by omega), Nat.zero_add]
 ·rw [e4, Nat.add_mul_mod_self_left, Nat.mod_eq_of_lt (by omega)]
theorem lay_lo (H J k j : Nat) (hJ : 1 ≤ J) (hJ2 : J ≤ 64) (hk : k < J) (hj : j < H) (a : Nat → Int) : rM (lay H (2 * J) a (2 * H * k + j)) (lay (2 * H) J a (2 * H * k + j) + (wN (J + k) : Int) * lay (2 * H) J a (2 * H * k + j + H)) := by
 obtain ⟨d1, d2, d3, d4, d5, d6, d7, d8⟩ := divs H k j hj
 unfold lay
 rw [d1, d2, d3, d4, d7, d8, show 2 * J + 2 * k = 2 * (J + k) by omega, node_two]
 exact blk_split H J (node_sq (J + k) (by omega) (by omega)) a j
theorem lay_hi (H J k j : Nat) (hJ : 1 ≤ J) (hJ2 : J ≤ 64) (hk : k < J) (hj : j < H) (a : Nat → Int) : rM (lay H (2 * J) a (2 * H * k + j + H)) (lay (2 * H) J a (2 * H * k + j) - (wN (J + k) : Int) * lay (2 * H) J a (2 * H * k + j + H)) := by
 obtain ⟨d1, d2, d3, d4, d5, d6, d7, d8⟩ := divs H k j hj
 unfold lay
 rw [d5, d6, d3, d4, d7, d8, show 2 * J + (2 * k + 1) = 2 * (J + k) + 1 by omega, node_odd _ (by omega)]
 exact blk_split' H J (node_sq (J + k) (by omega) (by omega)) a j
/-- the numbers of a layer, times e -/
def layN (e : Nat) (L J : Nat) (p : Nat → Nat) (x : Nat) : Nat := rd ((e : Int) * lay L J (iP p) x)
theorem layN_lt (e L J : Nat) (p : Nat → Nat) (x : Nat) : layN e L J p x < 3329 := rd_lt _
theorem layN_first (p : Nat → Nat) (x : Nat) (hx : x < 256) : layN 1 256 1 p x = redN p x := by
 unfold layN redN
 rw [lay_first _ _ hx]
 exact rd_of (rM.of (by unfold iP; omega))
theorem layN_last (p : Nat → Nat) (x : Nat) (hx : x < 256) : layN 1 2 128 p x = nttN p x := by
 unfold layN nttN
 refine rd_of ((rM.of (by omega)).trans (lay_last _ _ hx))
theorem rM_layN (e L J : Nat) (p : Nat → Nat) (x : Nat) : rM (layN e L J p x : Int) ((e : Int) * lay L J (iP p) x) := rM_rd _
theorem rM_lay1 (L J : Nat) (p : Nat → Nat) (x : Nat) : rM (layN 1 L J p x : Int) (lay L J (iP p) x) := (rM_layN 1 L J p x).trans (rM.of (Int.one_mul _))
theorem nat_of {a b : Nat} (h : rM (a : Int) (b : Int)) (ha : a < 3329) (hb : b < 3329) : a = b := by unfold rM at h; omega
theorem layN_lo (H J k j : Nat) (hJ : 1 ≤ J) (hJ2 : J ≤ 64) (hk : k < J) (hj : j < H) (p : Nat → Nat) : layN 1 H (2 * J) p (2 * H * k + j) = (layN 1 (2 * H) J p (2 * H * k + j) + wN (J + k) * layN 1 (2 * H) J p (2 * H * k + j + H) % 3329) % 3329 := by
 refine nat_of ?_ (layN_lt _ _ _ _ _) (Nat.mod_lt _ (by decide))
 refine ((rM_lay1 _ _ _ _).trans (lay_lo H J k j hJ hJ2 hk hj _)).trans ?_
 refine rM.symm ((rM_nat _).trans ?_)
 rw [Int.natCast_add]
 refine (rM_lay1 _ _ _ _).add ?_
 refine (rM_nat _).trans ?_
 rw [Int.natCast_mul]
 exact (rM.of rfl).mul (rM_lay1 _ _ _ _)
theorem layN_hi (H J k j : Nat) (hJ : 1 ≤ J) (hJ2 : J ≤ 64) (hk : k < J) (hj : j < H) (p : Nat → Nat) : layN 1 H (2 * J) p (2 * H * k + j + H) = (layN 1 (2 * H) J p (2 * H * k + j) + 3329 - wN (J + k) * layN 1 (2 * H) J p (2 * H * k + j + H) % 3329) % 3329 := by
 refine nat_of ?_ (layN_lt _ _ _ _ _) (Nat.mod_lt _ (by decide))
 refine ((rM_lay1 _ _ _ _).trans (lay_hi H J k j hJ hJ2 hk hj _)).trans ?_
 refine rM.symm ((rM_nat _).trans ?_)
 have h1 := Nat.mod_lt (wN (J + k) * layN 1 (2 * H) J p (2 * H * k + j + H)) (show 0 < 3329 by decide)
 rw [Int.ofNat_sub (by omega), Int.natCast_add]
 refine rM.sub (((rM_lay1 _ _ _ _).add (show rM ((3329 : Nat) : Int) 0 from rfl)).trans (rM.of (Int.add_zero _))) ?_
 refine (rM_nat _).trans ?_
 rw [Int.natCast_mul]
 exact (rM.of rfl).mul (rM_lay1 _ _ _ _)
/-- back: two halves make twice the block -/
theorem layB_lo (e H J k j : Nat) (hJ : 1 ≤ J) (hJ2 : J ≤ 64) (hk : k < J) (hj : j < H) (p : Nat → Nat) : layN (2 * e) (2 * H) J p (2 * H * k + j) = (layN e H (2 * J) p (2 * H * k + j) + layN e H (2 * J) p (2 * H * k + j + H)) % 3329 := by
 refine nat_of ?_ (layN_lt _ _ _ _ _) (Nat.mod_lt _ (by decide))
 refine (rM_layN _ _ _ _ _).trans ?_
 refine rM.symm ((rM_nat _).trans ?_)
 rw [Int.natCast_add]
 refine ((rM_layN _ _ _ _ _).add (rM_layN _ _ _ _ _)).trans ?_
 refine (((rM.of rfl).mul (lay_lo H J k j hJ hJ2 hk hj _)).add ((rM.of rfl).mul (lay_hi H J k j hJ hJ2 hk hj _))).trans (rM.of ?_)
 rw [Int.natCast_mul]
 generalize lay (2 * H) J (iP p) (2 * H * k + j) = A
 generalize (wN (J + k) : Int) * lay (2 * H) J (iP p) (2 * H * k + j + H) = B
 grind
theorem layB_hi (e H J k j : Nat) (hJ : J = 1 ∨ J = 2 ∨ J = 4 ∨ J = 8 ∨ J = 16 ∨ J = 32 ∨ J = 64) (hk : k < J) (hj : j < H) (p : Nat → Nat) : layN (2 * e) (2 * H) J p (2 * H * k + j + H) = wN (2 * J - 1 - k) * ((layN e H (2 * J) p (2 * H * k + j + H) + 3329 - layN e H (2 * J) p (2 * H * k + j)) % 3329) % 3329 := by
 refine nat_of ?_ (layN_lt _ _ _ _ _) (Nat.mod_lt _ (by decide))
 refine (rM_layN _ _ _ _ _).trans ?_
 refine rM.symm ((rM_nat _).trans ?_)
 have h1 := layN_lt e H (2 * J) p (2 * H * k + j)
 have hJ1 : 1 ≤ J := by omega
 have hJ2 : J ≤ 64 := by omega
 rw [Int.natCast_mul]
 have h2 : rM (((layN e H (2 * J) p (2 * H * k + j + H) + 3329 - layN e H (2 * J) p (2 * H * k + j)) % 3329 : Nat) : Int) (-(2 * (e : Int)) * ((wN (J + k) : Int) * lay (2 * H) J (iP p) (2 * H * k + j + H))) := by
  refine (rM_nat _).trans ?_
  rw [Int.ofNat_sub (by omega), Int.natCast_add]
  refine rM.trans (rM.sub (((rM_layN _ _ _ _ _).add (show rM ((3329 : Nat) : Int) 0 from rfl)).trans (rM.of (Int.add_zero _))) (rM_layN _ _ _ _ _)) ?_
  refine (((rM.of rfl).mul (lay_hi H J k j hJ1 hJ2 hk hj _)).sub ((rM.of rfl).mul (lay_lo H J k j hJ1 hJ2 hk hj _))).trans (rM.of ?_)
  generalize lay (2 * H) J (iP p) (2 * H * k + j) = A
  generalize (wN (J + k) : Int) * lay (2 * H) J (iP p) (2 * H * k + j + H) = B
  grind
 refine ((rM.of rfl).mul h2).trans ?_
 generalize lay (2 * H) J (iP p) (2 * H * k + j + H) = A
 refine (rM.of (show _ = (-(2 * (e : Int)) * A) * ((wN (2 * J - 1 - k) : Int) * (wN (J + k) : Int)) by grind)).trans ?_
 refine ((rM.of rfl).mul (node_inv J k hJ hk)).trans (rM.of ?_)
 rw [Int.natCast_mul]
 grind
/-- at the end of the way back -/
theorem layB_end (p : Nat → Nat) (x : Nat) (hx : x < 256) : layN 128 256 1 p x * 3303 % 3329 = redN p x := by
 refine nat_of ?_ (Nat.mod_lt _ (by decide)) (rd_lt _)
 refine (rM_nat _).trans ?_
 rw [Int.natCast_mul]
 refine ((rM_layN _ _ _ _ _).mul (rM.of rfl)).trans ?_
 rw [lay_first _ _ hx]
 refine rM.trans ?_ (rM_rd _).symm
 unfold rM iP
 omega
theorem layB_start (p : Nat → Nat) (x : Nat) (hx : x < 256) : layN 1 2 128 (invN p) x = redN p x := by rw [layN_last _ _ hx, ntt_inv _ _ hx]
theorem inv_red (p : Nat → Nat) (x : Nat) : redN (invN p) x = invN p x := by
 unfold redN invN
 exact rd_rd _
/-- in the middle of a layer: k blocks and j numbers of the next one are done -/
def midN (H k j : Nat) (r p : Nat → Nat) (x : Nat) : Nat := if x / (2 * H) < k ∨ x / (2 * H) = k ∧ x % H < j then r x else p x
def isHalf (H : Nat) : Prop := H = 128 ∨ H = 64 ∨ H = 32 ∨ H = 16 ∨ H = 8 ∨ H = 4 ∨ H = 2
theorem mid_start (H : Nat) (r p : Nat → Nat) : pc (midN H 0 0 r p) = pc p := pc_of fun i _ => by
 unfold midN
 rw [if_neg (fun h => h.elim (Nat.not_lt_zero _) (fun h => Nat.not_lt_zero _ h.2))]
theorem mid_next (H k : Nat) (hH : isHalf H) (r p : Nat → Nat) : pc (midN H k H r p) = pc (midN H (k + 1) 0 r p) := pc_of fun i _ => by
 unfold midN
 have h : (i / (2 * H) < k ∨ i / (2 * H) = k ∧ i % H < H) ↔ (i / (2 * H) < k + 1 ∨ i / (2 * H) = k + 1 ∧ i % H < 0) := by
  rcases hH with rfl | rfl | rfl | rfl | rfl | rfl | rfl <;> omega
 by_cases h1 : i / (2 * H) < k ∨ i / (2 * H) = k ∧ i % H < H
 ·rw [if_pos h1, if_pos (h.1 h1)]
 ·rw [if_neg h1, if_neg (fun q => h1 (h.2 q))]
theorem mid_end (H J : Nat) (hH : isHalf H) (hJ : H * J = 128) (r p : Nat → Nat) : pc (midN H J 0 r p) = pc r := pc_of fun i hi => by
 unfold midN
 rw [if_pos]
 rcases hH with rfl | rfl | rfl | rfl | rfl | rfl | rfl <;> omega
theorem mid_lo (H k j : Nat) (hj : j < H) (r p : Nat → Nat) : midN H k j r p (2 * H * k + j) = p (2 * H * k + j) := by
 unfold midN
 obtain ⟨_, d2, d3, _⟩ := divs H k j hj
 rw [d2, d3, if_neg (by omega)]
theorem mid_hi (H k j : Nat) (hj : j < H) (r p : Nat → Nat) : midN H k j r p (2 * H * k + j + H) = p (2 * H * k + j + H) := by
 unfold midN
 obtain ⟨_, _, _, _, _, d6, d7, _⟩ := divs H k j hj
 rw [d6, d7, if_neg (by omega)]
theorem mid_two (H k j : Nat) (hH : isHalf H) (hj : j < H) (r p : Nat → Nat) : pc (upd (upd (midN H k j r p) (2 * H * k + j) (r (2 * H * k + j))) (2 * H * k + j + H) (r (2 * H * k + j + H))) = pc (midN H k (j + 1) r p) := pc_of fun i _ => by
 have h : (i / (2 * H) < k ∨ i / (2 * H) = k ∧ i % H < j + 1) ↔ ((i / (2 * H) < k ∨ i / (2 * H) = k ∧ i % H < j) ∨ i = 2 * H * k + j ∨ i = 2 * H * k + j + H) := by
  rcases hH with rfl | rfl | rfl | rfl | rfl | rfl | rfl <;> omega
 unfold upd midN
 by_cases h1 : i = 2 * H * k + j + H
 ·rw [if_pos h1, if_pos (h.2 (by omega)), h1]
 ·rw [if_neg h1]
  by_cases h2 : i = 2 * H * k + j
  ·rw [if_pos h2, if_pos (h.2 (by omega)), h2]
  ·rw [if_neg h2]
   by_cases h3 : i / (2 * H) < k ∨ i / (2 * H) = k ∧ i % H < j
   ·rw [if_pos h3, if_pos (h.2 (.inl h3))]
   ·rw [if_neg h3, if_neg (fun q => (h.1 q).elim h3 (fun q => q.elim h2 h1))]
end Go.Proofs.YtfcgdjgfdbcddaaDoor

/-
 OPERATIONS on polynomials in memory.
-/
namespace Go.Proofs.YtfcgdjgfdbcddaaDoor
open Go.RowKit
set_option maxRecDepth 100000
def polyV (p : Nat → Nat) : Value := .agg (pc p).toArray
/-- the answer is a polynomial, and what was in memory stays -/
def PolyIs (w : World) (p : Nat → Nat) (e : Ending) (w' : World) : Prop := e = .returned (polyV p) ∧ Below w.heap.size w w'
theorem bel1 (w : World) (o : Obj) : Below w.heap.size w (w.alloc o) := Below.alloc (Below.refl _ _) (Nat.le_refl _) _
theorem info_poly : (Tryd.prog.info? 25).map (·.size) = some 256 := by kernel_rfl
theorem size_poly (p : Nat → Nat) : some 256 = some (pc p).length := by rw [pc_length]
theorem zero_poly (W : World) : (zeroValue 25).run Tryd.prog W = .ok (.agg (pc fun _ => 0).toArray) W := by kernel_rfl
section
variable {ops : Array Oper} {rest : List Oper} {o : Oper} {a : Act} {w : World} {Q : Exit → Act → World → Prop} {x y : Operand} {op : Oper}
theorem wl_allocP (hgd : o.guard = none) (ho : o.op = .alloc 25) (h : wpList Tryd.prog ops Q rest (a.put o.dst (.pointer (some ⟨w.heap.size, 0, none⟩))) (w.alloc (.cells (pc fun _ => 0).toArray 25))) : wpList Tryd.prog ops Q (o :: rest) a w := by
 refine wl_valueW (.pointer (some ⟨w.heap.size, 0, none⟩)) (w.alloc (.cells (pc fun _ => 0).toArray 25)) hgd ?_ h
 have hz := zero_poly w
 unfold execOp
 simp only [ho]
 generalize pc (fun _ => 0) = z at *
 go_simp
theorem at_poly {g k : Nat} (hk : k < 256) (ho : op.op = .indexAddr 25 x y) (hx : a.eval x = .pointer (some ⟨g, 0, none⟩)) (hy : a.eval y = .int .i64 (k : Int)) : (execOp a.eval op).run Tryd.prog w = .ok (.value (.pointer (some ⟨g, k, none⟩))) w := by
 have h1 : (k : Int) < 256 := by omega
 have h2 : (0 : Int) ≤ (k : Int) := by omega
 unfold execOp
 simp only [ho, hx, hy]
 go_simp
theorem load_u16 {q : Addr} {n : Nat} (ho : op.op = .load 23 x) (hc : w.cell? q = some (.int .u16 (n : Int))) (hx : a.eval x = .pointer (some q)) : (execOp a.eval op).run Tryd.prog w = .ok (.value (.int .u16 (n : Int))) w := by
 unfold execOp
 simp only [ho, hx]
 go_simp
theorem rem_u16 {n r : Nat} (h : r = n % 3329) (hn : n < 65536) (ho : op.op = .binOp .rem 23 x (.const (.int .u16 3329)) 23) (hx : a.eval x = .int .u16 (n : Int)) : (execOp a.eval op).run Tryd.prog w = .ok (.value (.int .u16 (r : Int))) w := by
 have hc : a.eval (.const (.int .u16 3329)) = .int .u16 3329 := rfl
 have e : (n : Int).tmod 3329 = (r : Int) := by rw [Int.tmod_eq_emod_of_nonneg (by omega)]; omega
 have e2 : (n : Int) % 3329 = (r : Int) := by omega
 have hw : IntKind.u16.wrap (r : Int) = (r : Int) := by rw [IntKind.wrap_u16]; omega
 have hm : (r : Int) % 65536 = (r : Int) := by omega
 clear h
 unfold execOp
 simp only [ho, hx, hc]
 go_simp
theorem conv_ui16 {n : Nat} (hn : n < 65536) (ho : op.op = .convert 23 3 x) (hx : a.eval x = .int .u16 (n : Int)) : (execOp a.eval op).run Tryd.prog w = .ok (.value (.int .i64 (n : Int))) w := by
 have hw : IntKind.i64.wrap (n : Int) = (n : Int) := by rw [IntKind.wrap_i64]; omega
 unfold execOp
 simp only [ho, hx]
 go_simp
theorem conv_iu16 {n : Nat} (hn : n < 65536) (ho : op.op = .convert 3 23 x) (hx : a.eval x = .int .i64 (n : Int)) : (execOp a.eval op).run Tryd.prog w = .ok (.value (.int .u16 (n : Int))) w := by
 have hw : IntKind.u16.wrap (n : Int) = (n : Int) := by rw [IntKind.wrap_u16]; omega
 have hm : (n : Int) % 65536 = (n : Int) := by omega
 unfold execOp
 simp only [ho, hx]
 go_simp
theorem add_ii {i j k : Nat} (h : k = i + j ∧ k ≤ 1000000000000) (ho : op.op = .binOp .add 3 x y 3) (hx : a.eval x = .int .i64 (i : Int)) (hy : a.eval y = .int .i64 (j : Int)) : (execOp a.eval op).run Tryd.prog w = .ok (.value (.int .i64 (k : Int))) w := by
 have hw : IntKind.i64.wrap ((i : Int) + (j : Int)) = (k : Int) := by rw [IntKind.wrap_i64]; omega
 clear h
 unfold execOp
 simp only [ho, hx, hy]
 go_simp
theorem sub_ii {i j k : Nat} (h : i = k + j ∧ i ≤ 1000000000000) (ho : op.op = .binOp .sub 3 x y 3) (hx : a.eval x = .int .i64 (i : Int)) (hy : a.eval y = .int .i64 (j : Int)) : (execOp a.eval op).run Tryd.prog w = .ok (.value (.int .i64 (k : Int))) w := by
 have hw : IntKind.i64.wrap ((i : Int) - (j : Int)) = (k : Int) := by rw [IntKind.wrap_i64]; omega
 clear h
 unfold execOp
 simp only [ho, hx, hy]
 go_simp
theorem mul_iin {i j k : Nat} (h : k = i * j) (hk : k ≤ 1000000000000) (ho : op.op = .binOp .mul 3 x y 3) (hx : a.eval x = .int .i64 (i : Int)) (hy : a.eval y = .int .i64 (j : Int)) : (execOp a.eval op).run Tryd.prog w = .ok (.value (.int .i64 (k : Int))) w := by
 have he : (i : Int) * (j : Int) = (k : Int) := by rw [h, Int.natCast_mul]
 have hw : IntKind.i64.wrap (k : Int) = (k : Int) := by rw [IntKind.wrap_i64]; omega
 clear h
 unfold execOp
 simp only [ho, hx, hy]
 go_simp
theorem rem_iq {n r : Nat} (h : r = n % 3329) (hn : n ≤ 1000000000000) (ho : op.op = .binOp .rem 3 x (.const (.int .i64 3329)) 3) (hx : a.eval x = .int .i64 (n : Int)) : (execOp a.eval op).run Tryd.prog w = .ok (.value (.int .i64 (r : Int))) w := by
 have hc : a.eval (.const (.int .i64 3329)) = .int .i64 3329 := rfl
 have e : (n : Int).tmod 3329 = (r : Int) := by rw [Int.tmod_eq_emod_of_nonneg (by omega)]; omega
 have e2 : (n : Int) % 3329 = (r : Int) := by omega
 have hw : IntKind.i64.wrap (r : Int) = (r : Int) := by rw [IntKind.wrap_i64]; omega
 clear h
 unfold execOp
 simp only [ho, hx, hc]
 go_simp
end
end Go.Proofs.YtfcgdjgfdbcddaaDoor

/-
 THE DOCUMENT'S OWN Reduce, Add, Sub.
-/
namespace Go.Proofs.YtfcgdjgfdbcddaaDoor
open Go.RowKit
set_option maxRecDepth 100000
/-- the first k numbers of r, the others of p -/
def half (r p : Nat → Nat) (k i : Nat) : Nat := if i < k then r i else p i
theorem half_zero (r p : Nat → Nat) : pc (half r p 0) = pc p := pc_of fun i _ => if_neg (by omega)
theorem half_all (r p : Nat → Nat) : pc (half r p 256) = pc r := pc_of fun _ h => if_pos h
theorem half_next (r p : Nat → Nat) (k : Nat) : pc (upd (half r p k) k (r k)) = pc (half r p (k + 1)) := pc_of fun i _ => by
 unfold upd half
 by_cases h : i = k
 ·rw [if_pos h, if_pos (by omega), h]
 ·rw [if_neg h]
  by_cases h2 : i < k
  ·rw [if_pos h2, if_pos (by omega)]
  ·rw [if_neg h2, if_neg (by omega)]
theorem half_now (r p : Nat → Nat) (k : Nat) : half r p k k = p k := if_neg (by omega)
end Go.Proofs.YtfcgdjgfdbcddaaDoor

/-
 THE DOCUMENT'S OWN roots: rev, power, Root; width, Near.
-/
namespace Go.Proofs.YtfcgdjgfdbcddaaDoor
open Go.RowKit
set_option maxRecDepth 100000
section
variable {a : Act} {x y : Operand} {op : Oper} {w : World}
theorem rem_i2 {n r : Nat} (h : r = n % 2) (hn : n ≤ 1000000000000) (ho : op.op = .binOp .rem 3 x (.const (.int .i64 2)) 3) (hx : a.eval x = .int .i64 (n : Int)) : (execOp a.eval op).run Tryd.prog w = .ok (.value (.int .i64 (r : Int))) w := by
 have hc : a.eval (.const (.int .i64 2)) = .int .i64 2 := rfl
 have e : (n : Int).tmod 2 = (r : Int) := by rw [Int.tmod_eq_emod_of_nonneg (by omega)]; omega
 have e2 : (n : Int) % 2 = (r : Int) := by omega
 have hw : IntKind.i64.wrap (r : Int) = (r : Int) := by rw [IntKind.wrap_i64]; omega
 clear h
 unfold execOp
 simp only [ho, hx, hc]
 go_simp
theorem quo_i2 {n r : Nat} (h : r = n / 2) (hn : n ≤ 1000000000000) (ho : op.op = .binOp .quo 3 x (.const (.int .i64 2)) 3) (hx : a.eval x = .int .i64 (n : Int)) : (execOp a.eval op).run Tryd.prog w = .ok (.value (.int .i64 (r : Int))) w := by
 have hc : a.eval (.const (.int .i64 2)) = .int .i64 2 := rfl
 have e : (n : Int).tdiv 2 = (r : Int) := by rw [Int.tdiv_eq_ediv_of_nonneg (by omega)]; omega
 have e2 : (n : Int) / 2 = (r : Int) := by omega
 have hw : IntKind.i64.wrap (r : Int) = (r : Int) := by rw [IntKind.wrap_i64]; omega
 clear h
 unfold execOp
 simp only [ho, hx, hc]
 go_simp
theorem quo_ii {i j k : Nat} (h : k = i / j) (hj : 0 < j) (hi : i ≤ 1000000000000) (ho : op.op = .binOp .quo 3 x y 3) (hx : a.eval x = .int .i64 (i : Int)) (hy : a.eval y = .int .i64 (j : Int)) : (execOp a.eval op).run Tryd.prog w = .ok (.value (.int .i64 (k : Int))) w := by
 have hk : k ≤ i := by rw [h]; exact Nat.div_le_self _ _
 have e : (i : Int).tdiv (j : Int) = (k : Int) := by rw [Int.tdiv_eq_ediv_of_nonneg (by omega), h, Int.natCast_ediv]
 have hw : IntKind.i64.wrap (k : Int) = (k : Int) := by rw [IntKind.wrap_i64]; omega
 have hz : ¬ (j : Int) = 0 := by omega
 clear h
 generalize (i : Int) = ii at *
 generalize (j : Int) = jj at *
 generalize (k : Int) = kk at *
 unfold execOp
 simp only [ho, hx, hy]
 go_simp
end
/-- the first k digits from behind -/
def rvP (i : Nat) : Nat → Nat
 | 0 => 0
 | k + 1 => 2 * rvP i k + i / 2 ^ k % 2
theorem rvP_le (i : Nat) : ∀ k, rvP i k < 2 ^ k
 | 0 => Nat.one_pos
 | k + 1 => by
  show 2 * rvP i k + i / 2 ^ k % 2 < 2 ^ (k + 1)
  have := rvP_le i k
  rw [Nat.pow_succ]
  omega
theorem rvP_all (i : Nat) : rvP i 7 = rvN i := by
 show 2 * (2 * (2 * (2 * (2 * (2 * (2 * 0 + i / 1 % 2) + i / 2 % 2) + i / 4 % 2) + i / 8 % 2) + i / 16 % 2) + i / 32 % 2) + i / 64 % 2 = rvN i
 unfold rvN
 omega
/-- the answer is a number, and the world is as it was -/
def NumIs (w : World) (n : Nat) (e : Ending) (w' : World) : Prop := e = .returned (.int .i64 (n : Int)) ∧ w = w'
/-- powers modulo q, one factor after the other -/
def pwN (x : Nat) : Nat → Nat
 | 0 => 1
 | n + 1 => pwN x n * x % 3329
theorem pwN_eq (x : Nat) : ∀ n, pwN x n % 3329 = x ^ n % 3329
 | 0 => rfl
 | n + 1 => by
  show pwN x n * x % 3329 % 3329 = x ^ (n + 1) % 3329
  rw [Nat.mod_mod, Nat.pow_succ, Nat.mul_mod, pwN_eq x n, ← Nat.mul_mod]
theorem pwN_lt (x : Nat) : ∀ n, pwN x n < 3329
 | 0 => by show 1 < 3329; decide
 | n + 1 => Nat.mod_lt _ (by decide)
theorem pwN_is (x n : Nat) : pwN x n = x ^ n % 3329 := by rw [← pwN_eq, Nat.mod_eq_of_lt (pwN_lt x n)]
end Go.Proofs.YtfcgdjgfdbcddaaDoor

/-
 STORES into polynomials; Horner's rule.
-/
namespace Go.Proofs.YtfcgdjgfdbcddaaDoor
open Go.RowKit
set_option maxRecDepth 100000
section
variable {ops : Array Oper} {rest : List Oper} {o : Oper} {a : Act} {w : World} {Q : Exit → Act → World → Prop} {x y : Operand} {op : Oper}
theorem wl_at (d : Nat) (hd : o.dst = some d) (v : Value) (hgd : o.guard = none) (hrun : (execOp a.eval o).run Tryd.prog w = .ok (.value v) w) {a2 : Act} (h : wpList Tryd.prog ops Q rest a2 w) (ha : a.put (some d) v = a2 := by ((try simp only [Act.put, arr9, hd9, tl9]); rfl)) : wpList Tryd.prog ops Q (o :: rest) a w := wl_value v hgd hrun (by rw [hd, ha]; exact h)
theorem wl_storeP {g k v : Nat} {q : Nat → Nat} (hgd : o.guard = none) (hk : k < 256) (ho : o.op = .store 23 x y) (hx : a.eval x = .pointer (some ⟨g, k, none⟩)) (hy : a.eval y = .int .u16 (v : Int)) (hr : Row w g 25 (pc q))
 (h : ∀ w2, Row w2 g 25 (pc (upd q k v)) → But w.heap.size g w w2 → w2.heap.size = w.heap.size → wpList Tryd.prog ops Q rest (a.put o.dst undef) w2) : wpList Tryd.prog ops Q (o :: rest) a w := by
 have hc := hr.cell k
 rw [pc_get _ hk] at hc
 have hf := hr.free k
 have hs := hr.set_ k (.int .u16 (v : Int))
 rw [pc_set] at hs
 refine wpList_plain hgd fun K hK => ?_
 unfold Oper.wp
 rw [show (execOp a.eval o).run Tryd.prog w = .ok .skip (w.setCell ⟨g, k, none⟩ (.int .u16 (v : Int))) from by
  unfold execOp
  simp only [ho, hx, hy]
  go_simp]
 exact hK _ _ (h _ hs ((But.refl _ _ _).setCell _ _) (by simp [World.setCell]))
theorem dec_i {i : Int} (h : -1 ≤ i ∧ i ≤ 1000000) (ho : op.op = .binOp .sub 3 x (.const (.int .i64 1)) 3) (hx : a.eval x = .int .i64 i) : (execOp a.eval op).run Tryd.prog w = .ok (.value (.int .i64 (i - 1))) w := by
 have hc : a.eval (.const (.int .i64 1)) = .int .i64 1 := rfl
 have hw : IntKind.i64.wrap (i - 1) = i - 1 := by rw [IntKind.wrap_i64]; omega
 clear h
 unfold execOp
 simp only [ho, hx, hc]
 go_simp
end
/-- the sum by Horner's rule, from number 127 down -/
def hz (g : Nat) (c : Nat → Nat) : Nat → Nat
 | 0 => 0
 | m + 1 => (hz g c m * g + c (127 - m)) % 3329
theorem hz_lt (g : Nat) (c : Nat → Nat) : ∀ m, hz g c m < 3329
 | 0 => by show 0 < 3329; decide
 | m + 1 => Nat.mod_lt _ (by decide)
theorem rS_first (f : Nat → Int) : ∀ n, rS (n + 1) f = f 0 + rS n (fun t => f (t + 1))
 | 0 => by show 0 + f 0 = f 0 + 0; omega
 | n + 1 => by
  show rS (n + 1) f + f (n + 1) = f 0 + (rS n (fun t => f (t + 1)) + f (n + 1))
  rw [rS_first f n]
  omega
theorem hz_sum (g : Nat) (c : Nat → Nat) : ∀ m, m ≤ 128 → rM (hz g c m : Int) (rS m (fun t => (c (128 - m + t) : Int) * (g : Int) ^ t))
 | 0, _ => rfl
 | m + 1, h => by
  have ih := hz_sum g c m (by omega)
  rw [rS_first, show hz g c (m + 1) = (hz g c m * g + c (127 - m)) % 3329 from rfl, Int.pow_zero, Int.mul_one, show 128 - (m + 1) + 0 = 127 - m by omega]
  refine (rM_nat _).trans ?_
  rw [Int.natCast_add, Int.natCast_mul]
  refine ((ih.mul (rM.of rfl)).add (rM.of rfl)).trans (rM.of ?_)
  rw [← rS_mulr, Int.add_comm]
  congr 1
  refine rS_congr fun t ht => ?_
  rw [show 128 - (m + 1) + (t + 1) = 128 - m + t by omega, Int.pow_succ, Int.mul_assoc]
theorem hz_even (p : Nat → Nat) (k : Nat) : hz (rtN k) (fun j => p (2 * j)) 128 = nttN p (2 * k) := by
 have h := hz_sum (rtN k) (fun j => p (2 * j)) 128 (Nat.le_refl _)
 have h2 := hz_lt (rtN k) (fun j => p (2 * j)) 128
 rw [show nttN p (2 * k) = rd (evP (rtN k) (iP p)) by unfold nttN; rw [if_pos (by omega), show 2 * k / 2 = k by omega]]
 rw [← Nat.mod_eq_of_lt h2, ← rd_same]
 refine rd_of (h.trans (rM.of ?_))
 exact rS_congr fun t _ => by rw [show 128 - 128 + t = t by omega]; rfl
theorem hz_odd (p : Nat → Nat) (k : Nat) : hz (rtN k) (fun j => p (2 * j + 1)) 128 = nttN p (2 * k + 1) := by
 have h := hz_sum (rtN k) (fun j => p (2 * j + 1)) 128 (Nat.le_refl _)
 have h2 := hz_lt (rtN k) (fun j => p (2 * j + 1)) 128
 rw [show nttN p (2 * k + 1) = rd (odP (rtN k) (iP p)) by unfold nttN; rw [if_neg (by omega), show (2 * k + 1) / 2 = k by omega]]
 rw [← Nat.mod_eq_of_lt h2, ← rd_same]
 refine rd_of (h.trans (rM.of ?_))
 exact rS_congr fun t _ => by rw [show 128 - 128 + t = t by omega]; rfl
theorem half_two (r p : Nat → Nat) (k : Nat) : pc (upd (upd (half r p (2 * k)) (2 * k) (r (2 * k))) (2 * k + 1) (r (2 * k + 1))) = pc (half r p (2 * (k + 1))) := pc_of fun i _ => by
 unfold upd half
 by_cases h : i = 2 * k + 1
 ·rw [if_pos h, if_pos (by omega), h]
 ·rw [if_neg h]
  by_cases h2 : i = 2 * k
  ·rw [if_pos h2, if_pos (by omega), h2]
  ·rw [if_neg h2]
   by_cases h3 : i < 2 * k
   ·rw [if_pos h3, if_pos (by omega)]
   ·rw [if_neg h3, if_neg (by omega)]
end Go.Proofs.YtfcgdjgfdbcddaaDoor

/-
 ARRAYS of numbers; the product's sums, one summand after the other.
-/
namespace Go.Proofs.YtfcgdjgfdbcddaaDoor
open Go.RowKit
set_option maxRecDepth 100000
def ic (n : Nat) (f : Nat → Nat) : List Value := (List.range n).map fun i => .int .i64 (f i : Int)
theorem ic_length (n : Nat) (p : Nat → Nat) : (ic n p).length = n := by simp [ic]
theorem ic_get {n : Nat} (p : Nat → Nat) {k : Nat} (h : k < n) : (ic n p)[k]? = some (.int .i64 (p k : Int)) := by
 unfold ic
 rw [List.getElem?_map, List.getElem?_range h]
 rfl
theorem ic_of {n : Nat} {p r : Nat → Nat} (h : ∀ i, i < n → p i = r i) : ic n p = ic n r := by
 unfold ic
 exact List.map_congr_left fun i hi => by rw [h i (List.mem_range.1 hi)]
theorem ic_set (n : Nat) (p : Nat → Nat) (k v : Nat) : (ic n p).set k (.int .i64 (v : Int)) = ic n (upd p k v) := by
 apply List.ext_getElem?
 intro i
 rw [List.getElem?_set]
 by_cases hi : i < n
 ·rw [ic_get _ hi]
  by_cases h : k = i
  ·subst h
   rw [if_pos rfl, if_pos (by rw [ic_length]; exact hi), ic_get _ hi]
   unfold upd
   rw [if_pos rfl]
  ·rw [if_neg h, ic_get _ hi]
   unfold upd
   rw [if_neg (fun q => h q.symm)]
 ·rw [List.getElem?_eq_none (l := ic n (upd p k v)) (by rw [ic_length]; omega)]
  by_cases h : k = i
  ·rw [if_pos h, if_neg (by rw [ic_length]; omega)]
  ·rw [if_neg h, List.getElem?_eq_none (by rw [ic_length]; omega)]
section
variable {ops : Array Oper} {rest : List Oper} {o : Oper} {a : Act} {w : World} {Q : Exit → Act → World → Prop} {x y : Operand} {op : Oper}
theorem load_ir {q : Addr} {n : Nat} (ho : op.op = .load 3 x) (hc : w.cell? q = some (.int .i64 (n : Int))) (hx : a.eval x = .pointer (some q)) : (execOp a.eval op).run Tryd.prog w = .ok (.value (.int .i64 (n : Int))) w := by
 unfold execOp
 simp only [ho, hx]
 go_simp
theorem run_storeI {g k v : Nat} {n : Nat} {T : TypeId} {q : Nat → Nat} (hk : k < n) (hr : Row w g T (ic n q)) (ho : op.op = .store 3 x y) (hx : a.eval x = .pointer (some ⟨g, k, none⟩)) (hy : a.eval y = .int .i64 (v : Int)) : (execOp a.eval op).run Tryd.prog w = .ok .skip (w.setCell ⟨g, k, none⟩ (.int .i64 (v : Int))) := by
 have hc := hr.cell k
 rw [ic_get _ hk] at hc
 have hf := hr.free k
 unfold execOp
 simp only [ho, hx, hy]
 go_simp
theorem run_storeP {g k v : Nat} {T : TypeId} {q : Nat → Nat} (hk : k < 256) (hr : Row w g T (pc q)) (ho : op.op = .store 23 x y) (hx : a.eval x = .pointer (some ⟨g, k, none⟩)) (hy : a.eval y = .int .u16 (v : Int)) : (execOp a.eval op).run Tryd.prog w = .ok .skip (w.setCell ⟨g, k, none⟩ (.int .u16 (v : Int))) := by
 have hc := hr.cell k
 rw [pc_get _ hk] at hc
 have hf := hr.free k
 unfold execOp
 simp only [ho, hx, hy]
 go_simp
end
theorem nS_le {f : Nat → Nat} {c : Nat} (h : ∀ i, f i ≤ c) : ∀ n, nS n f ≤ n * c
 | 0 => Nat.zero_le _
 | n + 1 => by
  show nS n f + f n ≤ (n + 1) * c
  rw [Nat.succ_mul]
  exact Nat.add_le_add (nS_le h n) (h n)
/-- the sums of the product, when i rows and k summands of the next are done -/
def sumP (A B : Nat → Nat) (i k m : Nat) : Nat := nS i (fun i' => nS 256 (fun k' => if i' + k' = m then A i' * B k' else 0)) + nS k (fun k' => if i + k' = m then A i * B k' else 0)
theorem sumP_zero (A B : Nat → Nat) : sumP A B 0 0 = fun _ => 0 := rfl
theorem sumP_row (A B : Nat → Nat) (i : Nat) : sumP A B i 256 = sumP A B (i + 1) 0 := by
 funext m
 rfl
theorem sumP_next (A B : Nat → Nat) (i k : Nat) : upd (sumP A B i k) (i + k) (sumP A B i k (i + k) + A i * B k) = sumP A B i (k + 1) := by
 funext m
 unfold upd
 by_cases h : m = i + k
 ·subst h
  rw [if_pos rfl]
  show _ = nS i _ + (nS k _ + (if i + k = i + k then A i * B k else 0))
  rw [if_pos rfl, ← Nat.add_assoc]
  rfl
 ·rw [if_neg h]
  show _ = nS i _ + (nS k _ + (if i + k = m then A i * B k else 0))
  rw [if_neg (fun q => h q.symm), Nat.add_zero]
  rfl
theorem sumP_le {A B : Nat → Nat} (hA : ∀ i, A i < 3329) (hB : ∀ i, B i < 3329) (i k m : Nat) (hi : i ≤ 256) (hk : k ≤ 256) : sumP A B i k m ≤ 800000000000 := by
 have h1 : ∀ i k, A i * B k ≤ 3328 * 3328 := fun i k => Nat.mul_le_mul (Nat.le_of_lt_succ (hA i)) (Nat.le_of_lt_succ (hB k))
 have h2 : ∀ i' k', (if i' + k' = m then A i' * B k' else 0) ≤ 3328 * 3328 := fun i' k' => by
  split
  ·exact h1 _ _
  ·exact Nat.zero_le _
 have h3 := nS_le (fun i' => nS_le (h2 i') 256) i
 have h4 := nS_le (h2 i) k
 unfold sumP
 refine Nat.le_trans (Nat.add_le_add h3 h4) ?_
 refine Nat.le_trans (Nat.add_le_add (Nat.mul_le_mul_right _ hi) (Nat.mul_le_mul_right _ hk)) (by decide)
theorem sumP_cnv (A B : Nat → Nat) (m : Nat) : ((sumP A B 256 0 m : Nat) : Int) = cnv (iP A) (iP B) m := by
 unfold sumP cnv
 show (((nS 256 _) + 0 : Nat) : Int) = _
 rw [Nat.add_zero, nS_int]
 refine rS_congr fun i _ => ?_
 rw [nS_int]
 refine rS_congr fun k _ => ?_
 split
 ·exact Int.natCast_mul _ _
 ·rfl
theorem mul_out (p r : Nat → Nat) (k : Nat) : (sumP (fun i => p i % 3329) (fun i => r i % 3329) 256 0 k % 3329 + 3329 - sumP (fun i => p i % 3329) (fun i => r i % 3329) 256 0 (k + 256) % 3329) % 3329 = mulN p r k := by
 have h : ∀ q : Nat → Nat, pM (iP fun i => q i % 3329) (iP q) := fun q k _ => rM_nat _
 have h1 : mulN p r k = rd (ngc (iP fun i => p i % 3329) (iP fun i => r i % 3329) k) := (rd_of (ngc_of (h p) (h r) k)).symm
 rw [h1]
 unfold ngc rd
 rw [← sumP_cnv, ← sumP_cnv]
 generalize sumP (fun i => p i % 3329) (fun i => r i % 3329) 256 0 k = x
 generalize sumP (fun i => p i % 3329) (fun i => r i % 3329) 256 0 (k + 256) = y
 omega
end Go.Proofs.YtfcgdjgfdbcddaaDoor

/-
 OPERATIONS of the program's own functions: numbers of 16 and 32 bits, elements of arrays by value.
-/
namespace Go.Proofs.YtfcgdjgfdbcddaaDoor
open Go.RowKit
set_option maxRecDepth 100000
theorem run_idx (T : TypeId) (m : Nat) (hT : Tryd.prog.underlying T = some (.array m 23)) (W : World) (l : List Value) (k : Nat) (v : Value) (hk : k < m) (h : l[k]? = some v) : (Instr.index T (.agg l.toArray) (.int .i64 (k : Int))).run Tryd.prog W = .ok v W := by
 have h2 : (0 : Int) ≤ (k : Int) ∧ (k : Int) < (m : Int) := by omega
 have h3 : (k : Int).toNat = k := by omega
 have h4 : l.toArray[k]? = some v := by simpa using h
 have h6 := Tryd.underlying23
 have hs : (sizeOf 23).run Tryd.prog W = .ok 1 W := by kernel_rfl
 simp [Instr.index, asIntOf, h2, part, isAgg, run_underlying hT, run_underlying h6, hs, h, -Int.natCast_nonneg]
 exact fun q => absurd hk (by omega)
/-- the answer is a number of 16 bits, and the world is as it was -/
def U16Is (w : World) (n : Nat) (e : Ending) (w' : World) : Prop := e = .returned (.int .u16 (n : Int)) ∧ w = w'
section
variable {a : Act} {x y : Operand} {op : Oper} {w : World}
theorem idx_poly {k : Nat} {l : List Value} {v : Value} (hk : k < 256) (h : l[k]? = some v) (ho : op.op = .index 25 x y) (hx : a.eval x = .agg l.toArray) (hy : a.eval y = .int .i64 (k : Int)) : (execOp a.eval op).run Tryd.prog w = .ok (.value v) w := by
 have h1 := run_idx 25 256 Tryd.underlying25 w l k v hk h
 unfold execOp
 simp only [ho, hx, hy]
 go_simp
theorem idx_roots {k : Nat} {l : List Value} {v : Value} (hk : k < 128) (h : l[k]? = some v) (ho : op.op = .index 51 x y) (hx : a.eval x = .agg l.toArray) (hy : a.eval y = .int .i64 (k : Int)) : (execOp a.eval op).run Tryd.prog w = .ok (.value v) w := by
 have h1 := run_idx 51 128 Tryd.underlying51 w l k v hk h
 unfold execOp
 simp only [ho, hx, hy]
 go_simp
theorem add_uu {i j k : Nat} (h : k = i + j ∧ k < 65536) (ho : op.op = .binOp .add 23 x y 23) (hx : a.eval x = .int .u16 (i : Int)) (hy : a.eval y = .int .u16 (j : Int)) : (execOp a.eval op).run Tryd.prog w = .ok (.value (.int .u16 (k : Int))) w := by
 have hw : IntKind.u16.wrap ((i : Int) + (j : Int)) = (k : Int) := by rw [IntKind.wrap_u16]; omega
 have hm : ((i : Int) + (j : Int)) % 65536 = (k : Int) := by omega
 clear h
 unfold execOp
 simp only [ho, hx, hy]
 go_simp
theorem sub_uu {i j k : Nat} (h : i = k + j ∧ i < 65536) (ho : op.op = .binOp .sub 23 x y 23) (hx : a.eval x = .int .u16 (i : Int)) (hy : a.eval y = .int .u16 (j : Int)) : (execOp a.eval op).run Tryd.prog w = .ok (.value (.int .u16 (k : Int))) w := by
 have hw : IntKind.u16.wrap ((i : Int) - (j : Int)) = (k : Int) := by rw [IntKind.wrap_u16]; omega
 have hm : ((i : Int) - (j : Int)) % 65536 = (k : Int) := by omega
 clear h
 unfold execOp
 simp only [ho, hx, hy]
 go_simp
theorem conv_u32 {n : Nat} (hn : n < 65536) (ho : op.op = .convert 23 55 x) (hx : a.eval x = .int .u16 (n : Int)) : (execOp a.eval op).run Tryd.prog w = .ok (.value (.int .u32 (n : Int))) w := by
 have hw : IntKind.u32.wrap (n : Int) = (n : Int) := by rw [IntKind.wrap_u32]; omega
 have hm : (n : Int) % 4294967296 = (n : Int) := by omega
 unfold execOp
 simp only [ho, hx]
 go_simp
theorem conv_32 {n k : Nat} (h : k = n % 65536) (ho : op.op = .convert 55 23 x) (hx : a.eval x = .int .u32 (n : Int)) : (execOp a.eval op).run Tryd.prog w = .ok (.value (.int .u16 (k : Int))) w := by
 have hw : IntKind.u16.wrap (n : Int) = (k : Int) := by rw [IntKind.wrap_u16]; omega
 have hm : (n : Int) % 65536 = (k : Int) := by omega
 clear h
 unfold execOp
 simp only [ho, hx]
 go_simp
theorem mul_32 {i j k : Nat} (h : k = i * j) (hk : k < 4294967296) (ho : op.op = .binOp .mul 55 x y 55) (hx : a.eval x = .int .u32 (i : Int)) (hy : a.eval y = .int .u32 (j : Int)) : (execOp a.eval op).run Tryd.prog w = .ok (.value (.int .u32 (k : Int))) w := by
 have he : (i : Int) * (j : Int) = (k : Int) := by rw [h, Int.natCast_mul]
 have hw : IntKind.u32.wrap (k : Int) = (k : Int) := by rw [IntKind.wrap_u32]; omega
 have hm : (k : Int) % 4294967296 = (k : Int) := by omega
 clear h
 unfold execOp
 simp only [ho, hx, hy]
 go_simp
theorem rem_32 {n r : Nat} (h : r = n % 3329) (hn : n < 4294967296) (ho : op.op = .binOp .rem 55 x (.const (.int .u32 3329)) 55) (hx : a.eval x = .int .u32 (n : Int)) : (execOp a.eval op).run Tryd.prog w = .ok (.value (.int .u32 (r : Int))) w := by
 have hc : a.eval (.const (.int .u32 3329)) = .int .u32 3329 := rfl
 have e : (n : Int).tmod 3329 = (r : Int) := by rw [Int.tmod_eq_emod_of_nonneg (by omega)]; omega
 have e2 : (n : Int) % 3329 = (r : Int) := by omega
 have hw : IntKind.u32.wrap (r : Int) = (r : Int) := by rw [IntKind.wrap_u32]; omega
 have hm : (r : Int) % 4294967296 = (r : Int) := by omega
 clear h
 unfold execOp
 simp only [ho, hx, hc]
 go_simp
theorem add_32 {i j k : Nat} (h : k = i + j ∧ k < 4294967296) (ho : op.op = .binOp .add 55 x y 55) (hx : a.eval x = .int .u32 (i : Int)) (hy : a.eval y = .int .u32 (j : Int)) : (execOp a.eval op).run Tryd.prog w = .ok (.value (.int .u32 (k : Int))) w := by
 have hw : IntKind.u32.wrap ((i : Int) + (j : Int)) = (k : Int) := by rw [IntKind.wrap_u32]; omega
 have hm : ((i : Int) + (j : Int)) % 4294967296 = (k : Int) := by omega
 clear h
 unfold execOp
 simp only [ho, hx, hy]
 go_simp
theorem quo_32q {n r : Nat} (h : r = n / 3329) (hn : n < 4294967296) (ho : op.op = .binOp .quo 55 x (.const (.int .u32 3329)) 55) (hx : a.eval x = .int .u32 (n : Int)) : (execOp a.eval op).run Tryd.prog w = .ok (.value (.int .u32 (r : Int))) w := by
 have hc : a.eval (.const (.int .u32 3329)) = .int .u32 3329 := rfl
 have e : (n : Int).tdiv 3329 = (r : Int) := by rw [Int.tdiv_eq_ediv_of_nonneg (by omega)]; omega
 have e2 : (n : Int) / 3329 = (r : Int) := by omega
 have hw : IntKind.u32.wrap (r : Int) = (r : Int) := by rw [IntKind.wrap_u32]; omega
 have hm : (r : Int) % 4294967296 = (r : Int) := by omega
 clear h
 unfold execOp
 simp only [ho, hx, hc]
 go_simp
/-- a shift to the left by d: times 2 to the d -/
theorem shl_32 {n d k : Nat} (h : k = n * 2 ^ d) (hd : d ≤ 31) (hk : k < 4294967296) (ho : op.op = .binOp .shl 55 x y 3) (hx : a.eval x = .int .u32 (n : Int)) (hy : a.eval y = .int .i64 (d : Int)) : (execOp a.eval op).run Tryd.prog w = .ok (.value (.int .u32 (k : Int))) w := by
 have h1 : ¬ (d : Int) < 0 := by omega
 have h2 : (d : Int).toNat = d := by omega
 have he : (n : Int) * 2 ^ d = (k : Int) := by rw [h, Int.natCast_mul, Int.natCast_pow]; rfl
 have hw : IntKind.u32.wrap (k : Int) = (k : Int) := by rw [IntKind.wrap_u32]; omega
 have hm : (k : Int) % 4294967296 = (k : Int) := by omega
 have h3 : d < 32 := by omega
 clear h
 unfold execOp
 simp only [ho, hx, hy]
 go_simp
theorem shr_32 {n d k : Nat} (h : k = n / 2 ^ d) (hd : d ≤ 31) (hn : n < 4294967296) (ho : op.op = .binOp .shr 55 x y 3) (hx : a.eval x = .int .u32 (n : Int)) (hy : a.eval y = .int .i64 (d : Int)) : (execOp a.eval op).run Tryd.prog w = .ok (.value (.int .u32 (k : Int))) w := by
 have h1 : ¬ (d : Int) < 0 := by omega
 have h2 : (d : Int).toNat = d := by omega
 have hk : k ≤ n := by rw [h]; exact Nat.div_le_self _ _
 have he : (n : Int) / 2 ^ d = (k : Int) := by rw [h, Int.natCast_ediv, Int.natCast_pow]; rfl
 have hw : IntKind.u32.wrap (k : Int) = (k : Int) := by rw [IntKind.wrap_u32]; omega
 have hm : (k : Int) % 4294967296 = (k : Int) := by omega
 have h3 : d < 32 := by omega
 clear h
 unfold execOp
 simp only [ho, hx, hy]
 go_simp
end
end Go.Proofs.YtfcgdjgfdbcddaaDoor
