import Derived.BigRegion
import Derived.Deep.RegionWith
import Derived.Deep.RegionHeld
import Derived.BigQuiet
import Derived.Deep.QuietTactic
import Derived.StillTailTactics
import Derived.WalkKit
import Derived.Test.YtdakbipiifkmfaaGreatDoorProg
import Derived.WalkSpells
import Derived.WalkLawsBesides
import Derived.Lib.UnsafeStr
import Derived.Lib.Hide
import Derived.Laws.BytesArg
import Derived.Deep.Draws
import Derived.RegionTactic
import Derived.ChangeAlike
import Derived.Laws.AppendOwnNone
import Derived.Laws.Cover3
import Derived.Deep.MidRow
import Derived.Deep.WholeRow
import Derived.Deep.RegionHeld3
import Derived.Test.YtdakbipiifkmfaaGreatDoorRows
import Derived.ProofKit
import Derived.OpenShut
import Derived.JoinedCond
import Derived.SizedLaws
import Derived.Carry
import Derived.Deep.Grids
import Derived.Lib.ConvBytes
import Derived.Lib.AtoiErrMem
import Derived.Laws.AppendOwn
import Derived.Deep.RegionLaw
import Derived.Laws.CopyOwn
import Derived.DeepKeys
import Derived.Lib.SmallJoins
import Derived.Test.YtdakbipiifkmfaaGreatDoorHY
namespace Go.Proofs.YtdakbipiifkmfaaGreatDoor
open Go.RowKit
set_option maxRecDepth 100000
theorem goB_add11 (s : Bool) (n : Int) (seed : List UInt8) (a : List UInt32) (b : List UInt8) (f j k : Nat) : goB s n seed a b f (j + k) = goB s n seed a (goB s n seed a b f j) (f + j) k := by
 induction k with
 | zero => rfl
 | succ k ih =>
  show stepB s n seed a (f + (j + k)) (goB s n seed a b f (j + k)) = stepB s n seed a (f + j + k) (goB s n seed a (goB s n seed a b f j) (f + j) k);rw [ih, Nat.add_assoc]
theorem flat_step (g : Nat -> List UInt8) (k : Nat) : (List.range (k + 1)).flatMap g = (List.range k).flatMap g ++ g k := by
 rw [List.range_succ, List.flatMap_append];simp
theorem flat_len11 (g : Nat -> List UInt8) (n : Nat) : ∀ k : Nat, (∀ i, i < k -> (g i).length = n) -> ((List.range k).flatMap g).length = k * n
 | 0, _ => by simp
 | k + 1, h => by rw [flat_step, List.length_append, flat_len11 g n k (fun i hi => h i (by omega)), h k (by omega), Nat.succ_mul]
theorem flat_same (g h : Nat -> List UInt8) : ∀ k : Nat, (∀ i, i < k -> g i = h i) -> (List.range k).flatMap g = (List.range k).flatMap h
 | 0, _ => rfl
 | k + 1, e => by rw [flat_step, flat_step, flat_same g h k (fun i hi => e i (by omega)), e k (by omega)]
theorem piece_flat (g : Nat -> List UInt8) (n : Nat) : ∀ k : Nat, (∀ i, i < k -> (g i).length = n) -> ∀ i, i < k -> pieceB n ((List.range k).flatMap g) i = g i
 | 0, _ => fun i hi => by omega
 | k + 1, h => fun i hi => by
  have hl := flat_len11 g n k (fun i hi => h i (by omega));rw [flat_step]
  by_cases hk : i < k
  ·have h1 : (i + 1) * n <= k * n := Nat.mul_le_mul_right _ (by omega);have := piece_flat g n k (fun i hi => h i (by omega)) i hk;unfold pieceB at this ⊢;rw [List.take_append_of_le_length (by omega)];exact this
  ·obtain rfl : i = k := by omega
   unfold pieceB;rw [List.take_of_length_le (by rw [List.length_append, hl, h i (by omega), Nat.succ_mul]; exact Nat.le_refl _)];exact List.drop_left' hl
theorem on_ends11 {x : S5} (hx : x.ok = true) (sd pb : List UInt8) (a : List UInt32) (d : Nat -> Nat) (L : Nat) (hd : ∀ i, d i <= 15) : onB x.s x.n pb a d (endsB x.s x.n sd pb a d L) L = endsB x.s x.n sd pb a (dOf []) L := by
 unfold onB;refine flat_same _ _ L fun i hi => ?_
 have hl : ∀ j, (goB x.s x.n pb (atA a j) (beginB x.s x.n sd pb a j) 0 (d j)).length = x.n.toNat := fun j => goB_length hx pb (atA a j) _ 0 (d j) (ok_len hx 4 sd _).1
 have hp := piece_flat (fun i => goB x.s x.n pb (atA a i) (beginB x.s x.n sd pb a i) 0 (d i)) x.n.toNat L (fun j _ => hl j) i hi;unfold endsB;rw [hp];have e : dOf [] i = d i + (15 - d i) := by
  have := hd i;show 15 = _;omega
 rw [e, goB_add11, Nat.zero_add]
theorem dig10_ne (m : List UInt8) : dig10 m ≠ [] := by
 intro e;have := dig10_length m;rw [e] at this;simp at this
theorem dOf_dig11 (m : List UInt8) : dOf (dig10 m) = fun j => (dig10 m).getD j 0 := by
 funext j
 unfold dOf;rw [if_neg (dig10_ne m)]
theorem half_in {q H h : Nat} (hq : q < 2 ^ (H - h)) (hh : h < H) : 2 * (q / 2) + 1 < 2 ^ (H - h) := by
 have e : 2 ^ (H - h) = 2 * 2 ^ (H - h - 1) := by
  rw [show H - h = (H - h - 1) + 1 by omega, Nat.pow_succ];simp [Nat.mul_comm]
 rw [e] at hq ⊢;generalize 2 ^ (H - h - 1) = P at hq ⊢;omega
theorem div_in {i H h : Nat} (hi : i < 2 ^ H) (hh : h <= H) : i / 2 ^ h < 2 ^ (H - h) := by
 rw [Nat.div_lt_iff_lt_mul (Nat.pow_pos (by decide)), <- Nat.pow_add, Nat.sub_add_cancel hh];exact hi
theorem up_path {x : S5} (hx : x.ok = true) (sd pb : List UInt8) (H i : Nat) (hi : i < 2 ^ H) : ∀ h : Nat, h <= H ->
  upB x.s x.n pb (pathB x.s x.n x.l.toNat H sd pb i H) i (leafB x.s x.n x.l.toNat sd pb i) h = (rowB x.s x.n x.l.toNat H sd pb h).getD (i / 2 ^ h) []
 | 0, _ => by
  show leafB x.s x.n x.l.toNat sd pb i = _;rw [rowB_zero, Nat.pow_zero, Nat.div_one, List.getD_eq_getElem?_getD, List.getElem?_map, List.getElem?_range hi];rfl
 | h + 1, hh => by
  have ih := up_path hx sd pb H i hi h (by omega);have hq := div_in hi (show h <= H by omega);have hl := rowB_length x.s x.n x.l.toNat H sd pb h (by omega);have hp : pieceB x.n.toNat (pathB x.s x.n x.l.toNat H sd pb i H) h = (rowB x.s x.n x.l.toNat H sd pb h).getD (besd (i / 2 ^ h)) [] := by
   refine piece_flat (fun h => (rowB x.s x.n x.l.toNat H sd pb h).getD (besd (i / 2 ^ h)) []) x.n.toNat H (fun j hj => ?_) h (by omega);have h1 := besd_lt i j H hi hj;rw [<- rowB_length x.s x.n x.l.toNat H sd pb j (by omega)] at h1;show ((rowB x.s x.n x.l.toNat H sd pb j).getD (besd (i / 2 ^ j)) []).length = _;rw [getD_at h1];exact rowB_all hx H sd pb j _ (List.getElem_mem h1)
  have hg := pairs_get (rwF x.s x.n pb h) (i / 2 ^ h / 2) 0 (rowB x.s x.n x.l.toNat H sd pb h) (by rw [hl]; exact half_in hq (by omega));have e2 : i / 2 ^ (h + 1) = i / 2 ^ h / 2 := by rw [Nat.pow_succ, Nat.div_div_eq_div_mul]
  have hr : (rowB x.s x.n x.l.toNat H sd pb (h + 1)).getD (i / 2 ^ (h + 1)) [] = rwF x.s x.n pb h (i / 2 ^ h / 2) ((rowB x.s x.n x.l.toNat H sd pb h).getD (2 * (i / 2 ^ h / 2)) []) ((rowB x.s x.n x.l.toNat H sd pb h).getD (2 * (i / 2 ^ h / 2) + 1) []) := by
   rw [e2, List.getD_eq_getElem?_getD];have e3 : (rowB x.s x.n x.l.toNat H sd pb (h + 1))[i / 2 ^ h / 2]? = _ := hg;rw [e3, Nat.zero_add];rfl
  rw [hr];unfold upB;rw [ih, hp];unfold besd rwF;generalize i / 2 ^ h = q
  by_cases hm : q % 2 = 0
  ·rw [if_pos hm, if_neg (by omega), show 2 * (q / 2) = q by omega]
  ·rw [if_neg hm, if_pos (by omega), show 2 * (q / 2) = q - 1 by omega, show q - 1 + 1 = q by omega]
theorem path_len {x : S5} (hx : x.ok = true) (sd pb : List UInt8) (H i : Nat) (hi : i < 2 ^ H) : (pathB x.s x.n x.l.toNat H sd pb i H).length = H * x.n.toNat := by
 refine flat_len11 _ _ H fun j hj => ?_
 have h1 := besd_lt i j H hi hj;rw [<- rowB_length x.s x.n x.l.toNat H sd pb j (by omega)] at h1;rw [getD_at h1];exact rowB_all hx H sd pb j _ (List.getElem_mem h1)
theorem up_root {x : S5} (hx : x.ok = true) (sd pb : List UInt8) (H i : Nat) (hi : i < 2 ^ H) : upB x.s x.n pb (pathB x.s x.n x.l.toNat H sd pb i H) i (leafB x.s x.n x.l.toNat sd pb i) H = rootB x.s x.n x.l.toNat H sd pb := by
 rw [up_path hx sd pb H i hi H (Nat.le_refl _), Nat.div_eq_of_lt hi];rfl
theorem sig_parts (A R E P : List UInt8) (a r e : Nat) (ha : A.length = a) (hr : R.length = r) (he : E.length = e) :
  (A ++ (R ++ (E ++ P))).take a = A /\ ((A ++ (R ++ (E ++ P))).take (a + r)).drop a = R /\ ((A ++ (R ++ (E ++ P))).take (a + r + e)).drop (a + r) = E /\ (A ++ (R ++ (E ++ P))).drop (a + r + e) = P := by
 subst ha hr he;refine ⟨List.take_left' rfl, ?_, ?_, ?_⟩
 ·rw [<- List.append_assoc, List.take_left' (by simp), List.drop_left' rfl]
 ·rw [<- List.append_assoc, <- List.append_assoc, List.take_left' (by simp [Nat.add_assoc]), List.drop_left' (by simp)]
 ·rw [<- List.append_assoc, <- List.append_assoc, List.drop_left' (by simp [Nat.add_assoc])]
theorem came_sign {x : S5} (hx : x.ok = true) (sd pf pb root msg : List UInt8) (H i : Nat) (hi : i < 2 ^ H) :
  cameB x.s x.n x.l.toNat H pb root msg (signX x sd pf pb root msg (pathB x.s x.n x.l.toNat H sd pb i H) i) i = rootB x.s x.n x.l.toNat H sd pb := by
 have hr := (ok_len hx 3 pf (bigB i 32)).1;obtain ⟨r, hrr⟩ : ∃ r, r = keyd x.s x.n 3 pf (bigB i 32) := ⟨_, rfl⟩;rw [<- hrr] at hr;have hds : ∀ j, dOf (dig10 (sumdB x.s x.n r root i msg)) j <= 15 := by
  refine dOf_le fun d hd => dig10_lt _ ?_ d hd
  have := ok_len hx 2 (r ++ (root ++ bigB i x.n.toNat)) msg;show (keyd x.s x.n 2 _ msg).length <= 32;omega
 have he := endsB_len hx sd pb (adr11 0 i 0 0) (dOf (dig10 (sumdB x.s x.n r root i msg))) x.l.toNat;rw [Nat.mul_comm] at he;have hp := sig_parts (bigB i 4) r (endsB x.s x.n sd pb (adr11 0 i 0 0) (dOf (dig10 (sumdB x.s x.n r root i msg))) x.l.toNat) (pathB x.s x.n x.l.toNat H sd pb i H) 4 x.n.toNat (x.l.toNat * x.n.toNat) (bigB_length _ _) hr he;unfold cameB signX;rw [<- hrr, hp.2.1, hp.2.2.1, hp.2.2.2, <- dOf_dig11, on_ends11 hx sd pb _ _ _ hds];exact up_root hx sd pb H i hi
theorem xS_self {x : S5} (hx : x.ok = true) : xS x.c.toNat = x /\ xE x.c.toNat = 0 := by
 obtain ⟨h0, h1, h2, h3, h4, h5⟩ := of_decide_eq_true hx;refine ⟨?_, h0⟩;unfold xS;rw [<- h1, <- h2, <- h3, <- h4, <- h5]
theorem bigN_bigB4 (n : Nat) (h : n < 4294967296) : bigN (bigB n 4) = n := by
 unfold bigB;rw [bigN_reverse, litN_litB];exact Nat.mod_eq_of_lt h
theorem own_sign {x : S5} (hx : x.ok = true) (hc : x.c.toNat < 4294967296) (sd pf pb root msg : List UInt8) (hpb : pb.length = x.n.toNat) (i : Nat) (hi : i < 2 ^ x.h.toNat) (hroot : root = rootB x.s x.n x.l.toNat x.h.toNat sd pb) (sig : List UInt8)
  (hsig : sig = signX x sd pf pb root msg (pathB x.s x.n x.l.toNat x.h.toNat sd pb i x.h.toNat) i) :
  sig.length = lenX x /\ ixE x sig = 0 /\ ixN x sig = i /\ (pubX x root pb).length = 4 + 2 * x.n.toNat /\ verE (pubX x root pb) msg sig = 0 := by
 have hrl : root.length = x.n.toNat := by rw [hroot]; exact rootB_length hx _ _ _
 have hil : i < 4294967296 := by
  obtain ⟨H, hH, hH20⟩ := ok_h hx;have h1 : 2 ^ x.h.toNat <= 2 ^ 20 := Nat.pow_le_pow_right (by decide) (by omega);have h2 : 2 ^ 20 = 1048576 := by decide
  omega
 have hr := (ok_len hx 3 pf (bigB i 32)).1;have hpl := path_len hx sd pb x.h.toNat i hi;have hel := endsB_len hx sd pb (adr11 0 i 0 0) (dOf (dig10 (sumdB x.s x.n (keyd x.s x.n 3 pf (bigB i 32)) root i msg))) x.l.toNat;have hlen : sig.length = lenX x := by
  rw [hsig];unfold signX lenX;rw [List.length_append, List.length_append, List.length_append, bigB_length, hr, hel, hpl, Nat.add_mul, Nat.mul_comm x.n.toNat];omega
 have ht : bigN (sig.take 4) = i := by
  rw [hsig];unfold signX;rw [List.take_left' (bigB_length _ _)];exact bigN_bigB4 i hil
 have hie : ixE x sig = 0 := by
  unfold ixE;rw [if_pos hx, if_pos hlen, ht, if_pos hi]
 have hin : ixN x sig = i := by
  unfold ixN;rw [if_pos hie, ht]
 have hpub : (pubX x root pb).length = 4 + 2 * x.n.toNat := by
  unfold pubX;rw [List.length_append, List.length_append, bigB_length, hrl, hpb];omega
 refine ⟨hlen, hie, hin, hpub, ?_⟩;have htc : bigN ((pubX x root pb).take 4) = x.c.toNat := by
  unfold pubX;rw [List.take_left' (bigB_length _ _)];exact bigN_bigB4 _ hc
 have hrp : rootP x (pubX x root pb) = root := by
  unfold rootP pubX;rw [<- List.append_assoc, List.take_left' (by rw [List.length_append, bigB_length, hrl]), List.drop_left' (bigB_length _ _)]
 have hdp : (pubX x root pb).drop (4 + x.n.toNat) = pb := by
  unfold pubX;rw [<- List.append_assoc, List.drop_left' (by rw [List.length_append, bigB_length, hrl])]
 have hcp : cameP x (pubX x root pb) msg sig = root := by
  unfold cameP;rw [hrp, hdp, hin, hsig, came_sign hx sd pf pb root msg x.h.toNat i hi, hroot]
 unfold verE;rw [htc, (xS_self hx).1, (xS_self hx).2, hpub, hie, hcp, hrp];rw [if_neg (by omega), if_neg (by simp), if_neg (by simp), if_neg (by simp), if_pos (by simp)]
def signR (x : S5) (sd pf pb msg : List UInt8) (i : Nat) : List UInt8 := if leafE x sd pf pb i = 0 then signX x sd pf pb (rootB x.s x.n x.l.toNat x.h.toNat sd pb) msg (pathB x.s x.n x.l.toNat x.h.toNat sd pb i x.h.toNat) i else []
theorem leafE_own {x : S5} (hw : x.wf) {sd pf pb : List UInt8} (msg : List UInt8) {i : Nat} (h : leafE x sd pf pb i = 0) : badE x [sd, pf, pb] = 0 /\ x.ok = true /\ (signR x sd pf pb msg i).length = lenX x /\ ixE x (signR x sd pf pb msg i) = 0 /\ ixN x (signR x sd pf pb msg i) = i /\ (pubR x sd pf pb).length = 4 + 2 * x.n.toNat /\ verE (pubR x sd pf pb) msg (signR x sd pf pb msg i) = 0 := by
 have hs : signR x sd pf pb msg i = _ := if_pos h;have h1 := h;unfold leafE at h1;have hb : badE x [sd, pf, pb] = 0 := by
  by_cases hq : badE x [sd, pf, pb] = 0
  ·exact hq
  ·rw [if_neg hq] at h1; exact h1
 rw [if_pos hb] at h1;have hi : i < 2 ^ x.h.toNat := by
  by_cases hq : i < 2 ^ x.h.toNat
  ·exact hq
  ·rw [if_neg hq] at h1; exact absurd h1 (by decide)
 have hp : pubR x sd pf pb = _ := if_pos hb;have hok := badE_ok hb;have hl3 := hok.2 pb (by simp);rw [hp];exact ⟨hb, hok.1, own_sign hok.1 ((c5_nat hw).2) sd pf pb _ msg (by omega) i hi rfl _ hs⟩
end Go.Proofs.YtdakbipiifkmfaaGreatDoor
