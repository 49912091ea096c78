/-
 THE DOCUMENT'S FAST TRANSFORM by halves: split and join as mathematics.
-/
import Derived.Test.YtapjiknedghhfaaDg3
namespace Go.Proofs.Ytapjiknedghhfaa
set_option maxRecDepth 100000
def zI (e : Nat) : Int := qd ((1753 : Int) ^ e)
theorem zI_lt (e : Nat) : 0 ≤ zI e ∧ zI e < 8380417 := qd_lt _
def loF (n : Nat) (f : Nat → Int) (e i : Nat) : Int := qd (f i + qd (f (n + i) * zI (e / 2)))
def hiF (n : Nat) (f : Nat → Int) (e i : Nat) : Int := qd (f i - qd (f (n + i) * zI (e / 2)))
def splF : Nat → (Nat → Int) → Nat → Nat → Int
 | 0, f, _, x => f x
 | m + 1, f, e, x => if x < 2 ^ m then splF m (loF (2 ^ m) f e) (e / 2) x else splF m (hiF (2 ^ m) f e) (e / 2 + 256) (x - 2 ^ m)
/-- a leaf's exponent -/
def exF : Nat → Nat → Nat → Nat
 | 0, e, _ => e
 | m + 1, e, x => if x < 2 ^ m then exF m (e / 2) x else exF m (e / 2 + 256) (x - 2 ^ m)
theorem half_e {m e : Nat} (h : 2 ^ (m + 1) ∣ e) : 2 ^ m ∣ e / 2 ∧ 2 * (e / 2) = e := by
 obtain ⟨c, rfl⟩ := h
 rw [Nat.pow_succ, show 2 ^ m * 2 * c = 2 * (2 ^ m * c) by grind, Nat.mul_div_cancel_left _ (by decide)]
 exact ⟨⟨c, rfl⟩, rfl⟩
theorem half_e2 {m e : Nat} (h : 2 ^ (m + 1) ∣ e) (hm : m ≤ 8) : 2 ^ m ∣ e / 2 + 256 := by
 refine Nat.dvd_add (half_e h).1 ⟨2 ^ (8 - m), ?_⟩
 rw [← Nat.pow_add, show m + (8 - m) = 8 by omega]
theorem exF_mod : ∀ m e x, 2 ^ m ∣ e → m ≤ 8 → exF m e x * 2 ^ m % 512 = e % 512
 | 0, e, x, _, _ => by show e * 1 % 512 = e % 512; rw [Nat.mul_one]
 | m + 1, e, x, h, hm => by
  have h1 := half_e h
  unfold exF
  split
  ·have h2 := exF_mod m (e / 2) x h1.1 (by omega)
   rw [Nat.pow_succ, ← Nat.mul_assoc]
   omega
  ·have h2 := exF_mod m (e / 2 + 256) (x - 2 ^ m) (half_e2 h (by omega)) (by omega)
   rw [Nat.pow_succ, ← Nat.mul_assoc]
   omega
theorem z512 (e d : Nat) (h : e % 512 = d % 512) : qM ((1753 : Int) ^ e) ((1753 : Int) ^ d) := (qM_pow e).trans ((qM.of (by rw [h])).trans (qM_pow d).symm)
theorem z256 : qM ((1753 : Int) ^ 256) (-1) := by
 have h2 : ((1753 ^ 256 % 8380417 : Nat) : Int) = 8380416 := by rw [pow1753]; rfl
 rw [Int.natCast_emod, Int.natCast_pow] at h2
 exact h2.trans (by decide)
theorem z256' (e : Nat) : qM ((1753 : Int) ^ (e + 256)) (-((1753 : Int) ^ e)) := by
 rw [Int.pow_add]
 exact ((qM.of rfl).mul z256).trans (qM.of (by grind))
theorem splF_is : ∀ m f e x, 2 ^ m ∣ e → m ≤ 8 → x < 2 ^ m → qM (splF m f e x) (rS (2 ^ m) (fun j => f j * (1753 : Int) ^ (exF m e x * j)))
 | 0, f, e, x, _, _, hx => by
  have h0 : x = 0 := by rw [Nat.pow_zero] at hx; omega
  subst h0
  show qM (f 0) (0 + f 0 * (1753 : Int) ^ (e * 0))
  rw [Nat.mul_zero, Int.pow_zero]
  exact qM.of (by omega)
 | m + 1, f, e, x, h, hm, hx => by
  have h1 := half_e h
  have hd : 2 ^ (m + 1) = 2 ^ m + 2 ^ m := by rw [Nat.pow_succ]; omega
  unfold splF exF
  split
  ·rename_i hlt
   refine (splF_is m (loF (2 ^ m) f e) (e / 2) x h1.1 (by omega) hlt).trans ?_
   rw [hd, rS_split, ← rS_add]
   refine qM_S fun j _ => ?_
   have h2 := z512 _ _ (exF_mod m (e / 2) x h1.1 (by omega))
   have h3 : qM (loF (2 ^ m) f e j) (f j + f (2 ^ m + j) * (1753 : Int) ^ (e / 2)) := (qM_qd _).trans ((qM.of rfl).add ((qM_qd _).trans ((qM.of rfl).mul (qM_qd _))))
   refine (h3.mul (qM.of rfl)).trans ?_
   rw [Nat.mul_add, Int.pow_add]
   refine qM.trans ?_ ((qM.of rfl).add ((qM.of rfl).mul (h2.symm.mul (qM.of rfl))))
   exact qM.of (by grind)
  ·rename_i hge
   refine (splF_is m (hiF (2 ^ m) f e) (e / 2 + 256) (x - 2 ^ m) (half_e2 h (by omega)) (by omega) (by omega)).trans ?_
   rw [hd, rS_split, ← rS_add]
   refine qM_S fun j _ => ?_
   have h2 := (z512 _ _ (exF_mod m (e / 2 + 256) (x - 2 ^ m) (half_e2 h (by omega)) (by omega))).trans (z256' _)
   have h3 : qM (hiF (2 ^ m) f e j) (f j - f (2 ^ m + j) * (1753 : Int) ^ (e / 2)) := (qM_qd _).trans ((qM.of rfl).sub ((qM_qd _).trans ((qM.of rfl).mul (qM_qd _))))
   refine (h3.mul (qM.of rfl)).trans ?_
   rw [Nat.mul_add, Int.pow_add]
   refine qM.trans ?_ ((qM.of rfl).add ((qM.of rfl).mul (h2.symm.mul (qM.of rfl))))
   exact qM.of (by grind)
theorem exF_all' : ((List.range 256).all fun x => decide (exF 8 256 x % 512 = (2 * rvQ x + 1) % 512)) = true := by decide +kernel
theorem splF_ntt (f : Nat → Int) (hf : ∀ i, 0 ≤ f i ∧ f i < 8380417) (x : Nat) (hx : x < 256) : qM (splF 8 f 256 x) (nttD f x) := by
 refine (splF_is 8 f 256 x ⟨1, rfl⟩ (Nat.le_refl _) hx).trans (qM.trans ?_ (qM_qd _).symm)
 have he := of_decide_eq_true (List.all_eq_true.1 exF_all' x (List.mem_range.2 hx))
 unfold evD
 refine qM_S fun j _ => (qM.of rfl).mul ?_
 rw [Int.pow_mul]
 exact (((z512 _ _ he).trans (rtQ_root x).symm).pow j)
theorem splF_lt : ∀ m f e x, (∀ i, i < 2 ^ m → 0 ≤ f i ∧ f i < 8380417) → x < 2 ^ m → 0 ≤ splF m f e x ∧ splF m f e x < 8380417
 | 0, f, e, x, h, hx => h x hx
 | m + 1, f, e, x, h, hx => by
  unfold splF
  rw [Nat.pow_succ] at hx
  split
  ·exact splF_lt m _ _ x (fun i _ => qd_lt _) (by assumption)
  ·exact splF_lt m _ _ _ (fun i _ => qd_lt _) (by omega)
theorem splF_nttD (f : Nat → Int) (hf : ∀ i, 0 ≤ f i ∧ f i < 8380417) (x : Nat) (hx : x < 256) : splF 8 f 256 x = nttD f x := qM_eq (splF_ntt f hf x hx) (splF_lt 8 f 256 x (fun i _ => hf i) hx) (qd_lt _)
/-- back -/
def joinF : Nat → (Nat → Int) → Nat → Nat → Int
 | 0, g, _, x => g x
 | m + 1, g, e, x => if x < 2 ^ m then qd (qd (joinF m g (e / 2) x + joinF m (fun i => g (2 ^ m + i)) (e / 2 + 256) x) * 4190209) else qd (qd (joinF m g (e / 2) (x - 2 ^ m) - joinF m (fun i => g (2 ^ m + i)) (e / 2 + 256) (x - 2 ^ m)) * qd (zI (512 - e / 2) * 4190209))
theorem joinF_of : ∀ m g h e x, (∀ i, i < 2 ^ m → g i = h i) → x < 2 ^ m → joinF m g e x = joinF m h e x
 | 0, g, h, e, x, hh, hx => hh x hx
 | m + 1, g, h, e, x, hh, hx => by
  have hd : 2 ^ (m + 1) = 2 ^ m + 2 ^ m := by rw [Nat.pow_succ]; omega
  rw [hd] at hh hx
  unfold joinF
  split
  ·rw [joinF_of m g h _ x (fun i hi => hh i (by omega)) (by omega), joinF_of m (fun i => g (2 ^ m + i)) (fun i => h (2 ^ m + i)) _ x (fun i hi => hh _ (by omega)) (by omega)]
  ·rw [joinF_of m g h _ (x - 2 ^ m) (fun i hi => hh i (by omega)) (by omega), joinF_of m (fun i => g (2 ^ m + i)) (fun i => h (2 ^ m + i)) _ (x - 2 ^ m) (fun i hi => hh _ (by omega)) (by omega)]
theorem joinF_lt : ∀ m g e x, (∀ i, i < 2 ^ m → 0 ≤ g i ∧ g i < 8380417) → x < 2 ^ m → 0 ≤ joinF m g e x ∧ joinF m g e x < 8380417
 | 0, g, e, x, h, hx => h x hx
 | m + 1, g, e, x, h, hx => by
  unfold joinF
  split
  ·exact qd_lt _
  ·exact qd_lt _
theorem join_split : ∀ m f e x, (∀ i, i < 2 ^ m → 0 ≤ f i ∧ f i < 8380417) → 2 ^ m ∣ e → m ≤ 8 → e ≤ 512 → x < 2 ^ m → joinF m (splF m f e) e x = f x
 | 0, f, e, x, _, _, _, _, _ => rfl
 | m + 1, f, e, x, hf, h, hm, he, hx => by
  have hd : 2 ^ (m + 1) = 2 ^ m + 2 ^ m := by rw [Nat.pow_succ]; omega
  have h1 := half_e h
  rw [hd] at hx hf
  have L : ∀ y, y < 2 ^ m → joinF m (splF (m + 1) f e) (e / 2) y = loF (2 ^ m) f e y := fun y hy => by
   rw [joinF_of m (splF (m + 1) f e) (splF m (loF (2 ^ m) f e) (e / 2)) _ y (fun i hi => if_pos hi) hy]
   exact join_split m _ _ y (fun i _ => qd_lt _) h1.1 (by omega) (by omega) hy
  have R : ∀ y, y < 2 ^ m → joinF m (fun i => splF (m + 1) f e (2 ^ m + i)) (e / 2 + 256) y = hiF (2 ^ m) f e y := fun y hy => by
   rw [joinF_of m (fun i => splF (m + 1) f e (2 ^ m + i)) (splF m (hiF (2 ^ m) f e) (e / 2 + 256)) _ y (fun i _ => by
    have h3 : splF (m + 1) f e (2 ^ m + i) = splF m (hiF (2 ^ m) f e) (e / 2 + 256) (2 ^ m + i - 2 ^ m) := if_neg (by omega)
    rw [h3, show 2 ^ m + i - 2 ^ m = i by omega]) hy]
   exact join_split m _ _ y (fun i _ => qd_lt _) (half_e2 h (by omega)) (by omega) (by omega) hy
  have lo : ∀ y, qM (loF (2 ^ m) f e y) (f y + f (2 ^ m + y) * (1753 : Int) ^ (e / 2)) := fun y => (qM_qd _).trans ((qM.of rfl).add ((qM_qd _).trans ((qM.of rfl).mul (qM_qd _))))
  have hi : ∀ y, qM (hiF (2 ^ m) f e y) (f y - f (2 ^ m + y) * (1753 : Int) ^ (e / 2)) := fun y => (qM_qd _).trans ((qM.of rfl).sub ((qM_qd _).trans ((qM.of rfl).mul (qM_qd _))))
  unfold joinF
  split
  ·rename_i hlt
   rw [L x hlt, R x hlt]
   refine qd_eq (((qM_qd _).mul (qM.of rfl)).trans ?_) (hf x (by omega))
   refine (((lo x).add (hi x)).mul (qM.of rfl)).trans ((qM.of (show _ = f x + f x * 8380417 by omega)).trans ?_)
   unfold qM
   omega
  ·rename_i hge
   have hy : x - 2 ^ m < 2 ^ m := by omega
   rw [L _ hy, R _ hy]
   refine qd_eq (((qM_qd _).mul ((qM_qd _).trans ((qM_qd _).mul (qM.of rfl)))).trans ?_) (hf x (by omega))
   refine (((lo _).sub (hi _)).mul (qM.of rfl)).trans ?_
   rw [show 2 ^ m + (x - 2 ^ m) = x by omega]
   have hz : qM ((1753 : Int) ^ (e / 2) * (1753 : Int) ^ (512 - e / 2)) 1 := by
    rw [← Int.pow_add, show e / 2 + (512 - e / 2) = 512 by omega]
    exact (z512 512 0 rfl).trans (qM.of (Int.pow_zero _))
   refine (qM.of (show _ = (f x * 8380418) * ((1753 : Int) ^ (e / 2) * (1753 : Int) ^ (512 - e / 2)) by grind)).trans (((qM.of rfl).mul hz).trans ?_)
   unfold qM
   omega
theorem joinF_inv (g : Nat → Int) (x : Nat) (hx : x < 256) : joinF 8 (redD g) 256 x = invD g x := by
 have h : ∀ i, i < 256 → redD g i = splF 8 (invD g) 256 i := fun i hi => by
  rw [splF_nttD (invD g) (fun i => qd_lt _) i hi]
  exact (ntt_invD g i hi).symm
 rw [joinF_of 8 _ (splF 8 (invD g) 256) 256 x h hx]
 exact join_split 8 _ 256 x (fun i _ => qd_lt _) ⟨1, rfl⟩ (Nat.le_refl _) (by decide) hx
end Go.Proofs.Ytapjiknedghhfaa
