/-
 THE DOCUMENT's DISK in memory; several disks beside each other.
-/
import Derived.Test.YtpajdmbajopofaaDk17
namespace Go.Proofs.Ytpajdmbajopofaa
open Go.RowKit
set_option maxRecDepth 100000
/-- sectors: a slice of its own of slices of bytes -/
def GAt (col : Nat → Nat) (c : Nat) (w : World) (v : Value) (l : List (List UInt8)) : Prop :=
 ∃ xs : List Value, w.ownsRow 0 33 1 v l.length xs ∧ (∀ k, v.ownBlock = some k → col k = c) ∧ ∀ j (h : j < l.length), ∃ u, xs[j]? = some u ∧ Dat col w u l[j]
/-- the document's disk -/
def RAt (col : Nat → Nat) (c : Nat) (w : World) (g : Nat) (s : DS) : Prop := s.ok ∧ col g = c ∧ ∃ gv wv,
 Row w g 64 [gv, wv, .bool (!s.on), .int .i64 s.fuse, .int .i64 s.done] ∧ GAt col c w gv s.good ∧ PAt col c w 75 wv s.wait
section
variable {col col' : Nat → Nat} {c d g : Nat} {w w' : World}
theorem GAt.ext {v : Value} {l : List (List UInt8)} (h : GAt col d w v l) (e : Ext col c w w' col') (hd : d ≠ c) (hc : c ≠ 0) : GAt col' d w' v l := by
 obtain ⟨xs, h1, h2, h3⟩ := h
 refine ⟨xs, ownsRow_ext h1 h2 e hd, fun k hk => ?_, fun j hj => ?_⟩
 ·rw [e.hue k (h1.lt k hk).2]; exact h2 k hk
 ·obtain ⟨u, h4, h6⟩ := h3 j hj
  exact ⟨u, h4, h6.ext e hc⟩
theorem RAt.ext {s : DS} (h : RAt col d w g s) (e : Ext col c w w' col') (hd : d ≠ c) (hc : c ≠ 0) : RAt col' d w' g s := by
 obtain ⟨h0, h1, gv, wv, h3, h4, h5⟩ := h
 exact ⟨h0, by rw [e.hue g h3.lt]; exact h1, gv, wv, h3.ext e (by rw [h1]; exact hd), h4.ext e hd hc, h5.ext e hd hc⟩
theorem RAt.go {s : DS} (h : RAt col d w g s) (b : Below w.heap.size w w') : RAt col d w' g s := h.ext (Ext.of_below col (d + 1) b) (by omega) (by omega)
theorem RAt.re {s : DS} (h : RAt col d w g s) (hd : ∀ k, k < w.heap.size → col' k = col k) : RAt col' d w g s := h.ext ((Ext.refl col (d + 1) w).re hd) (by omega) (by omega)
/-! other colours -/
theorem Dat.hue {f : Nat → Nat} (h0 : f 0 = 0) {u : Value} {bs : List UInt8} (h : Dat col w u bs) : Dat (fun k => f (col k)) w u bs := by
 obtain ⟨b, off, cp, h1, h2, h3⟩ := h
 exact ⟨b, off, cp, h1, by show f (col b) = 0; rw [h2]; exact h0, h3⟩
theorem PAt.hue {f : Nat → Nat} (h0 : f 0 = 0) (hc : f c = d) {T : TypeId} {v : Value} {l : List (Nat × List UInt8)} (h : PAt col c w T v l) : PAt (fun k => f (col k)) d w T v l := by
 obtain ⟨xs, h1, h2, h3⟩ := h
 exact ⟨xs, h1, fun k hk => by show f (col k) = d; rw [h2 k hk]; exact hc, fun j hj => by obtain ⟨u, h4, h5, h6⟩ := h3 j hj; exact ⟨u, h4, h5, h6.hue h0⟩⟩
theorem DAt.hue {f : Nat → Nat} (h0 : f 0 = 0) (hc : f c = d) {s : DS} (h : DAt col c w g s) : DAt (fun k => f (col k)) d w g s := by
 obtain ⟨k0, k1, q, dc, pv, sp, k2, k3, k4, k5, k6, k7⟩ := h
 exact ⟨k0, by show f (col g) = d; rw [k1]; exact hc, q, dc, pv, sp, by show f (col q) = d; rw [k2]; exact hc, k3, k4, k5, k6, k7.hue h0 hc⟩
theorem RAt.hue {f : Nat → Nat} (h0 : f 0 = 0) (hc : f c = d) {s : DS} (h : RAt col c w g s) : RAt (fun k => f (col k)) d w g s := by
 obtain ⟨k0, k1, gv, wv, k3, ⟨xs, k4, k5, k6⟩, k7⟩ := h
 exact ⟨k0, by show f (col g) = d; rw [k1]; exact hc, gv, wv, k3, ⟨xs, k4, fun k hk => by show f (col k) = d; rw [k5 k hk]; exact hc, fun j hj => by obtain ⟨u, h4, h6⟩ := k6 j hj; exact ⟨u, h4, h6.hue h0⟩⟩, k7.hue h0 hc⟩
end
/-! several disks -/
/-- a disk of the program (false) or of the document (true), where it lies, what it is -/
structure Ent where
 ref : Bool
 at_ : Nat
 st : DS
def Ent.is (x : Ent) (col : Nat → Nat) (c : Nat) (w : World) : Prop := if x.ref then RAt col c w x.at_ x.st else DAt col c w x.at_ x.st
theorem Ent.is.ext {x : Ent} {col col' : Nat → Nat} {c d : Nat} {w w' : World} (h : x.is col d w) (e : Ext col c w w' col') (hd : d ≠ c) (hc : c ≠ 0) : x.is col' d w' := by
 unfold Ent.is at h ⊢
 split
 ·rename_i hr; rw [if_pos hr] at h; exact RAt.ext h e hd hc
 ·rename_i hr; rw [if_neg hr] at h; exact DAt.ext h e hd hc
theorem Ent.is.hue {x : Ent} {col : Nat → Nat} {c d : Nat} {w : World} {f : Nat → Nat} (h0 : f 0 = 0) (hc : f c = d) (h : x.is col c w) : x.is (fun k => f (col k)) d w := by
 unfold Ent.is at h ⊢
 split
 ·rename_i hr; rw [if_pos hr] at h; exact RAt.hue h0 hc h
 ·rename_i hr; rw [if_neg hr] at h; exact DAt.hue h0 hc h
/-- since w: old memory (colour 9) lies as it lay, and there are these disks, each of its colour -/
def Sys (w W : World) (E : Nat → Option Ent) : Prop := Below w.heap.size w W ∧ ∃ col : Nat → Nat, (∀ k, k < w.heap.size → col k = 9) ∧ E 0 = none ∧ E 9 = none ∧ ∀ c x, E c = some x → x.is col c W
def noE : Nat → Option Ent := fun _ => none
def putE (E : Nat → Option Ent) (c : Nat) (x : Option Ent) : Nat → Option Ent := fun k => if k = c then x else E k
theorem putE_same (E : Nat → Option Ent) (c : Nat) (x : Option Ent) : putE E c x c = x := if_pos rfl
theorem putE_ne (E : Nat → Option Ent) {c d : Nat} (x : Option Ent) (h : d ≠ c) : putE E c x d = E d := if_neg h
theorem putE_putE (E : Nat → Option Ent) (c : Nat) (x y : Option Ent) : putE (putE E c x) c y = putE E c y := by
 funext k
 unfold putE
 split <;> rfl
section
variable {w W Z : World} {E : Nat → Option Ent} {c : Nat}
theorem Sys.start (w : World) : Sys w w noE := ⟨Below.refl _ _, fun _ => 9, fun _ _ => rfl, rfl, rfl, fun c x h => by cases h⟩
theorem Sys.bel (h : Sys w W E) : Below w.heap.size w W := h.1
theorem Sys.go (h : Sys w W E) (b : Below W.heap.size W Z) : Sys w Z E := by
 obtain ⟨h1, col, h2, h3, h4, h5⟩ := h
 refine ⟨Below.chain h1 b, col, h2, h3, h4, fun c x hx => ?_⟩
 exact (h5 c x hx).ext (Ext.of_below col (c + 1) b) (by omega) (by omega)
theorem Sys.drop (h : Sys w W E) (c : Nat) : Sys w W (putE E c none) := by
 obtain ⟨h1, col, h2, h3, h4, h5⟩ := h
 refine ⟨h1, col, h2, ?_, ?_, fun d x hx => ?_⟩
 ·unfold putE; split <;> first | rfl | exact h3
 ·unfold putE; split <;> first | rfl | exact h4
 ·unfold putE at hx
  split at hx
  ·cases hx
  ·exact h5 d x hx
/-- a call on disk c: the others stay -/
theorem Sys.turn {x y : Ent} (h : Sys w W E) (hx : E c = some x) (hc : ∀ col : Nat → Nat, x.is col c W → ∃ col', Ext col c W Z col' ∧ y.is col' c Z) : Sys w Z (putE E c (some y)) := by
 obtain ⟨h1, col, h2, h3, h4, h5⟩ := h
 have hc0 : c ≠ 0 := fun e => by rw [e, h3] at hx; cases hx
 have hc9 : c ≠ 9 := fun e => by rw [e, h4] at hx; cases hx
 obtain ⟨col', e, hy⟩ := hc col (h5 c x hx)
 have hs := h1.size
 refine ⟨h1.trans (e.below (fun k hk => by rw [h2 k hk]; exact Ne.symm hc9) hs), col', fun k hk => by rw [e.hue k (by omega)]; exact h2 k hk, ?_, ?_, fun d z hz => ?_⟩
 ·rw [putE_ne E _ (Ne.symm hc0)]; exact h3
 ·rw [putE_ne E _ (Ne.symm hc9)]; exact h4
 ·by_cases hd : d = c
  ·subst hd
   rw [putE_same] at hz
   cases hz
   exact hy
  ·rw [putE_ne E _ hd] at hz
   exact (h5 d z hz).ext e hd hc0
/-- a new disk -/
theorem Sys.add {y : Ent} (h : Sys w W E) (hx : E c = none) (hc0 : c ≠ 0) (hc9 : c ≠ 9) (b : Below W.heap.size W Z) (hc : ∀ col : Nat → Nat, y.is (paint col W.heap.size c) c Z) : Sys w Z (putE E c (some y)) := by
 obtain ⟨h1, col, h2, h3, h4, h5⟩ := h
 have hs := h1.size
 refine ⟨Below.chain h1 b, paint col W.heap.size c, fun k hk => by rw [paint_lt (by omega)]; exact h2 k hk, ?_, ?_, fun d z hz => ?_⟩
 ·rw [putE_ne E _ (Ne.symm hc0)]; exact h3
 ·rw [putE_ne E _ (Ne.symm hc9)]; exact h4
 ·by_cases hd : d = c
  ·subst hd
   rw [putE_same] at hz
   cases hz
   exact hc col
  ·rw [putE_ne E _ hd] at hz
   exact (h5 d z hz).ext ((Ext.of_below col c b).paint c) hd hc0
/-- disk a takes the place of disk c -/
theorem Sys.move {a : Nat} {x : Ent} (h : Sys w W E) (hx : E a = some x) (hc0 : c ≠ 0) (hc9 : c ≠ 9) : Sys w W (putE (putE E a none) c (some x)) := by
 obtain ⟨h1, col, h2, h3, h4, h5⟩ := h
 have ha0 : a ≠ 0 := fun e => by rw [e, h3] at hx; cases hx
 have ha9 : a ≠ 9 := fun e => by rw [e, h4] at hx; cases hx
 let f : Nat → Nat := fun k => if k = a then c else if k = c then a else k
 have f0 : f 0 = 0 := by show (if 0 = a then c else if 0 = c then a else 0) = 0; rw [if_neg (Ne.symm ha0), if_neg (Ne.symm hc0)]
 refine ⟨h1, fun k => f (col k), fun k hk => ?_, ?_, ?_, fun d z hz => ?_⟩
 ·show f (col k) = 9
  rw [h2 k hk]
  show (if 9 = a then c else if 9 = c then a else 9) = 9
  rw [if_neg (Ne.symm ha9), if_neg (Ne.symm hc9)]
 ·rw [putE_ne _ _ (Ne.symm hc0), putE_ne _ _ (Ne.symm ha0)]; exact h3
 ·rw [putE_ne _ _ (Ne.symm hc9), putE_ne _ _ (Ne.symm ha9)]; exact h4
 ·by_cases hd : d = c
  ·subst hd
   rw [putE_same] at hz
   cases hz
   exact (h5 a x hx).hue f0 (if_pos rfl)
  ·rw [putE_ne _ _ hd] at hz
   by_cases hda : d = a
   ·subst hda
    rw [putE_same] at hz
    cases hz
   ·rw [putE_ne _ _ hda] at hz
    refine (h5 d z hz).hue f0 ?_
    show (if d = a then c else if d = c then a else d) = d
    rw [if_neg hda, if_neg hd]
theorem Sys.dat {g : Nat} {s : DS} (h : Sys w W E) (hx : E c = some ⟨false, g, s⟩) : ∃ col : Nat → Nat, DAt col c W g s ∧ c ≠ 0 ∧ ∀ k, k < w.heap.size → col k ≠ c := by
 obtain ⟨h1, col, h2, h3, h4, h5⟩ := h
 exact ⟨col, h5 c _ hx, (fun e => by rw [e, h3] at hx; cases hx), fun k hk e => by rw [h2 k hk] at e; rw [← e, h4] at hx; cases hx⟩
end
end Go.Proofs.Ytpajdmbajopofaa
