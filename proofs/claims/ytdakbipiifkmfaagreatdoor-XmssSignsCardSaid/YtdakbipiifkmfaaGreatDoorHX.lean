import Derived.Laws.Cover3
import Derived.BigQuiet
import Derived.StillTailTactics
import Derived.BigRegion
import Derived.Deep.RegionWith
import Derived.Deep.RegionHeld
import Derived.Deep.MidRow
import Derived.Deep.WholeRow
import Derived.Deep.RegionHeld3
import Derived.Deep.QuietTactic
import Derived.Test.YtdakbipiifkmfaaGreatDoorRows
import Derived.ProofKit
import Derived.OpenShut
import Derived.JoinedCond
import Derived.SizedLaws
import Derived.Carry
import Derived.Deep.Grids
import Derived.Lib.ConvBytes
import Derived.Lib.AtoiErrMem
import Derived.Laws.AppendOwn
import Derived.RegionTactic
import Derived.Deep.RegionLaw
import Derived.Laws.CopyOwn
import Derived.DeepKeys
import Derived.Lib.SmallJoins
import Derived.WalkKit
import Derived.Test.YtdakbipiifkmfaaGreatDoorProg
import Derived.WalkSpells
import Derived.WalkLawsBesides
import Derived.Lib.UnsafeStr
import Derived.Lib.Hide
import Derived.Laws.BytesArg
import Derived.Deep.Draws
import Derived.ChangeAlike
import Derived.Laws.AppendOwnNone
import Derived.Test.YtdakbipiifkmfaaGreatDoorHH
namespace Go.Proofs.YtdakbipiifkmfaaGreatDoor
open Go.RowKit
set_option maxRecDepth 100000
def adr11 (kind leaf height node : Nat) : List UInt32 := [0, 0, 0, UInt32.ofNat kind, UInt32.ofNat leaf, UInt32.ofNat height, UInt32.ofNat node, 0]
def last11 (a : List UInt32) (j : Nat) : List UInt32 := a.set 7 (UInt32.ofNat j)
theorem last11_length (a : List UInt32) (j : Nat) : (last11 a j).length = a.length := by simp [last11]
def key11 (s : Bool) (n : Int) (seed : List UInt8) (a : List UInt32) (j : Nat) : List UInt8 := keyd s n 3 seed (adrB (last11 a j))
def nodeB (s : Bool) (n : Int) (seed : List UInt8) (a : List UInt32) (left right : List UInt8) : List UInt8 :=
 keyd s n 1 (key11 s n seed a 0) (List.zipWith (· ^^^ ·) left (key11 s n seed a 1) ++ List.zipWith (· ^^^ ·) right (key11 s n seed a 2))
def pairs (f : Nat -> List UInt8 -> List UInt8 -> List UInt8) : Nat -> List (List UInt8) -> List (List UInt8)
 | i, a :: b :: r => f i a b :: pairs f (i + 1) r
 | _, r => r
theorem pairs_length (f : Nat -> List UInt8 -> List UInt8 -> List UInt8) : ∀ (k : Nat) (i : Nat) (l : List (List UInt8)), l.length <= k -> (pairs f i l).length = (l.length + 1) / 2
 | 0, i, [], _ => rfl
 | 0, _, _ :: _, h => by simp at h
 | k + 1, i, [], _ => rfl
 | k + 1, i, [a], _ => by simp [pairs]
 | k + 1, i, a :: b :: r, h => by
  simp only [List.length_cons] at h;show (f i a b :: pairs f (i + 1) r).length = _;rw [List.length_cons, pairs_length f k (i + 1) r (by omega)];simp only [List.length_cons];omega
theorem pairs_len (f : Nat -> List UInt8 -> List UInt8 -> List UInt8) (i : Nat) (l : List (List UInt8)) : (pairs f i l).length = (l.length + 1) / 2 := pairs_length f l.length i l (Nat.le_refl _)
theorem pairs_all (f : Nat -> List UInt8 -> List UInt8 -> List UInt8) (n : Nat) (hf : ∀ i a b, (f i a b).length = n) : ∀ (k : Nat) (i : Nat) (l : List (List UInt8)), l.length <= k -> (∀ b ∈ l, b.length = n) -> ∀ b ∈ pairs f i l, b.length = n
 | 0, i, [], _, h => h
 | 0, _, _ :: _, h, _ => by simp at h
 | k + 1, i, [], _, h => h
 | k + 1, i, [a], _, h => h
 | k + 1, i, a :: b :: r, hk, h => by
  intro x hx;simp only [List.length_cons] at hk
  rcases List.mem_cons.1 (show x ∈ f i a b :: pairs f (i + 1) r from hx) with rfl | hx2
  ·exact hf i a b
  ·exact pairs_all f n hf k (i + 1) r (by omega) (fun y hy => h y (by simp [hy])) x hx2
theorem pairs_get (f : Nat -> List UInt8 -> List UInt8 -> List UInt8) : ∀ (j i : Nat) (l : List (List UInt8)), 2 * j + 1 < l.length -> (pairs f i l)[j]? = some (f (i + j) (l.getD (2 * j) []) (l.getD (2 * j + 1) []))
 | 0, i, a :: b :: r, _ => rfl
 | j + 1, i, a :: b :: r, h => by
  simp only [List.length_cons] at h;show (f i a b :: pairs f (i + 1) r)[j + 1]? = _;rw [List.getElem?_cons_succ, pairs_get f j (i + 1) r (by omega)];have e : i + 1 + j = i + (j + 1) := by omega
  rw [e];rfl
 | _, _, [], h => by simp at h
 | 0, _, [_], h => by simp at h
 | _ + 1, _, [_], h => by simp at h
theorem pairs_last (f : Nat -> List UInt8 -> List UInt8 -> List UInt8) : ∀ (j i : Nat) (l : List (List UInt8)), l.length = 2 * j + 1 -> (pairs f i l)[j]? = some (l.getD (2 * j) [])
 | 0, i, [a], _ => rfl
 | j + 1, i, a :: b :: r, h => by
  simp only [List.length_cons] at h;show (f i a b :: pairs f (i + 1) r)[j + 1]? = _;rw [List.getElem?_cons_succ, pairs_last f j (i + 1) r (by omega)];rfl
 | _, _, [], h => by simp at h
 | _ + 1, _, [_], h => by simp at h
 | 0, _, _ :: _ :: _, h => by simp at h
def lvl (F : Nat -> Nat -> List UInt8 -> List UInt8 -> List UInt8) (l : List (List UInt8)) : Nat -> List (List UInt8)
 | 0 => l
 | h + 1 => pairs (F h) 0 (lvl F l h)
theorem lvl_one (F : Nat -> Nat -> List UInt8 -> List UInt8 -> List UInt8) (l : List (List UInt8)) (h : Nat) (h1 : (lvl F l h).length <= 1) : lvl F l (h + 1) = lvl F l h := by
 show pairs (F h) 0 (lvl F l h) = lvl F l h;generalize lvl F l h = m at h1
 match m, h1 with
 | [], _ => rfl
 | [_], _ => rfl
 | _ :: _ :: _, h1 => simp at h1
theorem lvl_stays (F : Nat -> Nat -> List UInt8 -> List UInt8 -> List UInt8) (l : List (List UInt8)) (h : Nat) (h1 : (lvl F l h).length <= 1) (k : Nat) : lvl F l (h + k) = lvl F l h := by
 induction k with
 | zero => rfl
 | succ k ih =>
  rw [<- Nat.add_assoc, lvl_one F l (h + k) (by rw [ih]; exact h1), ih]
theorem lvl_len (F : Nat -> Nat -> List UInt8 -> List UInt8 -> List UInt8) (l : List (List UInt8)) (h : Nat) : (lvl F l (h + 1)).length = ((lvl F l h).length + 1) / 2 := pairs_len _ _ _
theorem lvl_all (F : Nat -> Nat -> List UInt8 -> List UInt8 -> List UInt8) (n : Nat) (hf : ∀ h i a b, (F h i a b).length = n) (l : List (List UInt8)) (hl : ∀ b ∈ l, b.length = n) (h : Nat) : ∀ b ∈ lvl F l h, b.length = n := by
 induction h with
 | zero => exact hl
 | succ h ih => exact pairs_all _ n (hf h) _ 0 _ (Nat.le_refl _) ih
def cutL (n : Nat) (bs : List UInt8) (k : Nat) : List (List UInt8) := (List.range k).map fun i => pieceB n bs i
theorem cutL_length (n : Nat) (bs : List UInt8) (k : Nat) : (cutL n bs k).length = k := by simp [cutL]
def ltF (s : Bool) (n : Int) (seed : List UInt8) (leaf : Nat) (h i : Nat) (a b : List UInt8) : List UInt8 := nodeB s n seed (adr11 1 leaf h i) a b
def ltreeB (s : Bool) (n : Int) (L : Nat) (seed ends : List UInt8) (leaf : Nat) : List UInt8 := (lvl (ltF s n seed leaf) (cutL n.toNat ends L) 7).getD 0 []
def leafB (s : Bool) (n : Int) (L : Nat) (sd pb : List UInt8) (i : Nat) : List UInt8 := ltreeB s n L pb (endsB s n sd pb (adr11 0 i 0 0) (dOf []) L) i
def rwF (s : Bool) (n : Int) (pb : List UInt8) (h i : Nat) (a b : List UInt8) : List UInt8 := nodeB s n pb (adr11 2 0 h i) a b
def rowB (s : Bool) (n : Int) (L H : Nat) (sd pb : List UInt8) (h : Nat) : List (List UInt8) := lvl (rwF s n pb) ((List.range (2 ^ H)).map fun i => leafB s n L sd pb i) h
def rootB (s : Bool) (n : Int) (L H : Nat) (sd pb : List UInt8) : List UInt8 := (rowB s n L H sd pb H).getD 0 []
def besd (i : Nat) : Nat := if i % 2 = 1 then i - 1 else i + 1
def pathB (s : Bool) (n : Int) (L H : Nat) (sd pb : List UInt8) (i k : Nat) : List UInt8 := (List.range k).flatMap fun h => (rowB s n L H sd pb h).getD (besd (i / 2 ^ h)) []
def Prt (w : World) (B : Nat) (v : Value) (bss : List (List UInt8)) : Prop :=
 ∃ A c, v = .slice A bss.length c /\ bss.length <= c /\ c <= maxLen /\ (0 < bss.length -> ∃ q off, A = some ⟨q, off, none⟩ /\ q < B /\ ∀ i (h : i < bss.length), ∃ u, w.cell? ⟨q, off + i, none⟩ = some u /\ Sl w B u bss[i])
section
variable {w w' : World} {B : Nat} {v : Value} {bss : List (List UInt8)}
theorem Prt.below (h : Prt w B v bss) (hb : Below B w w') : Prt w' B v bss := by
 obtain ⟨A, c, hv, h1, h2, hc⟩ := h;refine ⟨A, c, hv, h1, h2, fun hn => ?_⟩;obtain ⟨q, off, hA, hq, hr⟩ := hc hn;refine ⟨q, off, hA, hq, fun i hi => ?_⟩;obtain ⟨u, hu, hs⟩ := hr i hi;exact ⟨u, (hb.cell (p := ⟨q, off + i, none⟩) hq).trans hu, hs.below hb⟩
theorem Prt.more {B' : Nat} (h : Prt w B v bss) (hB : B <= B') : Prt w B' v bss := by
 obtain ⟨A, c, hv, h1, h2, hc⟩ := h;refine ⟨A, c, hv, h1, h2, fun hn => ?_⟩;obtain ⟨q, off, hA, hq, hr⟩ := hc hn;refine ⟨q, off, hA, by omega, fun i hi => ?_⟩;obtain ⟨u, hu, hs⟩ := hr i hi;exact ⟨u, hu, hs.more hB⟩
theorem Prt.go (h : Prt w w.heap.size v bss) (b : Below w.heap.size w w') : Prt w' w'.heap.size v bss := (h.below b).more b.size
theorem Prt.form (h : Prt w B v bss) : ∃ A c, v = .slice A bss.length c /\ bss.length <= c /\ c <= maxLen := by
 obtain ⟨A, c, hv, h1, h2, _⟩ := h;exact ⟨A, c, hv, h1, h2⟩
theorem Prt.at_ {A : Option Addr} {n c : Nat} (h : Prt w B (.slice A n c) bss) (hn : 0 < bss.length) : ∃ q off, A = some ⟨q, off, none⟩ /\ q < B /\ ∀ i (h : i < bss.length), ∃ u, w.cell? ⟨q, off + i, none⟩ = some u /\ Sl w B u bss[i] := by
 obtain ⟨A', c', hv, _, _, hc⟩ := h;cases hv;exact hc hn
theorem Prt.nil_ : Prt w B (.slice none 0 0) [] := ⟨none, 0, rfl, Nat.le_refl _, by unfold maxLen; omega, fun h => absurd h (by simp)⟩
end
def UN (w : World) (base : Nat) (v : Value) : Prop := ∀ g, base <= g -> ¬ tagU w g -> Off g v
section
variable {w w' : World} {base : Nat} {v : Value} {bs : List UInt8}
theorem tagU.lt {g : Nat} (h : tagU w g) : g < w.heap.size := by
 obtain ⟨C, fr, h⟩ := h;exact (Array.getElem?_eq_some_iff.1 h).1
theorem tagU.go {g : Nat} (h : tagU w g) (b : Below w.heap.size w w') : tagU w' g := by
 have hl := h.lt;obtain ⟨C, fr, h⟩ := h;exact ⟨C, fr, (b.block g hl).trans h⟩
theorem UN.go (h : UN w base v) (b : Below w.heap.size w w') : UN w' base v := fun g hg ht => h g hg fun hu => ht (hu.go b)
theorem UN.drew (h : UN w base v) : UN w.drew base v := h
theorem UN.low {B : Nat} (h : Sl w B v bs) (hB : B <= base) : UN w base v := fun g hg _ => h.off (by omega)
theorem UN.all (h : ∀ g, ¬ tagU w g -> Off g v) : UN w base v := fun g _ ht => h g ht
theorem Sl.grown11 {B : Nat} {y : Value} {r : Option Nat} (h : Sl w B y bs) (ho : ∀ g, r = some g -> Off g y) (hg : w.grownBy w' r) (hB : B <= w.heap.size) : Sl w' B y bs := by
 obtain ⟨A, c, hv, h1, h2, hc⟩ := h;refine ⟨A, c, hv, h1, h2, fun hn => ?_⟩;obtain ⟨b, off, hA, hb, hr⟩ := hc hn;refine ⟨b, off, hA, hb, fun k hk => ?_⟩;have hne : some b ≠ r := by
  intro e;have := ho b e.symm _ _ _ (by rw [hv, hA]) (by omega);exact this rfl
 rw [World.cell?_of_block (w := w) (hg.block b (by omega) hne)];exact hr k hk
end
def OwnP (w : World) (base : Nat) (eb : Nat -> Nat) (v : Value) (bss : List (List UInt8)) : Prop := ∃ us : List Value, us.length = bss.length /\ w.ownsRow base 23 1 v bss.length us /\ ∀ i (h : i < bss.length) (h2 : i < us.length), Sl w w.heap.size us[i] bss[i] /\ UN w (eb i) us[i]
section
variable {w w' : World} {base : Nat} {eb : Nat -> Nat} {v : Value} {bss : List (List UInt8)}
theorem OwnP.go (h : OwnP w base eb v bss) (b : Below w.heap.size w w') : OwnP w' base eb v bss := by
 obtain ⟨us, hl, ho, hs⟩ := h;exact ⟨us, hl, own_step ho b, fun i h h2 => ⟨(hs i h h2).1.go b, (hs i h h2).2.go b⟩⟩
theorem OwnP.drew (h : OwnP w base eb v bss) : OwnP w.drew base eb v bss := h
theorem OwnP.made (w : World) (base : Nat) (eb : Nat -> Nat) (hb : base <= w.heap.size) : OwnP (w.alloc (.cells #[] 23)) base eb (.slice (some ⟨w.heap.size, 0, none⟩) 0 0) [] := ⟨[], rfl, own_mono (World.ownsRow_made w #[] 0 (Nat.le_refl _) (Nat.zero_le _) rfl) hb, fun i h => by cases h⟩
theorem OwnP.full (h : OwnP w base eb v bss) (hn : 0 < bss.length) : ∃ g cap, v = .slice (some ⟨g, 0, none⟩) bss.length cap /\ g < w.heap.size /\ ∀ i (hi : i < bss.length), ∃ u, w.cell? ⟨g, i, none⟩ = some u /\ Sl w w.heap.size u bss[i] /\ UN w (eb i) u := by
 obtain ⟨us, hul, ho, hs⟩ := h
 rcases ho with ⟨_, ⟨rfl, h0⟩ | ⟨g, cap, cur, rfl, _, hgb, hc, hc2, hsz, ht⟩⟩
 ·omega
 ·have hlt := Array.getElem?_eq_some_iff.1 hgb;refine ⟨g, cap, rfl, hlt.1, fun j hj => ?_⟩;have hj2 : j < us.length := by omega
  have h2 : cur[j]? = some us[j] := by
   have e : (cur.toList.take (bss.length * 1))[j]? = us[j]? := by rw [ht]
   rw [List.getElem?_take_of_lt (by omega), Array.getElem?_toList] at e;rw [e, List.getElem?_eq_getElem hj2]
  exact ⟨us[j], by simpa [World.cell?, hgb] using h2, (hs j hj hj2).1, (hs j hj hj2).2⟩
theorem OwnP.prt (h : OwnP w base eb v bss) : Prt w w.heap.size v bss := by
 by_cases hn : 0 < bss.length
 ·have h' := h;obtain ⟨us, hul, ho, hs⟩ := h';obtain ⟨g, cap, hv, hg, hc⟩ := h.full hn
  rcases ho with ⟨_, ⟨hv2, h0⟩ | ⟨g', cap', cur, hv2, _, hgb, hc1, hc2, hsz, ht⟩⟩
  ·omega
  ·rw [hv] at hv2;injection hv2 with e1 e2 e3;refine ⟨some ⟨g, 0, none⟩, cap, hv, by omega, by omega, fun _ => ⟨g, 0, rfl, hg, fun i hi => ?_⟩⟩;obtain ⟨u, hu, hsl, _⟩ := hc i hi;exact ⟨u, by rw [Nat.zero_add]; exact hu, hsl⟩
 ·obtain rfl : bss = [] := List.eq_nil_of_length_eq_zero (by omega);obtain ⟨us, hul, ho, hs⟩ := h
  rcases ho with ⟨_, ⟨rfl, h0⟩ | ⟨g, cap, cur, rfl, _, hgb, hc, hc2, hsz, ht⟩⟩
  ·exact Prt.nil_
  ·exact ⟨_, cap, rfl, hc, hc2, fun h => absurd h (by simp)⟩
theorem OwnP.form (h : OwnP w base eb v bss) : ∃ A c, v = .slice A bss.length c := by
 obtain ⟨A, c, e, _⟩ := h.prt.form;exact ⟨A, c, e⟩
theorem OwnP.lt (h : OwnP w base eb v bss) : ∀ g, v.ownBlock = some g -> g < w.heap.size := by
 obtain ⟨us, hul, ho, hs⟩ := h
 rcases ho with ⟨_, ⟨rfl, h0⟩ | ⟨g, cap, cur, rfl, _, hgb, _⟩⟩
 ·intro g e; cases e
 ·intro g' e;injection e with e;subst e;exact (Array.getElem?_eq_some_iff.1 hgb).1
end
structure GrP (w : World) (base : Nat) (w' : World) : Prop where
 below : Below base w w'
 size : w.heap.size <= w'.heap.size
 block : ∀ k, k < w.heap.size -> (¬ ∃ C fr, w.heap[k]? = some (.cells C 23 fr)) -> w'.heap[k]? = w.heap[k]?
theorem GrP.of {w w' : World} {base n : Nat} {v : Value} {us : List Value} (ho : w.ownsRow base 23 1 v n us) (hg : w.grownBy w' v.ownBlock) (hb : base <= w.heap.size) : GrP w base w' := by
 refine ⟨(Below.refl base w).grown hg hb (fun k hk => by have := (ho.lt k hk).1; omega), hg.size, fun k hk hn => hg.block k hk fun e => ?_⟩
 rcases ho with ⟨_, ⟨rfl, _⟩ | ⟨g, cap, cur, rfl, _, hgb, _⟩⟩
 ·cases e
 ·obtain rfl : k = g := by injection e
  exact hn ⟨_, _, hgb⟩
theorem GrP.tag {w w' : World} {base g : Nat} (h : GrP w base w') (ht : tagU w g) : tagU w' g := by
 have hl := ht.lt;obtain ⟨C, fr, hc⟩ := ht;refine ⟨C, fr, (h.block g hl ?_).trans hc⟩;rintro ⟨C', fr', hc'⟩;rw [hc] at hc';injection hc' with e;injection e with _ e2;exact absurd e2 (by decide)
theorem UN.up {w : World} {e base : Nat} {y : Value} (h : UN w e y) (he : e <= base) : UN w base y := fun g hg ht => h g (Nat.le_trans he hg) ht
theorem GrP.un {w w' : World} {base e : Nat} {y : Value} (h : GrP w base w') (hy : UN w e y) : UN w' e y := fun g hg ht => hy g hg fun hu => ht (h.tag hu)
theorem GrP.row {w w' : World} {base g : Nat} {T : TypeId} {cs : List Value} (h : GrP w base w') (hr : Row w g T cs) (hT : T ≠ 23) : Row w' g T cs := by
 refine (h.block g hr.lt ?_).trans hr;rintro ⟨C', fr', hc'⟩;rw [show w.heap[g]? = _ from hr] at hc';injection hc' with e;injection e with _ e2;exact hT e2
theorem GrP.sl {w w' : World} {base : Nat} {y : Value} {bs : List UInt8} (h : GrP w base w') (hs : Sl w w.heap.size y bs) (hy : UN w base y) : Sl w' w'.heap.size y bs := by
 have hs2 : Sl w' w.heap.size y bs := by
  obtain ⟨A, c, hv, h1, h2, hc⟩ := hs;refine ⟨A, c, hv, h1, h2, fun hn => ?_⟩;obtain ⟨b, off, hA, hb, hr⟩ := hc hn;refine ⟨b, off, hA, hb, fun k hk => ?_⟩
  by_cases hlow : b < base
  ·exact (h.below.cell (p := ⟨b, off + k, none⟩) hlow).trans (hr k hk)
  ·have ht : tagU w b := by
    refine Classical.byContradiction fun hn2 => ?_
    exact hy b (by omega) hn2 _ _ _ (by rw [hv, hA]) (by omega) rfl
   have hbk : w'.heap[b]? = w.heap[b]? := h.block b hb (by
    obtain ⟨C, fr, hc1⟩ := ht;rintro ⟨C', fr', hc'⟩;rw [hc1] at hc';injection hc' with e;injection e with _ e2
    exact absurd e2 (by decide))
   rw [World.cell?_of_block (w := w) hbk];exact hr k hk
 exact hs2.more h.size
theorem step_appendP {P : Program} {md : Region.Mode} {ops : Array Oper} {Q : Exit -> Act -> World -> Prop} {S : World -> Prop} {fuel : Nat} {listed : Array Bool} {a : Act} (w : World) (i : Nat) (ty : TypeId) (dst : Option Tmp) (t : TypeId) (i0 : TypeInfo) (z : Value) (ht : P.underlying t = some (.slice 23)) (hi : P.info? 23 = some i0) (hz : i0.zero = some z) (hsz : i0.size = 1) (hby : i0.bytes = 24) (hzc : z.cells.size = 1)
  (s x : Operand) (hop : (ops[i]?).map (fun o => (o.op, o.type, o.dst)) = some (.call { callee := .builtin .append, args := #[s, x], argTypes := #[t, t] }, ty, dst)) (hw : (ops[i]?).map (fun o => Region.wanted o (yielded ops a.tmps)) = some true)
  {base : Nat} {eb : Nat -> Nat} {v : Value} {bss : List (List UInt8)} {g c : Nat} {u : Value} {b : List UInt8} (hown : OwnP w base eb v bss) (heb : ∀ i, eb i <= base) (hs : a.eval s = v) (hx : a.eval x = .slice (some ⟨g, 0, none⟩) 1 c)
  (hc : w.cell? ⟨g, 0, none⟩ = some u) (hu : Sl w w.heap.size u b) (hun : UN w (eb bss.length) u) (hlen : bss.length + 1 <= 1000000) (hbase : base <= w.heap.size)
  (h : ∀ v' w', OwnP w' base eb v' (bss ++ [b]) -> GrP w base w' -> S w' /\ wpAnyH P md ops Q S fuel (listed.setIfInBounds i true) (a.put dst v') w') : HStep P md ops Q S fuel listed a w i := by
 unfold HStep;obtain ⟨us, hul, ho, hsl⟩ := hown;have hone : u.oneCell' = true := by
  obtain ⟨A, c', hv, _⟩ := hu;rw [hv]; rfl
 cases hoo : ops[i]? with
 | none => rw [hoo] at hop; cases hop
 | some op =>
  rw [hoo] at hop hw;simp only [Option.map_some, Option.some.injEq, Prod.mk.injEq] at hop hw;obtain ⟨hop1, _, hop3⟩ := hop;refine wpOp_step hoo fun K' hK => ?_
  rw [if_pos hw];refine wp_append_own w s x t hop1 base 23 i0 z 1 24 ht hi hz hsz hby hzc (by decide) v bss.length us hs ho ⟨g, 0, none⟩ 1 c [u] hx rfl ?_ (by simpa using hone) (by unfold maxLen; omega) (by omega) hbase ?_
  ·intro j y hj
   match j, hj with
   | 0, hj =>
    simp at hj; subst hj;rw [addr_add];exact hc
   | (j + 1), hj => simp at hj
  ·intro v' w' ho' hg _;rw [hop3];have hgr := GrP.of ho hg hbase;refine hK _ _ (h v' w' ⟨us ++ [u], by simp [hul], by rw [List.length_append]; exact ho', fun j hj hj2 => ?_⟩ hgr)
   by_cases hlt : j < bss.length
   ·rw [List.getElem_append_left (by omega), List.getElem_append_left hlt];have := hsl j hlt (by omega);exact ⟨hgr.sl this.1 (this.2.up (heb _)), hgr.un this.2⟩
   ·have hjj : j = bss.length := by simp at hj; omega
    subst hjj;have e1 : (us ++ [u])[bss.length]'hj2 = u := by simp [<- hul]
    have e2 : (bss ++ [b])[bss.length]'hj = b := by simp
    rw [e1, e2];exact ⟨hgr.sl hu (hun.up (heb _)), hgr.un hun⟩
set_option maxHeartbeats 1000000 in
theorem refMay11_any (x : S5) (hw : x.wf) (v : Value) (bss : List (List UInt8)) (B g : Nat) (w : World) (hp : PartsO w B g v bss) (hB : B <= w.heap.size) (hn : bss.length <= 1000000) :
  Calls Tryz.prog 54 #[x.v, v] w (OldIs (.int .i64 (badE x bss)) w) := by
 unfold OldIs;obtain ⟨A, c, rfl⟩ := hp.form;have HM : Shh (∀ W, Calls Tryz.prog 48 #[x.v] W (OldIs (.bool x.ok) W)) := ⟨fun W => mayXmss_any x hw W⟩;unfold S5.v at HM ⊢;have HP := Shh.mk hp;clear hp;have HW : Shh (Row (w.alloc (.cells #[.int .u32 x.c, .bool x.s, .int .i64 x.n, .int .i64 x.h, .int .i64 x.l] 27)) w.heap.size 27 [.int .u32 x.c, .bool x.s, .int .i64 x.n, .int .i64 x.h, .int .i64 x.l] /\ Below w.heap.size w (w.alloc (.cells #[.int .u32 x.c, .bool x.s, .int .i64 x.n, .int .i64 x.h, .int .i64 x.l] 27))) := ⟨Row.new_ rfl rfl, below1 _ _⟩;cases hok : x.ok with
 | false =>
  have HE : Shh (badE x bss = 60) := ⟨by unfold badE; rw [hok]; rfl⟩;rw [HE.out];rw [hok] at HM;clear hok HE hw;generalize x.c = xc at *;generalize x.s = xs at *;generalize x.n = xn at *;generalize x.h = xh at *;generalize x.l = xl at *;go_enter Tryz.func54, Tryz.ntmps54
  go_wp2_with (go_at_call 48; refine (HM.out _).mono ?_)
  unfold OldIs;rintro e w2 ⟨rfl, b2⟩;have HB := Shh.mk (Below.chain HW.out.2 b2);clear b2 HW HM;go_wp2;go_ret;exact ⟨rfl, HB.out⟩
 | true =>
  obtain ⟨E, hE⟩ : ∃ E, E = badE x bss := ⟨_, rfl⟩;rw [<- hE];have HE : Shh (E = if bss.all (fun b => decide ((b.length : Int) = x.n)) then 0 else 1) := ⟨by rw [hE]; unfold badE; rw [hok]; rfl⟩;rw [hok] at HM;clear hok hE hw;generalize x.c = xc at *;generalize x.s = xs at *;generalize x.n = xn at *;generalize x.h = xh at *;generalize x.l = xl at *;go_enter Tryz.func54, Tryz.ntmps54
  go_wp2_with (go_at_call 48; refine (HM.out _).mono ?_)
  unfold OldIs;rintro e w2 ⟨rfl, b2⟩;have H2 : Shh (Row w2 w.heap.size 27 [.int .u32 xc, .bool xs, .int .i64 xn, .int .i64 xh, .int .i64 xl] /\ Below w.heap.size w w2) := ⟨HW.out.1.go b2, Below.chain HW.out.2 b2⟩;clear b2 HW HM;go_wp2;go_loopw [12] (fun i wr => ∃ k : Nat, k <= bss.length /\ i = .int .i64 (k : Int) /\ Shh (Row wr w.heap.size 27 [.int .u32 xc, .bool xs, .int .i64 xn, .int .i64 xh, .int .i64 xl] /\ Below w.heap.size w wr /\ ∀ j (h : j < bss.length), j < k -> (bss[j].length : Int) = xn)) (fun i _ => bss.length - (intOf i).toNat)
  case atStart => exact ⟨0, Nat.zero_le _, rfl, ⟨H2.out.1, H2.out.2, fun _ _ h => absurd h (Nat.not_lt_zero _)⟩⟩
  case round =>
   clear H2;obtain ⟨k, hk, rfl, HL⟩ := hrel
   by_cases hlt : k < bss.length
   ·obtain ⟨q, off, rfl, hq, hqg, hcc⟩ := HP.out.at_ (by omega);obtain ⟨u, hcu, hsu, _⟩ := hcc k hlt;obtain ⟨Au, cu, rfl, _, _⟩ := hsu.form;have hcx := (HL.out.2.1.cell (p := ⟨q, off + k, none⟩) (show q < w.heap.size by omega)).trans hcu;have e2 := HL.out.1.cell 2;simp only [List.getElem?_cons_succ, List.getElem?_cons_zero] at e2
    have HX : Shh (bss[k] ∈ bss /\ ∀ j (h : j < bss.length), j < k + 1 -> (bss[k].length : Int) = xn -> (bss[j].length : Int) = xn) := ⟨List.getElem_mem hlt, fun j hj hjk he => by
     by_cases e : j = k
     ·subst e; exact he
     ·exact HL.out.2.2 j hj (by omega)⟩
    clear hcu hsu hcc;obtain ⟨ln, hln⟩ : ∃ ln, ln = bss[k].length := ⟨_, rfl⟩;have HLN := Shh.mk hln;rw [<- hln] at hcx;clear hln
    by_cases heq : (ln : Int) = xn
    ·have hne : ((ln : Int) != xn) = false := by simp [heq]
     have HR : Shh (Row wr w.heap.size 27 [.int .u32 xc, .bool xs, .int .i64 xn, .int .i64 xh, .int .i64 xl] /\ Below w.heap.size w wr /\ ∀ j (h : j < bss.length), j < k + 1 -> (bss[j].length : Int) = xn) := ⟨HL.out.1, HL.out.2.1, fun j hj hjk => HX.out.2 j hj hjk (by rw [<- HLN.out]; exact heq)⟩;clear heq HL HX HLN;go_wp2
     go_round
     case rel => exact ⟨k + 1, by omega, by go_num, ⟨HR.out.1, HR.out.2.1, HR.out.2.2⟩⟩
     case measure => simp [intOf]; omega
    ·have hne : ((ln : Int) != xn) = true := by simp [heq]
     have HR : Shh (E = 1 /\ Below w.heap.size w wr) := ⟨by
      rw [HE.out, if_neg];intro hh
      exact heq (by rw [HLN.out]; exact of_decide_eq_true (List.all_eq_true.1 hh _ HX.out.1)), HL.out.2.1⟩
     clear heq HL HX HLN HE;go_wp2;go_ret;exact ⟨by rw [HR.out.1]; rfl, HR.out.2⟩
   ·obtain rfl : k = bss.length := by omega
    have HR : Shh (E = 0 /\ Below w.heap.size w wr) := ⟨by
     rw [HE.out, if_pos];rw [List.all_eq_true];intro b hb;obtain ⟨j, hj, rfl⟩ := List.getElem_of_mem hb
     exact decide_eq_true (HL.out.2.2 j hj hj), HL.out.2.1⟩
    clear HL HE;go_wp2;go_ret;exact ⟨by rw [HR.out.1]; rfl, HR.out.2⟩
def keyV (vs vp vb : Value) : Value := .agg #[vs, vp, vb]
set_option maxHeartbeats 2000000 in
theorem mayKey_any (x : S5) (hw : x.wf) (vs vp vb : Value) (sd pf pb : List UInt8) (w : World) (hs : Sl w w.heap.size vs sd) (hp : Sl w w.heap.size vp pf) (hb : Sl w w.heap.size vb pb) :
  Calls Tryz.prog 21 #[x.v, keyV vs vp vb] w (OldIs (.int .i64 (badE x [sd, pf, pb])) w) := by
 unfold OldIs;obtain ⟨A1, c1, rfl, _, _⟩ := hs.form;obtain ⟨A2, c2, rfl, _, _⟩ := hp.form;obtain ⟨A3, c3, rfl, _, _⟩ := hb.form;obtain ⟨E, hE⟩ : ∃ E, E = badE x [sd, pf, pb] := ⟨_, rfl⟩;rw [<- hE];have HM : Shh (∀ (v : Value) (B g : Nat) (W : World), PartsO W B g v [sd, pf, pb] -> B <= W.heap.size -> Calls Tryz.prog 54 #[x.v, v] W (OldIs (.int .i64 E) W)) := ⟨fun v B g W h1 h2 => by rw [hE]; exact refMay11_any x hw v _ B g W h1 h2 (by simp)⟩;clear hE hw;unfold S5.v at HM ⊢;unfold keyV;obtain ⟨W, hW⟩ : ∃ W, W = (w.alloc (.cells #[.int .u32 x.c, .bool x.s, .int .i64 x.n, .int .i64 x.h, .int .i64 x.l] 27)).alloc (.cells #[.slice A1 sd.length c1, .slice A2 pf.length c2, .slice A3 pb.length c3] 25) := ⟨_, rfl⟩;have HW : Shh (Row W w.heap.size 27 [.int .u32 x.c, .bool x.s, .int .i64 x.n, .int .i64 x.h, .int .i64 x.l] /\ Sl W W.heap.size (.slice A1 sd.length c1) sd /\ Sl W W.heap.size (.slice A2 pf.length c2) pf /\ Sl W W.heap.size (.slice A3 pb.length c3) pb /\ Below w.heap.size w W) := by
  rw [hW];exact ⟨(Row.new_ rfl rfl).alloc _, (hs.go (below1 _ _)).go (below1 _ _), (hp.go (below1 _ _)).go (below1 _ _), (hb.go (below1 _ _)).go (below1 _ _), Below.chain (below1 _ _) (below1 _ _)⟩
 clear hs hp hb;generalize x.c = xc at *;generalize x.s = xs at *;generalize x.n = xn at *;generalize x.h = xh at *;generalize x.l = xl at *;go_enter Tryz.func21, Tryz.ntmps21;have HZ : Shh (w.heap.size + 1 + 1 = W.heap.size) := ⟨by rw [hW, asz, asz]⟩
 go_wp2_with fail
 rw [<- hW];clear hW;refine (HM.out _ (W.heap.size + 1) (W.heap.size + 1) _ (PartsO.three (by rw [HZ.out]; exact Nat.lt_succ_self _) (by rw [HZ.out]; omega) (Row.new_ HZ.out rfl) ((HW.out.2.1.below (below1 _ _)).more (by omega)) (HW.out.2.1.off (by omega)) ((HW.out.2.2.1.below (below1 _ _)).more (by omega)) (HW.out.2.2.1.off (by omega)) ((HW.out.2.2.2.1.below (below1 _ _)).more (by omega)) (HW.out.2.2.2.1.off (by omega))) (by rw [asz]; exact Nat.le_refl _)).mono ?_;unfold OldIs;rintro e w2 ⟨rfl, b2⟩;have HB : Shh (Below w.heap.size w w2) := ⟨Below.chain HW.out.2.2.2.2 (Below.chain (below1 _ _) b2)⟩;clear b2 HW HM;go_wp2;go_ret;exact ⟨rfl, HB.out⟩
def leafE (x : S5) (sd pf pb : List UInt8) (i : Nat) : Int := if badE x [sd, pf, pb] = 0 then (if i < 2 ^ x.h.toNat then 0 else 1) else badE x [sd, pf, pb]
theorem ok_h {x : S5} (hx : x.ok = true) : ∃ h : Nat, x.h = (h : Int) /\ h <= 20 := by
 obtain ⟨h0, h1, h2, h3, h4, h5⟩ := of_decide_eq_true hx;exact ⟨_, h4, xH_le _⟩
def aK (a : List UInt32) : Nat -> List UInt32
 | 0 => a
 | k + 1 => last11 a k
theorem aK_length (a : List UInt32) (k : Nat) : (aK a k).length = a.length := by
 cases k with
 | zero => rfl
 | succ k => exact last11_length a k
theorem aK_set (a : List UInt32) (k j : Nat) : (aK a k).set 7 (UInt32.ofNat j) = last11 a j := by
 cases k with
 | zero => rfl
 | succ k =>
  show (a.set 7 (UInt32.ofNat k)).set 7 (UInt32.ofNat j) = a.set 7 (UInt32.ofNat j);rw [List.set_set]
theorem info_sl : (Tryz.prog.info? 23).map (fun i => (i.zero, i.size, i.bytes)) = some (some (.slice none 0 0), 1, 24) := by kernel_rfl
def PC (w : World) (g k : Nat) (u : Value) : Prop := g < w.heap.size /\ w.cell? ⟨g, k, none⟩ = some u
theorem PC.go {w w' : World} {g k : Nat} {u : Value} (h : PC w g k u) (b : Below w.heap.size w w') : PC w' g k u := ⟨Nat.lt_of_lt_of_le h.1 b.size, (b.cell (p := ⟨g, k, none⟩) h.1).trans h.2⟩
section
variable {a : Act} {x y : Operand} {op : Oper} {w : World}
theorem load_p {p : Addr} {A : Option Addr} {n c : Nat} (ho : op.op = .load 23 x) (hc : w.cell? p = some (.slice A n c)) (hx : a.eval x = .pointer (some p)) : (execOp a.eval op).run Tryz.prog w = .ok (.value (.slice A n c)) w := by
 unfold execOp;simp only [ho, hx]
 go_simp
theorem index_p (b off k n c : Nat) (hk : k < n) (ho : op.op = .indexAddr 82 x y) (hx : a.eval x = .slice (some ⟨b, off, none⟩) n c) (hy : a.eval y = .int .i64 (k : Int)) (w : World) :
  (execOp a.eval op).run Tryz.prog w = .ok (.value (.pointer (some ⟨b, off + k, none⟩))) w := by
 have h0 : (0 : Int) <= (k : Int) := by omega
 have h1 : (k : Int) < (n : Int) := by omega
 unfold execOp;simp only [ho, hx, hy]
 go_simp
end
theorem OwnP.but {w w' : World} {base g : Nat} {eb : Nat -> Nat} {v : Value} {bss : List (List UInt8)} (h : OwnP w base eb v bss) (hb : But w.heap.size g w w') (hg : ∀ i, eb i <= g) (h1 : ¬ tagU w g) (h2 : ¬ ∃ C fr, w.heap[g]? = some (.cells C 23 fr)) : OwnP w' base eb v bss := by
 obtain ⟨us, hul, ho, hs⟩ := h;have hgr : w.grownBy w' (some g) := ⟨hb.os, hb.tape, hb.output, hb.size, fun k hk hne => hb.block k hk (fun e => hne (by rw [e]))⟩;refine ⟨us, hul, ho.kept hgr ?_, fun i hi hi2 => ?_⟩
 ·rcases ho.2 with ⟨rfl, _⟩ | ⟨go, cap, cur, rfl, _, hgb, _⟩
  ·exact .inl rfl
  ·refine .inr fun e => ?_
   injection e with e;subst e;exact h2 ⟨_, _, hgb⟩
 ·obtain ⟨hsl, hun⟩ := hs i hi hi2;refine ⟨(hsl.but (hun g (hg i) h1) hb).more hb.size, fun j hj ht => hun j hj fun hu => ht ?_⟩;have hl := hu.lt;have hne : j ≠ g := fun e => h1 (by rw [<- e]; exact hu)
  obtain ⟨C, fr, hc⟩ := hu;exact ⟨C, fr, (hb.block j hl hne).trans hc⟩
theorem key11_length {x : S5} (hx : x.ok = true) (seed : List UInt8) (a : List UInt32) (j : Nat) : (key11 x.s x.n seed a j).length = x.n.toNat := (ok_len hx 3 seed _).1
set_option maxHeartbeats 4000000 in
theorem refNode11_any (x : S5) (hx : x.ok = true) (vs vl vr : Value) (seed left right : List UInt8) (a : List UInt32) (ha : a.length = 8) (w : World) (hs : Sl w w.heap.size vs seed) (hl : Sl w w.heap.size vl left) (hr : Sl w w.heap.size vr right) (hll : left.length = x.n.toNat) (hrl : right.length = x.n.toNat) (hsl : seed.length <= 100000) :
  Calls Tryz.prog 45 #[x.v, vs, adrV a, vl, vr] w (SlF w (nodeB x.s x.n seed a left right)) := by
 unfold SlF;obtain ⟨As, cs, rfl, _, _⟩ := hs.form;obtain ⟨Ale, cle, rfl, _, _⟩ := hl.form;obtain ⟨Ari, cri, rfl, _, _⟩ := hr.form;have HKY : Shh (∀ (kind : Nat) (vk vm : Value) (key m : List UInt8) (W : World), kind <= 4 -> Sl W W.heap.size vk key -> Sl W W.heap.size vm m -> key.length <= 100000 -> m.length <= 100000 -> Calls Tryz.prog 63 #[x.v, .int .i64 (kind : Int), vk, vm] W (SlF W (keyd x.s x.n kind key m))) := ⟨fun kind vk vm key m W h1 h2 h3 h4 h5 => refKeyedF_any x hx kind h1 vk vm key m W h2 h3 h4 h5⟩;have HLZ : Shh (seed.length <= 100000 /\ (∀ j, (key11 x.s x.n seed a j).length = x.n.toNat) /\ x.n.toNat <= 32 /\ left.length = x.n.toNat /\ right.length = x.n.toNat /\ ∀ kind key m, (keyd x.s x.n kind key m).length = x.n.toNat) := ⟨hsl, fun j => key11_length hx seed a j, (ok_len hx 0 [] []).2, hll, hrl, fun kind key m => (ok_len hx kind key m).1⟩;have HARG : Shh (∀ W, Below w.heap.size w W -> Sl W W.heap.size (.slice As seed.length cs) seed /\ Sl W W.heap.size (.slice Ale left.length cle) left /\ Sl W W.heap.size (.slice Ari right.length cri) right) := ⟨fun W b => ⟨hs.go b, hl.go b, hr.go b⟩⟩;clear hs hl hr hll hrl hsl hx;unfold S5.v at HKY ⊢;unfold adrV;have HA := Shh.mk ha;clear ha;obtain ⟨W, hW⟩ : ∃ W, W = ((w.alloc (.cells #[.int .u32 x.c, .bool x.s, .int .i64 x.n, .int .i64 x.h, .int .i64 x.l] 27)).alloc (.cells (wordCells a).toArray 64)).alloc (.cells #[] 23) := ⟨_, rfl⟩;have HW : Shh (Row W w.heap.size 27 [.int .u32 x.c, .bool x.s, .int .i64 x.n, .int .i64 x.h, .int .i64 x.l] /\ Row W (w.heap.size + 1) 64 (wordCells a) /\ OwnP W w.heap.size (fun _ => w.heap.size) (.slice (some ⟨w.heap.size + 1 + 1, 0, none⟩) 0 0) [] /\ Below w.heap.size w W) := by
  have ho := OwnP.made ((w.alloc (.cells #[.int .u32 x.c, .bool x.s, .int .i64 x.n, .int .i64 x.h, .int .i64 x.l] 27)).alloc (.cells (wordCells a).toArray 64)) w.heap.size (fun _ => w.heap.size) (by rw [asz, asz]; omega);rw [<- hW, asz, asz] at ho;refine ⟨?_, ?_, ho, ?_⟩ <;> rw [hW]
  ·exact ((Row.new_ rfl rfl).alloc _).alloc _
  ·exact (Row.new_ (by rw [asz]) rfl).alloc _
  ·exact Below.chain (Below.chain (below1 _ _) (below1 _ _)) (below1 _ _)
 generalize x.c = xc at *;generalize x.s = xs at *;generalize x.n = xn at *;generalize x.h = xh at *;generalize x.l = xl at *;obtain ⟨i0, hi0, hz0, hsz0, hby0⟩ := info_parts info_sl;have HI := Shh.mk (And.intro hi0 (And.intro hz0 (And.intro hsz0 hby0)));clear hi0 hz0 hsz0 hby0;go_enter Tryz.func45, Tryz.ntmps45;go_wp2;rw [<- hW];clear hW;go_loopw [11, 14] (fun l i wr => ∃ k : Nat, k <= 3 /\ i = .int .u32 (k : Int) /\ Shh (Row wr w.heap.size 27 [.int .u32 xc, .bool xs, .int .i64 xn, .int .i64 xh, .int .i64 xl] /\ Row wr (w.heap.size + 1) 64 (wordCells (aK a k)) /\ OwnP wr w.heap.size (fun _ => w.heap.size) l ((List.range k).map (key11 xs xn seed a)) /\ Below w.heap.size w wr)) (fun _ i _ => 3 - (intOf i).toNat)
 case atStart => exact ⟨0, Nat.zero_le _, rfl, HW⟩
 case round =>
  clear HW;obtain ⟨k, hk, rfl, HL⟩ := hrel;obtain ⟨bk, hbk⟩ : ∃ bk, bk = (List.range k).map (key11 xs xn seed a) := ⟨_, rfl⟩;have HBK := Shh.mk hbk;rw [<- hbk] at HL;clear hbk;have hprt := HL.out.2.2.1.prt;obtain ⟨Al, cl, rfl, _, _⟩ := hprt.form;clear hprt
  by_cases hlt : k < 3
  ·have e7 := wordRow_cell HL.out.2.1 7 (by rw [aK_length, HA.out]; decide);have f7 := HL.out.2.1.free 7;obtain ⟨Z, hZ⟩ : ∃ Z, Z = wr.setCell ⟨w.heap.size + 1, 7, none⟩ (.int .u32 (k : Int)) := ⟨_, rfl⟩;have HZ : Shh (Row Z w.heap.size 27 [.int .u32 xc, .bool xs, .int .i64 xn, .int .i64 xh, .int .i64 xl] /\ Row Z (w.heap.size + 1) 64 (wordCells (last11 a k)) /\ OwnP Z w.heap.size (fun _ => w.heap.size) (.slice Al bk.length cl) bk /\ Below w.heap.size w Z) := by
    rw [hZ];refine ⟨HL.out.1.other _ _ (by show w.heap.size ≠ w.heap.size + 1; omega), ?_, ?_, HL.out.2.2.2.setCell (by show w.heap.size <= w.heap.size + 1; omega) _⟩
    ·have h := wordRow_set HL.out.2.1 7 k (by omega);rw [aK_set] at h;exact h
    ·refine HL.out.2.2.1.but (But.setCell (But.refl _ _ _) 7 _) (fun _ => by show w.heap.size <= w.heap.size + 1; omega) ?_ ?_
     ·rintro ⟨C, fr, hc⟩;rw [show wr.heap[w.heap.size + 1]? = _ from HL.out.2.1] at hc;injection hc with e;injection e with _ e2;exact absurd e2 (by decide)
     ·rintro ⟨C, fr, hc⟩;rw [show wr.heap[w.heap.size + 1]? = _ from HL.out.2.1] at hc;injection hc with e;injection e with _ e2;exact absurd e2 (by decide)
   obtain ⟨LK, hLK⟩ : ∃ LK, LK = wordCells (last11 a k) := ⟨_, rfl⟩;obtain ⟨ta, hta⟩ : ∃ ta, ta = adrB (last11 a k) := ⟨_, rfl⟩;obtain ⟨kb, hkb⟩ : ∃ kb, kb = keyd xs xn 3 seed ta := ⟨_, rfl⟩;have hl8 : (last11 a k).length = 8 := by rw [last11_length, HA.out]
   have HLK : Shh (LK = wordCells (last11 a k) /\ LK.length = 8 /\ (last11 a k).length = 8) := ⟨hLK, by rw [hLK, wordCells_length, hl8], hl8⟩;have HQ : Shh (ta = adrB (last11 a k) /\ kb = keyd xs xn 3 seed ta /\ ta.length = 32) := ⟨hta, hkb, by rw [hta, adrB_length, hl8]⟩;have HN : Shh ((List.range (k + 1)).map (key11 xs xn seed a) = bk ++ [kb]) := ⟨by rw [HBK.out, hkb, hta, List.range_succ, List.map_append]; rfl⟩;have HLN : Shh (seed.length <= 100000 /\ bk.length <= 3) := ⟨HLZ.out.1, by rw [HBK.out]; simp; omega⟩;rw [<- hLK] at HZ;clear hLK hta hkb hl8 HL;obtain ⟨hi0, hz0, hsz0, hby0⟩ := HI.out
   go_wp2_with fail
   rw [<- hZ];clear e7 f7 hZ;refine wp_region_held_drew (S := fun w' => Row w' w.heap.size 27 [.int .u32 xc, .bool xs, .int .i64 xn, .int .i64 xh, .int .i64 xl] /\ Row w' (w.heap.size + 1) 64 LK) (by kernel_rfl) ⟨HZ.out.1.drew, HZ.out.2.1.drew⟩ (fun hS => ?_);obtain ⟨V, hV⟩ : ∃ V, V = World.drew Z := ⟨_, rfl⟩;rw [<- hV] at hS ⊢;have rX : Row V w.heap.size 27 [.int .u32 xc, .bool xs, .int .i64 xn, .int .i64 xh, .int .i64 xl] := by rw [hV]; exact HZ.out.1.drew
   have rA : Row V (w.heap.size + 1) 64 LK := by rw [hV]; exact HZ.out.2.1.drew
   have oP : OwnP V w.heap.size (fun _ => w.heap.size) (.slice Al bk.length cl) bk := by rw [hV]; exact HZ.out.2.2.1.drew
   have HBV : Below w.heap.size w V := by rw [hV]; exact HZ.out.2.2.2.drew
   have sS := (HARG.out V HBV).1;clear hV HZ;refine hdv0 0 19 (.slice Al bk.length cl) (by rfl) (⟨rX, rA⟩) ?_;refine hdv0 2 21 (.slice As seed.length cs) (by rfl) (⟨rX, rA⟩) ?_;refine held_load 1 27 (.tmp 5) (some 20) (by kernel_rfl) (by rfl) (by kernel_rfl) w.heap.size 0 (by kernel_rfl) ([.int .u32 xc, .bool xs, .int .i64 xn, .int .i64 xh, .int .i64 xl]) _ (fun w h => h.1.range) Tryz.underlying27 rfl (info_xms) (fun _ _ _ _ h => h) (⟨rX, rA⟩) ?_;simp only [Act.put, arr9, hd9, tl9];refine held_load 3 64 (.tmp 7) (some 22) (by kernel_rfl) (by rfl) (by kernel_rfl) (w.heap.size + 1) 0 (by kernel_rfl) (LK) _ (fun w h => h.2.range) Tryz.underlying64 rfl (info_adr10 HLK.out.2.1) (fun _ _ _ _ h => h) (⟨rX, rA⟩) ?_;simp only [Act.put, arr9, hd9, tl9];refine held_one 4 (by kernel_rfl) ?_;refine step_call 4 _ _ (some 23) 87 #[.agg (LK).toArray] (by rfl) (by kernel_rfl) (by first | kernel_rfl | go_simp) ?_;refine (show Calls Tryz.prog 87 #[.agg LK.toArray] V (OwnIs V ta) by have h := refBytes10_any (last11 a k) HLK.out.2.2 V; unfold adrV at h; rw [<- HLK.out.1, <- HQ.out.1] at h; exact h).mono ?_;rintro e Y1 ⟨v, rfl, gv⟩;have bx : Below V.heap.size V Y1 := gv.2;obtain ⟨Aw, cw, vEq⟩ := own_form gv.1;subst vEq;have sW : Sl Y1 Y1.heap.size (.slice Aw ta.length cw) ta := gives_sl gv;clear gv;have b_V := bx;have m_Y1 : V.heap.size <= Y1.heap.size := bx.size;clear bx;refine ⟨_, rfl, ⟨(rX.go b_V), (rA.go b_V)⟩, ?_⟩;simp only [Act.put, arr9, hd9, tl9];refine held_one 5 (by kernel_rfl) ?_;refine step_call 5 _ _ (some 24) 63 #[.agg ([.int .u32 xc, .bool xs, .int .i64 xn, .int .i64 xh, .int .i64 xl]).toArray, .int .i64 3, .slice As seed.length cs, .slice Aw ta.length cw] (by rfl) (by kernel_rfl) (by first | kernel_rfl | go_simp) ?_;refine (show Calls Tryz.prog 63 #[.agg #[.int .u32 xc, .bool xs, .int .i64 xn, .int .i64 xh, .int .i64 xl], .int .i64 3, .slice As seed.length cs, .slice Aw ta.length cw] Y1 (SlF Y1 kb) by have h := HKY.out 3 _ _ seed ta Y1 (by decide) ((sS.go b_V)) (sW) HLN.out.1 (by have := HQ.out.2.2; omega); rw [<- HQ.out.2.1] at h; exact h).mono ?_;rintro e Y2 ⟨v, rfl, gv, bv, tv⟩;have bx : Below Y1.heap.size Y1 Y2 := bv;obtain ⟨Ak, ck, vEq, _, _⟩ := gv.form;subst vEq;have sK := gv;have uK : UN Y2 w.heap.size (.slice Ak kb.length ck) := UN.all tv;clear gv tv;replace b_V := Below.chain b_V bx;have b_Y1 := bx;have m_Y2 : Y1.heap.size <= Y2.heap.size := bx.size;clear bx;refine ⟨_, rfl, ⟨(rX.go b_V), (rA.go b_V)⟩, ?_⟩;simp only [Act.put, arr9, hd9, tl9];refine held_one 6 (by kernel_rfl) ?_;refine step_value 6 _ _ (some 25) (.slice (some ⟨Y2.heap.size, 0, none⟩) 1 1) (Y2.alloc (.cells #[.slice Ak kb.length ck] 23)) (by rfl) (by kernel_rfl) (by first | kernel_rfl | go_simp) (⟨((rX.go b_V)).alloc _, ((rA.go b_V)).alloc _⟩) ?_;simp only [Act.put, arr9, hd9, tl9];have bx : Below Y2.heap.size Y2 (Y2.alloc (.cells #[.slice Ak kb.length ck] 23)) := Below.alloc (Below.refl _ _) (Nat.le_refl _) _;have rB : Row (Y2.alloc (.cells #[.slice Ak kb.length ck] 23)) Y2.heap.size 23 [.slice Ak kb.length ck] := Row.new_ rfl rfl;have z_rB := asz Y2 (.cells #[.slice Ak kb.length ck] 23);generalize Y2.alloc (.cells #[.slice Ak kb.length ck] 23) = Y3 at *;replace b_V := Below.chain b_V bx;replace b_Y1 := Below.chain b_Y1 bx;have b_Y2 := bx;have m_Y3 : Y2.heap.size <= Y3.heap.size := bx.size;clear bx;refine held_one 7 (by kernel_rfl) ?_;refine step_appendP (c := 1) Y3 7 _ (some 26) 82 i0 (.slice none 0 0) Tryz.underlying82 hi0 hz0 hsz0 hby0 rfl (.tmp 19) (.tmp 25) (by rfl) (by kernel_rfl) ((oP.go b_V)) (fun _ => Nat.le_refl _) (by kernel_rfl) (by kernel_rfl) ((rB).cell 0) ((sK.go b_Y2)) ((uK.go b_Y2)) (by have := HLN.out.2; omega) (by have := b_V.size; have := HBV.size; omega) ?_;intro v2 Y4 ho2 hg2;replace rX : Row Y4 w.heap.size 27 [.int .u32 xc, .bool xs, .int .i64 xn, .int .i64 xh, .int .i64 xl] := hg2.row ((rX.go b_V)) (by decide);replace rA : Row Y4 (w.heap.size + 1) 64 LK := hg2.row ((rA.go b_V)) (by decide);have nB : Below w.heap.size w Y4 := (Below.chain HBV b_V).trans hg2.below;refine ⟨⟨rX, rA⟩, ?_⟩;simp only [Act.put, arr9, hd9, tl9];refine hdv0 8 11 (v2) (by rfl) (⟨rX, rA⟩) ?_;refine wpAnyH_done (by kernel_rfl) ?_ _;have HR : Shh (Row Y4 w.heap.size 27 [.int .u32 xc, .bool xs, .int .i64 xn, .int .i64 xh, .int .i64 xl] /\ Row Y4 (w.heap.size + 1) 64 (wordCells (aK a (k + 1))) /\ OwnP Y4 w.heap.size (fun _ => w.heap.size) v2 ((List.range (k + 1)).map (key11 xs xn seed a)) /\ Below w.heap.size w Y4) := ⟨rX, by rw [show wordCells (aK a (k + 1)) = LK from HLK.out.1.symm]; exact rA, by rw [HN.out]; exact ho2, nB⟩;clear nB hg2 ho2 m_Y3 b_Y2 z_rB rB m_Y2 b_Y1 uK sK bv m_Y1 b_V sW hS HBV rX rA oP sS;clear HKY HLN HLK HQ HN HBK;go_wp2
   go_roundw
   case rel => exact ⟨k + 1, by omega, by go_num, HR⟩
   case measure => simp [intOf]; omega
  ·obtain rfl : k = 3 := by omega
   obtain ⟨k0, hk0⟩ : ∃ b, b = key11 xs xn seed a 0 := ⟨_, rfl⟩;obtain ⟨k1, hk1⟩ : ∃ b, b = key11 xs xn seed a 1 := ⟨_, rfl⟩;obtain ⟨k2, hk2⟩ : ∃ b, b = key11 xs xn seed a 2 := ⟨_, rfl⟩;obtain ⟨xl1, hx1⟩ : ∃ b, b = List.zipWith (· ^^^ ·) left k1 := ⟨_, rfl⟩;obtain ⟨xr2, hx2⟩ : ∃ b, b = List.zipWith (· ^^^ ·) right k2 := ⟨_, rfl⟩;obtain ⟨jj, hjj⟩ : ∃ b, b = [xl1, xr2].flatten := ⟨_, rfl⟩;obtain ⟨nb, hnb⟩ : ∃ b, b = keyd xs xn 1 k0 jj := ⟨_, rfl⟩;have hbk3 : bk = [k0, k1, k2] := by rw [HBK.out, hk0, hk1, hk2]; rfl
   have hnn : nodeB xs xn seed a left right = nb := by rw [hnb, hjj, hx1, hx2, hk0, hk1, hk2]; unfold nodeB; simp
   have HLN : Shh (True /\ True /\ (left.length = k1.length /\ right.length = k2.length /\ k0.length <= 32 /\ k1.length <= 32 /\ k2.length <= 32)) := by
    have h1 := HLZ.out.2.1;have h2 := HLZ.out.2.2;refine ⟨trivial, trivial, ?_, ?_, ?_, ?_, ?_⟩ <;> simp only [hk0, hk1, hk2, h1] <;> omega
   have HQ : Shh (xl1 = List.zipWith (· ^^^ ·) left k1 /\ xr2 = List.zipWith (· ^^^ ·) right k2 /\ jj = [xl1, xr2].flatten /\ nb = keyd xs xn 1 k0 jj /\ jj.length <= 100) := by
    refine ⟨hx1, hx2, hjj, hnb, ?_⟩;have h2 := HLN.out.2.2;rw [hjj];simp only [List.flatten_cons, List.flatten_nil, List.append_nil, List.length_append];rw [hx1, hx2, List.length_zipWith, List.length_zipWith];omega
   have HNN := Shh.mk hnn;subst hbk3;obtain ⟨q, off, rfl, hq, hcc⟩ := HL.out.2.2.1.prt.at_ (by simp);obtain ⟨u0, p0', s0'⟩ := hcc 0 (by simp);obtain ⟨u1, p1', s1'⟩ := hcc 1 (by simp);obtain ⟨u2, p2', s2'⟩ := hcc 2 (by simp);obtain ⟨A0, c0, rfl, _, _⟩ := s0'.form;obtain ⟨A1, c1, rfl, _, _⟩ := s1'.form;obtain ⟨A2, c2, rfl, _, _⟩ := s2'.form;have HC : Shh (Row wr w.heap.size 27 [.int .u32 xc, .bool xs, .int .i64 xn, .int .i64 xh, .int .i64 xl] /\ PC wr q (off + 0) (.slice A0 k0.length c0) /\ PC wr q (off + 1) (.slice A1 k1.length c1) /\ PC wr q (off + 2) (.slice A2 k2.length c2) /\ Sl wr wr.heap.size (.slice A0 k0.length c0) k0 /\ Sl wr wr.heap.size (.slice A1 k1.length c1) k1 /\ Sl wr wr.heap.size (.slice A2 k2.length c2) k2 /\ Below w.heap.size w wr) := ⟨HL.out.1, ⟨hq, p0'⟩, ⟨hq, p1'⟩, ⟨hq, p2'⟩, s0', s1', s2', HL.out.2.2.2⟩;clear HL hcc p0' p1' p2' s0' s1' s2' hk0 hk1 hk2 hx1 hx2 hjj hnb hnn hq HBK HLZ
   go_wp2_with fail
   refine wp_region_held_drew (S := fun w' => Row w' w.heap.size 27 [.int .u32 xc, .bool xs, .int .i64 xn, .int .i64 xh, .int .i64 xl] /\ w'.cell? ⟨q, off + 0, none⟩ = some (.slice A0 k0.length c0) /\ w'.cell? ⟨q, off + 1, none⟩ = some (.slice A1 k1.length c1) /\ w'.cell? ⟨q, off + 2, none⟩ = some (.slice A2 k2.length c2)) (by kernel_rfl) ⟨HC.out.1.drew, HC.out.2.1.2, HC.out.2.2.1.2, HC.out.2.2.2.1.2⟩ (fun hS => ?_);obtain ⟨V, hV⟩ : ∃ V, V = World.drew wr := ⟨_, rfl⟩;rw [<- hV] at hS ⊢;have rX : Row V w.heap.size 27 [.int .u32 xc, .bool xs, .int .i64 xn, .int .i64 xh, .int .i64 xl] := by rw [hV]; exact HC.out.1.drew
   have p0 : PC V q (off + 0) (.slice A0 k0.length c0) := by rw [hV]; exact HC.out.2.1
   have p1 : PC V q (off + 1) (.slice A1 k1.length c1) := by rw [hV]; exact HC.out.2.2.1
   have p2 : PC V q (off + 2) (.slice A2 k2.length c2) := by rw [hV]; exact HC.out.2.2.2.1
   have s0 : Sl V V.heap.size (.slice A0 k0.length c0) k0 := by rw [hV]; exact HC.out.2.2.2.2.1.drew
   have s1 : Sl V V.heap.size (.slice A1 k1.length c1) k1 := by rw [hV]; exact HC.out.2.2.2.2.2.1.drew
   have s2 : Sl V V.heap.size (.slice A2 k2.length c2) k2 := by rw [hV]; exact HC.out.2.2.2.2.2.2.1.drew
   have HBV : Below w.heap.size w V := by rw [hV]; exact HC.out.2.2.2.2.2.2.2.drew
   have sL := (HARG.out V HBV).2.1;have sR := (HARG.out V HBV).2.2;clear hV HC;refine hdv0 1 29 (.slice (some ⟨q, off, none⟩) 3 cl) (by rfl) (⟨rX, (p0).2, (p1).2, (p2).2⟩) ?_;refine hdv 2 30 (.pointer (some ⟨q, off + 0, none⟩)) (by rfl) (fun w hS => index_p q off 0 3 cl (by omega) rfl (by kernel_rfl) (by kernel_rfl) _) (⟨rX, (p0).2, (p1).2, (p2).2⟩) ?_;refine hdv 3 31 (.slice A0 k0.length c0) (by rfl) (fun w hS => load_p rfl hS.2.1 (by kernel_rfl)) (⟨rX, (p0).2, (p1).2, (p2).2⟩) ?_;refine hdv0 4 32 (.slice Ale left.length cle) (by rfl) (⟨rX, (p0).2, (p1).2, (p2).2⟩) ?_;refine hdv0 5 33 (.slice (some ⟨q, off, none⟩) 3 cl) (by rfl) (⟨rX, (p0).2, (p1).2, (p2).2⟩) ?_;refine hdv 6 34 (.pointer (some ⟨q, off + 1, none⟩)) (by rfl) (fun w hS => index_p q off 1 3 cl (by omega) rfl (by kernel_rfl) (by kernel_rfl) _) (⟨rX, (p0).2, (p1).2, (p2).2⟩) ?_;refine hdv 7 35 (.slice A1 k1.length c1) (by rfl) (fun w hS => load_p rfl hS.2.2.1 (by kernel_rfl)) (⟨rX, (p0).2, (p1).2, (p2).2⟩) ?_;refine hdv0 9 37 (.slice Ari right.length cri) (by rfl) (⟨rX, (p0).2, (p1).2, (p2).2⟩) ?_;refine hdv0 10 38 (.slice (some ⟨q, off, none⟩) 3 cl) (by rfl) (⟨rX, (p0).2, (p1).2, (p2).2⟩) ?_;refine hdv 11 39 (.pointer (some ⟨q, off + 2, none⟩)) (by rfl) (fun w hS => index_p q off 2 3 cl (by omega) rfl (by kernel_rfl) (by kernel_rfl) _) (⟨rX, (p0).2, (p1).2, (p2).2⟩) ?_;refine hdv 12 40 (.slice A2 k2.length c2) (by rfl) (fun w hS => load_p rfl hS.2.2.2 (by kernel_rfl)) (⟨rX, (p0).2, (p1).2, (p2).2⟩) ?_;refine held_load 0 27 (.tmp 5) (some 28) (by kernel_rfl) (by rfl) (by kernel_rfl) w.heap.size 0 (by kernel_rfl) ([.int .u32 xc, .bool xs, .int .i64 xn, .int .i64 xh, .int .i64 xl]) _ (fun w h => h.1.range) Tryz.underlying27 rfl (info_xms) (fun _ _ _ _ h => h) (⟨rX, (p0).2, (p1).2, (p2).2⟩) ?_;simp only [Act.put, arr9, hd9, tl9];refine held_one 8 (by kernel_rfl) ?_;refine step_call 8 _ _ (some 36) 88 #[.slice Ale left.length cle, .slice A1 k1.length c1] (by rfl) (by kernel_rfl) (by first | kernel_rfl | go_simp) ?_;refine (show Calls Tryz.prog 88 #[.slice Ale left.length cle, .slice A1 k1.length c1] V (OwnIs V xl1) by have h := refXor_any V.heap.size V.heap.size _ _ _ _ V (sL) (s1) (Nat.le_refl _) (Nat.le_refl _) (by have := HLN.out.2.2; omega) (by have := HLN.out.2.2; omega); rw [<- HQ.out.1] at h; exact h).mono ?_;rintro e Y1 ⟨v, rfl, gv⟩;have bx : Below V.heap.size V Y1 := gv.2;obtain ⟨Ax, cAx, vEq⟩ := own_form gv.1;subst vEq;have sAx : Sl Y1 Y1.heap.size (.slice Ax xl1.length cAx) xl1 := gives_sl gv;clear gv;have b_V := bx;have m_Y1 : V.heap.size <= Y1.heap.size := bx.size;clear bx;refine ⟨_, rfl, ⟨(rX.go b_V), ((p0.go b_V)).2, ((p1.go b_V)).2, ((p2.go b_V)).2⟩, ?_⟩;simp only [Act.put, arr9, hd9, tl9];refine held_one 13 (by kernel_rfl) ?_;refine step_call 13 _ _ (some 41) 88 #[.slice Ari right.length cri, .slice A2 k2.length c2] (by rfl) (by kernel_rfl) (by first | kernel_rfl | go_simp) ?_;refine (show Calls Tryz.prog 88 #[.slice Ari right.length cri, .slice A2 k2.length c2] Y1 (OwnIs Y1 xr2) by have h := refXor_any Y1.heap.size Y1.heap.size _ _ _ _ Y1 ((sR.go b_V)) ((s2.go b_V)) (Nat.le_refl _) (Nat.le_refl _) (by have := HLN.out.2.2; omega) (by have := HLN.out.2.2; omega); rw [<- HQ.out.2.1] at h; exact h).mono ?_;rintro e Y2 ⟨v, rfl, gv⟩;have bx : Below Y1.heap.size Y1 Y2 := gv.2;obtain ⟨Ay, cAy, vEq⟩ := own_form gv.1;subst vEq;have sAy : Sl Y2 Y2.heap.size (.slice Ay xr2.length cAy) xr2 := gives_sl gv;clear gv;replace b_V := Below.chain b_V bx;have b_Y1 := bx;have m_Y2 : Y1.heap.size <= Y2.heap.size := bx.size;clear bx;refine ⟨_, rfl, ⟨(rX.go b_V), ((p0.go b_V)).2, ((p1.go b_V)).2, ((p2.go b_V)).2⟩, ?_⟩;simp only [Act.put, arr9, hd9, tl9];refine held_one 14 (by kernel_rfl) ?_;refine step_value 14 _ _ (some 42) (.slice (some ⟨Y2.heap.size, 0, none⟩) 2 2) (Y2.alloc (.cells #[.slice Ax xl1.length cAx, .slice Ay xr2.length cAy] 23)) (by rfl) (by kernel_rfl) (by first | kernel_rfl | go_simp) (⟨((rX.go b_V)).alloc _, (((p0.go b_V)).go (below1 _ _)).2, (((p1.go b_V)).go (below1 _ _)).2, (((p2.go b_V)).go (below1 _ _)).2⟩) ?_;simp only [Act.put, arr9, hd9, tl9];have bx : Below Y2.heap.size Y2 (Y2.alloc (.cells #[.slice Ax xl1.length cAx, .slice Ay xr2.length cAy] 23)) := Below.alloc (Below.refl _ _) (Nat.le_refl _) _;have rB : Row (Y2.alloc (.cells #[.slice Ax xl1.length cAx, .slice Ay xr2.length cAy] 23)) Y2.heap.size 23 [.slice Ax xl1.length cAx, .slice Ay xr2.length cAy] := Row.new_ rfl rfl;have z_rB := asz Y2 (.cells #[.slice Ax xl1.length cAx, .slice Ay xr2.length cAy] 23);generalize Y2.alloc (.cells #[.slice Ax xl1.length cAx, .slice Ay xr2.length cAy] 23) = Y3 at *;replace b_V := Below.chain b_V bx;replace b_Y1 := Below.chain b_Y1 bx;have b_Y2 := bx;have m_Y3 : Y2.heap.size <= Y3.heap.size := bx.size;clear bx;refine held_one 15 (by kernel_rfl) ?_;refine step_call 15 _ _ (some 43) 55 #[.slice (some ⟨Y2.heap.size, 0, none⟩) 2 2] (by rfl) (by kernel_rfl) (by first | kernel_rfl | go_simp) ?_;refine (show Calls Tryz.prog 55 #[.slice (some ⟨Y2.heap.size, 0, none⟩) 2 2] Y3 (OwnIs Y3 jj) by have h := refJoin_any Y3.heap.size Y3.heap.size (.slice (some ⟨Y2.heap.size, 0, none⟩) 2 2) [xl1, xr2] Y3 (PartsO.two (rB).lt (Nat.ne_of_lt (rB).lt) (rB) ((sAx.go b_Y1)) (((sAx.go b_Y1)).off (Nat.le_refl _)) ((sAy.go b_Y2)) (((sAy.go b_Y2)).off (Nat.le_refl _))) (Nat.le_refl _) (by rw [<- HQ.out.2.2.1]; have := HQ.out.2.2.2.2; omega) (by simp); rw [<- HQ.out.2.2.1] at h; exact h).mono ?_;rintro e Y4 ⟨v, rfl, gv⟩;have bx : Below Y3.heap.size Y3 Y4 := gv.2;obtain ⟨Aj, cj, vEq⟩ := own_form gv.1;subst vEq;have sJ : Sl Y4 Y4.heap.size (.slice Aj jj.length cj) jj := gives_sl gv;clear gv;replace b_V := Below.chain b_V bx;replace b_Y1 := Below.chain b_Y1 bx;replace b_Y2 := Below.chain b_Y2 bx;have b_Y3 := bx;have m_Y4 : Y3.heap.size <= Y4.heap.size := bx.size;clear bx;refine ⟨_, rfl, ⟨(rX.go b_V), ((p0.go b_V)).2, ((p1.go b_V)).2, ((p2.go b_V)).2⟩, ?_⟩;simp only [Act.put, arr9, hd9, tl9];refine held_one 16 (by kernel_rfl) ?_;refine step_call 16 _ _ (some 44) 63 #[.agg ([.int .u32 xc, .bool xs, .int .i64 xn, .int .i64 xh, .int .i64 xl]).toArray, .int .i64 1, .slice A0 k0.length c0, .slice Aj jj.length cj] (by rfl) (by kernel_rfl) (by first | kernel_rfl | go_simp) ?_;refine (show Calls Tryz.prog 63 #[.agg #[.int .u32 xc, .bool xs, .int .i64 xn, .int .i64 xh, .int .i64 xl], .int .i64 1, .slice A0 k0.length c0, .slice Aj jj.length cj] Y4 (SlF Y4 nb) by have h := HKY.out 1 _ _ k0 jj Y4 (by decide) ((s0.go b_V)) (sJ) (by have := HLN.out.2.2; omega) (by have := HQ.out.2.2.2.2; omega); rw [<- HQ.out.2.2.2.1] at h; exact h).mono ?_;rintro e Y5 ⟨v, rfl, gv, bv, tv⟩;have bx : Below Y4.heap.size Y4 Y5 := bv;obtain ⟨Ak, ck, vEq, _, _⟩ := gv.form;subst vEq;have sN := gv;have tN := tv;clear gv tv;replace b_V := Below.chain b_V bx;replace b_Y1 := Below.chain b_Y1 bx;replace b_Y2 := Below.chain b_Y2 bx;replace b_Y3 := Below.chain b_Y3 bx;have b_Y4 := bx;have m_Y5 : Y4.heap.size <= Y5.heap.size := bx.size;clear bx;refine ⟨_, rfl, ⟨(rX.go b_V), ((p0.go b_V)).2, ((p1.go b_V)).2, ((p2.go b_V)).2⟩, ?_⟩;simp only [Act.put, arr9, hd9, tl9];refine hdv0 17 10 (.slice Ak nb.length ck) (by rfl) (⟨(rX.go b_V), ((p0.go b_V)).2, ((p1.go b_V)).2, ((p2.go b_V)).2⟩) ?_;refine wpAnyH_done (by kernel_rfl) ?_ _;have HR : Shh (Sl Y5 Y5.heap.size (.slice Ak nb.length ck) nb /\ Below w.heap.size w Y5 /\ ∀ g, ¬ tagU Y5 g -> Off g (.slice Ak nb.length ck)) := ⟨sN, Below.chain HBV b_V, tN⟩;clear m_Y5 b_Y4 tN sN bv m_Y4 b_Y3 sJ m_Y3 b_Y2 z_rB rB m_Y2 b_Y1 sAy m_Y1 b_V sAx hS HBV rX p0 p1 p2 s0 s1 s2 sL sR;clear HKY HLN HQ;go_wp2;go_ret;exact ⟨_, rfl, by rw [HNN.out]; exact HR.out.1, HR.out.2.1, HR.out.2.2⟩
section
variable {a : Act} {x y : Operand} {op : Oper} {w : World}
theorem add_one {i : Nat} (h : i <= 1000000) (ho : op.op = .binOp .add 3 x (.const (.int .i64 1)) 3) (hx : a.eval x = .int .i64 (i : Int)) : (execOp a.eval op).run Tryz.prog w = .ok (.value (.int .i64 ((i + 1 : Nat) : Int))) w := by
 have hc : a.eval (.const (.int .i64 1)) = .int .i64 1 := rfl;have hw : IntKind.i64.wrap ((i : Int) + 1) = (i : Int) + 1 := by rw [IntKind.wrap_i64]; omega
 have e : ((i + 1 : Nat) : Int) = (i : Int) + 1 := by omega
 unfold execOp;simp only [ho, hx, hc, e]
 go_simp
end
def nodes (F : Nat -> Nat -> List UInt8 -> List UInt8 -> List UInt8) (t : Nat) (L : List (List UInt8)) (j : Nat) : List (List UInt8) := (List.range j).map fun i => F t i (L.getD (2 * i) []) (L.getD (2 * i + 1) [])
theorem nodes_succ (F : Nat -> Nat -> List UInt8 -> List UInt8 -> List UInt8) (t : Nat) (L : List (List UInt8)) (j : Nat) : nodes F t L (j + 1) = nodes F t L j ++ [F t j (L.getD (2 * j) []) (L.getD (2 * j + 1) [])] := by simp [nodes, List.range_succ]
theorem nodes_length (F : Nat -> Nat -> List UInt8 -> List UInt8 -> List UInt8) (t : Nat) (L : List (List UInt8)) (j : Nat) : (nodes F t L j).length = j := by simp [nodes]
theorem pairs_even (F : Nat -> Nat -> List UInt8 -> List UInt8 -> List UInt8) (t : Nat) (L : List (List UInt8)) (j : Nat) (h : L.length = 2 * j) : pairs (F t) 0 L = nodes F t L j := by
 apply List.ext_getElem?;intro i
 by_cases hi : i < j
 ·rw [pairs_get (F t) i 0 L (by omega), List.getElem?_eq_getElem (by rw [nodes_length]; exact hi)];simp [nodes]
 ·rw [List.getElem?_eq_none (by rw [pairs_len]; omega), List.getElem?_eq_none (by rw [nodes_length]; omega)]
theorem pairs_odd (F : Nat -> Nat -> List UInt8 -> List UInt8 -> List UInt8) (t : Nat) (L : List (List UInt8)) (j : Nat) (h : L.length = 2 * j + 1) : pairs (F t) 0 L = nodes F t L j ++ [L.getD (2 * j) []] := by
 apply List.ext_getElem?;intro i
 by_cases hi : i < j
 ·rw [pairs_get (F t) i 0 L (by omega), List.getElem?_append_left (by rw [nodes_length]; exact hi), List.getElem?_eq_getElem (by rw [nodes_length]; exact hi)];simp [nodes]
 ·by_cases he : i = j
  ·subst he;rw [pairs_last (F t) i 0 L h, List.getElem?_append_right (by rw [nodes_length]; exact Nat.le_refl _), nodes_length, Nat.sub_self];rfl
  ·rw [List.getElem?_eq_none (by rw [pairs_len]; omega), List.getElem?_eq_none (by rw [List.length_append, nodes_length]; simp; omega)]
theorem lvl_seven (F : Nat -> Nat -> List UInt8 -> List UInt8 -> List UInt8) (l : List (List UInt8)) (h : l.length <= 128) : (lvl F l 7).length <= 1 := by
 have h1 : (lvl F l 1).length = ((lvl F l 0).length + 1) / 2 := lvl_len F l 0;have h2 : (lvl F l 2).length = ((lvl F l 1).length + 1) / 2 := lvl_len F l 1;have h3 : (lvl F l 3).length = ((lvl F l 2).length + 1) / 2 := lvl_len F l 2;have h4 : (lvl F l 4).length = ((lvl F l 3).length + 1) / 2 := lvl_len F l 3;have h5 : (lvl F l 5).length = ((lvl F l 4).length + 1) / 2 := lvl_len F l 4;have h6 : (lvl F l 6).length = ((lvl F l 5).length + 1) / 2 := lvl_len F l 5;have h7 : (lvl F l 7).length = ((lvl F l 6).length + 1) / 2 := lvl_len F l 6;have h0 : (lvl F l 0).length = l.length := rfl;omega
theorem lvl_pos (F : Nat -> Nat -> List UInt8 -> List UInt8 -> List UInt8) (l : List (List UInt8)) (h : 0 < l.length) (t : Nat) : 0 < (lvl F l t).length := by
 induction t with
 | zero => exact h
 | succ t ih => rw [lvl_len]; omega
theorem lvl_le (F : Nat -> Nat -> List UInt8 -> List UInt8 -> List UInt8) (l : List (List UInt8)) (n : Nat) (h : l.length <= n) (t : Nat) : (lvl F l t).length <= n := by
 induction t with
 | zero => exact h
 | succ t ih => rw [lvl_len]; omega
theorem nodeB_length {x : S5} (hx : x.ok = true) (seed : List UInt8) (a : List UInt32) (l r : List UInt8) : (nodeB x.s x.n seed a l r).length = x.n.toNat := (ok_len hx 1 _ _).1
theorem getD_at {l : List (List UInt8)} {i : Nat} (h : i < l.length) : l.getD i [] = l[i] := by rw [List.getD_eq_getElem?_getD, List.getElem?_eq_getElem h]; rfl
set_option maxHeartbeats 1000000 in
theorem mayLeaf_any (x : S5) (hw : x.wf) (vs vp vb : Value) (sd pf pb : List UInt8) (i : Nat) (hi : i < 4294967296) (w : World) (hs : Sl w w.heap.size vs sd) (hp : Sl w w.heap.size vp pf) (hb : Sl w w.heap.size vb pb) :
  Calls Tryz.prog 13 #[x.v, keyV vs vp vb, .int .u32 (i : Int)] w (OldIs (.int .i64 (leafE x sd pf pb i)) w) := by
 unfold OldIs;obtain ⟨As, cs, rfl, _, _⟩ := hs.form;obtain ⟨Ap, cp, rfl, _, _⟩ := hp.form;obtain ⟨Ab, cb, rfl, _, _⟩ := hb.form;obtain ⟨E, hE⟩ : ∃ E, E = badE x [sd, pf, pb] := ⟨_, rfl⟩;obtain ⟨LE, hLE⟩ : ∃ LE, LE = leafE x sd pf pb i := ⟨_, rfl⟩;rw [<- hLE];have HM : Shh (∀ W, Sl W W.heap.size (.slice As sd.length cs) sd -> Sl W W.heap.size (.slice Ap pf.length cp) pf -> Sl W W.heap.size (.slice Ab pb.length cb) pb -> Calls Tryz.prog 21 #[x.v, .agg #[.slice As sd.length cs, .slice Ap pf.length cp, .slice Ab pb.length cb]] W (OldIs (.int .i64 E) W)) := ⟨fun W h1 h2 h3 => by rw [hE]; exact mayKey_any x hw _ _ _ sd pf pb W h1 h2 h3⟩;have HEE : Shh ((E ≠ 0 -> LE = E) /\ (E = 0 -> LE = if i < 2 ^ x.h.toNat then 0 else 1) /\ (E = 0 -> ∃ h : Nat, x.h = (h : Int) /\ h <= 20)) := by
  refine ⟨fun h => by rw [hLE]; unfold leafE; rw [<- hE, if_neg h], fun h => by rw [hLE]; unfold leafE; rw [<- hE, if_pos h], fun h => ok_h (badE_ok (by rw [<- hE]; exact h)).1⟩
 clear hE hLE hw;unfold S5.v at HM ⊢;unfold keyV;obtain ⟨W, hW⟩ : ∃ W, W = (w.alloc (.cells #[.int .u32 x.c, .bool x.s, .int .i64 x.n, .int .i64 x.h, .int .i64 x.l] 27)).alloc (.cells #[.slice As sd.length cs, .slice Ap pf.length cp, .slice Ab pb.length cb] 25) := ⟨_, rfl⟩;have HW : Shh (Row W w.heap.size 27 [.int .u32 x.c, .bool x.s, .int .i64 x.n, .int .i64 x.h, .int .i64 x.l] /\ Sl W W.heap.size (.slice As sd.length cs) sd /\ Sl W W.heap.size (.slice Ap pf.length cp) pf /\ Sl W W.heap.size (.slice Ab pb.length cb) pb /\ Below w.heap.size w W) := by
  rw [hW];exact ⟨(Row.new_ rfl rfl).alloc _, (hs.go (below1 _ _)).go (below1 _ _), (hp.go (below1 _ _)).go (below1 _ _), (hb.go (below1 _ _)).go (below1 _ _), Below.chain (below1 _ _) (below1 _ _)⟩
 clear hs hp hb;generalize x.c = xc at *;generalize x.s = xs at *;generalize x.n = xn at *;generalize x.h = xh at *;generalize x.l = xl at *;go_enter Tryz.func13, Tryz.ntmps13
 go_wp2_with (go_at_call 21; rw [<- hW]; refine (HM.out _ HW.out.2.1 HW.out.2.2.1 HW.out.2.2.2.1).mono ?_)
 unfold OldIs;rintro e w2 ⟨rfl, b2⟩;have H2 : Shh (Row w2 w.heap.size 27 [.int .u32 xc, .bool xs, .int .i64 xn, .int .i64 xh, .int .i64 xl] /\ Below w.heap.size w w2) := ⟨HW.out.1.go b2, Below.chain HW.out.2.2.2.2 b2⟩;clear b2 HW HM hW
 by_cases h0 : E = 0
 ·subst h0;obtain ⟨h, rfl, hh⟩ := HEE.out.2.2 rfl;have e3 := H2.out.1.cell 3;simp only [List.getElem?_cons_succ, List.getElem?_cons_zero] at e3;obtain ⟨pw, hpw⟩ : ∃ pw, pw = 2 ^ h := ⟨_, rfl⟩;have HP : Shh (pw = 2 ^ h) := ⟨hpw⟩;have hwr : IntKind.u64.wrap ((2 : Int) ^ h) = (pw : Int) := by
   have e : (2 : Int) ^ h = ((2 ^ h : Nat) : Int) := by rw [Int.natCast_pow]; rfl
   have h1 : 2 ^ h <= 2 ^ 20 := Nat.pow_le_pow_right (by decide) hh;have h2 : 2 ^ 20 = 1048576 := by decide
   rw [e, IntKind.wrap_u64, hpw];generalize 2 ^ h = P at h1;omega
  have hLE : Shh (LE = if i < pw then 0 else 1) := ⟨by rw [HEE.out.2.1 rfl, hpw]; rfl⟩;clear HEE hpw HP
  by_cases hlt : i < pw
  ·have hc : ¬ (pw : Int) <= (i : Int) := by omega
   have HR : Shh (LE = 0 /\ Below w.heap.size w w2) := ⟨by rw [hLE.out, if_pos hlt], H2.out.2⟩;clear H2 hLE;go_wp2;go_ret;exact ⟨by rw [HR.out.1]; rfl, HR.out.2⟩
  ·have hc : (pw : Int) <= (i : Int) := by omega
   have HR : Shh (LE = 1 /\ Below w.heap.size w w2) := ⟨by rw [hLE.out, if_neg hlt], H2.out.2⟩;clear H2 hLE;go_wp2;go_ret;exact ⟨by rw [HR.out.1]; rfl, HR.out.2⟩
 ·have HR : Shh (LE = E /\ Below w.heap.size w w2) := ⟨HEE.out.1 h0, H2.out.2⟩;clear H2 HEE;go_wp2;go_ret;exact ⟨by rw [HR.out.1]; rfl, HR.out.2⟩
def setX (c : Nat) : S5 := if xE c = 0 then xS c else ⟨(c : Int), false, 24, 1, 51⟩
theorem xE_or11 (c : Nat) : xE c = 0 ∨ xE c = 60 := by unfold xE; split <;> omega
theorem setX_wf (c : Nat) (hc : c < 4294967296) : (setX c).wf := by
 unfold setX
 split
 ·exact xms_wf c hc
 ·exact ⟨wf32 (by show 0 <= (c : Int); omega) (by show (c : Int) <= 4294967295; omega), (wf64 (by omega) (by omega) : (Lit.int .i64 24).wf = true), (wf64 (by omega) (by omega) : (Lit.int .i64 1).wf = true), (wf64 (by omega) (by omega) : (Lit.int .i64 51).wf = true)⟩
set_option maxHeartbeats 1000000 in
theorem set11_any (c : Nat) (hc : c < 4294967296) (w : World) : Calls Tryz.prog 11 #[.int .u32 (c : Int)] w (OldIs (setX c).v w) := by
 unfold OldIs;have HX : Shh (∀ W, Calls Tryz.prog 42 #[.int .u32 (c : Int)] W (OldIs (.tuple #[(xS c).v, .int .i64 (xE c)]) W)) := ⟨fun W => refXmss_any c hc W⟩;have HR : Shh ((xE c = 0 -> setX c = xS c) /\ (xE c ≠ 0 -> setX c = ⟨(c : Int), false, 24, 1, 51⟩)) := ⟨fun h => by unfold setX; rw [if_pos h], fun h => by unfold setX; rw [if_neg h]⟩;obtain ⟨R, hR⟩ : ∃ R, R = (setX c).v := ⟨_, rfl⟩;rw [<- hR];have HRR : Shh ((xE c = 0 -> R = (xS c).v) /\ (xE c ≠ 0 -> R = .agg #[.int .u32 (c : Int), .bool false, .int .i64 24, .int .i64 1, .int .i64 51])) := ⟨fun h => by rw [hR, HR.out.1 h], fun h => by rw [hR, HR.out.2 h]; rfl⟩;clear hR HR;have hE := xE_or11 c;generalize xE c = E at HX HRR hE;generalize xS c = x at HX HRR;obtain ⟨xc, xs, xn, xh, xl⟩ := x;unfold S5.v at HX HRR;simp only at HX HRR;have HW : Shh (Row (w.alloc (.cells #[.int .u32 0, .bool false, .int .i64 0, .int .i64 0, .int .i64 0] 27)) w.heap.size 27 [.int .u32 0, .bool false, .int .i64 0, .int .i64 0, .int .i64 0] /\ Below w.heap.size w (w.alloc (.cells #[.int .u32 0, .bool false, .int .i64 0, .int .i64 0, .int .i64 0] 27))) := ⟨Row.new_ rfl rfl, below1 _ _⟩;go_enter Tryz.func11, Tryz.ntmps11
 go_wp2_with (go_at_call 42; refine (HX.out _).mono ?_)
 unfold OldIs;rintro e w2 ⟨rfl, b2⟩;have H2 : Shh (Row w2 w.heap.size 27 [.int .u32 0, .bool false, .int .i64 0, .int .i64 0, .int .i64 0] /\ Below w.heap.size w w2 /\ w.heap.size < w2.heap.size) := ⟨HW.out.1.go b2, Below.chain HW.out.2 b2, (HW.out.1.go b2).lt⟩;clear HW b2 HX;obtain ⟨M, hM⟩ : ∃ M, Shh (M = w2.heap.size) := ⟨_, ⟨rfl⟩⟩
 go_wp2_with (refine wpList_store_any rfl 27 (.tmp 3) (.tmp 8) rfl M (by rw [hM.out]; rfl) [.int .u32 xc, .bool xs, .int .i64 xn, .int .i64 xh, .int .i64 xl] rfl 27 [.int .u32 0, .bool false, .int .i64 0, .int .i64 0, .int .i64 0] (Row.new_ hM.out rfl) info_xms rfl oneCell5 ?_)
 intro Z hr bt _;have H3 : Shh (Row Z w.heap.size 27 [.int .u32 0, .bool false, .int .i64 0, .int .i64 0, .int .i64 0] /\ Row Z M 27 [.int .u32 xc, .bool xs, .int .i64 xn, .int .i64 xh, .int .i64 xl] /\ Below w.heap.size w Z) := by
  have hm := hM.out;have hl := H2.out.2.2;exact ⟨bt.row (H2.out.1.alloc _) (by first | omega | (rw [asz]; omega)) (by omega), hr, Below.chain H2.out.2.1 ((below1 _ _).trans (bt.under (by first | omega | (rw [asz]; omega)) (by omega)))⟩
 rw [<- hM.out];clear hr bt H2 hM
 rcases hE with rfl | rfl
 ·have HR := Shh.mk (HRR.out.1 rfl);clear HRR
  go_wp2_with (first | refine wpList_load_any rfl 27 (.tmp 3) rfl M rfl 27 [.int .u32 xc, .bool xs, .int .i64 xn, .int .i64 xh, .int .i64 xl] _ H3.out.2.1 Tryz.underlying27 rfl info_xms ?_ | refine wpList_store_any rfl 27 (.tmp 2) (.tmp 14) rfl w.heap.size rfl [.int .u32 xc, .bool xs, .int .i64 xn, .int .i64 xh, .int .i64 xl] rfl 27 [.int .u32 0, .bool false, .int .i64 0, .int .i64 0, .int .i64 0] H3.out.1 info_xms rfl oneCell5 ?_)
  intro Z2 hr bt2 _;have H4 : Shh (Row Z2 w.heap.size 27 [.int .u32 xc, .bool xs, .int .i64 xn, .int .i64 xh, .int .i64 xl] /\ Below w.heap.size w Z2) := ⟨hr, H3.out.2.2.trans (bt2.under (by have := H3.out.1.lt; omega) (Nat.le_refl _))⟩;clear hr bt2 H3;go_wp2;exact ret_row Tryz.results11 rfl rfl H4.out.1 Tryz.underlying27 rfl info_xms ⟨by rw [HR.out], H4.out.2⟩
 ·have HR := Shh.mk (HRR.out.2 (by decide));clear HRR
  go_wp2_with (refine wpList_store_any rfl 27 (.tmp 2) (.tmp 13) rfl w.heap.size rfl [.int .u32 (c : Int), .bool false, .int .i64 24, .int .i64 1, .int .i64 51] rfl 27 [.int .u32 0, .bool false, .int .i64 0, .int .i64 0, .int .i64 0] H3.out.1 info_xms rfl oneCell5 ?_)
  intro Z2 hr bt2 _;have H4 : Shh (Row Z2 w.heap.size 27 [.int .u32 (c : Int), .bool false, .int .i64 24, .int .i64 1, .int .i64 51] /\ Below w.heap.size w Z2) := ⟨hr, H3.out.2.2.trans (bt2.under (by have := H3.out.1.lt; omega) (Nat.le_refl _))⟩;clear hr bt2 H3;go_wp2;exact ret_row Tryz.results11 rfl rfl H4.out.1 Tryz.underlying27 rfl info_xms ⟨by rw [HR.out], H4.out.2⟩
theorem badE_of11 {x : S5} {bss : List (List UInt8)} (h : x.ok = true) (h2 : ∀ b ∈ bss, (b.length : Int) = x.n) : badE x bss = 0 := by
 unfold badE;rw [if_pos h, if_pos];rw [List.all_eq_true];exact fun b hb => decide_eq_true (h2 b hb)
def nodR (x : S5) (seed : List UInt8) (a : List UInt32) (l r : List UInt8) : List UInt8 := if badE x [seed, l, r] = 0 then nodeB x.s x.n seed a l r else []
def x49 : S5 := ⟨4043309105, true, 24, 1, 51⟩
def zX : S5 := ⟨0, false, 0, 0, 0⟩
theorem x49_is : xmsV 4043309105 = x49.v /\ xE 4043309105 = 0 := by
 have h1 : xH 4043309105 = 1 := by decide +kernel
 have h2 : xF 4043309105 = 3 := by decide +kernel
 refine ⟨?_, by unfold xE; rw [h1]; rfl⟩;unfold xmsV xC xSh xN xL;rw [h1, h2];rfl
theorem x49_ok : x49.ok = true := by
 have h1 : xH 4043309105 = 1 := by decide +kernel
 have h2 : xF 4043309105 = 3 := by decide +kernel
 unfold S5.ok x49;refine decide_eq_true ?_;show xE 4043309105 = 0 /\ _;unfold xE xC xSh xN xL;simp only [show ((4043309105 : Int).toNat) = 4043309105 from rfl, h1, h2];decide
theorem zX_bad (bss : List (List UInt8)) : badE zX bss = 60 := by
 have h1 : xE 0 = 60 := by decide +kernel
 have h : zX.ok = false := by
  unfold S5.ok zX;refine decide_eq_false ?_;show ¬ (xE 0 = 0 /\ _);rw [h1];exact fun h => absurd h.1 (by decide)
 unfold badE;rw [h];rfl
theorem zX_wf : zX.wf := ⟨by decide, by decide, by decide, by decide⟩
theorem x49_wf : x49.wf := ⟨by decide, by decide, by decide, by decide⟩
def z24x : List UInt8 := List.replicate 24 0
def a0x : List UInt32 := List.replicate 8 0
theorem z24x_bad : badE x49 [z24x, z24x, z24x] = 0 := badE_of11 x49_ok (fun b hb => by simp only [List.mem_cons, List.not_mem_nil, or_false, or_self] at hb; rw [hb]; decide)
section
variable {Tb : World -> Prop}
set_option maxHeartbeats 2000000 in
theorem live11_of (hTb : ∀ w w', Tb w -> Below w.heap.size w w' -> Tb w')
  (hN : ∀ (x : S5) (vs vl vr : Value) (seed l r : List UInt8) (a : List UInt32) (W : World), x.wf -> a.length = 8 -> Tb W -> Sl W W.heap.size vs seed -> Sl W W.heap.size vl l -> Sl W W.heap.size vr r -> Calls Tryz.prog 40 #[x.v, vs, adrV a, vl, vr] W (ResIs W (badE x [seed, l, r]) (nodR x seed a l r))) (w : World) (ht : Tb w) :
  Calls Tryz.prog 14 #[] w (TrueIs w) := by
 unfold TrueIs;obtain ⟨ob, hob⟩ : ∃ ob, ob = nodeB x49.s x49.n z24x a0x z24x z24x := ⟨_, rfl⟩
 have hX : Shh (∀ W, Calls Tryz.prog 42 #[.int .u32 4043309105] W (OldIs (.tuple #[.agg #[.int .u32 4043309105, .bool true, .int .i64 24, .int .i64 1, .int .i64 51], .int .i64 0]) W)) := ⟨fun W => by
  have h := refXmss_any 4043309105 (by decide) W;rw [x49_is.1, x49_is.2] at h
  exact h⟩
 have HN : Shh ((∀ (v : Value) W, Tb W -> Sl W W.heap.size v z24x -> Calls Tryz.prog 40 #[.agg #[.int .u32 4043309105, .bool true, .int .i64 24, .int .i64 1, .int .i64 51], v, .agg #[.int .u32 0, .int .u32 0, .int .u32 0, .int .u32 0, .int .u32 0, .int .u32 0, .int .u32 0, .int .u32 0], v, v] W (ResIs W 0 ob)) /\
   (∀ (v : Value) W, Tb W -> Sl W W.heap.size v z24x -> Calls Tryz.prog 40 #[.agg #[.int .u32 0, .bool false, .int .i64 0, .int .i64 0, .int .i64 0], v, .agg #[.int .u32 0, .int .u32 0, .int .u32 0, .int .u32 0, .int .u32 0, .int .u32 0, .int .u32 0, .int .u32 0], v, v] W (ResIs W 60 [])) /\
   (∀ (v : Value) W, Sl W W.heap.size v z24x -> Calls Tryz.prog 45 #[.agg #[.int .u32 4043309105, .bool true, .int .i64 24, .int .i64 1, .int .i64 51], v, .agg #[.int .u32 0, .int .u32 0, .int .u32 0, .int .u32 0, .int .u32 0, .int .u32 0, .int .u32 0, .int .u32 0], v, v] W (SlF W ob)) /\ ob.length = 24) := by
  refine ⟨fun v W h1 h2 => ?_, fun v W h1 h2 => ?_, fun v W h2 => ?_, by rw [hob]; exact nodeB_length x49_ok _ _ _ _⟩
  ·have h := hN x49 v v v z24x z24x z24x a0x W x49_wf (by decide) h1 h2 h2 h2;have e : nodR x49 z24x a0x z24x z24x = ob := by unfold nodR; rw [if_pos z24x_bad, hob]
   rw [z24x_bad, e] at h;exact h
  ·have h := hN zX v v v z24x z24x z24x a0x W zX_wf (by decide) h1 h2 h2 h2;have e : nodR zX z24x a0x z24x z24x = [] := by unfold nodR; rw [if_neg (by rw [zX_bad]; decide)]
   rw [zX_bad, e] at h;exact h
  ·rw [hob];exact refNode11_any x49 x49_ok v v v z24x z24x z24x a0x (by decide) W h2 h2 h2 (by decide) (by decide) (by decide)
 have HT : Shh (∀ W, Below w.heap.size w W -> Tb W) := ⟨fun W b => hTb w W ht b⟩;have hmk : ∀ u, (Instr.makeSlice 23 (.int .i64 24) (.int .i64 24)).run Tryz.prog u = .ok (.slice (some ⟨u.heap.size, 0, none⟩) 24 24) (u.alloc (.cells (Lib.byteCells (List.replicate 24 0)).toArray 5)) := make_run 24 (by decide);clear hN hob ht hTb;go_enter Tryz.func14, Tryz.ntmps14
 go_wp2_with (go_at_call 42; refine (hX.out _).mono ?_)
 unfold OldIs;rintro e w2 ⟨rfl, b2⟩;have HB2 := Shh.mk b2;clear b2 hX;obtain ⟨M, hM⟩ : ∃ M, Shh (M = w2.heap.size) := ⟨_, ⟨rfl⟩⟩
 go_wp2_with (refine wpList_store_any rfl 27 (.tmp 1) (.tmp 10) rfl M (by rw [hM.out]; rfl) [.int .u32 4043309105, .bool true, .int .i64 24, .int .i64 1, .int .i64 51] rfl 27 [.int .u32 0, .bool false, .int .i64 0, .int .i64 0, .int .i64 0] (Row.new_ hM.out rfl) info_xms rfl oneCell5 ?_)
 intro Z hr bt hsz;have H3 : Shh (Row (Z.alloc (.cells (Lib.byteCells (List.replicate 24 0)).toArray 5)) M 27 [.int .u32 4043309105, .bool true, .int .i64 24, .int .i64 1, .int .i64 51] /\ Sl (Z.alloc (.cells (Lib.byteCells (List.replicate 24 0)).toArray 5)) (Z.alloc (.cells (Lib.byteCells (List.replicate 24 0)).toArray 5)).heap.size (.slice (some ⟨Z.heap.size, 0, none⟩) 24 24) z24x /\ Below w.heap.size w (Z.alloc (.cells (Lib.byteCells (List.replicate 24 0)).toArray 5))) := by
  have hm := hM.out;have b1 : Below w.heap.size w Z := Below.chain HB2.out ((below1 _ _).trans (bt.under (by first | omega | (rw [asz]; omega)) (by omega)));have rZ : Row (Z.alloc (.cells (Lib.byteCells (List.replicate 24 0)).toArray 5)) Z.heap.size 5 (Lib.byteCells (List.replicate 24 0)) := Row.new_ rfl rfl;have sZ : Sl (Z.alloc (.cells (Lib.byteCells (List.replicate 24 0)).toArray 5)) (Z.alloc (.cells (Lib.byteCells (List.replicate 24 0)).toArray 5)).heap.size (.slice (some ⟨Z.heap.size, 0, none⟩) 24 24) (List.replicate 24 0) := Row.sl (n := 24) rZ rfl (by omega);exact ⟨hr.alloc _, sZ, Below.chain b1 (below1 _ _)⟩
 obtain ⟨W, hmW, HW⟩ : ∃ W, (Instr.makeSlice 23 (.int .i64 24) (.int .i64 24)).run Tryz.prog Z = .ok (.slice (some ⟨Z.heap.size, 0, none⟩) 24 24) W /\ Shh (Row W M 27 [.int .u32 4043309105, .bool true, .int .i64 24, .int .i64 1, .int .i64 51] /\ Sl W W.heap.size (.slice (some ⟨Z.heap.size, 0, none⟩) 24 24) z24x /\ Below w.heap.size w W) := ⟨_, hmk Z, H3⟩;rw [<- hM.out];clear hr bt hsz HB2 hM H3 hmk
 go_wp2_with (first | refine wpList_load_any rfl 27 (.tmp 1) rfl M rfl 27 [.int .u32 4043309105, .bool true, .int .i64 24, .int .i64 1, .int .i64 51] _ HW.out.1 Tryz.underlying27 rfl info_xms ?_ | (go_at_call 40; refine (HN.out.1 _ _ (HT.out _ HW.out.2.2) HW.out.2.1).mono ?_))
 unfold ResIs;rintro e w4 ⟨v4, rfl, h4, b4⟩;obtain ⟨A4, c4, rfl, _, _⟩ := h4.form;have H4 : Shh (Row w4 M 27 [.int .u32 4043309105, .bool true, .int .i64 24, .int .i64 1, .int .i64 51] /\ Sl w4 w4.heap.size (.slice (some ⟨Z.heap.size, 0, none⟩) 24 24) z24x /\ Below w.heap.size w w4 /\ Sl w4 w4.heap.size (.slice A4 ob.length c4) ob) := ⟨HW.out.1.go b4, HW.out.2.1.go b4, Below.chain HW.out.2.2 b4, h4⟩;clear h4 b4 HW
 go_wp2_with (go_at_call 40; refine (HN.out.2.1 _ _ (HT.out _ H4.out.2.2.1) H4.out.2.1).mono ?_)
 unfold ResIs;rintro e w5 ⟨v5, rfl, h5, b5⟩;have H5 : Shh (Row w5 M 27 [.int .u32 4043309105, .bool true, .int .i64 24, .int .i64 1, .int .i64 51] /\ Sl w5 w5.heap.size (.slice (some ⟨Z.heap.size, 0, none⟩) 24 24) z24x /\ Below w.heap.size w w5 /\ Sl w5 w5.heap.size (.slice A4 ob.length c4) ob) := ⟨H4.out.1.go b5, H4.out.2.1.go b5, Below.chain H4.out.2.2.1 b5, H4.out.2.2.2.go b5⟩;clear h5 b5 H4;have H24 := HN.out.2.2.2;rw [H24]
 go_wp2_with (first | refine wl_loadW 27 (.tmp 1) rfl M rfl 27 [.int .u32 4043309105, .bool true, .int .i64 24, .int .i64 1, .int .i64 51] _ rfl H5.out.1 Tryz.underlying27 rfl info_xms ?_ | (go_at_call 45; refine (HN.out.2.2.1 _ _ H5.out.2.1).mono ?_))
 unfold SlF;rintro e w6 ⟨v6, rfl, h6, b6, _⟩;obtain ⟨A6, c6, rfl, _, _⟩ := h6.form;have H6 : Shh (Below w.heap.size w w6 /\ Sl w6 w6.heap.size (.slice A4 24 c4) ob /\ Sl w6 w6.heap.size (.slice A6 24 c6) ob) := ⟨Below.chain H5.out.2.2.1 b6, by have h := H5.out.2.2.2.go b6; rw [H24] at h; exact h, by rw [H24] at h6; exact h6⟩;clear h6 b6 H5;have hee : (ob == ob) = true := by simp
 go_wp2_with (go_at_call 15; refine (refEqual_any w6.heap.size w6.heap.size _ _ ob ob _ H6.out.2.1 H6.out.2.2).mono ?_)
 rintro e w8 ⟨rfl, rfl⟩;rw [hee];go_wp2;go_ret;exact ⟨rfl, H6.out.1⟩
end
theorem info_adr11 {L : List Value} (h : L.length = 8) : (Tryz.prog.info? 64).map (·.size) = some L.length := by rw [h]; exact info_adr
theorem info_key11 : (Tryz.prog.info? 25).map (·.size) = some 3 := by kernel_rfl
end Go.Proofs.YtdakbipiifkmfaaGreatDoor
