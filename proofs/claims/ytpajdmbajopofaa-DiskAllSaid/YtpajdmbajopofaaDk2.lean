/-
 WHERE A DISK LIES: its own blocks bear its colour, bytes of pending writes colour 0; what a call on a disk of colour c does to memory.
-/
import Derived.Test.YtpajdmbajopofaaDk1
namespace Go.Proofs.Ytpajdmbajopofaa
open Go.RowKit
set_option maxRecDepth 100000
/-- bytes that lie in a block of colour 0 -/
def Dat (col : Nat → Nat) (w : World) (u : Value) (bs : List UInt8) : Prop := ∃ b off cp, u = .slice (some ⟨b, off, none⟩) bs.length cp ∧ col b = 0 ∧ b < w.heap.size ∧ bs.length ≤ cp ∧ cp ≤ maxLen ∧ ∀ k (h : k < bs.length), w.cell? ⟨b, off + k, none⟩ = some (.int .u8 bs[k].toNat)
/-- pending writes: a slice of its own of numbers and bytes -/
def PAt (col : Nat → Nat) (c : Nat) (w : World) (T : TypeId) (v : Value) (l : List (Nat × List UInt8)) : Prop :=
 ∃ xs : List Value, w.ownsRow 0 T 2 v l.length xs ∧ (∀ k, v.ownBlock = some k → col k = c) ∧ ∀ j (h : j < l.length), ∃ u, xs[2 * j]? = some (.int .i64 (l[j].1 : Int)) ∧ xs[2 * j + 1]? = some u ∧ Dat col w u l[j].2
/-- the five cells of a disk, and its bytes -/
def DAt (col : Nat → Nat) (c : Nat) (w : World) (g : Nat) (s : DS) : Prop := s.ok ∧ col g = c ∧ ∃ q dc pv sp, col q = c ∧
 Row w g 67 [.slice (some ⟨q, 0, none⟩) (256 * s.good.length) dc, pv, .bool s.on, .int .i64 s.fuse, .int .i64 s.done] ∧
 Row w q 5 (Lib.byteCells s.good.flatten ++ sp) ∧ 256 * s.good.length + sp.length = dc ∧ dc ≤ maxLen ∧ PAt col c w 71 pv s.wait
/-- what a call on something of colour c does: other blocks of the past keep colour and contents -/
structure Ext (col : Nat → Nat) (c : Nat) (w w' : World) (col' : Nat → Nat) : Prop where
 os : w'.os = w.os
 tape : w'.tape = w.tape
 output : w'.output = w.output
 size : w.heap.size ≤ w'.heap.size
 hue : ∀ k, k < w.heap.size → col' k = col k
 block : ∀ k, k < w.heap.size → col k ≠ c → w'.heap[k]? = w.heap[k]?
section
variable {col col' col'' : Nat → Nat} {c : Nat} {w w' w'' : World} {B : Nat}
theorem Ext.refl (col : Nat → Nat) (c : Nat) (w : World) : Ext col c w w col := ⟨rfl, rfl, rfl, Nat.le_refl _, fun _ _ => rfl, fun _ _ _ => rfl⟩
theorem Ext.trans (h : Ext col c w w' col') (k : Ext col' c w' w'' col'') : Ext col c w w'' col'' :=
 ⟨k.os.trans h.os, k.tape.trans h.tape, k.output.trans h.output, Nat.le_trans h.size k.size, fun i hi => (k.hue i (Nat.lt_of_lt_of_le hi h.size)).trans (h.hue i hi),
  fun i hi hc => (k.block i (Nat.lt_of_lt_of_le hi h.size) (by rw [h.hue i hi]; exact hc)).trans (h.block i hi hc)⟩
theorem Ext.of_below (col : Nat → Nat) (c : Nat) (b : Below w.heap.size w w') : Ext col c w w' col := ⟨b.os, b.tape, b.output, b.size, fun _ _ => rfl, fun k hk _ => b.block k hk⟩
theorem Ext.below (h : Ext col c w w' col') (hB : ∀ k, k < B → col k ≠ c) (hs : B ≤ w.heap.size) : Below B w w' := ⟨h.os, h.tape, h.output, h.size, fun k hk => h.block k (Nat.lt_of_lt_of_le hk hs) (hB k hk)⟩
theorem Ext.of_but {g : Nat} (b : But w.heap.size g w w') (hg : col g = c) : Ext col c w w' col := ⟨b.os, b.tape, b.output, b.size, fun _ _ => rfl, fun k hk hc => b.block k hk (fun e => hc (by rw [e]; exact hg))⟩
/-- new blocks get a colour -/
def paint (col : Nat → Nat) (n c : Nat) (k : Nat) : Nat := if k < n then col k else c
theorem paint_lt {n k : Nat} (h : k < n) : paint col n c k = col k := if_pos h
theorem paint_ge {n k : Nat} (h : n ≤ k) : paint col n c k = c := if_neg (by omega)
theorem Ext.paint (h : Ext col c w w' col') (d : Nat) : Ext col c w w' (paint col w.heap.size d) := ⟨h.os, h.tape, h.output, h.size, fun _ hk => paint_lt hk, h.block⟩
theorem Ext.same (h : Ext col c w w' col') : Ext col c w w' col := ⟨h.os, h.tape, h.output, h.size, fun _ _ => rfl, h.block⟩
theorem Ext.re (h : Ext col c w w' col') {d : Nat → Nat} (hd : ∀ k, k < w.heap.size → d k = col k) : Ext col c w w' d := ⟨h.os, h.tape, h.output, h.size, hd, h.block⟩
theorem Dat.ext {u : Value} {bs : List UInt8} (h : Dat col w u bs) (e : Ext col c w w' col') (hc : c ≠ 0) : Dat col' w' u bs := by
 obtain ⟨b, off, cp, h1, h2, h3, h4, h5, h6⟩ := h
 exact ⟨b, off, cp, h1, by rw [e.hue b h3]; exact h2, Nat.lt_of_lt_of_le h3 e.size, h4, h5, fun k hk => (World.cell?_of_block (a := ⟨b, off + k, none⟩) (e.block b h3 (by rw [h2]; exact Ne.symm hc))).trans (h6 k hk)⟩
theorem Dat.sl {u : Value} {bs : List UInt8} (h : Dat col w u bs) : Sl w w.heap.size u bs := by
 obtain ⟨b, off, cp, h1, h2, h3, h4, h5, h6⟩ := h
 exact ⟨some ⟨b, off, none⟩, cp, h1, h4, h5, fun _ => ⟨b, off, rfl, h3, h6⟩⟩
theorem Dat.off {u : Value} {bs : List UInt8} (h : Dat col w u bs) {g : Nat} (hg : col g ≠ 0) : Off g u := by
 obtain ⟨b, off, cp, h1, h2, _⟩ := h
 rw [h1]
 intro x l c e _
 injection e with e
 injection e with e
 rw [← e]
 intro hb
 exact hg (hb ▸ h2)
/-- a row of another colour -/
theorem Row.ext {g : Nat} {T : TypeId} {cs : List Value} (h : Row w g T cs) (e : Ext col c w w' col') (hc : col g ≠ c) : Row w' g T cs := (e.block g h.lt hc).trans h
theorem ownsRow_ext {T : TypeId} {sz n d : Nat} {v : Value} {xs : List Value} (h : w.ownsRow 0 T sz v n xs) (hv : ∀ k, v.ownBlock = some k → col k = d) (e : Ext col c w w' col') (hd : d ≠ c) : w'.ownsRow 0 T sz v n xs := by
 refine ⟨h.1, ?_⟩
 rcases h.2 with h2 | ⟨g, cap, cur, hv', hb, hg, rest⟩
 ·exact .inl h2
 ·refine .inr ⟨g, cap, cur, hv', hb, ?_, rest⟩
  have hc := hv g (by rw [hv']; rfl)
  exact (e.block g (Array.getElem?_eq_some_iff.1 hg).1 (by rw [hc]; exact hd)).trans hg
theorem PAt.ext {T : TypeId} {d : Nat} {v : Value} {l : List (Nat × List UInt8)} (h : PAt col d w T v l) (e : Ext col c w w' col') (hd : d ≠ c) (hc : c ≠ 0) : PAt col' d w' T v l := by
 obtain ⟨xs, h1, h2, h3⟩ := h
 refine ⟨xs, ownsRow_ext h1 h2 e hd, fun k hk => ?_, fun j hj => ?_⟩
 ·rw [e.hue k (h1.lt k hk).2]; exact h2 k hk
 ·obtain ⟨u, h4, h5, h6⟩ := h3 j hj
  exact ⟨u, h4, h5, h6.ext e hc⟩
theorem DAt.ext {d g : Nat} {s : DS} (h : DAt col d w g s) (e : Ext col c w w' col') (hd : d ≠ c) (hc : c ≠ 0) : DAt col' d w' g s := by
 obtain ⟨h0, h1, q, dc, pv, sp, h2, h3, h4, h5, h6, h7⟩ := h
 exact ⟨h0, by rw [e.hue g h3.lt]; exact h1, q, dc, pv, sp, by rw [e.hue q h4.lt]; exact h2, h3.ext e (by rw [h1]; exact hd), h4.ext e (by rw [h2]; exact hd), h5, h6, h7.ext e hd hc⟩
theorem PAt.go {T : TypeId} {d : Nat} {v : Value} {l : List (Nat × List UInt8)} (h : PAt col d w T v l) (b : Below w.heap.size w w') : PAt col d w' T v l := by
 have e : Ext col (d + 1) w w' col := Ext.of_below col _ b
 exact h.ext e (by omega) (by omega)
theorem DAt.go {d g : Nat} {s : DS} (h : DAt col d w g s) (b : Below w.heap.size w w') : DAt col d w' g s := h.ext (Ext.of_below col (d + 1) b) (by omega) (by omega)
theorem Dat.go {u : Value} {bs : List UInt8} (h : Dat col w u bs) (b : Below w.heap.size w w') : Dat col w' u bs := h.ext (Ext.of_below col 1 b) (by omega)
/-- pending writes stay where a block of another kind turns -/
theorem PAt.but {T U : TypeId} {d g : Nat} {v : Value} {l : List (Nat × List UInt8)} {cs : List Value} (h : PAt col d w T v l) (b : But w.heap.size g w w') (hr : Row w g U cs) (hT : U ≠ T) (hg : col g ≠ 0) : PAt col d w' T v l := by
 obtain ⟨xs, h1, h2, h3⟩ := h
 refine ⟨xs, ⟨h1.1, ?_⟩, h2, fun j hj => ?_⟩
 ·rcases h1.2 with h4 | ⟨p, cap, cur, hv', hb, hp, rest⟩
  ·exact .inl h4
  ·refine .inr ⟨p, cap, cur, hv', hb, (b.block p (Array.getElem?_eq_some_iff.1 hp).1 (fun e => ?_)).trans hp, rest⟩
   rw [e, show w.heap[g]? = _ from hr] at hp
   injection hp with hp
   injection hp with _ hp
   exact hT hp
 ·obtain ⟨u, h4, h5, b', off, cp, k1, k2, k3, k4, k5, k6⟩ := h3 j hj
  exact ⟨u, h4, h5, b', off, cp, k1, k2, Nat.lt_of_lt_of_le k3 b.size, k4, k5, fun k hk => (World.cell?_of_block (a := ⟨b', off + k, none⟩) (b.block b' k3 (fun e => hg (by rw [← e]; exact k2)))).trans (k6 k hk)⟩
end
end Go.Proofs.Ytpajdmbajopofaa
