import Derived.WalkKit
import Derived.Test.YtdakbipiifkmfaaGreatDoorProg
import Derived.WalkSpells
import Derived.WalkLawsBesides
import Derived.Lib.UnsafeStr
import Derived.Lib.Hide
import Derived.Laws.BytesArg
import Derived.Deep.Draws
import Derived.RegionTactic
import Derived.ChangeAlike
import Derived.Laws.AppendOwnNone
import Derived.BigQuiet
import Derived.Deep.QuietTactic
import Derived.Lib.ConvBytes
import Derived.Lib.AtoiErrMem
import Derived.Laws.AppendOwn
import Derived.StillTailTactics
import Derived.BigRegion
import Derived.Deep.RegionWith
import Derived.Deep.RegionHeld
import Derived.Test.YtdakbipiifkmfaaGreatDoorRows
import Derived.ProofKit
import Derived.OpenShut
import Derived.JoinedCond
import Derived.SizedLaws
import Derived.Carry
import Derived.Deep.Grids
import Derived.Laws.Cover3
import Derived.Deep.RegionHeld3
import Derived.Laws.CopyOwn
import Derived.Deep.RegionLaw
import Derived.DeepKeys
import Derived.Lib.SmallJoins
import Derived.Deep.MidRow
import Derived.Deep.WholeRow
import Derived.Test.YtdakbipiifkmfaaGreatDoorGX
namespace Go.Proofs.YtdakbipiifkmfaaGreatDoor
open Go.RowKit
set_option maxRecDepth 100000
section
variable {a : Act} {x y : Operand} {op : Oper} {w : World}
theorem load_i {p : Addr} {n : Int} (ho : op.op = .load 3 x) (hc : w.cell? p = some (.int .i64 n)) (hx : a.eval x = .pointer (some p)) : (execOp a.eval op).run Tryz.prog w = .ok (.value (.int .i64 n)) w := by
 unfold execOp;simp only [ho, hx]
 go_simp
end
end Go.Proofs.YtdakbipiifkmfaaGreatDoor
namespace Go.Proofs.YtdakbipiifkmfaaGreatDoor
open Go.RowKit
set_option maxRecDepth 100000
theorem ltreeB_length {x : S5} (hx : x.ok = true) (seed ends : List UInt8) (leaf L : Nat) (hL : 0 < L) (h : ends.length = L * x.n.toNat) : (ltreeB x.s x.n L seed ends leaf).length = x.n.toNat := by
 unfold ltreeB;have h1 : ∀ b ∈ cutL x.n.toNat ends L, b.length = x.n.toNat := by
  intro b hb;unfold cutL at hb;obtain ⟨i, hi, rfl⟩ := List.mem_map.1 hb;exact pieceB_length _ _ _ L h (List.mem_range.1 hi)
 have h2 := lvl_all (ltF x.s x.n seed leaf) x.n.toNat (fun h i a b => nodeB_length hx _ _ _ _) _ h1 7;have h3 := lvl_pos (ltF x.s x.n seed leaf) (cutL x.n.toNat ends L) (by rw [cutL_length]; exact hL) 7;rw [List.getD_eq_getElem?_getD, List.getElem?_eq_getElem h3];exact h2 _ (List.getElem_mem h3)
end Go.Proofs.YtdakbipiifkmfaaGreatDoor
namespace Go.Proofs.YtdakbipiifkmfaaGreatDoor
open Go.RowKit
set_option maxRecDepth 100000
def Prt2 (w : World) (B : Nat) (v : Value) (rss : List (List (List UInt8))) : Prop :=
 ∃ A c, v = .slice A rss.length c /\ rss.length <= c /\ c <= maxLen /\ (0 < rss.length -> ∃ q off, A = some ⟨q, off, none⟩ /\ q < B /\ ∀ i (h : i < rss.length), ∃ u, w.cell? ⟨q, off + i, none⟩ = some u /\ Prt w B u rss[i])
section
variable {w w' : World} {B : Nat} {v : Value} {rss : List (List (List UInt8))}
theorem Prt2.below (h : Prt2 w B v rss) (hb : Below B w w') : Prt2 w' B v rss := by
 obtain ⟨A, c, hv, h1, h2, hc⟩ := h;refine ⟨A, c, hv, h1, h2, fun hn => ?_⟩;obtain ⟨q, off, hA, hq, hr⟩ := hc hn;refine ⟨q, off, hA, hq, fun i hi => ?_⟩;obtain ⟨u, hu, hs⟩ := hr i hi;exact ⟨u, (hb.cell (p := ⟨q, off + i, none⟩) hq).trans hu, hs.below hb⟩
theorem Prt2.more {B' : Nat} (h : Prt2 w B v rss) (hB : B <= B') : Prt2 w B' v rss := by
 obtain ⟨A, c, hv, h1, h2, hc⟩ := h;refine ⟨A, c, hv, h1, h2, fun hn => ?_⟩;obtain ⟨q, off, hA, hq, hr⟩ := hc hn;refine ⟨q, off, hA, by omega, fun i hi => ?_⟩;obtain ⟨u, hu, hs⟩ := hr i hi;exact ⟨u, hu, hs.more hB⟩
theorem Prt2.go (h : Prt2 w w.heap.size v rss) (b : Below w.heap.size w w') : Prt2 w' w'.heap.size v rss := (h.below b).more b.size
theorem Prt2.form (h : Prt2 w B v rss) : ∃ A c, v = .slice A rss.length c /\ rss.length <= c /\ c <= maxLen := by
 obtain ⟨A, c, hv, h1, h2, _⟩ := h;exact ⟨A, c, hv, h1, h2⟩
theorem Prt2.at_ {A : Option Addr} {n c : Nat} (h : Prt2 w B (.slice A n c) rss) (hn : 0 < rss.length) : ∃ q off, A = some ⟨q, off, none⟩ /\ q < B /\ ∀ i (h : i < rss.length), ∃ u, w.cell? ⟨q, off + i, none⟩ = some u /\ Prt w B u rss[i] := by
 obtain ⟨A', c', hv, _, _, hc⟩ := h;cases hv;exact hc hn
end
end Go.Proofs.YtdakbipiifkmfaaGreatDoor
namespace Go.Proofs.YtdakbipiifkmfaaGreatDoor
open Go.RowKit
set_option maxRecDepth 100000
def bitN (n : Nat) : Nat := if h : n = 0 then 0 else n % 2 + bitN (n / 2)
termination_by n
decreasing_by omega
theorem bitN_zero : bitN 0 = 0 := by rw [bitN]; rfl
theorem bitN_pos {n : Nat} (h : 0 < n) : bitN n = n % 2 + bitN (n / 2) := by rw [bitN, dif_neg (by omega)]
end Go.Proofs.YtdakbipiifkmfaaGreatDoor
namespace Go.Proofs.YtdakbipiifkmfaaGreatDoor
open Go.RowKit
set_option maxRecDepth 100000
structure GrQ (w : World) (base : Nat) (w' : World) : Prop where
 below : Below base w w'
 size : w.heap.size <= w'.heap.size
 block : ∀ k, k < w.heap.size -> (¬ ∃ C fr, w.heap[k]? = some (.cells C 82 fr)) -> w'.heap[k]? = w.heap[k]?
theorem GrQ.of {w w' : World} {base n : Nat} {v : Value} {us : List Value} (ho : w.ownsRow base 82 1 v n us) (hg : w.grownBy w' v.ownBlock) (hb : base <= w.heap.size) : GrQ w base w' := by
 refine ⟨(Below.refl base w).grown hg hb (fun k hk => by have := (ho.lt k hk).1; omega), hg.size, fun k hk hn => hg.block k hk fun e => ?_⟩
 rcases ho with ⟨_, ⟨rfl, _⟩ | ⟨g, cap, cur, rfl, _, hgb, _⟩⟩
 ·cases e
 ·obtain rfl : k = g := by injection e
  exact hn ⟨_, _, hgb⟩
theorem GrQ.at_ {w w' : World} {base g : Nat} {T : TypeId} {C : Array Value} {fr} (h : GrQ w base w') (hr : w.heap[g]? = some (.cells C T fr)) (hT : T ≠ 82) : w'.heap[g]? = some (.cells C T fr) := by
 refine (h.block g (Array.getElem?_eq_some_iff.1 hr).1 ?_).trans hr;rintro ⟨C', fr', hc'⟩;rw [hr] at hc';injection hc' with e;injection e with _ e2;exact hT e2
theorem GrQ.tag {w w' : World} {base g : Nat} (h : GrQ w base w') (ht : tagU w g) : tagU w' g := by
 obtain ⟨C, fr, hc⟩ := ht;exact ⟨C, fr, h.at_ hc (by decide)⟩
theorem GrQ.row {w w' : World} {base g : Nat} {T : TypeId} {cs : List Value} (h : GrQ w base w') (hr : Row w g T cs) (hT : T ≠ 82) : Row w' g T cs := h.at_ hr hT
theorem GrQ.sl {w w' : World} {base : Nat} {y : Value} {bs : List UInt8} (h : GrQ w base w') (hs : Sl w w.heap.size y bs) (hy : UN w 0 y) : Sl w' w'.heap.size y bs := by
 have hs2 : Sl w' w.heap.size y bs := by
  obtain ⟨A, c, hv, h1, h2, hc⟩ := hs;refine ⟨A, c, hv, h1, h2, fun hn => ?_⟩;obtain ⟨b, off, hA, hb, hr⟩ := hc hn;refine ⟨b, off, hA, hb, fun k hk => ?_⟩;have ht : tagU w b := by
   refine Classical.byContradiction fun hn2 => ?_
   exact hy b (Nat.zero_le _) hn2 _ _ _ (by rw [hv, hA]) (by omega) rfl
  obtain ⟨C, fr, hc1⟩ := ht;rw [World.cell?_of_block (w := w) ((h.at_ hc1 (by decide)).trans hc1.symm)];exact hr k hk
 exact hs2.more h.size
theorem GrQ.own {w w' : World} {base b : Nat} {v : Value} {bss : List (List UInt8)} (h : GrQ w base w') (ho : OwnP w b (fun _ => 0) v bss) : OwnP w' b (fun _ => 0) v bss := by
 obtain ⟨us, hul, ho, hs⟩ := ho;refine ⟨us, hul, ?_, fun i hi hi2 => ⟨h.sl (hs i hi hi2).1 (hs i hi hi2).2, fun g hg ht => (hs i hi hi2).2 g hg fun hu => ht (h.tag hu)⟩⟩;obtain ⟨h1, h2⟩ := ho;refine ⟨h1, ?_⟩
 rcases h2 with h2 | ⟨g, cap, cur, hv, hb, hgb, hr⟩
 ·exact .inl h2
 ·exact .inr ⟨g, cap, cur, hv, hb, h.at_ hgb (by decide), hr⟩
def OwnQ (w : World) (base top : Nat) (v : Value) (rss : List (List (List UInt8))) : Prop := ∃ us : List Value, us.length = rss.length /\ w.ownsRow base 82 1 v rss.length us /\ ∀ i (h : i < rss.length) (h2 : i < us.length), OwnP w 0 (fun _ => 0) us[i] rss[i] /\ ∀ g, us[i].ownBlock = some g -> g < top
section
variable {w w' : World} {base top : Nat} {v : Value} {rss : List (List (List UInt8))}
theorem OwnQ.go (h : OwnQ w base top v rss) (b : Below w.heap.size w w') : OwnQ w' base top v rss := by
 obtain ⟨us, hl, ho, hs⟩ := h;exact ⟨us, hl, own_step ho b, fun i h h2 => ⟨(hs i h h2).1.go b, (hs i h h2).2⟩⟩
theorem OwnQ.drew (h : OwnQ w base top v rss) : OwnQ w.drew base top v rss := h
theorem OwnQ.all (h : OwnQ w base top v rss) : OwnQ w base w.heap.size v rss := by
 obtain ⟨us, hl, ho, hs⟩ := h;exact ⟨us, hl, ho, fun i h h2 => ⟨(hs i h h2).1, (hs i h h2).1.lt⟩⟩
theorem OwnQ.form (h : OwnQ w base top v rss) : ∃ A c, v = .slice A rss.length c := by
 obtain ⟨us, hul, ho, hs⟩ := h
 rcases ho with ⟨_, ⟨rfl, h0⟩ | ⟨g, cap, cur, rfl, _⟩⟩
 ·rw [h0]; exact ⟨_, _, rfl⟩
 ·exact ⟨_, _, rfl⟩
theorem OwnQ.prt (h : OwnQ w base top v rss) : Prt2 w w.heap.size v rss := by
 obtain ⟨us, hul, ho, hs⟩ := h
 rcases ho with ⟨_, ⟨rfl, h0⟩ | ⟨g, cap, cur, rfl, _, hgb, hc1, hc2, hsz, ht⟩⟩
 ·exact ⟨none, 0, by rw [h0], by omega, by unfold maxLen; omega, fun h => by omega⟩
 ·refine ⟨some ⟨g, 0, none⟩, cap, rfl, hc1, hc2, fun hn => ⟨g, 0, rfl, (Array.getElem?_eq_some_iff.1 hgb).1, fun j hj => ?_⟩⟩;have hj2 : j < us.length := by omega
  have h2 : cur[j]? = some us[j] := by
   have e : (cur.toList.take (rss.length * 1))[j]? = us[j]? := by rw [ht]
   rw [List.getElem?_take_of_lt (by omega), Array.getElem?_toList] at e;rw [e, List.getElem?_eq_getElem hj2]
  exact ⟨us[j], by simpa [World.cell?, hgb] using h2, (hs j hj hj2).1.prt⟩
end
end Go.Proofs.YtdakbipiifkmfaaGreatDoor
