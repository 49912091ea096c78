import Derived.BigRegion
import Derived.Deep.RegionWith
import Derived.Deep.RegionHeld
import Derived.BigQuiet
import Derived.Deep.QuietTactic
import Derived.StillTailTactics
import Derived.WalkKit
import Derived.Test.YtdakbipiifkmfaaGreatDoorProg
import Derived.WalkSpells
import Derived.WalkLawsBesides
import Derived.Lib.UnsafeStr
import Derived.Lib.Hide
import Derived.Laws.BytesArg
import Derived.Deep.Draws
import Derived.RegionTactic
import Derived.ChangeAlike
import Derived.Laws.AppendOwnNone
import Derived.Laws.Cover3
import Derived.Deep.MidRow
import Derived.Deep.WholeRow
import Derived.Deep.RegionHeld3
import Derived.Test.YtdakbipiifkmfaaGreatDoorRows
import Derived.ProofKit
import Derived.OpenShut
import Derived.JoinedCond
import Derived.SizedLaws
import Derived.Carry
import Derived.Deep.Grids
import Derived.Lib.ConvBytes
import Derived.Lib.AtoiErrMem
import Derived.Laws.AppendOwn
import Derived.Deep.RegionLaw
import Derived.Laws.CopyOwn
import Derived.DeepKeys
import Derived.Lib.SmallJoins
import Derived.Test.YtdakbipiifkmfaaGreatDoorHX
namespace Go.Proofs.YtdakbipiifkmfaaGreatDoor
open Go.RowKit
set_option maxRecDepth 100000
def lenX (x : S5) : Nat := 4 + x.n.toNat + (x.l.toNat + x.h.toNat) * x.n.toNat
def ixE (x : S5) (sig : List UInt8) : Int := if x.ok then (if sig.length = lenX x then (if bigN (sig.take 4) < 2 ^ x.h.toNat then 0 else 70) else 70) else 60
def ixN (x : S5) (sig : List UInt8) : Nat := if ixE x sig = 0 then bigN (sig.take 4) else 0
def sumdB (s : Bool) (n : Int) (r root : List UInt8) (i : Nat) (msg : List UInt8) : List UInt8 := keyd s n 2 (r ++ (root ++ bigB i n.toNat)) msg
section
variable {a : Act} {x y : Operand} {op : Oper} {w : World}
theorem load_i {p : Addr} {n : Int} (ho : op.op = .load 3 x) (hc : w.cell? p = some (.int .i64 n)) (hx : a.eval x = .pointer (some p)) : (execOp a.eval op).run Tryz.prog w = .ok (.value (.int .i64 n)) w := by
 unfold execOp;simp only [ho, hx]
 go_simp
end
theorem ltreeB_length {x : S5} (hx : x.ok = true) (seed ends : List UInt8) (leaf L : Nat) (hL : 0 < L) (h : ends.length = L * x.n.toNat) : (ltreeB x.s x.n L seed ends leaf).length = x.n.toNat := by
 unfold ltreeB;have h1 : ∀ b ∈ cutL x.n.toNat ends L, b.length = x.n.toNat := by
  intro b hb;unfold cutL at hb;obtain ⟨i, hi, rfl⟩ := List.mem_map.1 hb;exact pieceB_length _ _ _ L h (List.mem_range.1 hi)
 have h2 := lvl_all (ltF x.s x.n seed leaf) x.n.toNat (fun h i a b => nodeB_length hx _ _ _ _) _ h1 7;have h3 := lvl_pos (ltF x.s x.n seed leaf) (cutL x.n.toNat ends L) (by rw [cutL_length]; exact hL) 7;rw [List.getD_eq_getElem?_getD, List.getElem?_eq_getElem h3];exact h2 _ (List.getElem_mem h3)
def upB (s : Bool) (n : Int) (seed path : List UInt8) (i : Nat) (nd : List UInt8) : Nat -> List UInt8
 | 0 => nd
 | h + 1 => if i / 2 ^ h % 2 = 0 then nodeB s n seed (adr11 2 0 h (i / 2 ^ h / 2)) (upB s n seed path i nd h) (pieceB n.toNat path h)
  else nodeB s n seed (adr11 2 0 h (i / 2 ^ h / 2)) (pieceB n.toNat path h) (upB s n seed path i nd h)
theorem upB_length {x : S5} (hx : x.ok = true) (seed path : List UInt8) (i : Nat) (nd : List UInt8) (hn : nd.length = x.n.toNat) (h : Nat) : (upB x.s x.n seed path i nd h).length = x.n.toNat := by
 cases h with
 | zero => exact hn
 | succ h =>
  unfold upB
  split <;> exact nodeB_length hx _ _ _ _
def cameB (s : Bool) (n : Int) (L H : Nat) (seed root msg sig : List UInt8) (i : Nat) : List UInt8 :=
 upB s n seed (sig.drop (4 + n.toNat + L * n.toNat)) i (ltreeB s n L seed (onB s n seed (adr11 0 i 0 0) (fun j => (dig10 (sumdB s n ((sig.take (4 + n.toNat)).drop 4) root i msg)).getD j 0) ((sig.take (4 + n.toNat + L * n.toNat)).drop (4 + n.toNat)) L) i) H
section
variable {a : Act} {x y : Operand} {op : Oper} {w : World}
theorem mul_ii {n k m : Nat} (h : m = k * n /\ m <= 100000) (ho : op.op = .binOp .mul 3 x y 3) (hx : a.eval x = .int .i64 (k : Int)) (hy : a.eval y = .int .i64 (n : Int)) : (execOp a.eval op).run Tryz.prog w = .ok (.value (.int .i64 (m : Int))) w := by
 have hw : IntKind.i64.wrap ((k : Int) * (n : Int)) = (m : Int) := by rw [<- Int.natCast_mul, <- h.1, IntKind.wrap_i64]; omega
 unfold execOp;simp only [ho, hx, hy]
 go_simp
end
def rootP (x : S5) (pub : List UInt8) : List UInt8 := (pub.take (4 + x.n.toNat)).drop 4
def cameP (x : S5) (pub msg sig : List UInt8) : List UInt8 := cameB x.s x.n x.l.toNat x.h.toNat (pub.drop (4 + x.n.toNat)) (rootP x pub) msg sig (ixN x sig)
def verE (pub msg sig : List UInt8) : Int :=
 if pub.length < 4 then 81 else if xE (bigN (pub.take 4)) ≠ 0 then 81 else if pub.length ≠ 4 + 2 * (xS (bigN (pub.take 4))).n.toNat then 81
 else if ixE (xS (bigN (pub.take 4))) sig ≠ 0 then 70 else if cameP (xS (bigN (pub.take 4))) pub msg sig == rootP (xS (bigN (pub.take 4))) pub then 0 else 70
def Prt2 (w : World) (B : Nat) (v : Value) (rss : List (List (List UInt8))) : Prop :=
 ∃ A c, v = .slice A rss.length c /\ rss.length <= c /\ c <= maxLen /\ (0 < rss.length -> ∃ q off, A = some ⟨q, off, none⟩ /\ q < B /\ ∀ i (h : i < rss.length), ∃ u, w.cell? ⟨q, off + i, none⟩ = some u /\ Prt w B u rss[i])
section
variable {w w' : World} {B : Nat} {v : Value} {rss : List (List (List UInt8))}
theorem Prt2.below (h : Prt2 w B v rss) (hb : Below B w w') : Prt2 w' B v rss := by
 obtain ⟨A, c, hv, h1, h2, hc⟩ := h;refine ⟨A, c, hv, h1, h2, fun hn => ?_⟩;obtain ⟨q, off, hA, hq, hr⟩ := hc hn;refine ⟨q, off, hA, hq, fun i hi => ?_⟩;obtain ⟨u, hu, hs⟩ := hr i hi;exact ⟨u, (hb.cell (p := ⟨q, off + i, none⟩) hq).trans hu, hs.below hb⟩
theorem Prt2.more {B' : Nat} (h : Prt2 w B v rss) (hB : B <= B') : Prt2 w B' v rss := by
 obtain ⟨A, c, hv, h1, h2, hc⟩ := h;refine ⟨A, c, hv, h1, h2, fun hn => ?_⟩;obtain ⟨q, off, hA, hq, hr⟩ := hc hn;refine ⟨q, off, hA, by omega, fun i hi => ?_⟩;obtain ⟨u, hu, hs⟩ := hr i hi;exact ⟨u, hu, hs.more hB⟩
theorem Prt2.go (h : Prt2 w w.heap.size v rss) (b : Below w.heap.size w w') : Prt2 w' w'.heap.size v rss := (h.below b).more b.size
theorem Prt2.form (h : Prt2 w B v rss) : ∃ A c, v = .slice A rss.length c /\ rss.length <= c /\ c <= maxLen := by
 obtain ⟨A, c, hv, h1, h2, _⟩ := h;exact ⟨A, c, hv, h1, h2⟩
theorem Prt2.at_ {A : Option Addr} {n c : Nat} (h : Prt2 w B (.slice A n c) rss) (hn : 0 < rss.length) : ∃ q off, A = some ⟨q, off, none⟩ /\ q < B /\ ∀ i (h : i < rss.length), ∃ u, w.cell? ⟨q, off + i, none⟩ = some u /\ Prt w B u rss[i] := by
 obtain ⟨A', c', hv, _, _, hc⟩ := h;cases hv;exact hc hn
end
def pubX (x : S5) (root pb : List UInt8) : List UInt8 := bigB x.c.toNat 4 ++ (root ++ pb)
def signX (x : S5) (sd pf pb root msg path : List UInt8) (i : Nat) : List UInt8 :=
 bigB i 4 ++ (keyd x.s x.n 3 pf (bigB i 32) ++ (endsB x.s x.n sd pb (adr11 0 i 0 0) (dOf (dig10 (sumdB x.s x.n (keyd x.s x.n 3 pf (bigB i 32)) root i msg))) x.l.toNat ++ path))
set_option maxHeartbeats 1000000 in
theorem high_any (x : S5) (hw : x.wf) (w : World) : Calls Tryz.prog 17 #[x.v] w (OldIs (.bool (x.ok && decide (4 < x.h))) w) := by
 unfold OldIs;have HM : Shh (∀ W, Calls Tryz.prog 48 #[x.v] W (OldIs (.bool x.ok) W)) := ⟨fun W => mayXmss_any x hw W⟩;unfold S5.v at HM ⊢;have HW : Shh (Row (w.alloc (.cells #[.int .u32 x.c, .bool x.s, .int .i64 x.n, .int .i64 x.h, .int .i64 x.l] 27)) w.heap.size 27 [.int .u32 x.c, .bool x.s, .int .i64 x.n, .int .i64 x.h, .int .i64 x.l] /\ Below w.heap.size w (w.alloc (.cells #[.int .u32 x.c, .bool x.s, .int .i64 x.n, .int .i64 x.h, .int .i64 x.l] 27))) := ⟨Row.new_ rfl rfl, below1 _ _⟩;clear hw;generalize x.ok = ok at *;generalize x.c = xc at *;generalize x.s = xs at *;generalize x.n = xn at *;generalize x.h = xh at *;generalize x.l = xl at *;go_enter Tryz.func17, Tryz.ntmps17
 go_wp2_with (first | refine wpList_load_any rfl 27 (.tmp 1) rfl w.heap.size rfl 27 [.int .u32 xc, .bool xs, .int .i64 xn, .int .i64 xh, .int .i64 xl] _ HW.out.1 Tryz.underlying27 rfl info_xms ?_ | (go_at_call 48; refine (HM.out _).mono ?_))
 unfold OldIs;rintro e w2 ⟨rfl, b2⟩;have H2 : Shh (Row w2 w.heap.size 27 [.int .u32 xc, .bool xs, .int .i64 xn, .int .i64 xh, .int .i64 xl] /\ Below w.heap.size w w2) := ⟨HW.out.1.go b2, Below.chain HW.out.2 b2⟩;clear b2 HW HM;have c3 := H2.out.1.cell 3;simp only [List.getElem?_cons_succ, List.getElem?_cons_zero] at c3;cases ok with
 | false =>
  clear c3;go_wp2;go_ret;exact ⟨rfl, H2.out.2⟩
 | true =>
  by_cases hh : 4 < xh
  ·have HR : Shh (decide (4 < xh) = true) := ⟨decide_eq_true hh⟩;go_wp2;go_ret;exact ⟨by rw [Bool.true_and, HR.out]; try rfl, H2.out.2⟩
  ·have HR : Shh (decide (4 < xh) = false) := ⟨decide_eq_false hh⟩;go_wp2;go_ret;exact ⟨by rw [Bool.true_and, HR.out]; try rfl, H2.out.2⟩
def bitN (n : Nat) : Nat := if h : n = 0 then 0 else n % 2 + bitN (n / 2)
termination_by n
decreasing_by omega
theorem bitN_zero : bitN 0 = 0 := by rw [bitN]; rfl
theorem bitN_pos {n : Nat} (h : 0 < n) : bitN n = n % 2 + bitN (n / 2) := by rw [bitN, dif_neg (by omega)]
theorem rowB_length (s : Bool) (n : Int) (L H : Nat) (sd pb : List UInt8) (h : Nat) (hh : h <= H) : (rowB s n L H sd pb h).length = 2 ^ (H - h) := by
 induction h with
 | zero => unfold rowB lvl; simp
 | succ h ih =>
  have e := lvl_len (rwF s n pb) ((List.range (2 ^ H)).map fun i => leafB s n L sd pb i) h;have i2 := ih (by omega);unfold rowB at i2 ⊢;rw [e, i2];have e2 : H - h = (H - (h + 1)) + 1 := by omega
  rw [e2, Nat.pow_succ];omega
theorem rowB_zero (s : Bool) (n : Int) (L H : Nat) (sd pb : List UInt8) : rowB s n L H sd pb 0 = (List.range (2 ^ H)).map fun i => leafB s n L sd pb i := rfl
theorem rowB_root (s : Bool) (n : Int) (L H : Nat) (sd pb : List UInt8) : (rowB s n L H sd pb H)[0]? = some (rootB s n L H sd pb) := by
 have h := rowB_length s n L H sd pb H (Nat.le_refl _);rw [Nat.sub_self] at h;have h0 : 0 < (rowB s n L H sd pb H).length := by rw [h]; decide
 unfold rootB;rw [List.getD_eq_getElem?_getD, List.getElem?_eq_getElem h0];rfl
theorem leafB_length {x : S5} (hx : x.ok = true) (sd pb : List UInt8) (i : Nat) : (leafB x.s x.n x.l.toNat sd pb i).length = x.n.toNat := by
 have hl := S5.ok_is hx;unfold leafB;exact ltreeB_length hx _ _ _ _ (by omega) (by rw [endsB_len hx, Nat.mul_comm])
theorem rowB_all {x : S5} (hx : x.ok = true) (H : Nat) (sd pb : List UInt8) (h : Nat) : ∀ b ∈ rowB x.s x.n x.l.toNat H sd pb h, b.length = x.n.toNat := by
 unfold rowB;refine lvl_all _ _ (fun h i a b => nodeB_length hx _ _ _ _) _ ?_ h;intro b hb;obtain ⟨i, _, rfl⟩ := List.mem_map.1 hb;exact leafB_length hx sd pb i
theorem rootB_length {x : S5} (hx : x.ok = true) (H : Nat) (sd pb : List UInt8) : (rootB x.s x.n x.l.toNat H sd pb).length = x.n.toNat := by
 have h := rowB_root x.s x.n x.l.toNat H sd pb;have h0 : 0 < (rowB x.s x.n x.l.toNat H sd pb H).length := by
  rw [rowB_length _ _ _ _ _ _ _ (Nat.le_refl _), Nat.sub_self]; decide
 rw [List.getElem?_eq_getElem h0] at h;rw [<- Option.some.inj h];exact rowB_all hx H sd pb H _ (List.getElem_mem h0)
theorem besd_lt (i h H : Nat) (hi : i < 2 ^ H) (hh : h < H) : besd (i / 2 ^ h) < 2 ^ (H - h) := by
 have e : H - h = (H - (h + 1)) + 1 := by omega
 have e2 : 2 ^ H = 2 ^ h * 2 ^ (H - h) := by rw [<- Nat.pow_add]; congr 1; omega
 have h1 : i / 2 ^ h < 2 ^ (H - h) := Nat.div_lt_of_lt_mul (by rw [<- e2]; exact hi);rw [e, Nat.pow_succ] at h1 ⊢;generalize 2 ^ (H - (h + 1)) = m at h1 ⊢;generalize i / 2 ^ h = q at h1 ⊢;unfold besd
 split <;> omega
def pubR (x : S5) (sd pf pb : List UInt8) : List UInt8 := if badE x [sd, pf, pb] = 0 then pubX x (rootB x.s x.n x.l.toNat x.h.toNat sd pb) pb else []
structure GrQ (w : World) (base : Nat) (w' : World) : Prop where
 below : Below base w w'
 size : w.heap.size <= w'.heap.size
 block : ∀ k, k < w.heap.size -> (¬ ∃ C fr, w.heap[k]? = some (.cells C 82 fr)) -> w'.heap[k]? = w.heap[k]?
theorem GrQ.of {w w' : World} {base n : Nat} {v : Value} {us : List Value} (ho : w.ownsRow base 82 1 v n us) (hg : w.grownBy w' v.ownBlock) (hb : base <= w.heap.size) : GrQ w base w' := by
 refine ⟨(Below.refl base w).grown hg hb (fun k hk => by have := (ho.lt k hk).1; omega), hg.size, fun k hk hn => hg.block k hk fun e => ?_⟩
 rcases ho with ⟨_, ⟨rfl, _⟩ | ⟨g, cap, cur, rfl, _, hgb, _⟩⟩
 ·cases e
 ·obtain rfl : k = g := by injection e
  exact hn ⟨_, _, hgb⟩
theorem GrQ.at_ {w w' : World} {base g : Nat} {T : TypeId} {C : Array Value} {fr} (h : GrQ w base w') (hr : w.heap[g]? = some (.cells C T fr)) (hT : T ≠ 82) : w'.heap[g]? = some (.cells C T fr) := by
 refine (h.block g (Array.getElem?_eq_some_iff.1 hr).1 ?_).trans hr;rintro ⟨C', fr', hc'⟩;rw [hr] at hc';injection hc' with e;injection e with _ e2;exact hT e2
theorem GrQ.tag {w w' : World} {base g : Nat} (h : GrQ w base w') (ht : tagU w g) : tagU w' g := by
 obtain ⟨C, fr, hc⟩ := ht;exact ⟨C, fr, h.at_ hc (by decide)⟩
theorem GrQ.row {w w' : World} {base g : Nat} {T : TypeId} {cs : List Value} (h : GrQ w base w') (hr : Row w g T cs) (hT : T ≠ 82) : Row w' g T cs := h.at_ hr hT
theorem GrQ.sl {w w' : World} {base : Nat} {y : Value} {bs : List UInt8} (h : GrQ w base w') (hs : Sl w w.heap.size y bs) (hy : UN w 0 y) : Sl w' w'.heap.size y bs := by
 have hs2 : Sl w' w.heap.size y bs := by
  obtain ⟨A, c, hv, h1, h2, hc⟩ := hs;refine ⟨A, c, hv, h1, h2, fun hn => ?_⟩;obtain ⟨b, off, hA, hb, hr⟩ := hc hn;refine ⟨b, off, hA, hb, fun k hk => ?_⟩;have ht : tagU w b := by
   refine Classical.byContradiction fun hn2 => ?_
   exact hy b (Nat.zero_le _) hn2 _ _ _ (by rw [hv, hA]) (by omega) rfl
  obtain ⟨C, fr, hc1⟩ := ht;rw [World.cell?_of_block (w := w) ((h.at_ hc1 (by decide)).trans hc1.symm)];exact hr k hk
 exact hs2.more h.size
theorem GrQ.own {w w' : World} {base b : Nat} {v : Value} {bss : List (List UInt8)} (h : GrQ w base w') (ho : OwnP w b (fun _ => 0) v bss) : OwnP w' b (fun _ => 0) v bss := by
 obtain ⟨us, hul, ho, hs⟩ := ho;refine ⟨us, hul, ?_, fun i hi hi2 => ⟨h.sl (hs i hi hi2).1 (hs i hi hi2).2, fun g hg ht => (hs i hi hi2).2 g hg fun hu => ht (h.tag hu)⟩⟩;obtain ⟨h1, h2⟩ := ho;refine ⟨h1, ?_⟩
 rcases h2 with h2 | ⟨g, cap, cur, hv, hb, hgb, hr⟩
 ·exact .inl h2
 ·exact .inr ⟨g, cap, cur, hv, hb, h.at_ hgb (by decide), hr⟩
def OwnQ (w : World) (base top : Nat) (v : Value) (rss : List (List (List UInt8))) : Prop := ∃ us : List Value, us.length = rss.length /\ w.ownsRow base 82 1 v rss.length us /\ ∀ i (h : i < rss.length) (h2 : i < us.length), OwnP w 0 (fun _ => 0) us[i] rss[i] /\ ∀ g, us[i].ownBlock = some g -> g < top
section
variable {w w' : World} {base top : Nat} {v : Value} {rss : List (List (List UInt8))}
theorem OwnQ.go (h : OwnQ w base top v rss) (b : Below w.heap.size w w') : OwnQ w' base top v rss := by
 obtain ⟨us, hl, ho, hs⟩ := h;exact ⟨us, hl, own_step ho b, fun i h h2 => ⟨(hs i h h2).1.go b, (hs i h h2).2⟩⟩
theorem OwnQ.drew (h : OwnQ w base top v rss) : OwnQ w.drew base top v rss := h
theorem OwnQ.all (h : OwnQ w base top v rss) : OwnQ w base w.heap.size v rss := by
 obtain ⟨us, hl, ho, hs⟩ := h;exact ⟨us, hl, ho, fun i h h2 => ⟨(hs i h h2).1, (hs i h h2).1.lt⟩⟩
theorem OwnQ.form (h : OwnQ w base top v rss) : ∃ A c, v = .slice A rss.length c := by
 obtain ⟨us, hul, ho, hs⟩ := h
 rcases ho with ⟨_, ⟨rfl, h0⟩ | ⟨g, cap, cur, rfl, _⟩⟩
 ·rw [h0]; exact ⟨_, _, rfl⟩
 ·exact ⟨_, _, rfl⟩
theorem OwnQ.prt (h : OwnQ w base top v rss) : Prt2 w w.heap.size v rss := by
 obtain ⟨us, hul, ho, hs⟩ := h
 rcases ho with ⟨_, ⟨rfl, h0⟩ | ⟨g, cap, cur, rfl, _, hgb, hc1, hc2, hsz, ht⟩⟩
 ·exact ⟨none, 0, by rw [h0], by omega, by unfold maxLen; omega, fun h => by omega⟩
 ·refine ⟨some ⟨g, 0, none⟩, cap, rfl, hc1, hc2, fun hn => ⟨g, 0, rfl, (Array.getElem?_eq_some_iff.1 hgb).1, fun j hj => ?_⟩⟩;have hj2 : j < us.length := by omega
  have h2 : cur[j]? = some us[j] := by
   have e : (cur.toList.take (rss.length * 1))[j]? = us[j]? := by rw [ht]
   rw [List.getElem?_take_of_lt (by omega), Array.getElem?_toList] at e;rw [e, List.getElem?_eq_getElem hj2]
  exact ⟨us[j], by simpa [World.cell?, hgb] using h2, (hs j hj hj2).1.prt⟩
end
end Go.Proofs.YtdakbipiifkmfaaGreatDoor
