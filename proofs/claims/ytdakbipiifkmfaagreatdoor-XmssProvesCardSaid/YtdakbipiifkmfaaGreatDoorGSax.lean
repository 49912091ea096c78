import Derived.WalkKit
import Derived.Test.YtdakbipiifkmfaaGreatDoorProg
import Derived.WalkSpells
import Derived.WalkLawsBesides
import Derived.Lib.UnsafeStr
import Derived.Lib.Hide
import Derived.Laws.BytesArg
import Derived.Deep.Draws
import Derived.RegionTactic
import Derived.ChangeAlike
import Derived.Laws.AppendOwnNone
import Derived.BigQuiet
import Derived.Deep.QuietTactic
import Derived.Lib.ConvBytes
import Derived.Lib.AtoiErrMem
import Derived.Laws.AppendOwn
import Derived.StillTailTactics
import Derived.BigRegion
import Derived.Deep.RegionWith
import Derived.Deep.RegionHeld
import Derived.Laws.Cover3
import Derived.Test.YtdakbipiifkmfaaGreatDoorRows
import Derived.ProofKit
import Derived.OpenShut
import Derived.JoinedCond
import Derived.SizedLaws
import Derived.Carry
import Derived.Deep.Grids
import Derived.Deep.RegionHeld3
import Derived.Laws.CopyOwn
import Derived.Deep.RegionLaw
import Derived.DeepKeys
import Derived.Lib.SmallJoins
import Derived.Deep.MidRow
import Derived.Deep.WholeRow
import Derived.Test.YtdakbipiifkmfaaGreatDoorGSam
import Derived.Test.YtdakbipiifkmfaaGreatDoorGY
namespace Go.Proofs.YtdakbipiifkmfaaGreatDoor
open Go.RowKit
set_option maxRecDepth 100000
theorem cutL_succ (n : Nat) (bs : List UInt8) (k : Nat) : cutL n bs (k + 1) = cutL n bs k ++ [pieceB n bs k] := by simp [cutL, List.range_succ]
section
variable {w w' : World} {base : Nat} {eb : Nat -> Nat} {v : Value} {bss : List (List UInt8)}
theorem OwnP.lower {base' : Nat} (h : OwnP w base eb v bss) (hb : base' <= base) : OwnP w base' eb v bss := by
 obtain ⟨us, hl, ho, hs⟩ := h;exact ⟨us, hl, own_mono ho hb, hs⟩
theorem OwnP.each {eb' : Nat -> Nat} (h : OwnP w base eb v bss) (hb : ∀ i, i < bss.length -> eb i <= eb' i) : OwnP w base eb' v bss := by
 obtain ⟨us, hl, ho, hs⟩ := h;exact ⟨us, hl, ho, fun i h h2 => ⟨(hs i h h2).1, fun g hg ht => (hs i h h2).2 g (Nat.le_trans (hb i h) hg) ht⟩⟩
end
theorem wpList_appendP {P : Program} {ops : Array Oper} {rest : List Oper} {o : Oper} {a : Act} {Q : Exit -> Act -> World -> Prop} (w : World) (t : TypeId) (i0 : TypeInfo) (z : Value) (ht : P.underlying t = some (.slice 23)) (hi : P.info? 23 = some i0) (hz : i0.zero = some z) (hsz : i0.size = 1) (hby : i0.bytes = 24) (hzc : z.cells.size = 1)
  (hgd : o.guard = none) (s x : Operand) (hop : o.op = .call { callee := .builtin .append, args := #[s, x], argTypes := #[t, t] })
  {base : Nat} {eb : Nat -> Nat} {v : Value} {bss : List (List UInt8)} {g c : Nat} {u : Value} {b : List UInt8} (hown : OwnP w base eb v bss) (heb : ∀ i, eb i <= base) (hs : a.eval s = v) (hx : a.eval x = .slice (some ⟨g, 0, none⟩) 1 c)
  (hc : w.cell? ⟨g, 0, none⟩ = some u) (hu : Sl w w.heap.size u b) (hun : UN w (eb bss.length) u) (hlen : bss.length + 1 <= 1000000) (hbase : base <= w.heap.size)
  (h : ∀ v' w', OwnP w' base eb v' (bss ++ [b]) -> GrP w base w' -> wpList P ops Q rest (a.put o.dst v') w') : wpList P ops Q (o :: rest) a w := by
 obtain ⟨us, hul, ho, hsl⟩ := hown;have hone : u.oneCell' = true := by
  obtain ⟨A, c', hv, _⟩ := hu;rw [hv]; rfl
 refine wpList_append_own w hgd s x t hop base 23 i0 z 1 24 ht hi hz hsz hby hzc (by decide) v bss.length us hs ho ⟨g, 0, none⟩ 1 c [u] hx rfl ?_ (by simpa using hone) (by unfold maxLen; omega) (by omega) hbase ?_
 ·intro j y hj
  match j, hj with
  | 0, hj =>
   simp at hj; subst hj;rw [addr_add];exact hc
  | (j + 1), hj => simp at hj
 ·intro v' w' ho' hg _;have hgr := GrP.of ho hg hbase;refine h v' w' ⟨us ++ [u], by simp [hul], by rw [List.length_append]; exact ho', fun j hj hj2 => ?_⟩ hgr
  by_cases hlt : j < bss.length
  ·rw [List.getElem_append_left (by omega), List.getElem_append_left hlt];have := hsl j hlt (by omega);exact ⟨hgr.sl this.1 (this.2.up (heb _)), hgr.un this.2⟩
  ·have hjj : j = bss.length := by simp at hj; omega
   subst hjj;have e1 : (us ++ [u])[bss.length]'hj2 = u := by simp [<- hul]
   have e2 : (bss ++ [b])[bss.length]'hj = b := by simp
   rw [e1, e2];exact ⟨hgr.sl hu (hun.up (heb _)), hgr.un hun⟩
theorem OwnP.grp {w w' : World} {base base' : Nat} {eb : Nat -> Nat} {v : Value} {bss : List (List UInt8)} (h : OwnP w base eb v bss) (hlt : ∀ g, v.ownBlock = some g -> g < base') (hg : GrP w base' w') (heb : ∀ i, eb i <= base') : OwnP w' base eb v bss := by
 obtain ⟨us, hul, ho, hs⟩ := h;refine ⟨us, hul, ?_, fun i hi hi2 => ⟨hg.sl (hs i hi hi2).1 ((hs i hi hi2).2.up (heb i)), hg.un (hs i hi hi2).2⟩⟩;obtain ⟨h1, h2⟩ := ho;refine ⟨h1, ?_⟩
 rcases h2 with h2 | ⟨g, cap, cur, hv, hb, hgb, hr⟩
 ·exact .inl h2
 ·exact .inr ⟨g, cap, cur, hv, hb, (hg.below.block g (hlt g (by rw [hv]; rfl))).trans hgb, hr⟩
end Go.Proofs.YtdakbipiifkmfaaGreatDoor
namespace Go.Proofs.YtdakbipiifkmfaaGreatDoor
open Go.RowKit
set_option maxRecDepth 100000
theorem refAt11_any (kind leaf hgt node : Nat) (h0 : kind < 4294967296) (h1 : leaf < 4294967296) (h2 : hgt < 4294967296) (h3 : node < 4294967296) (w : World) :
  Calls Tryz.prog 41 #[.int .i64 (kind : Int), .int .u32 (leaf : Int), .int .u32 (hgt : Int), .int .u32 (node : Int)] w (OldIs (adrV (adr11 kind leaf hgt node)) w) := by
 unfold OldIs;have hw : IntKind.u32.wrap (kind : Int) = (kind : Int) := by rw [IntKind.wrap_u32]; omega
 have HE : Shh (adrV (adr11 kind leaf hgt node) = .agg ([.int .u32 0, .int .u32 0, .int .u32 0, .int .u32 (kind : Int), .int .u32 (leaf : Int), .int .u32 (hgt : Int), .int .u32 (node : Int), .int .u32 0] : List Value).toArray) := ⟨by
  rw [ofNat_cell h0, ofNat_cell h1, ofNat_cell h2, ofNat_cell h3]
  rfl⟩
 rw [HE.out];clear HE h0 h1 h2 h3;go_enter Tryz.func41, Tryz.ntmps41;go_wp2;exact ret_row (T := 64) (cs := [.int .u32 0, .int .u32 0, .int .u32 0, .int .u32 (kind : Int), .int .u32 (leaf : Int), .int .u32 (hgt : Int), .int .u32 (node : Int), .int .u32 0]) Tryz.results41 rfl rfl (Row.new_ rfl rfl) Tryz.underlying64 rfl info_adr ⟨rfl, below1 _ _⟩
end Go.Proofs.YtdakbipiifkmfaaGreatDoor
namespace Go.Proofs.YtdakbipiifkmfaaGreatDoor
open Go.RowKit
set_option maxRecDepth 100000
section
variable {a : Act} {x y : Operand} {op : Oper} {w : World}
theorem quo_two {i j : Nat} (h : i = 2 * j /\ j < 4294967296) (ho : op.op = .binOp .quo 3 x (.const (.int .i64 2)) 3) (hx : a.eval x = .int .i64 (i : Int)) : (execOp a.eval op).run Tryz.prog w = .ok (.value (.int .i64 (j : Int))) w := by
 have hc : a.eval (.const (.int .i64 2)) = .int .i64 2 := rfl;have e : (i : Int).tdiv 2 = (j : Int) := by rw [Int.tdiv_eq_ediv_of_nonneg (by omega)]; omega
 have e2 : (i : Int) / 2 = (j : Int) := by omega
 have hw : IntKind.i64.wrap (j : Int) = (j : Int) := by rw [IntKind.wrap_i64]; omega
 unfold execOp;simp only [ho, hx, hc]
 go_simp
theorem conv_i32 {j : Nat} (h : j < 4294967296) (ho : op.op = .convert 3 22 x) (hx : a.eval x = .int .i64 (j : Int)) : (execOp a.eval op).run Tryz.prog w = .ok (.value (.int .u32 (j : Int))) w := by
 have hw : IntKind.u32.wrap (j : Int) = (j : Int) := by rw [IntKind.wrap_u32]; omega
 unfold execOp;simp only [ho, hx]
 go_simp
end
def eb11 (base t : Nat) : Nat -> Nat := fun i => if t = 0 then base else if i = 0 then 0 else base
theorem eb11_le (base t i : Nat) : eb11 base t i <= base := by unfold eb11; split <;> (try split) <;> omega
set_option maxHeartbeats 8000000 in
theorem refLtree11_any (x : S5) (hx : x.ok = true) (vs ve : Value) (seed ends : List UInt8) (leaf : Nat) (hleaf : leaf < 4294967296) (Lx Nn : Nat) (hLx : x.l = (Lx : Int)) (hNn : x.n = (Nn : Int)) (hel : ends.length = Lx * Nn) (hsl : seed.length <= 100000) (w : World) (hs : Sl w w.heap.size vs seed) (he : Sl w w.heap.size ve ends) :
  Calls Tryz.prog 46 #[x.v, vs, ve, .int .u32 (leaf : Int)] w (SlF w (ltreeB x.s x.n Lx seed ends leaf)) := by
 unfold SlF;obtain ⟨As, cs, rfl, _, _⟩ := hs.form;obtain ⟨Ae, ce, rfl, hce, _⟩ := he.form;have hLN : (Nn = 24 /\ Lx = 51) ∨ (Nn = 32 /\ Lx = 67) := by rcases S5.ok_is hx with h | h <;> omega
 have hNt : x.n.toNat = Nn := by omega
 obtain ⟨F, hF⟩ : ∃ F, F = ltF x.s x.n seed leaf := ⟨_, rfl⟩;have HND : Shh (∀ (t j : Nat) (vl vr : Value) (l r : List UInt8) (W : World), t < 4294967296 -> j < 4294967296 -> Sl W W.heap.size (.slice As seed.length cs) seed -> Sl W W.heap.size vl l -> Sl W W.heap.size vr r -> l.length = Nn -> r.length = Nn -> Calls Tryz.prog 45 #[x.v, .slice As seed.length cs, adrV (adr11 1 leaf t j), vl, vr] W (SlF W (F t j l r))) := ⟨fun t j vl vr l r W h1 h2 h3 h4 h5 h6 h7 => by rw [hF]; exact refNode11_any x hx _ _ _ seed l r (adr11 1 leaf t j) rfl W h3 h4 h5 (by rw [hNt]; exact h6) (by rw [hNt]; exact h7) hsl⟩;have HFL : Shh (∀ h i a b, (F h i a b).length = Nn) := ⟨fun h i a b => by rw [hF, <- hNt]; exact nodeB_length hx _ _ _ _⟩;have HLT : Shh (ltreeB x.s x.n Lx seed ends leaf = (lvl F (cutL Nn ends Lx) 7).getD 0 []) := ⟨by rw [hF]; unfold ltreeB; rw [hNt]⟩;have HPC : Shh (∀ k, k < Lx -> (pieceB Nn ends k).length = Nn) := ⟨fun k hk => pieceB_length Nn ends k Lx hel hk⟩;have HARG : Shh (∀ W, Below w.heap.size w W -> Sl W W.heap.size (.slice As seed.length cs) seed /\ Sl W w.heap.size (.slice Ae ends.length ce) ends) := ⟨fun W b => ⟨hs.go b, he.below b⟩⟩;have HSZ : Shh (leaf < 4294967296 /\ ends.length = Lx * Nn /\ ends.length <= ce) := ⟨hleaf, hel, hce⟩;obtain ⟨RS, hRS⟩ : ∃ RS, RS = ltreeB x.s x.n Lx seed ends leaf := ⟨_, rfl⟩;rw [<- hRS] at HLT ⊢;have hb67 : Lx <= 67 /\ Nn <= 32 /\ 51 <= Lx := by omega
 clear hs he hF hleaf hel hce hsl hLN hNt hx hRS;unfold S5.v at HND ⊢;obtain ⟨W, hW⟩ : ∃ W, W = (w.alloc (.cells #[.int .u32 x.c, .bool x.s, .int .i64 x.n, .int .i64 x.h, .int .i64 x.l] 27)).alloc (.cells #[] 23) := ⟨_, rfl⟩;have HW : Shh (Row W w.heap.size 27 [.int .u32 x.c, .bool x.s, .int .i64 x.n, .int .i64 x.h, .int .i64 x.l] /\ OwnP W w.heap.size (fun _ => w.heap.size) (.slice (some ⟨w.heap.size + 1, 0, none⟩) 0 0) (cutL Nn ends 0) /\ Below w.heap.size w W) := by
  have ho := OwnP.made (w.alloc (.cells #[.int .u32 x.c, .bool x.s, .int .i64 x.n, .int .i64 x.h, .int .i64 x.l] 27)) w.heap.size (fun _ => w.heap.size) (by rw [asz]; omega);rw [<- hW, asz] at ho;refine ⟨?_, ho, ?_⟩ <;> rw [hW]
  ·exact (Row.new_ rfl rfl).alloc _
  ·exact Below.chain (below1 _ _) (below1 _ _)
 generalize x.c = xc at *;generalize x.s = xs at *;generalize x.n = xn at *;generalize x.h = xh at *;generalize x.l = xl at *;subst hLx;subst hNn;obtain ⟨i0, hi0, hz0, hsz0, hby0⟩ := info_parts info_sl;have HI := Shh.mk (And.intro hi0 (And.intro hz0 (And.intro hsz0 hby0)));clear hi0 hz0 hsz0 hby0;go_enter Tryz.func46, Tryz.ntmps46;go_wp2;rw [<- hW];clear hW;have c4 := HW.out.1.cell 4;simp only [List.getElem?_cons_succ, List.getElem?_cons_zero] at c4;go_wp2;clear c4;go_loopw [9, 17] (fun l i wr => ∃ k : Nat, k <= Lx /\ i = .int .i64 (k : Int) /\ Shh (Row wr w.heap.size 27 [.int .u32 xc, .bool xs, .int .i64 (Nn : Int), .int .i64 xh, .int .i64 (Lx : Int)] /\ OwnP wr w.heap.size (fun _ => w.heap.size) l (cutL Nn ends k) /\ Below w.heap.size w wr)) (fun _ i _ => Lx - (intOf i).toNat)
 case atStart => exact ⟨0, Nat.zero_le _, rfl, HW⟩
 case round =>
  clear HW;obtain ⟨k, hk, rfl, HL⟩ := hrel;obtain ⟨bk, hbk⟩ : ∃ bk, bk = cutL Nn ends k := ⟨_, rfl⟩;have HBK : Shh (bk = cutL Nn ends k /\ bk.length = k) := ⟨hbk, by rw [hbk, cutL_length]⟩;rw [<- hbk] at HL;clear hbk;obtain ⟨Al, cl, rfl⟩ := HL.out.2.1.form
  by_cases hlt : k < Lx
  ·obtain ⟨p, hp⟩ : ∃ p, p = k * Nn := ⟨_, rfl⟩;obtain ⟨p2, hp2⟩ : ∃ p2, p2 = (k + 1) * Nn := ⟨_, rfl⟩;have hpb : p <= p2 /\ p2 <= ends.length := by
    have h1 : (k + 1) * Nn = k * Nn + Nn := by rw [Nat.add_mul, Nat.one_mul]
    have h2 : (k + 1) * Nn <= Lx * Nn := Nat.mul_le_mul_right _ hlt;have h3 := HSZ.out.2.1;omega
   have hpm : p2 <= 3000 := by
    have h2 : (k + 1) * Nn <= 67 * 32 := Nat.mul_le_mul (by omega) (by omega);omega
   have e1 : (k : Int) * (Nn : Int) = (p : Int) := by rw [hp, Int.natCast_mul]
   have e2 : ((k : Int) + 1) * (Nn : Int) = (p2 : Int) := by rw [hp2, Int.natCast_mul]; rfl
   obtain ⟨Ap, cp, runP, sP⟩ := slice_mid10 (HARG.out wr HL.out.2.2).2 p p2 hpb.1 hpb.2 HSZ.out.2.2;obtain ⟨pc, hpc⟩ : ∃ pc, pc = (ends.take p2).drop p := ⟨_, rfl⟩;have HP : Shh (pc = pieceB Nn ends k) := ⟨by rw [hpc, hp, hp2]; rfl⟩;rw [<- hpc] at runP sP;have hc2 := HL.out.1.cell 2;simp only [List.getElem?_cons_succ, List.getElem?_cons_zero] at hc2;have HSP : Shh (Sl wr wr.heap.size (.slice Ap pc.length cp) pc /\ UN wr w.heap.size (.slice Ap pc.length cp) /\ w.heap.size <= wr.heap.size) := ⟨sP.more HL.out.2.2.size, UN.low sP (Nat.le_refl _), HL.out.2.2.size⟩;clear hp hp2 hpc sP;obtain ⟨hi0, hz0, hsz0, hby0⟩ := HI.out
   go_wp2_with (at_builtin; refine wpList_appendP (c := 1) _ 82 i0 (.slice none 0 0) Tryz.underlying82 hi0 hz0 hsz0 hby0 rfl rfl _ _ rfl (HL.out.2.1.go (below1 _ _)) (fun _ => Nat.le_refl _) rfl rfl ((Row.new_ rfl rfl).cell 0) (HSP.out.1.go (below1 _ _)) (HSP.out.2.1.go (below1 _ _)) (by have := HBK.out.2; omega) (by rw [asz]; have := HSP.out.2.2; omega) ?_)
   intro v2 w1 ho2 hg2;have HR : Shh (Row w1 w.heap.size 27 [.int .u32 xc, .bool xs, .int .i64 (Nn : Int), .int .i64 xh, .int .i64 (Lx : Int)] /\ OwnP w1 w.heap.size (fun _ => w.heap.size) v2 (cutL Nn ends (k + 1)) /\ Below w.heap.size w w1) := ⟨hg2.row (HL.out.1.alloc _) (by decide), by rw [cutL_succ, <- HBK.out.1, <- HP.out]; exact ho2, (HL.out.2.2.alloc HSP.out.2.2 _).trans hg2.below⟩;clear HL HSP HP HBK hc2 runP e1 e2 ho2 hg2 HND HFL HLT HPC HSZ hi0 hz0 hsz0 hby0;go_wp2
   go_roundw
   case rel => exact ⟨k + 1, by omega, by go_num, HR⟩
   case measure => simp [intOf]; omega
  ·obtain rfl : k = Lx := by omega
   obtain ⟨l0, hl0⟩ : ∃ l0, l0 = cutL Nn ends k := ⟨_, rfl⟩;rw [<- hl0] at HLT;have HLTR := HLT;clear HLT;rw [HBK.out.1, <- hl0] at HL
   have HL0 : Shh (l0.length = k /\ ∀ b ∈ l0, b.length = Nn) := ⟨by rw [hl0, cutL_length], fun b hb => by
    rw [hl0] at hb;unfold cutL at hb;obtain ⟨i, hi, rfl⟩ := List.mem_map.1 hb
    exact HPC.out i (List.mem_range.1 hi)⟩
   have HB1 : Shh (bk.length = l0.length) := ⟨by rw [HL0.out.1]; exact HBK.out.2⟩;rw [HB1.out] at *;clear hl0 HBK HPC HB1;go_wp2;clear hk hlt;go_loopw [9, 11] (fun l h wr => ∃ t : Nat, t <= 7 /\ h = .int .u32 (t : Int) /\ Shh (Row wr w.heap.size 27 [.int .u32 xc, .bool xs, .int .i64 (Nn : Int), .int .i64 xh, .int .i64 (k : Int)] /\ OwnP wr w.heap.size (eb11 w.heap.size t) l (lvl F l0 t) /\ Below w.heap.size w wr)) (fun _ h _ => 7 - (intOf h).toNat)
   case atStart => exact ⟨0, Nat.zero_le _, rfl, HL⟩
   case round =>
    clear HL;obtain ⟨t, ht, rfl, HL⟩ := hrel;obtain ⟨L, hL⟩ : ∃ L, L = lvl F l0 t := ⟨_, rfl⟩;have HLE : Shh (L = lvl F l0 t /\ 0 < L.length /\ L.length <= 67 /\ (∀ b ∈ L, b.length = Nn) /\ (1 < L.length -> t < 7)) := by
     refine ⟨hL, by rw [hL]; exact lvl_pos F l0 (by rw [HL0.out.1]; omega) t, by rw [hL]; exact lvl_le F l0 67 (by rw [HL0.out.1]; omega) t, by rw [hL]; exact lvl_all F Nn HFL.out l0 HL0.out.2 t, fun h1 => ?_⟩;refine Nat.lt_of_le_of_ne ht fun e => ?_
     have h7 := lvl_seven F l0 (by rw [HL0.out.1]; omega);rw [<- e, <- hL] at h7;omega
    rw [<- hL] at HL;clear hL;obtain ⟨gl, cl, rfl, hgl, hcl⟩ := HL.out.2.1.full HLE.out.2.1;have HGL : Shh (gl < wr.heap.size) := ⟨hgl⟩;clear hgl hcl;have HTT : Shh (leaf < 4294967296 /\ t < 4294967296) := ⟨HSZ.out.1, by omega⟩
    by_cases hone : 1 < L.length
    ·have hc1 : (1 : Int) < (L.length : Int) := by omega
     obtain ⟨bb, hbb⟩ : ∃ bb, bb = wr.heap.size := ⟨_, rfl⟩;have HBB : Shh (w.heap.size <= bb) := ⟨by rw [hbb]; exact HL.out.2.2.size⟩;obtain ⟨U, hU⟩ : ∃ U, U = wr.alloc (.cells #[] 23) := ⟨_, rfl⟩;have HU : Shh (Row U w.heap.size 27 [.int .u32 xc, .bool xs, .int .i64 (Nn : Int), .int .i64 xh, .int .i64 (k : Int)] /\ OwnP U bb (fun _ => 0) (.slice (some ⟨bb, 0, none⟩) 0 0) (nodes F t L 0) /\ OwnP U w.heap.size (eb11 w.heap.size t) (.slice (some ⟨gl, 0, none⟩) L.length cl) L /\ Below w.heap.size w U /\ bb <= U.heap.size) := by
      have hm := OwnP.made wr bb (fun _ => 0) (by rw [hbb]; exact Nat.le_refl _);rw [<- hU, <- hbb] at hm;rw [hU] at hm ⊢;exact ⟨HL.out.1.alloc _, hm, HL.out.2.1.go (below1 _ _), Below.chain HL.out.2.2 (by have := HL.out.2.2.size; exact (below1 _ _)), by rw [asz, hbb]; omega⟩
     rw [<- hbb] at HGL;have ht7 := HLE.out.2.2.2.2 hone;go_wp2;rw [<- hU, <- hbb];clear hU HL hbb;go_loopw [12, 13] (fun nv i wr => ∃ j : Nat, 2 * j <= L.length /\ i = .int .i64 ((2 * j : Nat) : Int) /\ Shh (Row wr w.heap.size 27 [.int .u32 xc, .bool xs, .int .i64 (Nn : Int), .int .i64 xh, .int .i64 (k : Int)] /\ OwnP wr bb (fun _ => 0) nv (nodes F t L j) /\ OwnP wr w.heap.size (eb11 w.heap.size t) (.slice (some ⟨gl, 0, none⟩) L.length cl) L /\ Below w.heap.size w wr /\ bb <= wr.heap.size)) (fun _ i _ => L.length - (intOf i).toNat)
     case atStart => exact ⟨0, Nat.zero_le _, rfl, HU⟩
     case round =>
      clear HU;obtain ⟨j, hj, rfl, HI2⟩ := hrel;obtain ⟨ii, hii⟩ : ∃ ii, ii = 2 * j := ⟨_, rfl⟩;have hsc : ((2 * j : Nat) : Int) = (ii : Int) := by rw [hii]
      have hl67 := HLE.out.2.2.1;obtain ⟨nl, hnl⟩ : ∃ nl, nl = nodes F t L j := ⟨_, rfl⟩;have HNL : Shh (nl.length = j /\ nl = nodes F t L j) := ⟨by rw [hnl, nodes_length], hnl⟩;rw [<- hnl] at HI2;clear hnl;obtain ⟨An, cn, rfl⟩ := HI2.out.2.1.form;rw [hsc]
      by_cases hlt2 : ii + 1 < L.length
      ·have hci : (ii : Int) + 1 < (L.length : Int) := by omega
       have HII : Shh ((ii = 2 * j /\ j < 4294967296) /\ j < 4294967296) := ⟨⟨hii, by omega⟩, by omega⟩;have HLT : Shh (ii < L.length /\ ii + 1 < L.length /\ ii <= 1000000) := ⟨by omega, hlt2, by omega⟩;obtain ⟨b0, hb0⟩ : ∃ b, b = L.getD ii [] := ⟨_, rfl⟩;obtain ⟨b1, hb1⟩ : ∃ b, b = L.getD (ii + 1) [] := ⟨_, rfl⟩;obtain ⟨nb, hnb⟩ : ∃ b, b = F t j b0 b1 := ⟨_, rfl⟩;have g0 : L[ii]'(by omega) = b0 := by rw [hb0, getD_at (by omega)]
       have g1 : L[ii + 1]'hlt2 = b1 := by rw [hb1, getD_at hlt2]
       have HBL : Shh (b0.length = Nn /\ b1.length = Nn) := ⟨by rw [<- g0]; exact HLE.out.2.2.2.1 _ (List.getElem_mem _), by rw [<- g1]; exact HLE.out.2.2.2.1 _ (List.getElem_mem _)⟩;have HNJ : Shh (nodes F t L (j + 1) = nl ++ [nb]) := ⟨by rw [nodes_succ, HNL.out.2, hnb, hb0, hb1, hii]⟩;have HNB := Shh.mk hnb;obtain ⟨LA, hLA⟩ : ∃ LA, LA = wordCells (adr11 1 leaf t j) := ⟨_, rfl⟩;have HLA := Shh.mk hLA;obtain ⟨gl2, cl2, hv2, _, hcc⟩ := HI2.out.2.2.1.full HLE.out.2.1;obtain ⟨u0, hu0, hs0, _⟩ := hcc ii (by omega);obtain ⟨u1, hu1, hs1, _⟩ := hcc (ii + 1) hlt2;have hgg : gl2 = gl := by
        injection hv2 with e1;injection e1 with e1;injection e1 with e1;exact e1.symm
       rw [hgg] at hu0 hu1;rw [g0] at hs0;rw [g1] at hs1;obtain ⟨A0, c0, rfl, _, _⟩ := hs0.form;obtain ⟨A1, c1, rfl, _, _⟩ := hs1.form;have HC : Shh (PC wr gl (0 + ii) (.slice A0 b0.length c0) /\ PC wr gl (0 + (ii + 1)) (.slice A1 b1.length c1) /\ Sl wr wr.heap.size (.slice A0 b0.length c0) b0 /\ Sl wr wr.heap.size (.slice A1 b1.length c1) b1) := ⟨⟨Nat.lt_of_lt_of_le HGL.out HI2.out.2.2.2.2, by rw [Nat.zero_add]; exact hu0⟩, ⟨Nat.lt_of_lt_of_le HGL.out HI2.out.2.2.2.2, by rw [Nat.zero_add]; exact hu1⟩, hs0, hs1⟩;have HAR := HARG;clear hb0 hb1 hnb g0 g1 hLA hcc hu0 hu1 hs0 hs1 hv2 hgg;obtain ⟨hi0, hz0, hsz0, hby0⟩ := HI.out
       go_wp2_with fail
       refine wp_region_held_drew (S := fun w' => Row w' w.heap.size 27 [.int .u32 xc, .bool xs, .int .i64 (Nn : Int), .int .i64 xh, .int .i64 (k : Int)] /\ w'.cell? ⟨gl, 0 + ii, none⟩ = some (.slice A0 b0.length c0) /\ w'.cell? ⟨gl, 0 + (ii + 1), none⟩ = some (.slice A1 b1.length c1)) (by kernel_rfl) ⟨HI2.out.1.drew, HC.out.1.2, HC.out.2.1.2⟩ (fun hS => ?_);obtain ⟨V, hV⟩ : ∃ V, V = World.drew wr := ⟨_, rfl⟩;rw [<- hV] at hS ⊢;have rX : Row V w.heap.size 27 [.int .u32 xc, .bool xs, .int .i64 (Nn : Int), .int .i64 xh, .int .i64 (k : Int)] := by rw [hV]; exact HI2.out.1.drew
       have oN : OwnP V bb (fun _ => 0) (.slice An nl.length cn) nl := by rw [hV]; exact HI2.out.2.1.drew
       have oL : OwnP V w.heap.size (eb11 w.heap.size t) (.slice (some ⟨gl, 0, none⟩) L.length cl) L := by rw [hV]; exact HI2.out.2.2.1.drew
       have HBV : Below w.heap.size w V := by rw [hV]; exact HI2.out.2.2.2.1.drew
       have HBS : Shh (bb <= V.heap.size) := ⟨by rw [hV]; exact HI2.out.2.2.2.2⟩;have p0 : PC V gl (0 + ii) (.slice A0 b0.length c0) := by rw [hV]; exact HC.out.1
       have p1 : PC V gl (0 + (ii + 1)) (.slice A1 b1.length c1) := by rw [hV]; exact HC.out.2.1
       have s0 : Sl V V.heap.size (.slice A0 b0.length c0) b0 := by rw [hV]; exact HC.out.2.2.1.drew
       have s1 : Sl V V.heap.size (.slice A1 b1.length c1) b1 := by rw [hV]; exact HC.out.2.2.2.drew
       have sS := (HARG.out V HBV).1;have hjn : 2 * (j + 1) <= L.length := by omega
       clear hV HC HI2 hii hsc hci;refine hdv0 0 48 (.slice An nl.length cn) (by rfl) (⟨rX, (p0).2, (p1).2⟩) ?_;refine hdv0 2 50 (.slice As seed.length cs) (by rfl) (⟨rX, (p0).2, (p1).2⟩) ?_;refine hdv0 3 51 (.int .u32 (leaf : Int)) (by rfl) (⟨rX, (p0).2, (p1).2⟩) ?_;refine hdv0 4 52 (.int .u32 (t : Int)) (by rfl) (⟨rX, (p0).2, (p1).2⟩) ?_;refine hdv0 5 53 (.int .i64 (ii : Int)) (by rfl) (⟨rX, (p0).2, (p1).2⟩) ?_;refine hdv 6 54 (.int .i64 (j : Int)) (by rfl) (fun w hS => quo_two HII.out.1 rfl (by kernel_rfl)) (⟨rX, (p0).2, (p1).2⟩) ?_;refine hdv 7 55 (.int .u32 (j : Int)) (by rfl) (fun w hS => conv_i32 HII.out.2 rfl (by kernel_rfl)) (⟨rX, (p0).2, (p1).2⟩) ?_;refine hdv0 9 57 (.slice (some ⟨gl, 0, none⟩) L.length cl) (by rfl) (⟨rX, (p0).2, (p1).2⟩) ?_;refine hdv0 10 58 (.int .i64 (ii : Int)) (by rfl) (⟨rX, (p0).2, (p1).2⟩) ?_;refine hdv 11 59 (.pointer (some ⟨gl, 0 + ii, none⟩)) (by rfl) (fun w hS => index_p gl 0 ii L.length cl HLT.out.1 rfl (by kernel_rfl) (by kernel_rfl) _) (⟨rX, (p0).2, (p1).2⟩) ?_;refine hdv 12 60 (.slice A0 b0.length c0) (by rfl) (fun w hS => load_p rfl hS.2.1 (by kernel_rfl)) (⟨rX, (p0).2, (p1).2⟩) ?_;refine hdv0 13 61 (.slice (some ⟨gl, 0, none⟩) L.length cl) (by rfl) (⟨rX, (p0).2, (p1).2⟩) ?_;refine hdv0 14 62 (.int .i64 (ii : Int)) (by rfl) (⟨rX, (p0).2, (p1).2⟩) ?_;refine hdv 15 63 (.int .i64 ((ii + 1 : Nat) : Int)) (by rfl) (fun w hS => add_one HLT.out.2.2 rfl (by kernel_rfl)) (⟨rX, (p0).2, (p1).2⟩) ?_;refine hdv 16 64 (.pointer (some ⟨gl, 0 + (ii + 1), none⟩)) (by rfl) (fun w hS => index_p gl 0 (ii + 1) L.length cl HLT.out.2.1 rfl (by kernel_rfl) (by kernel_rfl) _) (⟨rX, (p0).2, (p1).2⟩) ?_;refine hdv 17 65 (.slice A1 b1.length c1) (by rfl) (fun w hS => load_p rfl hS.2.2 (by kernel_rfl)) (⟨rX, (p0).2, (p1).2⟩) ?_;refine held_load 1 27 (.tmp 4) (some 49) (by kernel_rfl) (by rfl) (by kernel_rfl) w.heap.size 0 (by kernel_rfl) ([.int .u32 xc, .bool xs, .int .i64 (Nn : Int), .int .i64 xh, .int .i64 (k : Int)]) _ (fun w h => h.1.range) Tryz.underlying27 rfl (info_xms) (fun _ _ _ _ h => h) (⟨rX, (p0).2, (p1).2⟩) ?_;simp only [Act.put, arr9, hd9, tl9];refine held_one 8 (by kernel_rfl) ?_;refine step_call 8 _ _ (some 56) 41 #[.int .i64 1, .int .u32 (leaf : Int), .int .u32 (t : Int), .int .u32 (j : Int)] (by rfl) (by kernel_rfl) (by first | kernel_rfl | go_simp) ?_;refine (show Calls Tryz.prog 41 #[.int .i64 1, .int .u32 (leaf : Int), .int .u32 (t : Int), .int .u32 (j : Int)] V (OldIs (.agg LA.toArray) V) by have h := refAt11_any 1 leaf t j (by decide) HTT.out.1 HTT.out.2 HII.out.2 V; unfold adrV at h; rw [<- HLA.out] at h; exact h).mono ?_;unfold OldIs; rintro e Y1 ⟨rfl, b4⟩;have bx : Below V.heap.size V Y1 := b4;clear b4;have b_V := bx;have m_Y1 : V.heap.size <= Y1.heap.size := bx.size;clear bx;refine ⟨_, rfl, ⟨(rX.go b_V), ((p0.go b_V)).2, ((p1.go b_V)).2⟩, ?_⟩;simp only [Act.put, arr9, hd9, tl9];refine held_one 18 (by kernel_rfl) ?_;refine step_call 18 _ _ (some 66) 45 #[.agg ([.int .u32 xc, .bool xs, .int .i64 (Nn : Int), .int .i64 xh, .int .i64 (k : Int)]).toArray, .slice As seed.length cs, .agg LA.toArray, .slice A0 b0.length c0, .slice A1 b1.length c1] (by rfl) (by kernel_rfl) (by first | kernel_rfl | go_simp) ?_;refine (show Calls Tryz.prog 45 #[.agg #[.int .u32 xc, .bool xs, .int .i64 (Nn : Int), .int .i64 xh, .int .i64 (k : Int)], .slice As seed.length cs, .agg LA.toArray, .slice A0 b0.length c0, .slice A1 b1.length c1] Y1 (SlF Y1 nb) by have h := HND.out t j _ _ b0 b1 Y1 HTT.out.2 HII.out.2 ((sS.go b_V)) ((s0.go b_V)) ((s1.go b_V)) HBL.out.1 HBL.out.2; unfold adrV at h; rw [<- HLA.out, <- HNB.out] at h; exact h).mono ?_;rintro e Y2 ⟨v, rfl, gv, bv, tv⟩;have bx : Below Y1.heap.size Y1 Y2 := bv;obtain ⟨Ak, ck, vEq, _, _⟩ := gv.form;subst vEq;have sK := gv;have uK : UN Y2 0 (.slice Ak nb.length ck) := UN.all tv;clear gv tv;replace b_V := Below.chain b_V bx;have b_Y1 := bx;have m_Y2 : Y1.heap.size <= Y2.heap.size := bx.size;clear bx;refine ⟨_, rfl, ⟨(rX.go b_V), ((p0.go b_V)).2, ((p1.go b_V)).2⟩, ?_⟩;simp only [Act.put, arr9, hd9, tl9];refine held_one 19 (by kernel_rfl) ?_;refine step_value 19 _ _ (some 67) (.slice (some ⟨Y2.heap.size, 0, none⟩) 1 1) (Y2.alloc (.cells #[.slice Ak nb.length ck] 23)) (by rfl) (by kernel_rfl) (by first | kernel_rfl | go_simp) (⟨((rX.go b_V)).alloc _, (((p0.go b_V)).go (below1 _ _)).2, (((p1.go b_V)).go (below1 _ _)).2⟩) ?_;simp only [Act.put, arr9, hd9, tl9];have bx : Below Y2.heap.size Y2 (Y2.alloc (.cells #[.slice Ak nb.length ck] 23)) := Below.alloc (Below.refl _ _) (Nat.le_refl _) _;have rB : Row (Y2.alloc (.cells #[.slice Ak nb.length ck] 23)) Y2.heap.size 23 [.slice Ak nb.length ck] := Row.new_ rfl rfl;have z_rB := asz Y2 (.cells #[.slice Ak nb.length ck] 23);generalize Y2.alloc (.cells #[.slice Ak nb.length ck] 23) = Y3 at *;replace b_V := Below.chain b_V bx;replace b_Y1 := Below.chain b_Y1 bx;have b_Y2 := bx;have m_Y3 : Y2.heap.size <= Y3.heap.size := bx.size;clear bx;refine held_one 20 (by kernel_rfl) ?_;refine step_appendP (c := 1) Y3 20 _ (some 68) 82 i0 (.slice none 0 0) Tryz.underlying82 hi0 hz0 hsz0 hby0 rfl (.tmp 48) (.tmp 67) (by rfl) (by kernel_rfl) ((oN.go b_V)) (fun _ => Nat.zero_le _) (by kernel_rfl) (by kernel_rfl) ((rB).cell 0) ((sK.go b_Y2)) ((uK.go b_Y2)) (by have := HLT.out.2.2; have := HNL.out.1; omega) (by have := b_V.size; have := HBS.out; omega) ?_;intro v2 Y4 ho2 hg2;replace rX : Row Y4 w.heap.size 27 [.int .u32 xc, .bool xs, .int .i64 (Nn : Int), .int .i64 xh, .int .i64 (k : Int)] := hg2.row ((rX.go b_V)) (by decide);have q0 := hg2.below.cell (p := ⟨gl, 0 + ii, none⟩) HGL.out;have q1 := hg2.below.cell (p := ⟨gl, 0 + (ii + 1), none⟩) HGL.out;replace oL : OwnP Y4 w.heap.size (eb11 w.heap.size t) (.slice (some ⟨gl, 0, none⟩) L.length cl) L := ((oL.go b_V)).grp (fun g e => by injection e with e; rw [<- e]; exact HGL.out) hg2 (fun i => Nat.le_trans (eb11_le _ _ _) HBB.out);have nB : Below w.heap.size w Y4 := (Below.chain HBV b_V).trans (hg2.below.mono HBB.out);replace p0 : PC Y4 gl (0 + ii) (.slice A0 b0.length c0) := ⟨Nat.lt_of_lt_of_le ((p0.go b_V)).1 hg2.size, q0.trans ((p0.go b_V)).2⟩;replace p1 : PC Y4 gl (0 + (ii + 1)) (.slice A1 b1.length c1) := ⟨Nat.lt_of_lt_of_le ((p1.go b_V)).1 hg2.size, q1.trans ((p1.go b_V)).2⟩;refine ⟨⟨rX, p0.2, p1.2⟩, ?_⟩;simp only [Act.put, arr9, hd9, tl9];refine hdv0 21 12 (v2) (by rfl) (⟨rX, (p0).2, (p1).2⟩) ?_;refine wpAnyH_done (by kernel_rfl) ?_ _;have HR : Shh (Row Y4 w.heap.size 27 [.int .u32 xc, .bool xs, .int .i64 (Nn : Int), .int .i64 xh, .int .i64 (k : Int)] /\ OwnP Y4 bb (fun _ => 0) v2 (nodes F t L (j + 1)) /\ OwnP Y4 w.heap.size (eb11 w.heap.size t) (.slice (some ⟨gl, 0, none⟩) L.length cl) L /\ Below w.heap.size w Y4 /\ bb <= Y4.heap.size) := ⟨rX, by rw [HNJ.out]; exact ho2, oL, nB, Nat.le_trans (by have := b_V.size; have := HBS.out; omega) hg2.size⟩;clear nB q1 q0 hg2 ho2 m_Y3 b_Y2 z_rB rB m_Y2 b_Y1 uK sK bv m_Y1 b_V hS HBV rX oN oL sS p0 p1 s0 s1;clear HND HLT HLA HNB HBL HTT HBS HNJ HAR;go_wp2
       go_roundw
       case rel => exact ⟨j + 1, hjn, (by rw [HII.out.1.1]; go_num), HR⟩
       case measure => simp [intOf]; omega
      ·have hci : ¬ (ii : Int) + 1 < (L.length : Int) := by omega
       obtain ⟨gl2, cl2, hv2, _, hcc⟩ := HI2.out.2.2.1.full HLE.out.2.1;have hgg : gl2 = gl := by
        injection hv2 with e1;injection e1 with e1;injection e1 with e1;exact e1.symm
       rw [hgg] at hcc
       by_cases hodd : L.length = ii + 1
       ·have hlm : (L.length : Int) - 1 = (ii : Int) := by omega
        have hm2 : (L.length : Int) % 2 = 1 := by omega
        have hm3 : (L.length : Int).tmod 2 = 1 := by rw [Int.tmod_eq_emod_of_nonneg (by omega)]; omega
        have hbd : (ii : Int) < (L.length : Int) := by omega
        obtain ⟨u0, hu0, hs0, hn0⟩ := hcc ii (by omega);obtain ⟨b0, hb0⟩ : ∃ b, b = L.getD ii [] := ⟨_, rfl⟩;have g0 : L[ii]'(by omega) = b0 := by rw [hb0, getD_at (by omega)]
        rw [g0] at hs0;obtain ⟨A0, c0, rfl, _, _⟩ := hs0.form;have HQ : Shh (Sl wr wr.heap.size (.slice A0 b0.length c0) b0 /\ UN wr (eb11 w.heap.size 1 nl.length) (.slice A0 b0.length c0) /\ OwnP wr bb (eb11 w.heap.size 1) (.slice An nl.length cn) nl /\ lvl F l0 (t + 1) = nl ++ [b0] /\ nl.length <= 100) := by
         refine ⟨hs0, ?_, HI2.out.2.1.each fun i _ => Nat.zero_le _, ?_, by rw [HNL.out.1]; omega⟩
         ·have e : eb11 w.heap.size 1 nl.length = w.heap.size := by
           have hj1 : nl.length ≠ 0 := by rw [HNL.out.1]; omega
           unfold eb11;rw [if_neg (by omega), if_neg hj1]
          rw [e];exact hn0.up (eb11_le _ _ _)
         ·show pairs (F t) 0 (lvl F l0 t) = _;rw [<- HLE.out.1, pairs_odd F t L j (by omega), HNL.out.2, hb0, hii]
        have hcell : wr.cell? ⟨gl, ii, none⟩ = some (.slice A0 b0.length c0) := hu0;clear hcc hu0 hs0 hn0 hb0 g0 hv2 hgg hodd hii hsc hci;have HBW : Shh (bb <= wr.heap.size) := ⟨HI2.out.2.2.2.2⟩;obtain ⟨hi0, hz0, hsz0, hby0⟩ := HI.out
        go_wp2_with (at_builtin; refine wpList_appendP (c := 1) _ 82 i0 (.slice none 0 0) Tryz.underlying82 hi0 hz0 hsz0 hby0 rfl rfl _ _ rfl (HQ.out.2.2.1.go (below1 _ _)) (fun i => Nat.le_trans (eb11_le _ _ _) HBB.out) rfl rfl ((Row.new_ rfl rfl).cell 0) (HQ.out.1.go (below1 _ _)) (HQ.out.2.1.go (below1 _ _)) (by have := HQ.out.2.2.2.2; omega) (by rw [asz]; have := HBW.out; omega) ?_)
        intro v2 w1 ho2 hg2;have HR : Shh (Row w1 w.heap.size 27 [.int .u32 xc, .bool xs, .int .i64 (Nn : Int), .int .i64 xh, .int .i64 (k : Int)] /\ OwnP w1 w.heap.size (eb11 w.heap.size (t + 1)) v2 (lvl F l0 (t + 1)) /\ Below w.heap.size w w1) := ⟨hg2.row (HI2.out.1.alloc _) (by decide), by rw [HQ.out.2.2.2.1]; exact (ho2.lower HBB.out).each fun i _ => (by simp [eb11]), (HI2.out.2.2.2.1.alloc HI2.out.2.2.2.1.size _).trans (hg2.below.mono HBB.out)⟩;clear HI2 HQ ho2 hg2 hcell hlm hm2 hm3 hbd HND HLE HNL HBB HBW HTT HGL hi0 hz0 hsz0 hby0;go_wp2
        go_roundw
        case rel => exact ⟨t + 1, by omega, by go_num, HR⟩
        case measure => simp [intOf]; omega
       ·have hm2 : (L.length : Int) % 2 = 0 := by omega
        have hm3 : (L.length : Int).tmod 2 = 0 := by rw [Int.tmod_eq_emod_of_nonneg (by omega)]; omega
        have HR : Shh (Row wr w.heap.size 27 [.int .u32 xc, .bool xs, .int .i64 (Nn : Int), .int .i64 xh, .int .i64 (k : Int)] /\ OwnP wr w.heap.size (eb11 w.heap.size (t + 1)) (.slice An nl.length cn) (lvl F l0 (t + 1)) /\ Below w.heap.size w wr) := by
         refine ⟨HI2.out.1, ?_, HI2.out.2.2.2.1⟩;have e : lvl F l0 (t + 1) = nl := by
          show pairs (F t) 0 (lvl F l0 t) = _;rw [<- HLE.out.1, pairs_even F t L j (by omega), HNL.out.2]
         rw [e];exact (HI2.out.2.1.lower HBB.out).each fun i _ => Nat.zero_le _
        have hib : ii <= 67 := by omega
        clear HI2 hcc hv2 hgg hodd hii hsc HND HLE HNL HBB HTT HGL;go_wp2
        go_roundw
        case rel => exact ⟨t + 1, by omega, by go_num, HR⟩
        case measure => simp [intOf]; omega
    ·have hc1 : ¬ (1 : Int) < (L.length : Int) := by omega
     have hc0 : (0 : Int) < (L.length : Int) := by have := HLE.out.2.1; omega
     obtain ⟨gl2, cl2, hv2, _, hcc⟩ := HL.out.2.1.full HLE.out.2.1;have hgg : gl2 = gl := by
      injection hv2 with e1;injection e1 with e1;injection e1 with e1;exact e1.symm
     rw [hgg] at hcc;obtain ⟨u0, hu0, hs0, hn0⟩ := hcc 0 HLE.out.2.1;have hres : L[0]'HLE.out.2.1 = RS := by
      have h7 := lvl_stays F l0 t (by rw [<- HLE.out.1]; omega) (7 - t);rw [show t + (7 - t) = 7 by omega] at h7;have h8 : RS = L.getD 0 [] := by
       rw [HLTR.out, h7];exact congrArg (fun m => m.getD 0 []) HLE.out.1.symm
      exact (getD_at HLE.out.2.1).symm.trans h8.symm
     rw [hres] at hs0;obtain ⟨A0, c0, rfl, _, _⟩ := hs0.form;have ht0 : t ≠ 0 := by
      intro e;have h := HLE.out.1;rw [e] at h;have h2 : L.length = l0.length := by rw [h]; rfl
      have := HL0.out.1;omega
     have e0 : eb11 w.heap.size t 0 = 0 := by unfold eb11; rw [if_neg ht0, if_pos rfl]
     rw [e0] at hn0;have HR : Shh (Sl wr wr.heap.size (.slice A0 RS.length c0) RS /\ Below w.heap.size w wr /\ ∀ g, ¬ tagU wr g -> Off g (.slice A0 RS.length c0)) := ⟨hs0, HL.out.2.2, fun g hg => hn0 g (Nat.zero_le _) hg⟩;have hcell : wr.cell? ⟨gl, 0, none⟩ = some (.slice A0 RS.length c0) := hu0;clear hcc hu0 hs0 hn0 hv2 hgg hres ht0 e0 HL HND HLE HTT HGL;go_wp2;go_ret;exact ⟨_, rfl, HR.out.1, HR.out.2.1, HR.out.2.2⟩
end Go.Proofs.YtdakbipiifkmfaaGreatDoor
namespace Go.Proofs.YtdakbipiifkmfaaGreatDoor
open Go.RowKit
set_option maxRecDepth 100000
def lenX (x : S5) : Nat := 4 + x.n.toNat + (x.l.toNat + x.h.toNat) * x.n.toNat
theorem xmsLn_ok {x : S5} (hx : x.ok = true) : xmsLn true x.n x.h x.l = (lenX x : Int) := by
 obtain ⟨h, h1, h2⟩ := ok_h hx;unfold xmsLn lenX;rw [if_pos rfl];simp only [wrap64]
 rcases S5.ok_is hx with ⟨a1, a2⟩ | ⟨a1, a2⟩ <;> rw [a1, a2, h1]
 ·rw [show (24 : Int).toNat = 24 from rfl, show (51 : Int).toNat = 51 from rfl, Int.toNat_natCast]; omega
 ·rw [show (32 : Int).toNat = 32 from rfl, show (67 : Int).toNat = 67 from rfl, Int.toNat_natCast]; omega
theorem lenX_ge {x : S5} (hx : x.ok = true) : 28 <= lenX x /\ lenX x <= 100000 := by
 obtain ⟨h, h1, h2⟩ := ok_h hx;unfold lenX
 rcases S5.ok_is hx with ⟨a1, a2⟩ | ⟨a1, a2⟩ <;> rw [a1, a2, h1]
 ·rw [show (24 : Int).toNat = 24 from rfl, show (51 : Int).toNat = 51 from rfl, Int.toNat_natCast]; omega
 ·rw [show (32 : Int).toNat = 32 from rfl, show (67 : Int).toNat = 67 from rfl, Int.toNat_natCast]; omega
def ixE (x : S5) (sig : List UInt8) : Int := if x.ok then (if sig.length = lenX x then (if bigN (sig.take 4) < 2 ^ x.h.toNat then 0 else 70) else 70) else 60
def ixN (x : S5) (sig : List UInt8) : Nat := if ixE x sig = 0 then bigN (sig.take 4) else 0
theorem ix_cases (x : S5) (sig : List UInt8) : (x.ok = false /\ ixE x sig = 60 /\ ixN x sig = 0) ∨ (x.ok = true /\ sig.length ≠ lenX x /\ ixE x sig = 70 /\ ixN x sig = 0) ∨
  (x.ok = true /\ sig.length = lenX x /\ ¬ bigN (sig.take 4) < 2 ^ x.h.toNat /\ ixE x sig = 70 /\ ixN x sig = 0) ∨ (x.ok = true /\ sig.length = lenX x /\ bigN (sig.take 4) < 2 ^ x.h.toNat /\ ixE x sig = 0 /\ ixN x sig = bigN (sig.take 4)) := by
 unfold ixN ixE;cases h : x.ok with
 | false => left; exact ⟨rfl, rfl, rfl⟩
 | true =>
  right
  by_cases h2 : sig.length = lenX x
  ·by_cases h3 : bigN (sig.take 4) < 2 ^ x.h.toNat
   ·right; right; simp [h2, h3]
   ·right; left; simp [h2, h3]
  ·left; simp [h2]
set_option maxHeartbeats 2000000 in
theorem refIndex11_any (x : S5) (hw : x.wf) (vg : Value) (sig : List UInt8) (w : World) (hg : Sl w w.heap.size vg sig) :
  Calls Tryz.prog 29 #[x.v, vg] w (OldIs (.tuple #[.int .u32 (ixN x sig : Int), .int .i64 (ixE x sig)]) w) := by
 unfold OldIs;obtain ⟨Ag, cg, rfl, hcg, hcm⟩ := hg.form;have hC := ix_cases x sig;obtain ⟨E, hE⟩ : ∃ E, E = ixE x sig := ⟨_, rfl⟩;obtain ⟨I, hI⟩ : ∃ I, I = ixN x sig := ⟨_, rfl⟩;rw [<- hE, <- hI] at hC ⊢;clear hE hI;have HM : Shh (∀ W, Calls Tryz.prog 48 #[x.v] W (OldIs (.bool x.ok) W)) := ⟨fun W => mayXmss_any x hw W⟩
 have HL : Shh (x.ok = true -> ∀ W, Calls Tryz.prog 32 #[x.v] W (OldIs (.int .i64 (lenX x : Int)) W)) := ⟨fun h W => by
  have hb := HM.out;rw [h] at hb;have h2 := rXmssLen_of x.c x.s x.n x.h x.l true hb W;rw [xmsLn_ok h] at h2
  exact h2⟩
 have HF : Shh (x.ok = true -> 28 <= lenX x /\ lenX x <= 100000 /\ ∃ h : Nat, x.h = (h : Int) /\ h <= 20) := ⟨fun h => ⟨(lenX_ge h).1, (lenX_ge h).2, ok_h h⟩⟩;have HC := Shh.mk hcg;clear hw hcg hcm;unfold S5.v at HM HL ⊢;generalize lenX x = lx at *;generalize x.ok = ok at *;have HW : Shh (Row (w.alloc (.cells #[.int .u32 x.c, .bool x.s, .int .i64 x.n, .int .i64 x.h, .int .i64 x.l] 27)) w.heap.size 27 [.int .u32 x.c, .bool x.s, .int .i64 x.n, .int .i64 x.h, .int .i64 x.l] /\ Sl (w.alloc (.cells #[.int .u32 x.c, .bool x.s, .int .i64 x.n, .int .i64 x.h, .int .i64 x.l] 27)) (w.alloc (.cells #[.int .u32 x.c, .bool x.s, .int .i64 x.n, .int .i64 x.h, .int .i64 x.l] 27)).heap.size (.slice Ag sig.length cg) sig /\ Below w.heap.size w (w.alloc (.cells #[.int .u32 x.c, .bool x.s, .int .i64 x.n, .int .i64 x.h, .int .i64 x.l] 27))) := ⟨Row.new_ rfl rfl, hg.go (below1 _ _), below1 _ _⟩;clear hg;generalize x.c = xc at *;generalize x.s = xs at *;generalize x.n = xn at *;generalize x.h = xh at *;generalize x.l = xl at *;have HCC := Shh.mk hC;clear hC;go_enter Tryz.func29, Tryz.ntmps29
 go_wp2_with (first | refine wpList_load_any rfl 27 (.tmp 2) rfl w.heap.size rfl 27 [.int .u32 xc, .bool xs, .int .i64 xn, .int .i64 xh, .int .i64 xl] _ HW.out.1 Tryz.underlying27 rfl info_xms ?_ | (go_at_call 48; refine (HM.out _).mono ?_))
 unfold OldIs;rintro e w2 ⟨rfl, b2⟩;have H2 : Shh (Row w2 w.heap.size 27 [.int .u32 xc, .bool xs, .int .i64 xn, .int .i64 xh, .int .i64 xl] /\ Sl w2 w2.heap.size (.slice Ag sig.length cg) sig /\ Below w.heap.size w w2) := ⟨HW.out.1.go b2, HW.out.2.1.go b2, Below.chain HW.out.2.2 b2⟩;clear b2 HW HM;cases ok with
 | false =>
  have HR : Shh (E = 60 /\ I = 0) := ⟨by have := HCC.out; simp at this; omega⟩;clear HCC HL HF;have HB : Shh (Below w.heap.size w w2) := ⟨H2.out.2.2⟩;clear H2;go_wp2;go_ret2;exact ⟨by rw [HR.out.1, HR.out.2]; rfl, HB.out⟩
 | true =>
  obtain ⟨l28, l5, h, hh, h20⟩ := HF.out rfl;subst hh;have HLL := Shh.mk (HL.out rfl);have HF2 : Shh (28 <= lx /\ h <= 20) := ⟨l28, h20⟩;have H20 := Shh.mk h20;clear l28 l5 HF HL h20
  go_wp2_with (first | refine wpList_load_any rfl 27 (.tmp 2) rfl w.heap.size rfl 27 [.int .u32 xc, .bool xs, .int .i64 xn, .int .i64 (h : Int), .int .i64 xl] _ H2.out.1 Tryz.underlying27 rfl info_xms ?_ | (go_at_call 32; refine (HLL.out _).mono ?_))
  unfold OldIs;rintro e w3 ⟨rfl, b3⟩;have H3 : Shh (Row w3 w.heap.size 27 [.int .u32 xc, .bool xs, .int .i64 xn, .int .i64 (h : Int), .int .i64 xl] /\ Sl w3 w3.heap.size (.slice Ag sig.length cg) sig /\ Below w.heap.size w w3) := ⟨H2.out.1.go b3, H2.out.2.1.go b3, Below.chain H2.out.2.2 b3⟩;clear b3 H2 HLL
  by_cases hl : sig.length = lx
  ·have hq : ((sig.length : Int) == (lx : Int)) = true := by simp [hl]
   obtain ⟨hd, hhd⟩ : ∃ hd, hd = sig.take 4 := ⟨_, rfl⟩;obtain ⟨Ah, ch, runP, sP⟩ := slice_to10 H3.out.2.1 4 (by have := HF2.out.1; omega) HC.out;rw [<- hhd] at runP sP;have runP' : ∀ u, (Instr.sliceAt 23 (.slice Ag sig.length cg) none (some (.int .i64 4)) none).run Tryz.prog u = .ok (.slice Ah hd.length ch) u := runP;have HD : Shh (Sl w3 w3.heap.size (.slice Ah hd.length ch) hd /\ hd.length = 4 /\ bigN hd < 4294967296) := by
    have h4 : hd.length = 4 := by rw [hhd, List.length_take]; have := HF2.out.1; omega
    refine ⟨sP, h4, ?_⟩;have := bigN_lt hd;rw [h4] at this;exact this
   have HQ : Shh (sig.length = lx) := ⟨hl⟩;have HX : Shh (sig.take 4 = hd) := ⟨hhd.symm⟩;clear runP sP hhd hl
   go_wp2_with (go_at_call 70; refine (refNumber_any w3.heap.size _ hd _ HD.out.1 (by rw [HD.out.2.1]; decide) (by rw [HD.out.2.1]; decide)).mono ?_)
   rintro e w4 ⟨rfl, rfl⟩;obtain ⟨N, hN⟩ : ∃ N, N = bigN hd := ⟨_, rfl⟩;rw [<- hN];have HNN : Shh (N < 4294967296 /\ bigN (sig.take 4) = N) := ⟨by rw [hN]; exact HD.out.2.2, by rw [HX.out, hN]⟩;clear hq runP' HD hN HX;have e3 := H3.out.1.cell 3;simp only [List.getElem?_cons_succ, List.getElem?_cons_zero] at e3;obtain ⟨pw, hpw⟩ : ∃ pw, pw = 2 ^ h := ⟨_, rfl⟩;have HPW : Shh (pw = 2 ^ h) := ⟨hpw⟩;have hwr : IntKind.u64.wrap ((2 : Int) ^ h) = (pw : Int) := by
    have e : (2 : Int) ^ h = ((2 ^ h : Nat) : Int) := by rw [Int.natCast_pow]; rfl
    have h1 : 2 ^ h <= 2 ^ 20 := Nat.pow_le_pow_right (by decide) HF2.out.2;have h2 : 2 ^ 20 = 1048576 := by decide
    rw [e, IntKind.wrap_u64, hpw];generalize 2 ^ h = P at h1;omega
   have HCD : Shh ((¬ N < pw -> E = 70 /\ I = 0) /\ (N < pw -> E = 0 /\ I = N)) := by
    have hc := HCC.out;rw [HNN.out.2, Int.toNat_natCast, <- hpw] at hc;have hq := HQ.out;simp [hq] at hc;exact ⟨fun h1 => by omega, fun h1 => by omega⟩
   have HB : Shh (Below w.heap.size w w3) := ⟨H3.out.2.2⟩;clear hpw HPW HCC HQ H3 HF2;have h20 := H20.out
   by_cases hlt : N < pw
   ·have hc : ¬ (pw : Int) <= (N : Int) := by omega
    have hw32 : IntKind.u32.wrap (N : Int) = (N : Int) := by have := HNN.out.1; rw [IntKind.wrap_u32]; omega
    have HR := Shh.mk (HCD.out.2 hlt);clear HCD HNN;go_wp2;go_ret2;exact ⟨by rw [HR.out.1, HR.out.2]; rfl, HB.out⟩
   ·have hc : (pw : Int) <= (N : Int) := by omega
    have HR := Shh.mk (HCD.out.1 hlt);clear HCD HNN;go_wp2;go_ret2;exact ⟨by rw [HR.out.1, HR.out.2]; rfl, HB.out⟩
  ·have hq : ((sig.length : Int) == (lx : Int)) = false := by simp; omega
   have HR : Shh (E = 70 /\ I = 0) := ⟨by have hc := HCC.out; simp [hl] at hc; omega⟩;have HB : Shh (Below w.heap.size w w3) := ⟨H3.out.2.2⟩;clear HCC H3 hl;go_wp2;go_ret2;exact ⟨by rw [HR.out.1, HR.out.2]; rfl, HB.out⟩
end Go.Proofs.YtdakbipiifkmfaaGreatDoor
namespace Go.Proofs.YtdakbipiifkmfaaGreatDoor
open Go.RowKit
set_option maxRecDepth 100000
def sumdB (s : Bool) (n : Int) (r root : List UInt8) (i : Nat) (msg : List UInt8) : List UInt8 := keyd s n 2 (r ++ (root ++ bigB i n.toNat)) msg
section
variable {a : Act} {x y : Operand} {op : Oper} {w : World}
theorem conv_u64 {j : Nat} (h : j < 4294967296) (ho : op.op = .convert 22 74 x) (hx : a.eval x = .int .u32 (j : Int)) : (execOp a.eval op).run Tryz.prog w = .ok (.value (.int .u64 (j : Int))) w := by
 have hw : IntKind.u64.wrap (j : Int) = (j : Int) := by rw [IntKind.wrap_u64]; omega
 unfold execOp;simp only [ho, hx]
 go_simp
end
set_option maxHeartbeats 2000000 in
theorem refSummed_any (x : S5) (hx : x.ok = true) (vr vt vm : Value) (r root msg : List UInt8) (i : Nat) (hi : i < 4294967296) (w : World) (hr : Sl w w.heap.size vr r) (ht : Sl w w.heap.size vt root) (hm : Sl w w.heap.size vm msg) (hrl : r.length <= 1000) (htl : root.length <= 1000) (hml : msg.length <= 100000) :
  Calls Tryz.prog 65 #[x.v, vr, vt, .int .u32 (i : Int), vm] w (SlF w (sumdB x.s x.n r root i msg)) := by
 unfold SlF;obtain ⟨Ar, cr, rfl, _, _⟩ := hr.form;obtain ⟨At, ct, rfl, _, _⟩ := ht.form;obtain ⟨Am, cm, rfl, _, _⟩ := hm.form;have hn := ok_n hx;obtain ⟨Nn, hNn⟩ : ∃ Nn : Nat, x.n = (Nn : Int) := ⟨x.n.toNat, by omega⟩;obtain ⟨bi, hbi⟩ : ∃ bi, bi = bigB i Nn := ⟨_, rfl⟩;obtain ⟨jj, hjj⟩ : ∃ jj, jj = [r, root, bi].flatten := ⟨_, rfl⟩;obtain ⟨out, hout⟩ : ∃ out, out = sumdB x.s x.n r root i msg := ⟨_, rfl⟩;rw [<- hout];have hbl : bi.length = Nn := by rw [hbi]; exact bigB_length _ _
 have hjl : jj.length <= 3000 := by rw [hjj]; simp; omega
 have hok : out = keyd x.s x.n 2 jj msg := by
  rw [hout];unfold sumdB;rw [hjj, three_flat10, hbi, hNn];rfl
 have HI : Shh (i < 4294967296 /\ Nn <= 32 /\ msg.length <= 100000) := ⟨hi, by omega, hml⟩;have HKY : Shh (∀ (vk vm : Value) (key m : List UInt8) (W : World), Sl W W.heap.size vk key -> Sl W W.heap.size vm m -> key.length <= 100000 -> m.length <= 100000 -> Calls Tryz.prog 63 #[x.v, .int .i64 2, vk, vm] W (SlF W (keyd x.s x.n 2 key m))) := ⟨fun vk vm key m W h2 h3 h4 h5 => refKeyedF_any x hx 2 (by decide) vk vm key m W h2 h3 h4 h5⟩;have HQ : Shh (bi = bigB i Nn /\ jj = [r, root, bi].flatten /\ jj.length <= 3000 /\ out = keyd x.s x.n 2 jj msg) := ⟨hbi, hjj, hjl, hok⟩;clear hbi hjj hjl hok hbl hout hx hn hi hml hrl htl;unfold S5.v at HKY ⊢;rw [hNn] at HKY HQ ⊢;clear hNn;generalize x.c = xc at *;generalize x.s = xs at *;generalize x.h = xh at *;generalize x.l = xl at *;obtain ⟨W, hW⟩ : ∃ W, W = w.alloc (.cells #[.int .u32 xc, .bool xs, .int .i64 (Nn : Int), .int .i64 xh, .int .i64 xl] 27) := ⟨_, rfl⟩;have HW : Shh (Row W w.heap.size 27 [.int .u32 xc, .bool xs, .int .i64 (Nn : Int), .int .i64 xh, .int .i64 xl] /\ Sl W W.heap.size (.slice Ar r.length cr) r /\ Sl W W.heap.size (.slice At root.length ct) root /\ Sl W W.heap.size (.slice Am msg.length cm) msg /\ Below w.heap.size w W) := by
  rw [hW];exact ⟨Row.new_ rfl rfl, hr.go (below1 _ _), ht.go (below1 _ _), hm.go (below1 _ _), below1 _ _⟩
 clear hr ht hm;go_enter Tryz.func65, Tryz.ntmps65
 go_wp2_with fail
 rw [<- hW];clear hW;refine wp_region_held_drew (S := fun w' => Row w' w.heap.size 27 [.int .u32 xc, .bool xs, .int .i64 (Nn : Int), .int .i64 xh, .int .i64 xl]) (by kernel_rfl) HW.out.1.drew (fun hS => ?_);obtain ⟨V, hV⟩ : ∃ V, V = World.drew W := ⟨_, rfl⟩;rw [<- hV] at hS ⊢;have rX : Row V w.heap.size 27 [.int .u32 xc, .bool xs, .int .i64 (Nn : Int), .int .i64 xh, .int .i64 xl] := by rw [hV]; exact HW.out.1.drew
 have sR : Sl V V.heap.size (.slice Ar r.length cr) r := by rw [hV]; exact HW.out.2.1.drew
 have sT : Sl V V.heap.size (.slice At root.length ct) root := by rw [hV]; exact HW.out.2.2.1.drew
 have sM : Sl V V.heap.size (.slice Am msg.length cm) msg := by rw [hV]; exact HW.out.2.2.2.1.drew
 have HBV : Below w.heap.size w V := by rw [hV]; exact HW.out.2.2.2.2.drew
 clear hV HW;refine hdv0 1 12 (.slice Ar r.length cr) (by rfl) (rX) ?_;refine hdv0 2 13 (.slice At root.length ct) (by rfl) (rX) ?_;refine hdv0 3 14 (.int .u32 (i : Int)) (by rfl) (rX) ?_;refine hdv 4 15 (.int .u64 (i : Int)) (by rfl) (fun w hS => conv_u64 HI.out.1 rfl (by kernel_rfl)) (rX) ?_;refine hdv0 5 16 (.pointer (some ⟨w.heap.size, 2, none⟩)) (by rfl) (rX) ?_;refine hdv 6 17 (.int .i64 (Nn : Int)) (by rfl) (fun w hS => load_i rfl (hS.cell 2) (by kernel_rfl)) (rX) ?_;refine hdv0 10 21 (.slice Am msg.length cm) (by rfl) (rX) ?_;refine held_load 0 27 (.tmp 5) (some 11) (by kernel_rfl) (by rfl) (by kernel_rfl) w.heap.size 0 (by kernel_rfl) ([.int .u32 xc, .bool xs, .int .i64 (Nn : Int), .int .i64 xh, .int .i64 xl]) _ (fun w h => h.range) Tryz.underlying27 rfl (info_xms) (fun _ _ _ _ h => h) (rX) ?_;simp only [Act.put, arr9, hd9, tl9];refine held_one 7 (by kernel_rfl) ?_;refine step_call 7 _ _ (some 18) 56 #[.int .u64 (i : Int), .int .i64 (Nn : Int)] (by rfl) (by kernel_rfl) (by first | kernel_rfl | go_simp) ?_;refine (show Calls Tryz.prog 56 #[.int .u64 (i : Int), .int .i64 (Nn : Int)] V (OwnIs V bi) by have h := refBig64_any i Nn V (by have := HI.out.2.1; omega) (by have := HI.out.1; omega); rw [<- HQ.out.1] at h; exact h).mono ?_;rintro e Y1 ⟨v, rfl, gv⟩;have bx : Below V.heap.size V Y1 := gv.2;obtain ⟨Ai, ci, vEq⟩ := own_form gv.1;subst vEq;have sI : Sl Y1 Y1.heap.size (.slice Ai bi.length ci) bi := gives_sl gv;clear gv;have b_V := bx;have m_Y1 : V.heap.size <= Y1.heap.size := bx.size;clear bx;refine ⟨_, rfl, (rX.go b_V), ?_⟩;simp only [Act.put, arr9, hd9, tl9];refine held_one 8 (by kernel_rfl) ?_;refine step_value 8 _ _ (some 19) (.slice (some ⟨Y1.heap.size, 0, none⟩) 3 3) (Y1.alloc (.cells #[.slice Ar r.length cr, .slice At root.length ct, .slice Ai bi.length ci] 23)) (by rfl) (by kernel_rfl) (by first | kernel_rfl | go_simp) (((rX.go b_V)).alloc _) ?_;simp only [Act.put, arr9, hd9, tl9];have bx : Below Y1.heap.size Y1 (Y1.alloc (.cells #[.slice Ar r.length cr, .slice At root.length ct, .slice Ai bi.length ci] 23)) := Below.alloc (Below.refl _ _) (Nat.le_refl _) _;have rB : Row (Y1.alloc (.cells #[.slice Ar r.length cr, .slice At root.length ct, .slice Ai bi.length ci] 23)) Y1.heap.size 23 [.slice Ar r.length cr, .slice At root.length ct, .slice Ai bi.length ci] := Row.new_ rfl rfl;have z_rB := asz Y1 (.cells #[.slice Ar r.length cr, .slice At root.length ct, .slice Ai bi.length ci] 23);generalize Y1.alloc (.cells #[.slice Ar r.length cr, .slice At root.length ct, .slice Ai bi.length ci] 23) = Y2 at *;replace b_V := Below.chain b_V bx;have b_Y1 := bx;have m_Y2 : Y1.heap.size <= Y2.heap.size := bx.size;clear bx;refine held_one 9 (by kernel_rfl) ?_;refine step_call 9 _ _ (some 20) 55 #[.slice (some ⟨Y1.heap.size, 0, none⟩) 3 3] (by rfl) (by kernel_rfl) (by first | kernel_rfl | go_simp) ?_;refine (show Calls Tryz.prog 55 #[.slice (some ⟨Y1.heap.size, 0, none⟩) 3 3] Y2 (OwnIs Y2 jj) by have h := refJoin_any Y2.heap.size Y2.heap.size (.slice (some ⟨Y1.heap.size, 0, none⟩) 3 3) [r, root, bi] Y2 (PartsO.three (rB).lt (Nat.ne_of_lt (rB).lt) (rB) ((sR.go b_V)) (((sR.go b_V)).off (Nat.le_refl _)) ((sT.go b_V)) (((sT.go b_V)).off (Nat.le_refl _)) ((sI.go b_Y1)) (((sI.go b_Y1)).off (Nat.le_refl _))) (Nat.le_refl _) (by rw [<- HQ.out.2.1]; have := HQ.out.2.2.1; omega) (by simp); rw [<- HQ.out.2.1] at h; exact h).mono ?_;rintro e Y3 ⟨v, rfl, gv⟩;have bx : Below Y2.heap.size Y2 Y3 := gv.2;obtain ⟨Aj, cj, vEq⟩ := own_form gv.1;subst vEq;have sJ : Sl Y3 Y3.heap.size (.slice Aj jj.length cj) jj := gives_sl gv;clear gv;replace b_V := Below.chain b_V bx;replace b_Y1 := Below.chain b_Y1 bx;have b_Y2 := bx;have m_Y3 : Y2.heap.size <= Y3.heap.size := bx.size;clear bx;refine ⟨_, rfl, (rX.go b_V), ?_⟩;simp only [Act.put, arr9, hd9, tl9];refine held_one 11 (by kernel_rfl) ?_;refine step_call 11 _ _ (some 22) 63 #[.agg ([.int .u32 xc, .bool xs, .int .i64 (Nn : Int), .int .i64 xh, .int .i64 xl]).toArray, .int .i64 2, .slice Aj jj.length cj, .slice Am msg.length cm] (by rfl) (by kernel_rfl) (by first | kernel_rfl | go_simp) ?_;refine (show Calls Tryz.prog 63 #[.agg #[.int .u32 xc, .bool xs, .int .i64 (Nn : Int), .int .i64 xh, .int .i64 xl], .int .i64 2, .slice Aj jj.length cj, .slice Am msg.length cm] Y3 (SlF Y3 out) by have h := HKY.out _ _ jj msg Y3 (sJ) ((sM.go b_V)) (by have := HQ.out.2.2.1; omega) HI.out.2.2; rw [<- HQ.out.2.2.2] at h; exact h).mono ?_;rintro e Y4 ⟨v, rfl, gv, bv, tv⟩;have bx : Below Y3.heap.size Y3 Y4 := bv;obtain ⟨Ak, ck, vEq, _, _⟩ := gv.form;subst vEq;have sN := gv;have tN := tv;clear gv tv;replace b_V := Below.chain b_V bx;replace b_Y1 := Below.chain b_Y1 bx;replace b_Y2 := Below.chain b_Y2 bx;have b_Y3 := bx;have m_Y4 : Y3.heap.size <= Y4.heap.size := bx.size;clear bx;refine ⟨_, rfl, (rX.go b_V), ?_⟩;simp only [Act.put, arr9, hd9, tl9];refine hdv0 12 10 (.slice Ak out.length ck) (by rfl) ((rX.go b_V)) ?_;refine wpAnyH_done (by kernel_rfl) ?_ _;have HR : Shh (Sl Y4 Y4.heap.size (.slice Ak out.length ck) out /\ Below w.heap.size w Y4 /\ ∀ g, ¬ tagU Y4 g -> Off g (.slice Ak out.length ck)) := ⟨sN, Below.chain HBV b_V, tN⟩;clear m_Y4 b_Y3 tN sN bv m_Y3 b_Y2 sJ m_Y2 b_Y1 z_rB rB m_Y1 b_V sI hS HBV rX sR sT sM;clear HKY HQ HI;go_wp2;go_ret;exact ⟨_, rfl, HR.out.1, HR.out.2.1, HR.out.2.2⟩
end Go.Proofs.YtdakbipiifkmfaaGreatDoor
namespace Go.Proofs.YtdakbipiifkmfaaGreatDoor
open Go.RowKit
set_option maxRecDepth 100000
theorem wordCells_one (l : List UInt32) : ∀ u ∈ wordCells l, u.oneCell' = true := by
 intro u hu;obtain ⟨v, _, rfl⟩ := List.mem_map.1 hu;rfl
def upB (s : Bool) (n : Int) (seed path : List UInt8) (i : Nat) (nd : List UInt8) : Nat -> List UInt8
 | 0 => nd
 | h + 1 => if i / 2 ^ h % 2 = 0 then nodeB s n seed (adr11 2 0 h (i / 2 ^ h / 2)) (upB s n seed path i nd h) (pieceB n.toNat path h)
  else nodeB s n seed (adr11 2 0 h (i / 2 ^ h / 2)) (pieceB n.toNat path h) (upB s n seed path i nd h)
theorem upB_length {x : S5} (hx : x.ok = true) (seed path : List UInt8) (i : Nat) (nd : List UInt8) (hn : nd.length = x.n.toNat) (h : Nat) : (upB x.s x.n seed path i nd h).length = x.n.toNat := by
 cases h with
 | zero => exact hn
 | succ h =>
  unfold upB
  split <;> exact nodeB_length hx _ _ _ _
def cameB (s : Bool) (n : Int) (L H : Nat) (seed root msg sig : List UInt8) (i : Nat) : List UInt8 :=
 upB s n seed (sig.drop (4 + n.toNat + L * n.toNat)) i (ltreeB s n L seed (onB s n seed (adr11 0 i 0 0) (fun j => (dig10 (sumdB s n ((sig.take (4 + n.toNat)).drop 4) root i msg)).getD j 0) ((sig.take (4 + n.toNat + L * n.toNat)).drop (4 + n.toNat)) L) i) H
theorem slice_from11 {w : World} {B n c : Nat} {A : Option Addr} {bs : List UInt8} (h : Sl w B (.slice A n c) bs) (j : Nat) (hj : j <= n) (hn : n <= c) :
  ∃ A' c', (∀ u, (Instr.sliceAt 23 (.slice A n c) (some (.int .i64 (j : Int))) none none).run Tryz.prog u = .ok (.slice A' (bs.drop j).length c') u) /\ Sl w B (.slice A' (bs.drop j).length c') (bs.drop j) := by
 have hcut := h.cut j n hj (Nat.le_refl _) hn;have hl := h.len;rw [List.take_of_length_le (by omega)] at hcut;obtain ⟨A', c', hv, _⟩ := hcut.form;refine ⟨A', c', fun u => ?_, by rw [<- hv]; exact hcut⟩;rw [run_sliceAt_slice _ _ _ _ _ _ slice30, run_slice_l u 23 A n c slice30 .i64 (j : Int) (by omega) (by omega), elem30, run_sizeOf_u8, Result.andThen_ok, Int.toNat_natCast, hv]
section
variable {a : Act} {x y : Operand} {op : Oper} {w : World}
theorem add_cl {n m : Nat} (h : m = 4 + n /\ n <= 1000) (ho : op.op = .binOp .add 3 (.const (.int .i64 4)) y 3) (hy : a.eval y = .int .i64 (n : Int)) : (execOp a.eval op).run Tryz.prog w = .ok (.value (.int .i64 (m : Int))) w := by
 have hc : a.eval (.const (.int .i64 4)) = .int .i64 4 := rfl;have hw : IntKind.i64.wrap ((4 : Int) + (n : Int)) = (m : Int) := by rw [IntKind.wrap_i64]; omega
 unfold execOp;simp only [ho, hy, hc]
 go_simp
theorem mul_ii {n k m : Nat} (h : m = k * n /\ m <= 100000) (ho : op.op = .binOp .mul 3 x y 3) (hx : a.eval x = .int .i64 (k : Int)) (hy : a.eval y = .int .i64 (n : Int)) : (execOp a.eval op).run Tryz.prog w = .ok (.value (.int .i64 (m : Int))) w := by
 have hw : IntKind.i64.wrap ((k : Int) * (n : Int)) = (m : Int) := by rw [<- Int.natCast_mul, <- h.1, IntKind.wrap_i64]; omega
 unfold execOp;simp only [ho, hx, hy]
 go_simp
theorem add_ii {n k m : Nat} (h : m = k + n /\ m <= 100000) (ho : op.op = .binOp .add 3 x y 3) (hx : a.eval x = .int .i64 (k : Int)) (hy : a.eval y = .int .i64 (n : Int)) : (execOp a.eval op).run Tryz.prog w = .ok (.value (.int .i64 (m : Int))) w := by
 have hw : IntKind.i64.wrap ((k : Int) + (n : Int)) = (m : Int) := by rw [IntKind.wrap_i64]; omega
 unfold execOp;simp only [ho, hx, hy]
 go_simp
end
set_option maxHeartbeats 4000000 in
theorem refCame_any (x : S5) (hx : x.ok = true) (vs vt vm vg : Value) (seed root msg sig : List UInt8) (i : Nat) (hi : i < 4294967296) (Lx Nn H : Nat) (hLx : x.l = (Lx : Int)) (hNn : x.n = (Nn : Int)) (hH : x.h = (H : Int)) (hsl : seed.length <= 1000) (htl : root.length <= 1000) (hml : msg.length <= 100000) (hgl : sig.length = 4 + Nn + (Lx + H) * Nn) (w : World) (hs : Sl w w.heap.size vs seed) (ht : Sl w w.heap.size vt root) (hm : Sl w w.heap.size vm msg) (hg : Sl w w.heap.size vg sig) :
  Calls Tryz.prog 76 #[x.v, vs, vt, vm, vg, .int .u32 (i : Int)] w (SlIs w (cameB x.s x.n Lx H seed root msg sig i)) := by
 unfold SlIs;obtain ⟨As, cs, rfl, _, _⟩ := hs.form;obtain ⟨At, ct, rfl, _, _⟩ := ht.form;obtain ⟨Am, cm, rfl, _, _⟩ := hm.form;obtain ⟨Ag, cg, rfl, hcg, _⟩ := hg.form;have hn := S5.ok_is hx;have hh : H <= 20 := by obtain ⟨h, h1, h2⟩ := ok_h hx; omega
 have hNt : x.n.toNat = Nn := by omega
 have hNL : Nn <= 32 /\ 0 < Lx /\ Lx <= 67 := by omega
 obtain ⟨m1, hm1⟩ : ∃ m1, m1 = Lx * Nn := ⟨_, rfl⟩;obtain ⟨p1, hp1⟩ : ∃ p1, p1 = H * Nn := ⟨_, rfl⟩;obtain ⟨a1, ha1⟩ : ∃ a1, a1 = 4 + Nn := ⟨_, rfl⟩;obtain ⟨a2, ha2⟩ : ∃ a2, a2 = a1 + m1 := ⟨_, rfl⟩;have hsum : sig.length = a2 + p1 := by rw [hgl, Nat.add_mul, <- hm1, <- hp1]; omega
 have hm1b : m1 <= 2144 := by rw [hm1]; exact Nat.mul_le_mul hNL.2.2 hNL.1
 have hp1b : p1 <= 640 := by rw [hp1]; exact Nat.mul_le_mul hh hNL.1
 obtain ⟨r, hr⟩ : ∃ r, r = (sig.take a1).drop 4 := ⟨_, rfl⟩;obtain ⟨ots, hots⟩ : ∃ ots, ots = (sig.take a2).drop a1 := ⟨_, rfl⟩;obtain ⟨pt, hpt⟩ : ∃ pt, pt = sig.drop a2 := ⟨_, rfl⟩;have hrl : r.length <= 1000 := by rw [hr, List.length_drop, List.length_take]; omega
 have hol : ots.length = Lx * Nn := by rw [hots, List.length_drop, List.length_take, <- hm1]; omega
 have hpl : pt.length = H * Nn := by rw [hpt, List.length_drop, <- hp1]; omega
 obtain ⟨sm, hsm⟩ : ∃ sm, sm = sumdB x.s x.n r root i msg := ⟨_, rfl⟩;obtain ⟨on, hon⟩ : ∃ on, on = onB x.s x.n seed (adr11 0 i 0 0) (fun j => (dig10 sm).getD j 0) ots Lx := ⟨_, rfl⟩;obtain ⟨lt, hlt⟩ : ∃ lt, lt = ltreeB x.s x.n Lx seed on i := ⟨_, rfl⟩;have hsml : sm.length = Nn := by rw [hsm, <- hNt]; exact (ok_len hx 2 _ _).1
 have honl : on.length = Lx * Nn := by rw [hon, onB_len hx seed _ _ ots Lx Lx (by rw [hol, hNt]) (Nat.le_refl _), hNt, Nat.mul_comm]
 have hltl : lt.length = Nn := by rw [hlt, ltreeB_length hx seed on i Lx hNL.2.1 (by rw [honl, hNt]), hNt]
 obtain ⟨out, hout⟩ : ∃ out, out = cameB x.s x.n Lx H seed root msg sig i := ⟨_, rfl⟩;have houp : out = upB x.s x.n seed pt i lt H := by
  rw [hout, hlt, hon, hsm, hr, hots, hpt, ha2, ha1, hm1];unfold cameB;rw [hNt]
 rw [<- hout];obtain ⟨LA, hLA⟩ : ∃ LA, LA = wordCells (adr11 0 i 0 0) := ⟨_, rfl⟩;obtain ⟨Ar, cr, runR, sR⟩ := slice_mid10 hg 4 a1 (by omega) (by omega) hcg;obtain ⟨Ao, co, runO, sO⟩ := slice_mid10 hg a1 a2 (by omega) (by omega) hcg;obtain ⟨Ap, cp, runP, sP⟩ := slice_from11 hg a2 (by omega) hcg;rw [<- hr] at runR sR;rw [<- hots] at runO sO;rw [<- hpt] at runP sP
 have HC : Shh ((∀ W, Sl W W.heap.size (.slice Ar r.length cr) r -> Sl W W.heap.size (.slice At root.length ct) root -> Sl W W.heap.size (.slice Am msg.length cm) msg -> Calls Tryz.prog 65 #[x.v, .slice Ar r.length cr, .slice At root.length ct, .int .u32 (i : Int), .slice Am msg.length cm] W (SlF W sm)) /\
   (∀ W, Calls Tryz.prog 41 #[.int .i64 0, .int .u32 (i : Int), .int .u32 0, .int .u32 0] W (OldIs (.agg LA.toArray) W)) /\
   (∀ W v, Sl W W.heap.size (.slice As seed.length cs) seed -> Sl W W.heap.size v sm -> Sl W W.heap.size (.slice Ao ots.length co) ots -> Calls Tryz.prog 108 #[x.v, .slice As seed.length cs, v, .slice Ao ots.length co, .agg LA.toArray] W (SlIs W on)) /\
   (∀ W v, Sl W W.heap.size (.slice As seed.length cs) seed -> Sl W W.heap.size v on -> Calls Tryz.prog 46 #[x.v, .slice As seed.length cs, v, .int .u32 (i : Int)] W (SlF W lt))) := by
  refine ⟨fun W h1 h2 h3 => ?_, fun W => ?_, fun W v h1 h2 h3 => ?_, fun W v h1 h2 => ?_⟩
  ·rw [hsm]; exact refSummed_any x hx _ _ _ r root msg i hi W h1 h2 h3 hrl htl hml
  ·have h := refAt11_any 0 i 0 0 (by decide) hi (by decide) (by decide) W;unfold adrV at h;rw [<- hLA] at h;exact h
  ·have h := refOn_any x hx _ _ _ seed sm ots (adr11 0 i 0 0) rfl Lx Nn hLx hNn hsml hol W h1 h2 h3 hsl;unfold adrV at h;rw [<- hLA, <- hon] at h;exact h
  ·rw [hlt]; exact refLtree11_any x hx _ _ seed on i hi Lx Nn hLx hNn honl (by omega) W h1 h2
 have HND : Shh ((∀ (h q : Nat) (W : World), h < 4294967296 -> q < 4294967296 -> Calls Tryz.prog 41 #[.int .i64 2, .int .u32 0, .int .u32 (h : Int), .int .u32 (q : Int)] W (OldIs (.agg (wordCells (adr11 2 0 h q)).toArray) W)) /\
   (∀ (W : World) (vl vr : Value) (l r : List UInt8) (h q : Nat), Sl W W.heap.size (.slice As seed.length cs) seed -> Sl W W.heap.size vl l -> Sl W W.heap.size vr r -> l.length = Nn -> r.length = Nn -> Calls Tryz.prog 45 #[x.v, .slice As seed.length cs, .agg (wordCells (adr11 2 0 h q)).toArray, vl, vr] W (SlF W (nodeB x.s x.n seed (adr11 2 0 h q) l r)))) := by
  refine ⟨fun h q W h1 h2 => ?_, fun W vl vr l r h q h1 h2 h3 h4 h5 => ?_⟩
  ·exact refAt11_any 2 0 h q (by decide) (by decide) h1 h2 W
  ·have h := refNode11_any x hx _ vl vr seed l r (adr11 2 0 h q) rfl W h1 h2 h3 (by omega) (by omega) (by omega);exact h
 have HUL : Shh ((∀ h, (upB x.s x.n seed pt i lt h).length = Nn) /\ (∀ h, h < H -> (pieceB Nn pt h).length = Nn) /\ out = upB x.s x.n seed pt i lt H /\ i < 4294967296 /\ H <= 20 /\ Nn <= 32 /\ pt.length = H * Nn /\ pt.length <= cp) := ⟨fun h => by rw [<- hNt]; exact upB_length hx seed pt i lt (by rw [hltl, hNt]) h, fun h hl => pieceB_length _ _ _ H hpl hl, houp, hi, hh, hNL.1, hpl, by obtain ⟨_, _, hq, hch, _⟩ := sP.form; cases hq; exact hch⟩;have HZ : Shh ((a1 = 4 + Nn /\ Nn <= 1000) /\ (m1 = Lx * Nn /\ m1 <= 100000) /\ (a2 = a1 + m1 /\ a2 <= 100000)) := ⟨⟨ha1, by omega⟩, ⟨hm1, by omega⟩, ha2, by omega⟩;have runR : ∀ u, (Instr.sliceAt 23 (.slice Ag sig.length cg) (some (.int .i64 4)) (some (.int .i64 (a1 : Int))) none).run Tryz.prog u = .ok (.slice Ar r.length cr) u := runR;obtain ⟨W, hW⟩ : ∃ W, W = w.alloc (.cells #[.int .u32 x.c, .bool x.s, .int .i64 x.n, .int .i64 x.h, .int .i64 x.l] 27) := ⟨_, rfl⟩;have HW : Shh (Row W w.heap.size 27 [.int .u32 x.c, .bool x.s, .int .i64 x.n, .int .i64 x.h, .int .i64 x.l] /\ Sl W W.heap.size (.slice As seed.length cs) seed /\ Sl W W.heap.size (.slice At root.length ct) root /\ Sl W W.heap.size (.slice Am msg.length cm) msg /\ Sl W W.heap.size (.slice Ar r.length cr) r /\ Sl W W.heap.size (.slice Ao ots.length co) ots /\ Sl W W.heap.size (.slice Ap pt.length cp) pt /\ Below w.heap.size w W) := by
  rw [hW];exact ⟨Row.new_ rfl rfl, hs.go (below1 _ _), ht.go (below1 _ _), hm.go (below1 _ _), sR.go (below1 _ _), sO.go (below1 _ _), sP.go (below1 _ _), below1 _ _⟩
 clear hs ht hm hg hcg hn hh hNt hNL hsum hm1b hp1b hrl hol hpl hsml honl hltl houp hout hsm hon hlt hr hots hpt ha1 ha2 hm1 hp1 hLA sR sO sP hx hi hsl htl hml hgl;unfold S5.v at HC HND ⊢;generalize x.c = xc at *;generalize x.s = xs at *;generalize x.n = xn at *;generalize x.h = xh at *;generalize x.l = xl at *;subst hLx;subst hNn;subst hH;go_enter Tryz.func76, Tryz.ntmps76;have c2 := HW.out.1.cell 2;simp only [List.getElem?_cons_succ, List.getElem?_cons_zero] at c2;rw [hW] at c2;go_wp2;rw [<- hW];clear hW c2;refine wp_region_held_drew (S := fun w' => Row w' w.heap.size 27 [.int .u32 xc, .bool xs, .int .i64 (Nn : Int), .int .i64 (H : Int), .int .i64 (Lx : Int)]) (by kernel_rfl) HW.out.1.drew (fun hS => ?_);obtain ⟨V, hV⟩ : ∃ V, V = World.drew W := ⟨_, rfl⟩;rw [<- hV] at hS ⊢;have HV : Shh (Row V w.heap.size 27 [.int .u32 xc, .bool xs, .int .i64 (Nn : Int), .int .i64 (H : Int), .int .i64 (Lx : Int)] /\ Sl V V.heap.size (.slice As seed.length cs) seed /\ Sl V V.heap.size (.slice At root.length ct) root /\ Sl V V.heap.size (.slice Am msg.length cm) msg /\ Sl V V.heap.size (.slice Ar r.length cr) r /\ Sl V V.heap.size (.slice Ao ots.length co) ots /\ Sl V V.heap.size (.slice Ap pt.length cp) pt /\ Below w.heap.size w V) := by
  rw [hV];exact ⟨HW.out.1.drew, HW.out.2.1.drew, HW.out.2.2.1.drew, HW.out.2.2.2.1.drew, HW.out.2.2.2.2.1.drew, HW.out.2.2.2.2.2.1.drew, HW.out.2.2.2.2.2.2.1.drew, HW.out.2.2.2.2.2.2.2.drew⟩
 have rX := HV.out.1;clear hV HW;refine hdv0 0 24 (.slice Ag sig.length cg) (by rfl) (rX) ?_;refine hdv0 1 25 (.int .i64 (Nn : Int)) (by rfl) (rX) ?_;refine hdv 2 26 (.int .i64 (a1 : Int)) (by rfl) (fun w hS => add_cl HZ.out.1 rfl (by kernel_rfl)) (rX) ?_;refine hdv 3 27 (.slice Ar r.length cr) (by rfl) (fun w hS => run_slice_op_lh ⟨rfl, rfl, rfl⟩ (runR w)) (rX) ?_;refine hdv0 4 28 (.slice Ag sig.length cg) (by rfl) (rX) ?_;refine hdv0 5 29 (.int .i64 (Nn : Int)) (by rfl) (rX) ?_;refine hdv 6 30 (.int .i64 (a1 : Int)) (by rfl) (fun w hS => add_cl HZ.out.1 rfl (by kernel_rfl)) (rX) ?_;refine hdv0 7 31 (.int .i64 (Nn : Int)) (by rfl) (rX) ?_;refine hdv 8 32 (.int .i64 (a1 : Int)) (by rfl) (fun w hS => add_cl HZ.out.1 rfl (by kernel_rfl)) (rX) ?_;refine hdv0 9 33 (.pointer (some ⟨w.heap.size, 4, none⟩)) (by rfl) (rX) ?_;refine hdv 10 34 (.int .i64 (Lx : Int)) (by rfl) (fun w hS => load_i rfl (hS.cell 4) (by kernel_rfl)) (rX) ?_;refine hdv0 11 35 (.int .i64 (Nn : Int)) (by rfl) (rX) ?_;refine hdv 12 36 (.int .i64 (m1 : Int)) (by rfl) (fun w hS => mul_ii HZ.out.2.1 rfl (by kernel_rfl) (by kernel_rfl)) (rX) ?_;refine hdv 13 37 (.int .i64 (a2 : Int)) (by rfl) (fun w hS => add_ii HZ.out.2.2 rfl (by kernel_rfl) (by kernel_rfl)) (rX) ?_;refine hdv 14 38 (.slice Ao ots.length co) (by rfl) (fun w hS => run_slice_op_lh ⟨rfl, rfl, rfl⟩ (runO w)) (rX) ?_;refine hdv0 15 39 (.slice Ag sig.length cg) (by rfl) (rX) ?_;refine hdv0 16 40 (.int .i64 (Nn : Int)) (by rfl) (rX) ?_;refine hdv 17 41 (.int .i64 (a1 : Int)) (by rfl) (fun w hS => add_cl HZ.out.1 rfl (by kernel_rfl)) (rX) ?_;refine hdv0 18 42 (.pointer (some ⟨w.heap.size, 4, none⟩)) (by rfl) (rX) ?_;refine hdv 19 43 (.int .i64 (Lx : Int)) (by rfl) (fun w hS => load_i rfl (hS.cell 4) (by kernel_rfl)) (rX) ?_;refine hdv0 20 44 (.int .i64 (Nn : Int)) (by rfl) (rX) ?_;refine hdv 21 45 (.int .i64 (m1 : Int)) (by rfl) (fun w hS => mul_ii HZ.out.2.1 rfl (by kernel_rfl) (by kernel_rfl)) (rX) ?_;refine hdv 22 46 (.int .i64 (a2 : Int)) (by rfl) (fun w hS => add_ii HZ.out.2.2 rfl (by kernel_rfl) (by kernel_rfl)) (rX) ?_;refine hdv 23 47 (.slice Ap pt.length cp) (by rfl) (fun w hS => run_slice_op_lo ⟨rfl, rfl⟩ (runP w)) (rX) ?_;refine hdv0 24 14 (.slice Ar r.length cr) (by rfl) (rX) ?_;refine hdv0 25 15 (.slice Ao ots.length co) (by rfl) (rX) ?_;refine hdv0 26 16 (.slice Ap pt.length cp) (by rfl) (rX) ?_;refine wpAnyH_done (by kernel_rfl) ?_ _;clear hS rX runR runO runP
 go_wp2_with fail
 refine wp_region_held_drew (S := fun w' => Row w' w.heap.size 27 [.int .u32 xc, .bool xs, .int .i64 (Nn : Int), .int .i64 (H : Int), .int .i64 (Lx : Int)]) (by kernel_rfl) HV.out.1.drew (fun hS => ?_);obtain ⟨V2, hV⟩ : ∃ V2, V2 = World.drew V := ⟨_, rfl⟩;rw [<- hV] at hS ⊢;have HV2 : Shh (Row V2 w.heap.size 27 [.int .u32 xc, .bool xs, .int .i64 (Nn : Int), .int .i64 (H : Int), .int .i64 (Lx : Int)] /\ Sl V2 V2.heap.size (.slice As seed.length cs) seed /\ Sl V2 V2.heap.size (.slice At root.length ct) root /\ Sl V2 V2.heap.size (.slice Am msg.length cm) msg /\ Sl V2 V2.heap.size (.slice Ar r.length cr) r /\ Sl V2 V2.heap.size (.slice Ao ots.length co) ots /\ Sl V2 V2.heap.size (.slice Ap pt.length cp) pt /\ Below w.heap.size w V2) := by
  rw [hV];exact ⟨HV.out.1.drew, HV.out.2.1.drew, HV.out.2.2.1.drew, HV.out.2.2.2.1.drew, HV.out.2.2.2.2.1.drew, HV.out.2.2.2.2.2.1.drew, HV.out.2.2.2.2.2.2.1.drew, HV.out.2.2.2.2.2.2.2.drew⟩
 clear hV HV;generalize V2 = V at *;have rX := HV2.out.1;have sS := HV2.out.2.1;have sT := HV2.out.2.2.1;have sM := HV2.out.2.2.2.1;have sR := HV2.out.2.2.2.2.1;have sO := HV2.out.2.2.2.2.2.1;have HPT : Shh (Sl V V.heap.size (.slice Ap pt.length cp) pt) := ⟨HV2.out.2.2.2.2.2.2.1⟩;have HBV := HV2.out.2.2.2.2.2.2.2;clear HV2;refine hdv0 1 49 (.slice As seed.length cs) (by rfl) (rX) ?_;refine hdv0 3 51 (.slice As seed.length cs) (by rfl) (rX) ?_;refine hdv0 5 53 (.slice Ar r.length cr) (by rfl) (rX) ?_;refine hdv0 6 54 (.slice At root.length ct) (by rfl) (rX) ?_;refine hdv0 7 55 (.int .u32 (i : Int)) (by rfl) (rX) ?_;refine hdv0 8 56 (.slice Am msg.length cm) (by rfl) (rX) ?_;refine hdv0 10 58 (.slice Ao ots.length co) (by rfl) (rX) ?_;refine hdv0 11 59 (.int .u32 (i : Int)) (by rfl) (rX) ?_;refine hdv0 14 62 (.int .u32 (i : Int)) (by rfl) (rX) ?_;refine held_load 0 27 (.tmp 6) (some 48) (by kernel_rfl) (by rfl) (by kernel_rfl) w.heap.size 0 (by kernel_rfl) ([.int .u32 xc, .bool xs, .int .i64 (Nn : Int), .int .i64 (H : Int), .int .i64 (Lx : Int)]) _ (fun w h => h.range) Tryz.underlying27 rfl (info_xms) (fun _ _ _ _ h => h) (rX) ?_;simp only [Act.put, arr9, hd9, tl9];refine held_load 2 27 (.tmp 6) (some 50) (by kernel_rfl) (by rfl) (by kernel_rfl) w.heap.size 0 (by kernel_rfl) ([.int .u32 xc, .bool xs, .int .i64 (Nn : Int), .int .i64 (H : Int), .int .i64 (Lx : Int)]) _ (fun w h => h.range) Tryz.underlying27 rfl (info_xms) (fun _ _ _ _ h => h) (rX) ?_;simp only [Act.put, arr9, hd9, tl9];refine held_load 4 27 (.tmp 6) (some 52) (by kernel_rfl) (by rfl) (by kernel_rfl) w.heap.size 0 (by kernel_rfl) ([.int .u32 xc, .bool xs, .int .i64 (Nn : Int), .int .i64 (H : Int), .int .i64 (Lx : Int)]) _ (fun w h => h.range) Tryz.underlying27 rfl (info_xms) (fun _ _ _ _ h => h) (rX) ?_;simp only [Act.put, arr9, hd9, tl9];refine held_one 9 (by kernel_rfl) ?_;refine step_call 9 _ _ (some 57) 65 #[.agg ([.int .u32 xc, .bool xs, .int .i64 (Nn : Int), .int .i64 (H : Int), .int .i64 (Lx : Int)]).toArray, .slice Ar r.length cr, .slice At root.length ct, .int .u32 (i : Int), .slice Am msg.length cm] (by rfl) (by kernel_rfl) (by first | kernel_rfl | go_simp) ?_;refine (show Calls Tryz.prog 65 #[.agg #[.int .u32 xc, .bool xs, .int .i64 (Nn : Int), .int .i64 (H : Int), .int .i64 (Lx : Int)], .slice Ar r.length cr, .slice At root.length ct, .int .u32 (i : Int), .slice Am msg.length cm] V (SlF V sm) by exact HC.out.1 V (sR) (sT) (sM)).mono ?_;rintro e Y1 ⟨v, rfl, gv, bv, tv⟩;have bx : Below V.heap.size V Y1 := bv;obtain ⟨Aq, cq, vEq, _, _⟩ := gv.form;subst vEq;have sQ := gv;clear gv tv;have b_V := bx;have m_Y1 : V.heap.size <= Y1.heap.size := bx.size;clear bx;refine ⟨_, rfl, (rX.go b_V), ?_⟩;simp only [Act.put, arr9, hd9, tl9];refine held_one 12 (by kernel_rfl) ?_;refine step_call 12 _ _ (some 60) 41 #[.int .i64 0, .int .u32 (i : Int), .int .u32 0, .int .u32 0] (by rfl) (by kernel_rfl) (by first | kernel_rfl | go_simp) ?_;refine (show Calls Tryz.prog 41 #[.int .i64 0, .int .u32 (i : Int), .int .u32 0, .int .u32 0] Y1 (OldIs (.agg LA.toArray) Y1) by exact HC.out.2.1 Y1).mono ?_;unfold OldIs; rintro e Y2 ⟨rfl, b4⟩;have bx : Below Y1.heap.size Y1 Y2 := b4;clear b4;replace b_V := Below.chain b_V bx;have b_Y1 := bx;have m_Y2 : Y1.heap.size <= Y2.heap.size := bx.size;clear bx;refine ⟨_, rfl, (rX.go b_V), ?_⟩;simp only [Act.put, arr9, hd9, tl9];refine held_one 13 (by kernel_rfl) ?_;refine step_call 13 _ _ (some 61) 108 #[.agg ([.int .u32 xc, .bool xs, .int .i64 (Nn : Int), .int .i64 (H : Int), .int .i64 (Lx : Int)]).toArray, .slice As seed.length cs, .slice Aq sm.length cq, .slice Ao ots.length co, .agg LA.toArray] (by rfl) (by kernel_rfl) (by first | kernel_rfl | go_simp) ?_;refine (show Calls Tryz.prog 108 #[.agg #[.int .u32 xc, .bool xs, .int .i64 (Nn : Int), .int .i64 (H : Int), .int .i64 (Lx : Int)], .slice As seed.length cs, .slice Aq sm.length cq, .slice Ao ots.length co, .agg LA.toArray] Y2 (SlIs Y2 on) by exact HC.out.2.2.1 Y2 _ ((sS.go b_V)) ((sQ.go b_Y1)) ((sO.go b_V))).mono ?_;rintro e Y3 ⟨v, rfl, gv, bv⟩;have bx : Below Y2.heap.size Y2 Y3 := bv;obtain ⟨An, cn, vEq, _, _⟩ := gv.form;subst vEq;have sN := gv;clear gv;replace b_V := Below.chain b_V bx;replace b_Y1 := Below.chain b_Y1 bx;have b_Y2 := bx;have m_Y3 : Y2.heap.size <= Y3.heap.size := bx.size;clear bx;refine ⟨_, rfl, (rX.go b_V), ?_⟩;simp only [Act.put, arr9, hd9, tl9];refine held_one 15 (by kernel_rfl) ?_;refine step_call 15 _ _ (some 63) 46 #[.agg ([.int .u32 xc, .bool xs, .int .i64 (Nn : Int), .int .i64 (H : Int), .int .i64 (Lx : Int)]).toArray, .slice As seed.length cs, .slice An on.length cn, .int .u32 (i : Int)] (by rfl) (by kernel_rfl) (by first | kernel_rfl | go_simp) ?_;refine (show Calls Tryz.prog 46 #[.agg #[.int .u32 xc, .bool xs, .int .i64 (Nn : Int), .int .i64 (H : Int), .int .i64 (Lx : Int)], .slice As seed.length cs, .slice An on.length cn, .int .u32 (i : Int)] Y3 (SlF Y3 lt) by exact HC.out.2.2.2 Y3 _ ((sS.go b_V)) (sN)).mono ?_;rintro e Y4 ⟨v, rfl, gv, bv, tv⟩;have bx : Below Y3.heap.size Y3 Y4 := bv;obtain ⟨Al, cl, vEq, _, _⟩ := gv.form;subst vEq;have sL := gv;clear gv tv;replace b_V := Below.chain b_V bx;replace b_Y1 := Below.chain b_Y1 bx;replace b_Y2 := Below.chain b_Y2 bx;have b_Y3 := bx;have m_Y4 : Y3.heap.size <= Y4.heap.size := bx.size;clear bx;refine ⟨_, rfl, (rX.go b_V), ?_⟩;simp only [Act.put, arr9, hd9, tl9];refine hdv0 16 17 (.slice Al lt.length cl) (by rfl) ((rX.go b_V)) ?_;refine wpAnyH_done (by kernel_rfl) ?_ _;have HL0 : Shh (Row Y4 w.heap.size 27 [.int .u32 xc, .bool xs, .int .i64 (Nn : Int), .int .i64 (H : Int), .int .i64 (Lx : Int)] /\ Sl Y4 Y4.heap.size (.slice As seed.length cs) seed /\ Sl Y4 Y4.heap.size (.slice Ap pt.length cp) pt /\ Sl Y4 Y4.heap.size (.slice Al lt.length cl) lt /\ Below w.heap.size w Y4) := ⟨(rX.go b_V), (sS.go b_V), HPT.out.go b_V, sL, Below.chain HBV b_V⟩;clear m_Y4 b_Y3 sL m_Y3 b_Y2 sN m_Y2 b_Y1 m_Y1 b_V sQ bv hS HBV HPT rX sS sT sM sR sO;clear HC;generalize hW9 : Y4 = W9 at HL0 ⊢;clear hW9;have c3 := HL0.out.1.cell 3;simp only [List.getElem?_cons_succ, List.getElem?_cons_zero] at c3;go_wp2;clear c3;go_loopw [17, 18, 67] (fun nv at_ ih wr => ∃ h : Nat, h <= H /\ ih = .int .i64 (h : Int) /\ at_ = .int .u32 ((i / 2 ^ h : Nat) : Int) /\ Shh (Row wr w.heap.size 27 [.int .u32 xc, .bool xs, .int .i64 (Nn : Int), .int .i64 (H : Int), .int .i64 (Lx : Int)] /\ Sl wr wr.heap.size (.slice As seed.length cs) seed /\ Sl wr wr.heap.size (.slice Ap pt.length cp) pt /\ Sl wr wr.heap.size nv (upB xs (Nn : Int) seed pt i lt h) /\ Below w.heap.size w wr)) (fun _ _ ih _ => H - (intOf ih).toNat)
 case atStart => exact ⟨0, Nat.zero_le _, rfl, by simp, HL0⟩
 case round =>
  clear HL0;obtain ⟨h, hh, rfl, rfl, HL⟩ := hrel;have hnv := HL.out.2.2.2.1;obtain ⟨Av, cv, rfl, _, _⟩ := hnv.form;clear hnv
  by_cases hlt : h < H
  ·obtain ⟨i1, hi1⟩ : ∃ i1, i1 = h * Nn := ⟨_, rfl⟩;obtain ⟨i2, hi2⟩ : ∃ i2, i2 = (h + 1) * Nn := ⟨_, rfl⟩;have hH20 := HUL.out.2.2.2.2.1;have hN32 := HUL.out.2.2.2.2.2.1;have hi12 : i1 <= i2 /\ i2 <= 640 := by
    have h1 : (h + 1) * Nn <= 20 * 32 := Nat.mul_le_mul (by omega) hN32;have h2 : h * Nn <= (h + 1) * Nn := Nat.mul_le_mul_right _ (by omega);omega
   have hgl2 : i2 <= pt.length := by
    rw [hi2, HUL.out.2.2.2.2.2.2.1];exact Nat.mul_le_mul_right _ (by omega)
   have hm1 : IntKind.i64.wrap ((h : Int) * (Nn : Int)) = (i1 : Int) := by rw [<- Int.natCast_mul, <- hi1, IntKind.wrap_i64]; omega
   have hm2 : IntKind.i64.wrap (((h : Int) + 1) * (Nn : Int)) = (i2 : Int) := by
    have e : ((h : Int) + 1) * (Nn : Int) = (((h + 1) * Nn : Nat) : Int) := by push_cast; rfl
    rw [e, <- hi2, IntKind.wrap_i64]; omega
   have hk1 : IntKind.i64.wrap ((h : Int) + 1) = (h : Int) + 1 := by rw [IntKind.wrap_i64]; omega
   have hk2 : IntKind.u32.wrap (h : Int) = (h : Int) := by rw [IntKind.wrap_u32]; omega
   obtain ⟨Ab, cb, runB, sB⟩ := slice_mid10 HL.out.2.2.1 i1 i2 hi12.1 hgl2 HUL.out.2.2.2.2.2.2.2;obtain ⟨bs, hbs⟩ : ∃ bs, bs = (pt.take i2).drop i1 := ⟨_, rfl⟩;rw [<- hbs] at runB sB;have HB : Shh (Sl wr wr.heap.size (.slice Ab bs.length cb) bs /\ bs.length = Nn /\ pieceB Nn pt h = bs) := by
    have e : pieceB Nn pt h = bs := by rw [hbs, hi1, hi2]; rfl
    exact ⟨sB, by rw [<- e]; exact HUL.out.2.1 h hlt, e⟩
   clear hi1 hi2 hbs sB;obtain ⟨q, hq⟩ : ∃ q, q = i / 2 ^ h := ⟨_, rfl⟩;have hqi : q <= i := by rw [hq]; exact Nat.div_le_self _ _
   have hi32 := HUL.out.2.2.2.1;have HQ : Shh (i / 2 ^ h = q /\ q < 4294967296 /\ i / 2 ^ (h + 1) = q / 2) := ⟨hq.symm, by omega, by rw [Nat.pow_succ, <- Nat.div_div_eq_div_mul, <- hq]⟩;rw [<- hq];clear hq hqi hi32 hi12 hgl2;have hc : (h : Int) < (H : Int) := by omega
   obtain ⟨q2, hq2⟩ : ∃ q2, q2 = q / 2 := ⟨_, rfl⟩;have hd2 : (q : Int) / 2 % 4294967296 = (q2 : Int) := by have := HQ.out.2.1; omega
   have HQ2 : Shh (q / 2 = q2) := ⟨hq2.symm⟩;have hq32 : q2 < 4294967296 := by have := HQ.out.2.1; omega
   have HQL := Shh.mk hq32;have hh32 : h < 4294967296 := by omega
   have HHL := Shh.mk hh32;clear hq2 hq32 hh32 hH20 hN32;obtain ⟨LB, hLB⟩ : ∃ LB, LB = wordCells (adr11 2 0 h q2) := ⟨_, rfl⟩;have HLB : Shh (LB.length = 8 /\ (∀ u ∈ LB, u.oneCell' = true) /\ ∀ W, Calls Tryz.prog 41 #[.int .i64 2, .int .u32 0, .int .u32 (h : Int), .int .u32 (q2 : Int)] W (OldIs (.agg LB.toArray) W)) := ⟨by rw [hLB, wordCells_length]; rfl, by rw [hLB]; exact wordCells_one _, fun W => by rw [hLB]; exact HND.out.1 h q2 W HHL.out HQL.out⟩;obtain ⟨uh, huh⟩ : ∃ uh, uh = upB xs (Nn : Int) seed pt i lt h := ⟨_, rfl⟩;have HUH : Shh (uh.length = Nn /\ upB xs (Nn : Int) seed pt i lt h = uh) := ⟨by rw [huh]; exact HUL.out.1 h, huh.symm⟩;have HNL : Shh (∀ (W : World) (vl vr : Value) (l r : List UInt8), Sl W W.heap.size (.slice As seed.length cs) seed -> Sl W W.heap.size vl l -> Sl W W.heap.size vr r -> l.length = Nn -> r.length = Nn -> Calls Tryz.prog 45 #[.agg #[.int .u32 xc, .bool xs, .int .i64 (Nn : Int), .int .i64 (H : Int), .int .i64 (Lx : Int)], .slice As seed.length cs, .agg LB.toArray, vl, vr] W (SlF W (nodeB xs (Nn : Int) seed (adr11 2 0 h q2) l r))) := ⟨fun W vl vr l r h1 h2 h3 h4 h5 => by rw [hLB]; exact HND.out.2 W vl vr l r h q2 h1 h2 h3 h4 h5⟩;have H1 : Shh (Row wr w.heap.size 27 [.int .u32 xc, .bool xs, .int .i64 (Nn : Int), .int .i64 (H : Int), .int .i64 (Lx : Int)] /\ Sl wr wr.heap.size (.slice As seed.length cs) seed /\ Sl wr wr.heap.size (.slice Ap pt.length cp) pt /\ Sl wr wr.heap.size (.slice Av uh.length cv) uh /\ Sl wr wr.heap.size (.slice Ab bs.length cb) bs /\ Below w.heap.size w wr) := ⟨HL.out.1, HL.out.2.1, HL.out.2.2.1, by rw [huh]; exact HL.out.2.2.2.1, HB.out.1, HL.out.2.2.2.2⟩;rw [<- huh];clear huh HL hLB
   go_wp2_with (go_at_call 41; refine (HLB.out.2.2 _).mono ?_)
   unfold OldIs;rintro e w2 ⟨rfl, b2⟩;have H2 : Shh (Row w2 w.heap.size 27 [.int .u32 xc, .bool xs, .int .i64 (Nn : Int), .int .i64 (H : Int), .int .i64 (Lx : Int)] /\ Sl w2 w2.heap.size (.slice As seed.length cs) seed /\ Sl w2 w2.heap.size (.slice Ap pt.length cp) pt /\ Sl w2 w2.heap.size (.slice Av uh.length cv) uh /\ Sl w2 w2.heap.size (.slice Ab bs.length cb) bs /\ Below w.heap.size w w2) := ⟨H1.out.1.go b2, H1.out.2.1.go b2, H1.out.2.2.1.go b2, H1.out.2.2.2.1.go b2, H1.out.2.2.2.2.1.go b2, Below.chain H1.out.2.2.2.2.2 b2⟩;clear b2 H1 hd2 hm1 hm2 hk2 runB;obtain ⟨M, hM⟩ : ∃ M, Shh (M = w2.heap.size) := ⟨_, ⟨rfl⟩⟩;have hL8 := HLB.out.1
   by_cases hev : q % 2 = 0
   ·have hr0 : (q : Int) % 2 = 0 := by omega
    go_wp2_with (refine wpList_store_any rfl 64 (.tmp 21) (.tmp 83) rfl M (by rw [hM.out]; rfl) LB rfl 64 [.int .u32 0, .int .u32 0, .int .u32 0, .int .u32 0, .int .u32 0, .int .u32 0, .int .u32 0, .int .u32 0] (Row.new_ hM.out rfl) (info_adr11 HLB.out.1) (by rw [HLB.out.1]; rfl) HLB.out.2.1 ?_)
    intro Z hr bt hsz;have H3 : Shh ((Row Z w.heap.size 27 [.int .u32 xc, .bool xs, .int .i64 (Nn : Int), .int .i64 (H : Int), .int .i64 (Lx : Int)] /\ Sl Z Z.heap.size (.slice As seed.length cs) seed /\ Sl Z Z.heap.size (.slice Ap pt.length cp) pt /\ Sl Z Z.heap.size (.slice Av uh.length cv) uh /\ Sl Z Z.heap.size (.slice Ab bs.length cb) bs /\ Below w.heap.size w Z) /\ Row Z M 64 LB) := by
     have hm := hM.out;have bb : Below w2.heap.size w2 Z := (below1 _ _).trans (bt.under (by first | omega | (rw [asz]; omega)) (by omega));exact ⟨⟨H2.out.1.go bb, H2.out.2.1.go bb, H2.out.2.2.1.go bb, H2.out.2.2.2.1.go bb, H2.out.2.2.2.2.1.go bb, Below.chain H2.out.2.2.2.2.2 bb⟩, hr⟩
    rw [<- hM.out];clear hr bt hsz H2 hM hL8
    go_wp2_with (first | refine wpList_load_any rfl 27 (.tmp 6) rfl w.heap.size rfl 27 [.int .u32 xc, .bool xs, .int .i64 (Nn : Int), .int .i64 (H : Int), .int .i64 (Lx : Int)] _ H3.out.1.1 Tryz.underlying27 rfl info_xms ?_ | refine wpList_load_any rfl 64 (.tmp 21) rfl M rfl 64 LB _ H3.out.2 Tryz.underlying64 rfl (info_adr11 HLB.out.1) ?_ | (go_at_call 45; refine (HNL.out _ _ _ uh bs H3.out.1.2.1 H3.out.1.2.2.2.1 H3.out.1.2.2.2.2.1 HUH.out.1 HB.out.2.1).mono ?_))
    unfold SlF;rintro e w4 ⟨v4, rfl, h4, b4, _⟩
    have H4 : Shh (Row w4 w.heap.size 27 [.int .u32 xc, .bool xs, .int .i64 (Nn : Int), .int .i64 (H : Int), .int .i64 (Lx : Int)] /\ Sl w4 w4.heap.size (.slice As seed.length cs) seed /\ Sl w4 w4.heap.size (.slice Ap pt.length cp) pt /\ Sl w4 w4.heap.size v4 (upB xs (Nn : Int) seed pt i lt (h + 1)) /\ Below w.heap.size w w4) := ⟨H3.out.1.1.go b4, H3.out.1.2.1.go b4, H3.out.1.2.2.1.go b4, by
     have e : upB xs (Nn : Int) seed pt i lt (h + 1) = nodeB xs (Nn : Int) seed (adr11 2 0 h q2) uh bs := by
      show (if i / 2 ^ h % 2 = 0 then _ else _) = _;rw [HQ.out.1, if_pos hev, HQ2.out, HUH.out.2];show nodeB xs (Nn : Int) seed (adr11 2 0 h q2) _ (pieceB Nn pt h) = _;rw [HB.out.2.2]
     rw [e]; exact h4, Below.chain H3.out.1.2.2.2.2.2 b4⟩
    clear h4 b4 H3 HLB HNL;go_wp2
    go_roundw
    case rel => exact ⟨h + 1, by omega, by go_num, by rw [HQ.out.2.2, HQ2.out]; exact congrArg (Value.int .u32) (by have ha := HQ.out.2.1; have hb := HQ2.out; omega), H4⟩
    case measure => simp [intOf]; omega
   ·have hr1 : (q : Int) % 2 = 1 := by omega
    go_wp2_with (refine wpList_store_any rfl 64 (.tmp 21) (.tmp 83) rfl M (by rw [hM.out]; rfl) LB rfl 64 [.int .u32 0, .int .u32 0, .int .u32 0, .int .u32 0, .int .u32 0, .int .u32 0, .int .u32 0, .int .u32 0] (Row.new_ hM.out rfl) (info_adr11 HLB.out.1) (by rw [HLB.out.1]; rfl) HLB.out.2.1 ?_)
    intro Z hr bt hsz;have H3 : Shh ((Row Z w.heap.size 27 [.int .u32 xc, .bool xs, .int .i64 (Nn : Int), .int .i64 (H : Int), .int .i64 (Lx : Int)] /\ Sl Z Z.heap.size (.slice As seed.length cs) seed /\ Sl Z Z.heap.size (.slice Ap pt.length cp) pt /\ Sl Z Z.heap.size (.slice Av uh.length cv) uh /\ Sl Z Z.heap.size (.slice Ab bs.length cb) bs /\ Below w.heap.size w Z) /\ Row Z M 64 LB) := by
     have hm := hM.out;have bb : Below w2.heap.size w2 Z := (below1 _ _).trans (bt.under (by first | omega | (rw [asz]; omega)) (by omega));exact ⟨⟨H2.out.1.go bb, H2.out.2.1.go bb, H2.out.2.2.1.go bb, H2.out.2.2.2.1.go bb, H2.out.2.2.2.2.1.go bb, Below.chain H2.out.2.2.2.2.2 bb⟩, hr⟩
    rw [<- hM.out];clear hr bt hsz H2 hM hL8
    go_wp2_with (first | refine wpList_load_any rfl 27 (.tmp 6) rfl w.heap.size rfl 27 [.int .u32 xc, .bool xs, .int .i64 (Nn : Int), .int .i64 (H : Int), .int .i64 (Lx : Int)] _ H3.out.1.1 Tryz.underlying27 rfl info_xms ?_ | refine wpList_load_any rfl 64 (.tmp 21) rfl M rfl 64 LB _ H3.out.2 Tryz.underlying64 rfl (info_adr11 HLB.out.1) ?_ | (go_at_call 45; refine (HNL.out _ _ _ bs uh H3.out.1.2.1 H3.out.1.2.2.2.2.1 H3.out.1.2.2.2.1 HB.out.2.1 HUH.out.1).mono ?_))
    unfold SlF;rintro e w4 ⟨v4, rfl, h4, b4, _⟩
    have H4 : Shh (Row w4 w.heap.size 27 [.int .u32 xc, .bool xs, .int .i64 (Nn : Int), .int .i64 (H : Int), .int .i64 (Lx : Int)] /\ Sl w4 w4.heap.size (.slice As seed.length cs) seed /\ Sl w4 w4.heap.size (.slice Ap pt.length cp) pt /\ Sl w4 w4.heap.size v4 (upB xs (Nn : Int) seed pt i lt (h + 1)) /\ Below w.heap.size w w4) := ⟨H3.out.1.1.go b4, H3.out.1.2.1.go b4, H3.out.1.2.2.1.go b4, by
     have e : upB xs (Nn : Int) seed pt i lt (h + 1) = nodeB xs (Nn : Int) seed (adr11 2 0 h q2) bs uh := by
      show (if i / 2 ^ h % 2 = 0 then _ else _) = _;rw [HQ.out.1, if_neg hev, HQ2.out, HUH.out.2];show nodeB xs (Nn : Int) seed (adr11 2 0 h q2) (pieceB Nn pt h) _ = _;rw [HB.out.2.2]
     rw [e]; exact h4, Below.chain H3.out.1.2.2.2.2.2 b4⟩
    clear h4 b4 H3 HLB HNL;go_wp2
    go_roundw
    case rel => exact ⟨h + 1, by omega, by go_num, by rw [HQ.out.2.2, HQ2.out]; exact congrArg (Value.int .u32) (by have ha := HQ.out.2.1; have hb := HQ2.out; omega), H4⟩
    case measure => simp [intOf]; omega
  ·obtain rfl : h = H := by omega
   have HR : Shh (Sl wr wr.heap.size (.slice Av (upB xs (Nn : Int) seed pt i lt h).length cv) out /\ Below w.heap.size w wr) := ⟨by rw [HUL.out.2.2.1]; exact HL.out.2.2.2.1, HL.out.2.2.2.2⟩;clear HL HUL HND HZ;go_wp2;go_ret;exact ⟨_, rfl, HR.out.1, HR.out.2⟩
end Go.Proofs.YtdakbipiifkmfaaGreatDoor
namespace Go.Proofs.YtdakbipiifkmfaaGreatDoor
open Go.RowKit
set_option maxRecDepth 100000
theorem xS_ok {c : Nat} (h : xE c = 0) : (xS c).ok = true := by
 have h1 : xH c ≠ 0 := fun e => by unfold xE at h; rw [if_pos e] at h; exact absurd h (by decide)
 have h2 : xC c = (c : Int) := by unfold xC; rw [if_neg h1]
 have h3 : (xS c).c.toNat = c := by show (xC c).toNat = c; rw [h2]; rfl
 unfold S5.ok;refine decide_eq_true ?_;rw [h3];exact ⟨h, rfl, rfl, rfl, rfl, rfl⟩
theorem xmsPb_ok {x : S5} (hx : x.ok = true) : xmsPb true x.n = ((4 + 2 * x.n.toNat : Nat) : Int) := by
 unfold xmsPb;rw [if_pos rfl];simp only [wrap64]
 rcases S5.ok_is hx with ⟨a1, a2⟩ | ⟨a1, a2⟩ <;> rw [a1] <;> decide
def rootP (x : S5) (pub : List UInt8) : List UInt8 := (pub.take (4 + x.n.toNat)).drop 4
def cameP (x : S5) (pub msg sig : List UInt8) : List UInt8 := cameB x.s x.n x.l.toNat x.h.toNat (pub.drop (4 + x.n.toNat)) (rootP x pub) msg sig (ixN x sig)
def verE (pub msg sig : List UInt8) : Int :=
 if pub.length < 4 then 81 else if xE (bigN (pub.take 4)) ≠ 0 then 81 else if pub.length ≠ 4 + 2 * (xS (bigN (pub.take 4))).n.toNat then 81
 else if ixE (xS (bigN (pub.take 4))) sig ≠ 0 then 70 else if cameP (xS (bigN (pub.take 4))) pub msg sig == rootP (xS (bigN (pub.take 4))) pub then 0 else 70
set_option maxHeartbeats 4000000 in
theorem refVerify11_any (vp vm vg : Value) (pub msg sig : List UInt8) (hml : msg.length <= 100000) (w : World) (hp : Sl w w.heap.size vp pub) (hm : Sl w w.heap.size vm msg) (hg : Sl w w.heap.size vg sig) :
  Calls Tryz.prog 31 #[vp, vm, vg] w (OldIs (.int .i64 (verE pub msg sig)) w) := by
 unfold OldIs;obtain ⟨Ap, cp, rfl, hcp, _⟩ := hp.form;obtain ⟨Am, cm, rfl, _, _⟩ := hm.form;obtain ⟨Ag, cg, rfl, _, _⟩ := hg.form;obtain ⟨E, hE⟩ : ∃ E, E = verE pub msg sig := ⟨_, rfl⟩;rw [<- hE];unfold verE at hE;have HW : Shh (Sl w w.heap.size (.slice Ap pub.length cp) pub /\ Sl w w.heap.size (.slice Am msg.length cm) msg /\ Sl w w.heap.size (.slice Ag sig.length cg) sig) := ⟨hp, hm, hg⟩
 by_cases h4 : pub.length < 4
 ·have hc : (pub.length : Int) < 4 := by omega
  have HR : Shh (E = 81) := ⟨by rw [hE, if_pos h4]⟩;clear hE hp hm hg HW h4 hml hcp;go_enter Tryz.func31, Tryz.ntmps31;go_wp2;go_ret;exact ⟨by rw [HR.out]; rfl, Below.refl _ _⟩
 rw [if_neg h4] at hE;obtain ⟨hd, hhd⟩ : ∃ hd, hd = pub.take 4 := ⟨_, rfl⟩;obtain ⟨Ah, ch, runH, sH⟩ := slice_to10 hp 4 (by omega) hcp;rw [<- hhd] at runH sH hE;have runH' : ∀ u, (Instr.sliceAt 23 (.slice Ap pub.length cp) none (some (.int .i64 4)) none).run Tryz.prog u = .ok (.slice Ah hd.length ch) u := runH;have hd4 : hd.length = 4 := by rw [hhd, List.length_take]; omega
 obtain ⟨c, hcc⟩ : ∃ c, c = bigN hd := ⟨_, rfl⟩;have hc32 : c < 4294967296 := by
  have := bigN_lt hd;rw [hd4] at this;rw [hcc];exact this
 rw [<- hcc] at hE
 have HN : Shh (∀ W, Sl W W.heap.size (.slice Ah hd.length ch) hd -> Calls Tryz.prog 70 #[.slice Ah hd.length ch] W (fun e w' => e = .returned (.int .u64 (c : Int)) /\ W = w')) := ⟨fun W h => by
  rw [hcc]
  exact refNumber_any W.heap.size _ hd W h (by omega) (by omega)⟩
 have HH : Shh (Sl w w.heap.size (.slice Ah hd.length ch) hd) := ⟨sH⟩;have hE0 := xE_or11 c;have hwf := xms_wf c hc32;have HX : Shh (∀ W, Calls Tryz.prog 42 #[.int .u32 (c : Int)] W (OldIs (.tuple #[(xS c).v, .int .i64 (xE c)]) W)) := ⟨fun W => refXmss_any c hc32 W⟩;have hw32 : IntKind.u32.wrap (c : Int) = (c : Int) := by rw [IntKind.wrap_u32]; omega
 have hw32' : (c : Int) % 4294967296 = (c : Int) := by omega
 have hxok : xE c = 0 -> (xS c).ok = true := xS_ok;obtain ⟨x, hx⟩ : ∃ x, x = xS c := ⟨_, rfl⟩;rw [<- hx] at HX hE hxok;replace hwf : x.wf := by rw [hx]; exact hwf
 generalize xE c = E0 at HX hE hE0 hxok;clear runH sH hcc hhd hx hc32 hd4;have hc4 : ¬ (pub.length : Int) < 4 := by omega
 obtain ⟨M, hM⟩ : ∃ M, Shh (M = w.heap.size) := ⟨_, ⟨rfl⟩⟩
 rcases hE0 with rfl | rfl
 ·have hok := hxok rfl;rw [if_neg (by decide)] at hE;have hnl := S5.ok_is hok;obtain ⟨hx, hxh, hx20⟩ := ok_h hok;obtain ⟨Nn, hNn⟩ : ∃ Nn : Nat, x.n = (Nn : Int) := ⟨x.n.toNat, by omega⟩;have hNt : x.n.toNat = Nn := by omega
  have hpb := xmsPb_ok hok;rw [hNt] at hE hpb
  have HPB : Shh (∀ W, Calls Tryz.prog 33 #[x.v] W (OldIs (.int .i64 ((4 + 2 * Nn : Nat) : Int)) W)) := ⟨fun W => by
   have h2 := rXmssPub_of x.c x.s x.n x.h x.l true (fun W => by have h := mayXmss_any x hwf W; rw [hok] at h; exact h) W;rw [hpb] at h2
   exact h2⟩
  have HIX : Shh (∀ W, Sl W W.heap.size (.slice Ag sig.length cg) sig -> Calls Tryz.prog 29 #[x.v, .slice Ag sig.length cg] W (OldIs (.tuple #[.int .u32 (ixN x sig : Int), .int .i64 (ixE x sig)]) W)) := ⟨fun W h => refIndex11_any x hwf _ sig W h⟩;have hix := ix_cases x sig;obtain ⟨I, hI⟩ : ∃ I, I = ixN x sig := ⟨_, rfl⟩;obtain ⟨IE, hIE⟩ : ∃ IE, IE = ixE x sig := ⟨_, rfl⟩;rw [hok, <- hI, <- hIE] at hix;rw [<- hIE] at hE;rw [<- hI, <- hIE] at HIX;obtain ⟨a1, ha1⟩ : ∃ a1, a1 = 4 + Nn := ⟨_, rfl⟩;obtain ⟨lp, hlp⟩ : ∃ lp, lp = 4 + 2 * Nn := ⟨_, rfl⟩;rw [<- hlp] at hE HPB;obtain ⟨came, hcame⟩ : ∃ came, came = cameP x pub msg sig := ⟨_, rfl⟩;obtain ⟨root, hroot⟩ : ∃ root, root = rootP x pub := ⟨_, rfl⟩;obtain ⟨seed, hseed⟩ : ∃ seed, seed = pub.drop a1 := ⟨_, rfl⟩;rw [<- hcame, <- hroot] at hE;have hN32 : Nn <= 32 := by omega
  have HZ : Shh ((a1 = 4 + Nn /\ Nn <= 1000) /\ pub.length <= cp) := ⟨⟨ha1, by omega⟩, hcp⟩;have hroot2 : root = (pub.take a1).drop 4 := by rw [hroot, ha1]; unfold rootP; rw [hNt]
  have HRT : Shh (root = (pub.take a1).drop 4 /\ seed = pub.drop a1 /\ lp = 4 + 2 * Nn /\ a1 = 4 + Nn) := ⟨hroot2, hseed, hlp, ha1⟩
  have HC0 : Shh (pub.length = lp -> IE = 0 -> ∀ W vs vt, Sl W W.heap.size vs seed -> Sl W W.heap.size vt root -> Sl W W.heap.size (.slice Am msg.length cm) msg -> Sl W W.heap.size (.slice Ag sig.length cg) sig -> Calls Tryz.prog 76 #[x.v, vs, vt, .slice Am msg.length cm, .slice Ag sig.length cg, .int .u32 (I : Int)] W (SlIs W came)) := ⟨fun h1 h2 W vs vt h3 h5 h6 h7 => by
   have hix2 : sig.length = lenX x /\ bigN (sig.take 4) < 2 ^ x.h.toNat /\ I = bigN (sig.take 4) := by
    rcases hix with h | h | h | h
    ·exact absurd h.1 (by decide)
    ·exact absurd h.2.2.1 (by omega)
    ·exact absurd h.2.2.2.1 (by omega)
    ·exact ⟨h.2.1, h.2.2.1, h.2.2.2.2⟩
   have hI32 : I < 4294967296 := by
    have hb := bigN_lt (sig.take 4);have hl : (sig.take 4).length <= 4 := by rw [List.length_take]; omega
    have h256 : 256 ^ (sig.take 4).length <= 256 ^ 4 := Nat.pow_le_pow_right (by decide) hl;have e256 : 256 ^ 4 = 4294967296 := by decide
    omega
   have hce : came = cameB x.s x.n x.l.toNat x.h.toNat seed root msg sig I := by rw [hcame, hI, hseed, hroot, ha1]; unfold cameP; rw [hNt]
   have hsl : seed.length <= 1000 := by rw [hseed, List.length_drop]; omega
   have hrl : root.length <= 1000 := by rw [hroot2, List.length_drop, List.length_take]; omega
   rw [hce];have hlx := hix2.1;unfold lenX at hlx;rw [hNt] at hlx
   exact refCame_any x hok _ _ _ _ seed root msg sig I hI32 x.l.toNat Nn x.h.toNat (by omega) hNn (by omega) hsl hrl hml hlx W h3 h5 h6 h7⟩
  obtain ⟨bq, hbq⟩ : ∃ bq, bq = (came == root) := ⟨_, rfl⟩;have HBQ : Shh ((came == root) = bq) := ⟨hbq.symm⟩;rw [<- hbq] at hE;have hIE2 : IE = 0 ∨ IE = 70 := by
   rcases hix with h | h | h | h
   ·exact absurd h.1 (by decide)
   ·exact .inr h.2.2.1
   ·exact .inr h.2.2.2.1
   ·exact .inl h.2.2.2.1
  have HE0 := Shh.mk hE;clear hE hix hI hIE hcame hroot hroot2 hseed hlp ha1 hbq hpb hNt hnl hok hwf hxok hp hm hg hml h4 hcp;unfold S5.v at HX HPB HIX HC0;rw [hNn] at HX HPB HIX HC0;clear hNn hxh hx20 hx;generalize x.c = xc at *;generalize x.s = xs at *;generalize x.h = xh at *;generalize x.l = xl at *;go_enter Tryz.func31, Tryz.ntmps31
  go_wp2_with fail
  go_at_call 70
  refine (HN.out _ HH.out).mono ?_;rintro e w1 ⟨rfl, rfl⟩
  go_wp2_with (go_at_call 42; refine (HX.out _).mono ?_)
  unfold OldIs;rintro e w2 ⟨rfl, b2⟩;have H2 : Shh (Sl w2 w2.heap.size (.slice Ap pub.length cp) pub /\ Sl w2 w2.heap.size (.slice Am msg.length cm) msg /\ Sl w2 w2.heap.size (.slice Ag sig.length cg) sig /\ Below w.heap.size w w2) := ⟨HW.out.1.go b2, HW.out.2.1.go b2, HW.out.2.2.go b2, b2⟩;clear b2 HX HN HH HW hM M runH' hw32 hw32';obtain ⟨M, hM⟩ : ∃ M, Shh (M = w2.heap.size) := ⟨_, ⟨rfl⟩⟩
  go_wp2_with (refine wpList_store_any rfl 27 (.tmp 7) (.tmp 20) rfl M (by rw [hM.out]; rfl) [.int .u32 xc, .bool xs, .int .i64 (Nn : Int), .int .i64 xh, .int .i64 xl] rfl 27 [.int .u32 0, .bool false, .int .i64 0, .int .i64 0, .int .i64 0] (Row.new_ hM.out rfl) info_xms rfl oneCell5 ?_)
  intro Z hr bt hsz;have H3 : Shh (Row Z M 27 [.int .u32 xc, .bool xs, .int .i64 (Nn : Int), .int .i64 xh, .int .i64 xl] /\ Sl Z Z.heap.size (.slice Ap pub.length cp) pub /\ Sl Z Z.heap.size (.slice Am msg.length cm) msg /\ Sl Z Z.heap.size (.slice Ag sig.length cg) sig /\ Below w.heap.size w Z) := by
   have hm := hM.out;have bb : Below w2.heap.size w2 Z := (below1 _ _).trans (bt.under (by first | omega | (rw [asz]; omega)) (by omega));exact ⟨hr, H2.out.1.go bb, H2.out.2.1.go bb, H2.out.2.2.1.go bb, Below.chain H2.out.2.2.2 bb⟩
  rw [<- hM.out];clear hr bt hsz H2 hM
  go_wp2_with (first | refine wl_loadW 27 (.tmp 7) rfl M rfl 27 [.int .u32 xc, .bool xs, .int .i64 (Nn : Int), .int .i64 xh, .int .i64 xl] _ rfl H3.out.1 Tryz.underlying27 rfl info_xms ?_ | (go_at_call 33; refine (HPB.out _).mono ?_))
  unfold OldIs;rintro e w4 ⟨rfl, b4⟩;have H4 : Shh (Row w4 M 27 [.int .u32 xc, .bool xs, .int .i64 (Nn : Int), .int .i64 xh, .int .i64 xl] /\ Sl w4 w4.heap.size (.slice Ap pub.length cp) pub /\ Sl w4 w4.heap.size (.slice Am msg.length cm) msg /\ Sl w4 w4.heap.size (.slice Ag sig.length cg) sig /\ Below w.heap.size w w4) := ⟨H3.out.1.go b4, H3.out.2.1.go b4, H3.out.2.2.1.go b4, H3.out.2.2.2.1.go b4, Below.chain H3.out.2.2.2.2 b4⟩;clear b4 H3 HPB
  by_cases hlp : pub.length = lp
  ·have hq : ((pub.length : Int) == (lp : Int)) = true := by simp [hlp]
   have HLP := Shh.mk hlp;clear hlp
   go_wp2_with (first | refine wpList_load_any rfl 27 (.tmp 7) rfl M rfl 27 [.int .u32 xc, .bool xs, .int .i64 (Nn : Int), .int .i64 xh, .int .i64 xl] _ H4.out.1 Tryz.underlying27 rfl info_xms ?_ | (go_at_call 29; refine (HIX.out _ H4.out.2.2.2.1).mono ?_))
   unfold OldIs;rintro e w5 ⟨rfl, b5⟩;have H5 : Shh (Row w5 M 27 [.int .u32 xc, .bool xs, .int .i64 (Nn : Int), .int .i64 xh, .int .i64 xl] /\ Sl w5 w5.heap.size (.slice Ap pub.length cp) pub /\ Sl w5 w5.heap.size (.slice Am msg.length cm) msg /\ Sl w5 w5.heap.size (.slice Ag sig.length cg) sig /\ Below w.heap.size w w5) := ⟨H4.out.1.go b5, H4.out.2.1.go b5, H4.out.2.2.1.go b5, H4.out.2.2.2.1.go b5, Below.chain H4.out.2.2.2.2 b5⟩;clear b5 H4 HIX hq
   rcases hIE2 with rfl | rfl
   ·have HC := Shh.mk (HC0.out HLP.out rfl);have HE : Shh ((bq = true -> E = 0) /\ (bq = false -> E = 70)) := by
     have h := HE0.out;rw [if_neg (by have := HLP.out; omega), if_neg (by decide)] at h;exact ⟨fun e => by rw [h, e]; rfl, fun e => by rw [h, e]; rfl⟩
    have hl3 : a1 <= pub.length /\ 4 <= a1 := by have := HLP.out; have := HRT.out.2.2.1; have := HRT.out.2.2.2; omega
    obtain ⟨At, ct, runT, sT⟩ := slice_mid10 H5.out.2.1 4 a1 hl3.2 hl3.1 HZ.out.2;obtain ⟨As, cs, runS, sS⟩ := slice_from11 H5.out.2.1 a1 hl3.1 HZ.out.2;rw [<- HRT.out.1] at runT sT;rw [<- HRT.out.2.1] at runS sS;have runT' : ∀ u, (Instr.sliceAt 23 (.slice Ap pub.length cp) (some (.int .i64 4)) (some (.int .i64 (a1 : Int))) none).run Tryz.prog u = .ok (.slice At root.length ct) u := runT;have hadd : IntKind.i64.wrap ((4 : Int) + (Nn : Int)) = (a1 : Int) := by have := HZ.out.1; rw [IntKind.wrap_i64]; omega
    have H6 : Shh (Row w5 M 27 [.int .u32 xc, .bool xs, .int .i64 (Nn : Int), .int .i64 xh, .int .i64 xl] /\ Sl w5 w5.heap.size (.slice As seed.length cs) seed /\ Sl w5 w5.heap.size (.slice At root.length ct) root /\ Sl w5 w5.heap.size (.slice Am msg.length cm) msg /\ Sl w5 w5.heap.size (.slice Ag sig.length cg) sig /\ Below w.heap.size w w5) := ⟨H5.out.1, sS, sT, H5.out.2.2.1, H5.out.2.2.2.1, H5.out.2.2.2.2⟩;have HC' : Shh (∀ W, Sl W W.heap.size (.slice As seed.length cs) seed -> Sl W W.heap.size (.slice At root.length ct) root -> Sl W W.heap.size (.slice Am msg.length cm) msg -> Sl W W.heap.size (.slice Ag sig.length cg) sig -> Calls Tryz.prog 76 #[.agg #[.int .u32 xc, .bool xs, .int .i64 (Nn : Int), .int .i64 xh, .int .i64 xl], .slice As seed.length cs, .slice At root.length ct, .slice Am msg.length cm, .slice Ag sig.length cg, .int .u32 (I : Int)] W (SlIs W came)) := ⟨fun W h1 h2 h3 h5 => HC.out W _ _ h1 h2 h3 h5⟩;have c2 := H5.out.1.cell 2;simp only [List.getElem?_cons_succ, List.getElem?_cons_zero] at c2;clear HC HC0 HE0 HLP HRT hl3 runT sT sS H5;go_wp2;clear c2 hadd runT';refine wp_region_held_drew (S := fun w' => Row w' M 27 [.int .u32 xc, .bool xs, .int .i64 (Nn : Int), .int .i64 xh, .int .i64 xl]) (by kernel_rfl) H6.out.1.drew (fun hS => ?_);obtain ⟨V, hV⟩ : ∃ V, V = World.drew w5 := ⟨_, rfl⟩;rw [<- hV] at hS ⊢;have rX : Row V M 27 [.int .u32 xc, .bool xs, .int .i64 (Nn : Int), .int .i64 xh, .int .i64 xl] := by rw [hV]; exact H6.out.1.drew
    have sS : Sl V V.heap.size (.slice As seed.length cs) seed := by rw [hV]; exact H6.out.2.1.drew
    have sT : Sl V V.heap.size (.slice At root.length ct) root := by rw [hV]; exact H6.out.2.2.1.drew
    have sM : Sl V V.heap.size (.slice Am msg.length cm) msg := by rw [hV]; exact H6.out.2.2.2.1.drew
    have sG : Sl V V.heap.size (.slice Ag sig.length cg) sig := by rw [hV]; exact H6.out.2.2.2.2.1.drew
    have HBV : Below w.heap.size w V := by rw [hV]; exact H6.out.2.2.2.2.2.drew
    have HC := HC';clear hV H6 HC';refine hdv0 1 45 (.slice Ap pub.length cp) (by rfl) (rX) ?_;refine hdv0 2 46 (.pointer (some ⟨M, 2, none⟩)) (by rfl) (rX) ?_;refine hdv 3 47 (.int .i64 (Nn : Int)) (by rfl) (fun w hS => load_i rfl (hS.cell 2) (by kernel_rfl)) (rX) ?_;refine hdv 4 48 (.int .i64 (a1 : Int)) (by rfl) (fun w hS => add_cl HZ.out.1 rfl (by kernel_rfl)) (rX) ?_;refine hdv 5 49 (.slice As seed.length cs) (by rfl) (fun w hS => run_slice_op_lo ⟨rfl, rfl⟩ (runS w)) (rX) ?_;refine hdv0 6 50 (.slice At root.length ct) (by rfl) (rX) ?_;refine hdv0 7 51 (.slice Am msg.length cm) (by rfl) (rX) ?_;refine hdv0 8 52 (.slice Ag sig.length cg) (by rfl) (rX) ?_;refine hdv0 9 53 (.int .u32 (I : Int)) (by rfl) (rX) ?_;refine hdv0 11 55 (.slice At root.length ct) (by rfl) (rX) ?_;refine held_load 0 27 (.tmp 7) (some 44) (by kernel_rfl) (by rfl) (by kernel_rfl) M 0 (by kernel_rfl) ([.int .u32 xc, .bool xs, .int .i64 (Nn : Int), .int .i64 xh, .int .i64 xl]) _ (fun w h => h.range) Tryz.underlying27 rfl (info_xms) (fun _ _ _ _ h => h) (rX) ?_;simp only [Act.put, arr9, hd9, tl9];refine held_one 10 (by kernel_rfl) ?_;refine step_call 10 _ _ (some 54) 76 #[.agg ([.int .u32 xc, .bool xs, .int .i64 (Nn : Int), .int .i64 xh, .int .i64 xl]).toArray, .slice As seed.length cs, .slice At root.length ct, .slice Am msg.length cm, .slice Ag sig.length cg, .int .u32 (I : Int)] (by rfl) (by kernel_rfl) (by first | kernel_rfl | go_simp) ?_;refine (show Calls Tryz.prog 76 #[.agg #[.int .u32 xc, .bool xs, .int .i64 (Nn : Int), .int .i64 xh, .int .i64 xl], .slice As seed.length cs, .slice At root.length ct, .slice Am msg.length cm, .slice Ag sig.length cg, .int .u32 (I : Int)] V (SlIs V came) by exact HC.out V (sS) (sT) (sM) (sG)).mono ?_;rintro e Y1 ⟨v, rfl, gv, bv⟩;have bx : Below V.heap.size V Y1 := bv;obtain ⟨Ac, cc, vEq, _, _⟩ := gv.form;subst vEq;have sC := gv;clear gv;have b_V := bx;have m_Y1 : V.heap.size <= Y1.heap.size := bx.size;clear bx;refine ⟨_, rfl, (rX.go b_V), ?_⟩;simp only [Act.put, arr9, hd9, tl9];refine held_one 12 (by kernel_rfl) ?_;refine step_call 12 _ _ (some 56) 15 #[.slice Ac came.length cc, .slice At root.length ct] (by rfl) (by kernel_rfl) (by first | kernel_rfl | go_simp) ?_;refine (show Calls Tryz.prog 15 #[.slice Ac came.length cc, .slice At root.length ct] Y1 (fun e w' => e = .returned (.bool bq) /\ Y1 = w') by have h := refEqual_any Y1.heap.size Y1.heap.size _ _ came root Y1 (sC) ((sT.go b_V)); rw [HBQ.out] at h; exact h).mono ?_;rintro e Y2 ⟨rfl, hq⟩;obtain rfl : Y1 = Y2 := hq;refine ⟨_, rfl, (rX.go b_V), ?_⟩;simp only [Act.put, arr9, hd9, tl9];refine hdv0 13 57 (.bool (!bq)) (by rfl) ((rX.go b_V)) ?_;refine wpAnyH_done (by kernel_rfl) ?_ _;have HB : Shh (Below w.heap.size w Y1) := ⟨Below.chain HBV b_V⟩;clear m_Y1 b_V sC bv hS HBV rX sS sT sM sG runS;clear HC HZ HBQ;cases bq with
    | false =>
     have HR : Shh (E = 70) := ⟨HE.out.2 rfl⟩;clear HE;go_wp2;go_ret;exact ⟨by rw [HR.out]; rfl, HB.out⟩
    | true =>
     have HR : Shh (E = 0) := ⟨HE.out.1 rfl⟩;clear HE;go_wp2;go_ret;exact ⟨by rw [HR.out]; rfl, HB.out⟩
   ·have HR : Shh (E = 70) := by
     have h := HE0.out;rw [if_neg (by have := HLP.out; omega), if_pos (by decide)] at h;exact ⟨h⟩
    have HB : Shh (Below w.heap.size w w5) := ⟨H5.out.2.2.2.2⟩;clear HC0 HE0 HLP HRT H5 HZ HBQ;go_wp2;go_ret;exact ⟨by rw [HR.out]; rfl, HB.out⟩
  ·have hq : ((pub.length : Int) == (lp : Int)) = false := by simp; omega
   have HR : Shh (E = 81) := by
    have h := HE0.out;rw [if_pos hlp] at h;exact ⟨h⟩
   have HB : Shh (Below w.heap.size w w4) := ⟨H4.out.2.2.2.2⟩;clear HC0 HE0 HRT H4 HZ HBQ hlp HIX;go_wp2;go_ret;exact ⟨by rw [HR.out]; rfl, HB.out⟩
 ·have HR : Shh (E = 81) := ⟨by rw [hE, if_pos (by decide)]⟩;clear hE hxok hwf hp hm hg hml h4 hcp hM M;unfold S5.v at HX;generalize x.c = xc at *;generalize x.s = xs at *;generalize x.n = xn at *;generalize x.h = xh at *;generalize x.l = xl at *;go_enter Tryz.func31, Tryz.ntmps31
  go_wp2_with fail
  go_at_call 70
  refine (HN.out _ HH.out).mono ?_;rintro e w1 ⟨rfl, rfl⟩
  go_wp2_with (go_at_call 42; refine (HX.out _).mono ?_)
  unfold OldIs;rintro e w2 ⟨rfl, b2⟩;have H2 : Shh (Below w.heap.size w w2) := ⟨b2⟩;clear b2 HX HN HH HW runH' hw32 hw32';obtain ⟨M, hM⟩ : ∃ M, Shh (M = w2.heap.size) := ⟨_, ⟨rfl⟩⟩
  go_wp2_with (refine wpList_store_any rfl 27 (.tmp 7) (.tmp 20) rfl M (by rw [hM.out]; rfl) [.int .u32 xc, .bool xs, .int .i64 xn, .int .i64 xh, .int .i64 xl] rfl 27 [.int .u32 0, .bool false, .int .i64 0, .int .i64 0, .int .i64 0] (Row.new_ hM.out rfl) info_xms rfl oneCell5 ?_)
  intro Z hr bt hsz;have H3 : Shh (Below w.heap.size w Z) := by
   have hm := hM.out;exact ⟨Below.chain H2.out ((below1 _ _).trans (bt.under (by first | omega | (rw [asz]; omega)) (by omega)))⟩
  rw [<- hM.out];clear hr bt hsz H2 hM;go_wp2;go_ret;exact ⟨by rw [HR.out]; rfl, H3.out⟩
end Go.Proofs.YtdakbipiifkmfaaGreatDoor
namespace Go.Proofs.YtdakbipiifkmfaaGreatDoor
open Go.RowKit
set_option maxRecDepth 100000
section
variable {Tb : World -> Prop}
set_option maxHeartbeats 2000000 in
theorem xmssProves_of (c : Nat) (hc : c < 4294967296) (vp vm vg : Value) (pub msg sig : List UInt8) (w : World) (hp : Sl w w.heap.size vp pub) (hm : Sl w w.heap.size vm msg) (hg : Sl w w.heap.size vg sig) (ht : Tb w)
  (hTb : ∀ w w', Tb w -> Below w.heap.size w w' -> Tb w')
  (hlive : ∀ W, Tb W -> Calls Tryz.prog 14 #[] W (TrueIs W))
  (hIx : ∀ (x : S5) (vg : Value) (sig : List UInt8) (W : World), x.wf -> Tb W -> Sl W W.heap.size vg sig -> Calls Tryz.prog 28 #[x.v, vg] W (OldIs (.tuple #[.int .u32 (ixN x sig : Int), .int .i64 (ixE x sig)]) W))
  (hV : ∀ (vp vm vg : Value) (pub msg sig : List UInt8) (W : World), msg.length <= 3000 -> Tb W -> Sl W W.heap.size vp pub -> Sl W W.heap.size vm msg -> Sl W W.heap.size vg sig -> Calls Tryz.prog 30 #[vp, vm, vg] W (OldIs (.int .i64 (verE pub msg sig)) W)) :
  Calls Tryz.prog 6 #[.int .u32 (c : Int), vp, vm, vg] w (TrueIs w) := by
 unfold TrueIs;obtain ⟨Ap, cp, rfl, _, _⟩ := hp.form;obtain ⟨Am, cm, rfl, _, _⟩ := hm.form;obtain ⟨Ag, cg, rfl, _, _⟩ := hg.form;have hw := setX_wf c hc;have HS : Shh (∀ W, Calls Tryz.prog 11 #[.int .u32 (c : Int)] W (OldIs (setX c).v W)) := ⟨fun W => set11_any c hc W⟩;obtain ⟨x, hx⟩ : ∃ x, x = setX c := ⟨_, rfl⟩;rw [<- hx] at HS hw;clear hx;obtain ⟨I, hI⟩ : ∃ I, I = ixN x sig := ⟨_, rfl⟩;obtain ⟨IE, hIE⟩ : ∃ IE, IE = ixE x sig := ⟨_, rfl⟩;obtain ⟨E, hE⟩ : ∃ E, E = verE pub msg sig := ⟨_, rfl⟩;have HI : Shh ((∀ W, Tb W -> Sl W W.heap.size (.slice Ag sig.length cg) sig -> Calls Tryz.prog 28 #[x.v, .slice Ag sig.length cg] W (OldIs (.tuple #[.int .u32 (I : Int), .int .i64 IE]) W)) /\ (∀ W, Sl W W.heap.size (.slice Ag sig.length cg) sig -> Calls Tryz.prog 29 #[x.v, .slice Ag sig.length cg] W (OldIs (.tuple #[.int .u32 (I : Int), .int .i64 IE]) W))) := ⟨fun W h0 h1 => by rw [hI, hIE]; exact hIx x _ sig W hw h0 h1, fun W h1 => by rw [hI, hIE]; exact refIndex11_any x hw _ sig W h1⟩;have HV : Shh (msg.length <= 3000 -> (∀ W, Tb W -> Sl W W.heap.size (.slice Ap pub.length cp) pub -> Sl W W.heap.size (.slice Am msg.length cm) msg -> Sl W W.heap.size (.slice Ag sig.length cg) sig -> Calls Tryz.prog 30 #[.slice Ap pub.length cp, .slice Am msg.length cm, .slice Ag sig.length cg] W (OldIs (.int .i64 E) W)) /\ (∀ W, Sl W W.heap.size (.slice Ap pub.length cp) pub -> Sl W W.heap.size (.slice Am msg.length cm) msg -> Sl W W.heap.size (.slice Ag sig.length cg) sig -> Calls Tryz.prog 31 #[.slice Ap pub.length cp, .slice Am msg.length cm, .slice Ag sig.length cg] W (OldIs (.int .i64 E) W))) := ⟨fun hl => ⟨fun W h0 h1 h2 h3 => by rw [hE]; exact hV _ _ _ pub msg sig W hl h0 h1 h2 h3, fun W h1 h2 h3 => by rw [hE]; exact refVerify11_any _ _ _ pub msg sig (by omega) W h1 h2 h3⟩⟩;have HT : Shh (∀ W, Tb W -> Calls Tryz.prog 14 #[] W (TrueIs W)) := ⟨hlive⟩;have HTB := Shh.mk hTb;have HW : Shh (Sl w w.heap.size (.slice Ap pub.length cp) pub /\ Sl w w.heap.size (.slice Am msg.length cm) msg /\ Sl w w.heap.size (.slice Ag sig.length cg) sig /\ Tb w) := ⟨hp, hm, hg, ht⟩;clear hI hIE hE hw hIx hV hlive hTb hp hm hg ht hc;unfold S5.v at HS HI;generalize x.c = xc at *;generalize x.s = xs at *;generalize x.n = xn at *;generalize x.h = xh at *;generalize x.l = xl at *;go_enter Tryz.func6, Tryz.ntmps6
 go_wp2_with fail
 go_at_call 14
 refine (HT.out _ HW.out.2.2.2).mono ?_;unfold TrueIs;rintro e w2 ⟨rfl, b2⟩;have H2 : Shh (Sl w2 w2.heap.size (.slice Ap pub.length cp) pub /\ Sl w2 w2.heap.size (.slice Am msg.length cm) msg /\ Sl w2 w2.heap.size (.slice Ag sig.length cg) sig /\ Tb w2 /\ Below w.heap.size w w2) := ⟨HW.out.1.go b2, HW.out.2.1.go b2, HW.out.2.2.1.go b2, HTB.out _ _ HW.out.2.2.2 b2, b2⟩;clear b2 HW
 by_cases hl : 3000 < msg.length
 ·have hc : (3000 : Int) < (msg.length : Int) := by omega
  clear HS HI HV hl
  go_wp2_with fail
  go_at_call 14
  refine (HT.out _ H2.out.2.2.2.1).mono ?_;unfold TrueIs;rintro e w3 ⟨rfl, b3⟩;have HB : Shh (Below w.heap.size w w3) := ⟨Below.chain H2.out.2.2.2.2 b3⟩;clear b3 H2;go_wp2;go_ret;exact ⟨rfl, HB.out⟩
 ·have hc : ¬ (3000 : Int) < (msg.length : Int) := by omega
  have HVV := Shh.mk (HV.out (by omega));clear HV HT hl
  go_wp2_with fail
  go_at_call 11
  refine (HS.out _).mono ?_;unfold OldIs;rintro e w3 ⟨rfl, b3⟩;have H3 : Shh (Sl w3 w3.heap.size (.slice Ap pub.length cp) pub /\ Sl w3 w3.heap.size (.slice Am msg.length cm) msg /\ Sl w3 w3.heap.size (.slice Ag sig.length cg) sig /\ Tb w3 /\ Below w.heap.size w w3) := ⟨H2.out.1.go b3, H2.out.2.1.go b3, H2.out.2.2.1.go b3, HTB.out _ _ H2.out.2.2.2.1 b3, Below.chain H2.out.2.2.2.2 b3⟩;clear b3 H2 HS hc;obtain ⟨M, hM⟩ : ∃ M, Shh (M = w3.heap.size) := ⟨_, ⟨rfl⟩⟩
  go_wp2_with (refine wpList_store_any rfl 27 (.tmp 9) (.tmp 23) rfl M (by rw [hM.out]; rfl) [.int .u32 xc, .bool xs, .int .i64 xn, .int .i64 xh, .int .i64 xl] rfl 27 [.int .u32 0, .bool false, .int .i64 0, .int .i64 0, .int .i64 0] (Row.new_ hM.out rfl) info_xms rfl oneCell5 ?_)
  intro Z hr bt hsz;have H4 : Shh (Row Z M 27 [.int .u32 xc, .bool xs, .int .i64 xn, .int .i64 xh, .int .i64 xl] /\ Sl Z Z.heap.size (.slice Ap pub.length cp) pub /\ Sl Z Z.heap.size (.slice Am msg.length cm) msg /\ Sl Z Z.heap.size (.slice Ag sig.length cg) sig /\ Tb Z /\ Below w.heap.size w Z) := by
   have hm := hM.out;have bb : Below w3.heap.size w3 Z := (below1 _ _).trans (bt.under (by first | omega | (rw [asz]; omega)) (by omega));exact ⟨hr, H3.out.1.go bb, H3.out.2.1.go bb, H3.out.2.2.1.go bb, HTB.out _ _ H3.out.2.2.2.1 bb, Below.chain H3.out.2.2.2.2 bb⟩
  rw [<- hM.out];clear hr bt hsz H3 hM
  go_wp2_with (first | refine wpList_load_any rfl 27 (.tmp 9) rfl M rfl 27 [.int .u32 xc, .bool xs, .int .i64 xn, .int .i64 xh, .int .i64 xl] _ H4.out.1 Tryz.underlying27 rfl info_xms ?_ | (go_at_call 28; refine (HI.out.1 _ H4.out.2.2.2.2.1 H4.out.2.2.2.1).mono ?_))
  unfold OldIs;rintro e w5 ⟨rfl, b5⟩;have H5 : Shh (Row w5 M 27 [.int .u32 xc, .bool xs, .int .i64 xn, .int .i64 xh, .int .i64 xl] /\ Sl w5 w5.heap.size (.slice Ap pub.length cp) pub /\ Sl w5 w5.heap.size (.slice Am msg.length cm) msg /\ Sl w5 w5.heap.size (.slice Ag sig.length cg) sig /\ Tb w5 /\ Below w.heap.size w w5) := ⟨H4.out.1.go b5, H4.out.2.1.go b5, H4.out.2.2.1.go b5, H4.out.2.2.2.1.go b5, HTB.out _ _ H4.out.2.2.2.2.1 b5, Below.chain H4.out.2.2.2.2.2 b5⟩;clear b5 H4
  go_wp2_with (first | refine wpList_load_any rfl 27 (.tmp 9) rfl M rfl 27 [.int .u32 xc, .bool xs, .int .i64 xn, .int .i64 xh, .int .i64 xl] _ H5.out.1 Tryz.underlying27 rfl info_xms ?_ | (go_at_call 29; refine (HI.out.2 _ H5.out.2.2.2.1).mono ?_))
  unfold OldIs;rintro e w6 ⟨rfl, b6⟩;have H6 : Shh (Sl w6 w6.heap.size (.slice Ap pub.length cp) pub /\ Sl w6 w6.heap.size (.slice Am msg.length cm) msg /\ Sl w6 w6.heap.size (.slice Ag sig.length cg) sig /\ Tb w6 /\ Below w.heap.size w w6) := ⟨H5.out.2.1.go b6, H5.out.2.2.1.go b6, H5.out.2.2.2.1.go b6, HTB.out _ _ H5.out.2.2.2.2.1 b6, Below.chain H5.out.2.2.2.2.2 b6⟩;clear b6 H5 HI
  go_wp2_with fail
  go_at_call 30
  refine (HVV.out.1 _ H6.out.2.2.2.1 H6.out.1 H6.out.2.1 H6.out.2.2.1).mono ?_;unfold OldIs;rintro e w7 ⟨rfl, b7⟩;have H7 : Shh (Sl w7 w7.heap.size (.slice Ap pub.length cp) pub /\ Sl w7 w7.heap.size (.slice Am msg.length cm) msg /\ Sl w7 w7.heap.size (.slice Ag sig.length cg) sig /\ Tb w7 /\ Below w.heap.size w w7) := ⟨H6.out.1.go b7, H6.out.2.1.go b7, H6.out.2.2.1.go b7, HTB.out _ _ H6.out.2.2.2.1 b7, Below.chain H6.out.2.2.2.2 b7⟩;clear b7 H6
  go_wp2_with fail
  go_at_call 31
  refine (HVV.out.2 _ H7.out.1 H7.out.2.1 H7.out.2.2.1).mono ?_;unfold OldIs;rintro e w8 ⟨rfl, b8⟩;have H8 : Shh (Below w.heap.size w w8) := ⟨Below.chain H7.out.2.2.2.2 b8⟩;clear b8 H7 HVV;go_wp2;go_ret;exact ⟨rfl, H8.out⟩
end
end Go.Proofs.YtdakbipiifkmfaaGreatDoor
namespace Go.Proofs.YtdakbipiifkmfaaGreatDoor
open Go.RowKit
set_option maxRecDepth 100000
section
variable {w w' : World} {base top : Nat} {v : Value} {rss : List (List (List UInt8))}
theorem OwnQ.grp (h : OwnQ w base top v rss) (hg : GrP w top w') : OwnQ w' base top v rss := by
 obtain ⟨us, hul, ho, hs⟩ := h;refine ⟨us, hul, ?_, fun i hi hi2 => ⟨OwnP.grp (hs i hi hi2).1 (hs i hi hi2).2 hg (fun _ => Nat.zero_le _), (hs i hi hi2).2⟩⟩;obtain ⟨h1, h2⟩ := ho;refine ⟨h1, ?_⟩
 rcases h2 with h2 | ⟨g, cap, cur, hv, hb, hgb, hr⟩
 ·exact .inl h2
 ·exact .inr ⟨g, cap, cur, hv, hb, hg.row (g := g) (T := 82) (cs := cur.toList) (by show w.heap[g]? = _; rw [hgb]) (by decide), hr⟩
end
end Go.Proofs.YtdakbipiifkmfaaGreatDoor
