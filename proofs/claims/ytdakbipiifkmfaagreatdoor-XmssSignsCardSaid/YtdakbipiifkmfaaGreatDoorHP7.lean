import Derived.BigRegion
import Derived.Deep.RegionWith
import Derived.Deep.RegionHeld
import Derived.BigQuiet
import Derived.Deep.QuietTactic
import Derived.StillTailTactics
import Derived.WalkKit
import Derived.Test.YtdakbipiifkmfaaGreatDoorProg
import Derived.WalkSpells
import Derived.WalkLawsBesides
import Derived.Lib.UnsafeStr
import Derived.Lib.Hide
import Derived.Laws.BytesArg
import Derived.Deep.Draws
import Derived.RegionTactic
import Derived.ChangeAlike
import Derived.Laws.AppendOwnNone
import Derived.Laws.Cover3
import Derived.RangeFuncNested
import Derived.RangeFuncBound
import Derived.RangeFuncCalls
import Derived.RangeFuncLeaves
import Derived.OwnWalkIn
import Derived.TacticsInMore
import Derived.LoopNIn
import Derived.LoopIn
import Derived.RangeFuncBox
import Derived.RangeFuncWrites
import Derived.Maps.AppendAt
import Derived.Deep.MidRow
import Derived.Deep.WholeRow
import Derived.Deep.RegionHeld3
import Derived.Test.YtdakbipiifkmfaaGreatDoorRows
import Derived.ProofKit
import Derived.OpenShut
import Derived.JoinedCond
import Derived.SizedLaws
import Derived.Carry
import Derived.Deep.Grids
import Derived.Lib.ConvBytes
import Derived.Lib.AtoiErrMem
import Derived.Laws.AppendOwn
import Derived.Deep.RegionLaw
import Derived.Laws.CopyOwn
import Derived.DeepKeys
import Derived.Lib.SmallJoins
import Derived.Laws.EntriesVeiled
import Derived.Test.YtdakbipiifkmfaaGreatDoorHP5
import Derived.Test.YtdakbipiifkmfaaGreatDoorHP6
namespace Go.Proofs.YtdakbipiifkmfaaGreatDoor
open Go.RowKit
set_option maxRecDepth 100000
def PartF (w : World) (B ga N0 t : Nat) (v : Value) (bss : List (List UInt8)) : Prop := ∃ (q c : Nat) (us : List Value), v = .slice (some ⟨q, 0, none⟩) bss.length c /\ bss.length <= c /\ c <= maxLen /\ us.length = bss.length /\ q < B /\ q ≠ ga /\ (∀ j (u : Value), us[j]? = some u -> w.cell? ⟨q, j, none⟩ = some u) /\ ∀ i (h : i < bss.length) (h2 : i < us.length), Sl w B us[i] bss[i] /\ Off ga us[i] /\ (i = 0 -> 0 < t -> ∀ g, g < N0 -> Off g us[i])
def AbvA (w : World) (base : Nat) (v : Value) (bss : List (List UInt8)) : Prop := ∃ us : List Value, us.length = bss.length /\ w.ownsRow base 23 1 v bss.length us /\ ∀ i (h : i < bss.length) (h2 : i < us.length), Sl w w.heap.size us[i] bss[i] /\ (∀ k, v.ownBlock = some k -> Off k us[i]) /\ ∀ g, g < base -> Off g us[i]
section
variable {w w' : World} {B ga N0 t base : Nat} {v : Value} {bss : List (List UInt8)}
theorem PartF.but (h : PartF w B ga N0 t v bss) (hb : But B ga w w') : PartF w' B ga N0 t v bss := by
 obtain ⟨q, c, us, h1, h2, h3, h4, h5, h6, h7, h8⟩ := h;exact ⟨q, c, us, h1, h2, h3, h4, h5, h6, fun j u hj => (hb.cell (p := ⟨q, j, none⟩) h5 h6).trans (h7 j u hj), fun i hi hi2 => ⟨(h8 i hi hi2).1.but (h8 i hi hi2).2.1 hb, (h8 i hi hi2).2⟩⟩
theorem PartF.more (h : PartF w B ga N0 t v bss) {B' : Nat} (hB : B <= B') : PartF w B' ga N0 t v bss := by
 obtain ⟨q, c, us, h1, h2, h3, h4, h5, h6, h7, h8⟩ := h;exact ⟨q, c, us, h1, h2, h3, h4, by omega, h6, h7, fun i hi hi2 => ⟨(h8 i hi hi2).1.more hB, (h8 i hi hi2).2⟩⟩
theorem PartF.form (h : PartF w B ga N0 t v bss) : ∃ q c, v = .slice (some ⟨q, 0, none⟩) bss.length c /\ q < B /\ q ≠ ga /\ bss.length <= c /\ c <= maxLen := by
 obtain ⟨q, c, us, h1, h2, h3, h4, h5, h6, h7, h8⟩ := h;exact ⟨q, c, h1, h5, h6, h2, h3⟩
theorem PartF.at_ {q c n : Nat} (h : PartF w B ga N0 t (.slice (some ⟨q, 0, none⟩) n c) bss) (i : Nat) (hi : i < bss.length) : ∃ u, w.cell? ⟨q, i, none⟩ = some u /\ Sl w B u bss[i] /\ Off ga u /\ (i = 0 -> 0 < t -> ∀ g, g < N0 -> Off g u) := by
 obtain ⟨q', c', us, h1, h2, h3, h4, h5, h6, h7, h8⟩ := h;injection h1 with e1;injection e1 with e1;injection e1 with e1;subst e1;exact ⟨us[i]'(by omega), h7 i _ (List.getElem?_eq_getElem (by omega)), h8 i hi (by omega)⟩
theorem AbvA.nil_ : AbvA w base (.slice none 0 0) [] := ⟨[], rfl, World.ownsRow_nil _ _ _ _, fun i h => by cases h⟩
theorem AbvA.go (h : AbvA w base v bss) (b : Below w.heap.size w w') : AbvA w' base v bss := by
 obtain ⟨us, h1, h2, h3⟩ := h;exact ⟨us, h1, own_step h2 b, fun i hi hi2 => ⟨(h3 i hi hi2).1.go b, (h3 i hi hi2).2⟩⟩
theorem AbvA.form (h : AbvA w base v bss) : ∃ A c, v = .slice A bss.length c := by
 obtain ⟨us, h1, h2, h3⟩ := h;exact own_form h2
theorem AbvA.drew (h : AbvA w base v bss) : AbvA w.drew base v bss := h
theorem AbvA.but (h : AbvA w base v bss) (hg : ga < base) (hb : But w.heap.size ga w w') : AbvA w' base v bss := by
 obtain ⟨us, h1, h2, h3⟩ := h;refine ⟨us, h1, ?_, fun i hi hi2 => ⟨((h3 i hi hi2).1.but ((h3 i hi hi2).2.2 ga hg) hb).more hb.size, (h3 i hi hi2).2⟩⟩;refine ⟨h2.1, ?_⟩
 rcases h2.2 with hn | ⟨g, cap, cur, rfl, q1, q2, rest⟩
 ·exact .inl hn
 ·exact .inr ⟨g, cap, cur, rfl, q1, (hb.block g (Array.getElem?_eq_some_iff.1 q2).1 (by omega)).trans q2, rest⟩
theorem own_first {e n : Nat} {xs : List Value} (h : w.ownsRow base e 1 v n xs) (hn : 0 < n) : ∃ g cap, v = .slice (some ⟨g, 0, none⟩) n cap /\ base <= g /\ g < w.heap.size /\ n <= cap /\ cap <= maxLen /\ ∀ j (u : Value), xs[j]? = some u -> w.cell? ⟨g, j, none⟩ = some u := by
 rcases h with ⟨_, ⟨_, h0⟩ | ⟨g, cap, cur, rfl, hb, hgb, hc, hc2, hsz, ht⟩⟩
 ·omega
 ·refine ⟨g, cap, rfl, hb, (Array.getElem?_eq_some_iff.1 hgb).1, hc, hc2, fun j u hj => ?_⟩;have hj2 : j < n * 1 := by
   have h1 := (List.getElem?_eq_some_iff.1 hj).1;rw [<- ht, List.length_take] at h1;omega
  have e2 : (cur.toList.take (n * 1))[j]? = some u := by rw [ht]; exact hj
  rw [List.getElem?_take_of_lt hj2, Array.getElem?_toList] at e2
  simpa [World.cell?, hgb] using e2
end
theorem step_appendA {P : Program} {md : Region.Mode} {ops : Array Oper} {Q : Exit -> Act -> World -> Prop} {S : World -> Prop} {fuel : Nat} {listed : Array Bool} {a : Act} (w : World) (i : Nat) (ty : TypeId) (dst : Option Tmp) (t : TypeId) (i0 : TypeInfo) (z : Value) (ht : P.underlying t = some (.slice 23)) (hi : P.info? 23 = some i0) (hz : i0.zero = some z) (hsz : i0.size = 1) (hby : i0.bytes = 24) (hzc : z.cells.size = 1)
 (s x : Operand) (hop : (ops[i]?).map (fun o => (o.op, o.type, o.dst)) = some (.call { callee := .builtin .append, args := #[s, x], argTypes := #[t, t] }, ty, dst)) (hw : (ops[i]?).map (fun o => Region.wanted o (yielded ops a.tmps)) = some true)
 {base : Nat} {v : Value} {bss : List (List UInt8)} {g c : Nat} {u : Value} {b : List UInt8} (hown : AbvA w base v bss) (hs : a.eval s = v) (hx : a.eval x = .slice (some ⟨g, 0, none⟩) 1 c)
 (hc : w.cell? ⟨g, 0, none⟩ = some u) (hu : Sl w w.heap.size u b) (hur : ∀ k, v.ownBlock = some k -> Off k u) (hun : ∀ k, k < base -> Off k u) (hlen : bss.length + 1 <= 1000000) (hbase : base <= w.heap.size)
 (h : ∀ v' w', AbvA w' base v' (bss ++ [b]) -> Below base w w' -> w.heap.size <= w'.heap.size -> S w' /\ wpAnyH P md ops Q S fuel (listed.setIfInBounds i true) (a.put dst v') w') : HStep P md ops Q S fuel listed a w i := by
 unfold HStep;obtain ⟨us, hul, ho, hsl⟩ := hown;have hone : u.oneCell' = true := by
  obtain ⟨A, c', hv, _⟩ := hu;rw [hv]; rfl
 cases hoo : ops[i]? with
 | none => rw [hoo] at hop; cases hop
 | some op =>
  rw [hoo] at hop hw;simp only [Option.map_some, Option.some.injEq, Prod.mk.injEq] at hop hw;obtain ⟨hop1, _, hop3⟩ := hop;refine wpOp_step hoo fun K' hK => ?_
  rw [if_pos hw]
  obtain ⟨v', w', hr, ho', hg, _, hat⟩ := run_append_own_at (P := P) w base t op.type 23 i0 z 1 24 ht hi hz hsz hby hzc (by decide) v bss.length us ho ⟨g, 0, none⟩ 1 c [u] rfl (by
   intro j y hj
   match j, hj with
   | 0, hj =>
    simp at hj; subst hj;rw [addr_add];exact hc
   | (j + 1), hj => simp at hj) (by simpa using hone) (by unfold maxLen; omega) (by omega) hbase
  unfold Oper.wp execOp;simp only [hop1, resolve, invoke, builtin, Sem.run_bind, Sem.run_pure, Result.andThen_ok, List.map_toArray, List.map_cons, List.map_nil, hs, hx, hr];rw [<- hop3] at h;have hbl : Below base w w' := (Below.refl base w).grown hg hbase (fun k hk => by have := (ho.lt k hk).1; omega);have hoff : ∀ (y : Value) (bs : List UInt8), Sl w w.heap.size y bs -> (∀ k, v.ownBlock = some k -> Off k y) -> ∀ k, v'.ownBlock = some k -> Off k y := fun y bs hy h1 k hk => by
   rcases hat with e | e
   ·exact h1 k (by rw [<- e]; exact hk)
   ·rw [e] at hk;injection hk with hk;rw [<- hk];exact hy.off (Nat.le_refl _)
  refine hK _ _ (h v' w' ⟨us ++ [u], by simp [hul], by rw [List.length_append]; exact ho', fun j hj hj2 => ?_⟩ hbl hg.size)
  by_cases hlt : j < bss.length
  ·rw [List.getElem_append_left (by omega), List.getElem_append_left hlt];have h1 := hsl j hlt (by omega);exact ⟨(h1.1.grown11 h1.2.1 hg (Nat.le_refl _)).more hg.size, hoff _ _ h1.1 h1.2.1, h1.2.2⟩
  ·have hjj : j = bss.length := by simp at hj; omega
   subst hjj;have e1 : (us ++ [u])[bss.length]'hj2 = u := by simp [<- hul]
   have e2 : (bss ++ [b])[bss.length]'hj = b := by simp
   rw [e1, e2];exact ⟨(hu.grown11 hur hg (Nat.le_refl _)).more hg.size, hoff _ _ hu hur, hun⟩
theorem wpList_rest {P : Program} {ops : Array Oper} {rest : List Oper} {o : Oper} {a : Act} {Q : Exit -> Act -> World -> Prop} (w : World) (t : TypeId) (i0 : TypeInfo) (z : Value) (ht : P.underlying t = some (.slice 23)) (hi : P.info? 23 = some i0) (hz : i0.zero = some z) (hsz : i0.size = 1) (hby : i0.bytes = 24) (hzc : z.cells.size = 1)
 (hgd : o.guard = none) (s x : Operand) (hop : o.op = .call { callee := .builtin .append, args := #[s, x], argTypes := #[t, t] })
 {base ga N0 tt : Nat} {v : Value} {bss ext : List (List UInt8)} {news : List Value} {ad : Addr} {m c : Nat} (hown : AbvA w base v bss) (h0 : 0 < bss.length) (hs : a.eval s = v) (hx : a.eval x = .slice (some ad) m c)
 (hm : news.length = m) (hme : ext.length = m) (hc : ∀ j u, news[j]? = some u -> w.cell? (ad.add j) = some u) (hu : ∀ j (h : j < news.length) (h2 : j < ext.length), Sl w base news[j] ext[j] /\ Off ga news[j]) (hlen : bss.length + m <= 1000000) (hbase : base <= w.heap.size) (hga : ga < base) (hN : N0 <= base)
 (h : ∀ v' w', PartF w' w'.heap.size ga N0 tt v' (bss ++ ext) -> Below base w w' -> w.heap.size <= w'.heap.size -> wpList P ops Q rest (a.put o.dst v') w') : wpList P ops Q (o :: rest) a w := by
 obtain ⟨us, hul, ho, hsl⟩ := hown;refine wpList_append_own w hgd s x t hop base 23 i0 z 1 24 ht hi hz hsz hby hzc (by decide) v bss.length us hs ho ad m c news hx (by omega) hc ?_ (by unfold maxLen; omega) (by omega) hbase ?_
 ·intro y hy;obtain ⟨j, hj, rfl⟩ := List.getElem_of_mem hy;obtain ⟨A, c', hv, _⟩ := (hu j hj (by omega)).1;rw [hv]; rfl
 ·intro v' w' ho' hg _;have hbl : Below base w w' := (Below.refl base w).grown hg hbase (fun k hk => by have := (ho.lt k hk).1; omega);obtain ⟨g, cap, hv, hb, hl, hcc, hc2, hcell⟩ := own_first ho' (by omega);refine h v' w' ⟨g, cap, us ++ news, by rw [List.length_append, hme]; exact hv, by rw [List.length_append, hme]; exact hcc, hc2, by rw [List.length_append, List.length_append]; omega, hl, by omega, hcell, fun j hj hj2 => ?_⟩ hbl hg.size
  by_cases hlt : j < bss.length
  ·rw [List.getElem_append_left (by omega), List.getElem_append_left hlt];have h1 := hsl j hlt (by omega);exact ⟨(h1.1.grown11 h1.2.1 hg (Nat.le_refl _)).more hg.size, h1.2.2 ga hga, fun _ _ k hk => h1.2.2 k (by omega)⟩
  ·rw [List.length_append] at hj;rw [List.getElem_append_right (by omega), List.getElem_append_right (by omega)];have e : j - us.length = j - bss.length := by omega
   have h1 := hu (j - us.length) (by omega) (by omega);refine ⟨?_, h1.2, fun e0 => absurd e0 (by omega)⟩;have h2 := h1.1.grown11 (fun k hk => h1.1.off (by have := (ho.lt k hk).1; omega)) hg hbase;have h3 := h2.more (Nat.le_trans hbase hg.size)
   simpa only [e] using h3
theorem part_collect {w : World} {base b off N L ga N0 B0 c : Nat} {v : Value} {ends : List UInt8} (ho : w.ownsRow base 23 1 v L ((List.range L).map (ckV b off N))) (hL : 0 < L) (hN : 0 < N) (hN2 : N <= 100) (hga : ga < base) (hs : Sl w B0 (.slice (some ⟨b, off, none⟩) ends.length c) ends) (hel : ends.length = L * N) (hB : B0 <= ga) (hBw : B0 <= w.heap.size) : PartF w w.heap.size ga N0 0 v (cutL N ends L) := by
 obtain ⟨g, cap, hv, hb, hl, hcc, hc2, hcell⟩ := own_first ho hL;refine ⟨g, cap, _, by rw [cutL_length]; exact hv, by rw [cutL_length]; exact hcc, hc2, by rw [cutL_length]; simp, hl, by omega, hcell, fun i hi hi2 => ?_⟩;rw [cutL_length] at hi;have hq : i * N + N <= L * N := by rw [<- Nat.succ_mul]; exact Nat.mul_le_mul_right N hi
 have hcut := hs.cut (i * N) (i * N + N) (by omega) (by omega) (by obtain ⟨A, c', h1, h2, _⟩ := hs; cases h1; omega);have e1 : ((List.range L).map (ckV b off N))[i]'hi2 = ckV b off N i := by simp
 have e2 : (cutL N ends L)[i]'(by rw [cutL_length]; exact hi) = pieceB N ends i := by simp [cutL]
 rw [e1, e2];have hpl := pieceB_length N ends i L hel hi;obtain ⟨b', off', hA, hbb, hk⟩ := hs.at_ (by omega : 0 < ends.length);cases hA;have hsl : Sl w B0 (ckV b off N i) (pieceB N ends i) := by
  refine ⟨some ⟨b, off + i * N, none⟩, N, by unfold ckV; rw [hpl], by omega, by unfold maxLen; omega, fun _ => ⟨b, off + i * N, rfl, hbb, fun k hkk => ?_⟩⟩;have h1 := hk (i * N + k) (by omega);rw [<- Nat.add_assoc] at h1;rw [h1];have e3 : (pieceB N ends i)[k]'hkk = ends[i * N + k]'(by omega) := by simp [pieceB]
  rw [e3]
 exact ⟨hsl.more hBw, hsl.off hB, fun _ h => absurd h (by omega)⟩
def lenV : Value -> Nat
 | .slice _ n _ => n
 | _ => 0
section
variable {a : Act} {x y : Operand} {op : Oper} {w : World}
theorem mul_two {i j : Nat} (h : j = 2 * i /\ j <= 1000000) (ho : op.op = .binOp .mul 3 (.const (.int .i64 2)) y 3) (hy : a.eval y = .int .i64 (i : Int)) : (execOp a.eval op).run Tryz.prog w = .ok (.value (.int .i64 (j : Int))) w := by
 have hc : a.eval (.const (.int .i64 2)) = .int .i64 2 := rfl;have hw : IntKind.i64.wrap ((2 : Int) * (i : Int)) = (j : Int) := by rw [IntKind.wrap_i64]; omega
 unfold execOp;simp only [ho, hy, hc]
 go_simp
theorem quo_half {i j : Nat} (h : j = i / 2 /\ i <= 1000000) (ho : op.op = .binOp .quo 3 x (.const (.int .i64 2)) 3) (hx : a.eval x = .int .i64 (i : Int)) : (execOp a.eval op).run Tryz.prog w = .ok (.value (.int .i64 (j : Int))) w := by
 have hc : a.eval (.const (.int .i64 2)) = .int .i64 2 := rfl;have e : (i : Int).tdiv 2 = (j : Int) := by rw [Int.tdiv_eq_ediv_of_nonneg (by omega)]; omega
 have e2 : (i : Int) / 2 = (j : Int) := by omega
 have hw : IntKind.i64.wrap (j : Int) = (j : Int) := by rw [IntKind.wrap_i64]; omega
 clear h;unfold execOp;simp only [ho, hx, hc]
 go_simp
end
theorem slice82 : Tryz.prog.underlying 82 = some (.slice (Tryz.prog.elem 82)) := by kernel_rfl
theorem elem82 : Tryz.prog.elem 82 = 23 := by kernel_rfl
theorem run_size82 (w : World) : (sizeOf 23).run Tryz.prog w = .ok 1 w := by kernel_rfl
theorem rest_82 {q n c p : Nat} (hp : p <= n) (hn : n <= c) : ∃ ad : Addr, (∀ w : World, (Instr.sliceAt 82 (.slice (some ⟨q, 0, none⟩) n c) (some (.int .i64 (p : Int))) none none).run Tryz.prog w = .ok (.slice (some ad) (n - p) (c - p)) w) /\ (p < n -> ad = ⟨q, p, none⟩) := by
 refine ⟨if c = p then ⟨q, 0, none⟩ else ⟨q, p, none⟩, fun w => ?_, fun h => if_neg (by omega)⟩;rw [run_sliceAt_slice _ _ _ _ _ _ slice82, run_slice_l w 82 (some ⟨q, 0, none⟩) n c slice82 .i64 (p : Int) (by omega) (by omega), elem82, run_size82, Result.andThen_ok, Int.toNat_natCast]
 by_cases h : c = p
 ·simp [sliced, h]
 ·by_cases h0 : p = 0
  ·subst h0;simp [sliced, Addr.add, h]
  ·simp [sliced, Addr.add, h, h0]
set_option maxHeartbeats 8000000 in
theorem ltree_any (x : S5) (hw : x.wf) (hx : x.ok = true) (vs ve : Value) (seed ends : List UInt8) (leaf : Nat) (hleaf : leaf < 4294967296) (Lx Nn : Nat) (hLx : x.l = (Lx : Int)) (hNn : x.n = (Nn : Int)) (hel : ends.length = Lx * Nn) (hsl : seed.length <= 1000) (w : World) (hs : Sl w w.heap.size vs seed) (he : Sl w w.heap.size ve ends) (ht : Tabs w) :
  Calls Tryz.prog 75 #[x.v, vs, ve, .int .u32 (leaf : Int)] w (NewSl w (ltreeB x.s x.n Lx seed ends leaf)) := by
 unfold NewSl;have hLN : (Nn = 24 /\ Lx = 51) ∨ (Nn = 32 /\ Lx = 67) := by rcases S5.ok_is hx with h | h <;> omega
 have hb67 : Lx <= 67 /\ Nn <= 32 /\ 51 <= Lx /\ 24 <= Nn := by omega
 have hep : 0 < ends.length := by rw [hel]; exact Nat.mul_pos (by omega) (by omega)
 obtain ⟨As, cs, rfl, _, _⟩ := hs.form;obtain ⟨Ae, ce, rfl, hce, _⟩ := he.form;obtain ⟨be, oe, rfl, hbe, _⟩ := he.at_ hep;have hNt : x.n.toNat = Nn := by omega
 obtain ⟨F, hF⟩ : ∃ F, F = ltF x.s x.n seed leaf := ⟨_, rfl⟩;have HND : Shh (∀ (t j : Nat) (vl vr : Value) (l r : List UInt8) (W : World), Sl W W.heap.size (.slice As seed.length cs) seed -> Sl W W.heap.size vl l -> Sl W W.heap.size vr r -> l.length = Nn -> r.length = Nn -> Tabs W -> Calls Tryz.prog 83 #[x.v, .slice As seed.length cs, adrV (adr11 1 leaf t j), vl, vr] W (NewSl W (F t j l r))) := ⟨fun t j vl vr l r W h3 h4 h5 h6 h7 h8 => by rw [hF]; exact combine_any x hw hx _ _ _ seed l r (adr11 1 leaf t j) rfl W h3 h4 h5 hsl (by rw [hNt]; exact h6) (by rw [hNt]; exact h7) h8⟩;have HFL : Shh (∀ h i a b, (F h i a b).length = Nn) := ⟨fun h i a b => by rw [hF, <- hNt]; exact nodeB_length hx _ _ _ _⟩;have HLT : Shh (ltreeB x.s x.n Lx seed ends leaf = (lvl F (cutL Nn ends Lx) 7).getD 0 []) := ⟨by rw [hF]; unfold ltreeB; rw [hNt]⟩;have HPC : Shh (∀ k, k < Lx -> (pieceB Nn ends k).length = Nn) := ⟨fun k hk => pieceB_length Nn ends k Lx hel hk⟩;have HARG : Shh (∀ W, Below w.heap.size w W -> Sl W W.heap.size (.slice As seed.length cs) seed /\ Sl W w.heap.size (.slice (some ⟨be, oe, none⟩) ends.length ce) ends /\ Tabs W) := ⟨fun W b => ⟨hs.go b, he.below b, ht.go b⟩⟩;have HSZ : Shh (leaf < 4294967296 /\ ends.length = Lx * Nn /\ ends.length <= ce /\ Lx <= 67 /\ Nn <= 32 /\ 51 <= Lx /\ 24 <= Nn) := ⟨hleaf, hel, hce, hb67⟩;obtain ⟨RS, hRS⟩ : ∃ RS, RS = ltreeB x.s x.n Lx seed ends leaf := ⟨_, rfl⟩;rw [<- hRS] at HLT ⊢;obtain ⟨ga, hga⟩ : ∃ ga, ga = w.heap.size + 1 := ⟨_, rfl⟩;have hwc : wordCells (adr11 1 leaf 0 0) = [.int .u32 0, .int .u32 0, .int .u32 0, .int .u32 1, .int .u32 (leaf : Int), .int .u32 0, .int .u32 0, .int .u32 0] := by
  have e : adrV (adr11 1 leaf 0 0) = .agg ([.int .u32 0, .int .u32 0, .int .u32 0, .int .u32 (1 : Int), .int .u32 (leaf : Int), .int .u32 (0 : Int), .int .u32 (0 : Int), .int .u32 0] : List Value).toArray := by
   rw [ofNat_cell hleaf];rfl
  unfold adrV at e;injection e with e;exact congrArg Array.toList e
 obtain ⟨W, hW⟩ : ∃ W, W = (w.alloc (.cells #[.int .u32 x.c, .bool x.s, .int .i64 x.n, .int .i64 x.h, .int .i64 x.l] 27)).alloc (.cells #[.int .u32 0, .int .u32 0, .int .u32 0, .int .u32 1, .int .u32 (leaf : Int), .int .u32 0, .int .u32 0, .int .u32 0] 64) := ⟨_, rfl⟩;have HW : Shh (Row W w.heap.size 27 [.int .u32 x.c, .bool x.s, .int .i64 x.n, .int .i64 x.h, .int .i64 x.l] /\ Row W ga 64 (wordCells (adr11 1 leaf 0 0)) /\ Below w.heap.size w W /\ W.heap.size = w.heap.size + 2 /\ ga = w.heap.size + 1) := by
  rw [hW];exact ⟨(Row.new_ rfl rfl).alloc _, by rw [hwc]; exact Row.new_ (by rw [asz]; exact hga) rfl, Below.chain (below1 _ _) (below1 _ _), by rw [asz, asz], hga⟩
 have c2 : W.cell? ⟨w.heap.size, 2, none⟩ = some (.int .i64 x.n) := HW.out.1.cell 2;rw [hW] at c2;clear hga;clear hs he ht hF hleaf hel hce hsl hLN hNt hx hRS hw hb67 hep hbe hwc;unfold S5.v at HND ⊢;generalize x.c = xc at *;generalize x.s = xs at *;generalize x.n = xn at *;generalize x.h = xh at *;generalize x.l = xl at *;subst hLx;subst hNn;obtain ⟨i0, hi0, hz0, hsz0, hby0⟩ := info_parts info_sl;have HI := Shh.mk (And.intro hi0 (And.intro hz0 (And.intro hsz0 hby0)));clear hi0 hz0 hsz0 hby0;go_enter Tryz.func75, Tryz.ntmps75
 go_wp2_with (go_at_call 107; rw [<- hW]; refine (chunk_any _ _ _ Nn (by have := HSZ.out; omega) W).mono ?_)
 unfold ChunkIs;rintro e w2 ⟨rfl, r1, r2, b2⟩;have hga2 : w.heap.size + 1 = ga := HW.out.2.2.2.2.symm;rw [hga2];clear hga2;obtain ⟨bS, hbS⟩ : ∃ bS, bS = W.heap.size := ⟨_, rfl⟩;rw [<- hbS] at r1 r2 ⊢;clear hbS;have H2 : Shh (Row w2 w.heap.size 27 [.int .u32 xc, .bool xs, .int .i64 (Nn : Int), .int .i64 xh, .int .i64 (Lx : Int)] /\ Row w2 ga 64 (wordCells (adr11 1 leaf 0 0)) /\ Row w2 bS 23 [.slice (some ⟨be, oe, none⟩) (Lx * Nn) ce] /\ Row w2 (bS + 1) 3 [.int .i64 (Nn : Int)] /\ Below w.heap.size w w2 /\ w.heap.size + 2 <= w2.heap.size) := ⟨HW.out.1.go b2, HW.out.2.1.go b2, by rw [<- HSZ.out.2.1]; exact r1, r2, Below.chain HW.out.2.2.1 b2, by have := b2.size; have := HW.out.2.2.2.1; omega⟩;have HGA : Shh (ga = w.heap.size + 1) := ⟨HW.out.2.2.2.2⟩;clear r1 r2 b2 HW c2 hW
 go_wp2_with (go_at_call 106; refine (collect_any bS (bS + 1) be oe Nn Lx ce (by have := HSZ.out; omega) (by have := HSZ.out; omega) (by have := HSZ.out; omega) (by have := HSZ.out; omega) w2 H2.out.2.2.1 H2.out.2.2.2.1).mono ?_)
 unfold CkIs;rintro e w3 ⟨v3, rfl, o3, b3⟩;obtain ⟨l0, hl0⟩ : ∃ l0, l0 = cutL Nn ends Lx := ⟨_, rfl⟩
 have HL0 : Shh (l0.length = Lx /\ ∀ b ∈ l0, b.length = Nn) := ⟨by rw [hl0, cutL_length], fun b hb => by
  rw [hl0] at hb;unfold cutL at hb;obtain ⟨i, hi, rfl⟩ := List.mem_map.1 hb
  exact HPC.out i (List.mem_range.1 hi)⟩
 have HL : Shh (Row w3 w.heap.size 27 [.int .u32 xc, .bool xs, .int .i64 (Nn : Int), .int .i64 xh, .int .i64 (Lx : Int)] /\ Row w3 ga 64 (wordCells (adr11 1 leaf 0 0)) /\ PartF w3 w3.heap.size ga w.heap.size 0 v3 (lvl F l0 0) /\ Below w.heap.size w w3) := by
  have hbw : Below w.heap.size w w3 := Below.chain H2.out.2.2.2.2.1 b3;refine ⟨H2.out.1.go b3, H2.out.2.1.go b3, ?_, hbw⟩;have := HSZ.out;have h1 := part_collect (ga := ga) (N0 := w.heap.size) o3 (by omega) (by omega) (by omega) (by have := H2.out.2.2.2.2.2; have := HGA.out; omega) (HARG.out w3 hbw).2.1 HSZ.out.2.1 (by have := HGA.out; omega) hbw.size;rw [<- hl0] at h1;exact h1
 rw [<- hl0] at HLT;clear hl0 o3 b3 H2 HPC;obtain ⟨q3, cq3, rfl, _, _, _, _⟩ := HL.out.2.2.1.form;go_wp2;go_loopw [10] (fun l wr => ∃ t j : Nat, t <= 7 /\ Shh (Row wr w.heap.size 27 [.int .u32 xc, .bool xs, .int .i64 (Nn : Int), .int .i64 xh, .int .i64 (Lx : Int)] /\ Row wr ga 64 (wordCells (adr11 1 leaf t j)) /\ PartF wr wr.heap.size ga w.heap.size t l (lvl F l0 t) /\ Below w.heap.size w wr)) (fun l _ => lenV l)
 case atStart => exact ⟨0, 0, Nat.zero_le _, HL⟩
 case round =>
  clear HL;obtain ⟨t, j0, ht, HL⟩ := hrel;obtain ⟨L, hL⟩ : ∃ L, L = lvl F l0 t := ⟨_, rfl⟩;have HLE : Shh (L = lvl F l0 t /\ 0 < L.length /\ L.length <= 67 /\ (∀ b ∈ L, b.length = Nn) /\ (1 < L.length -> t < 7)) := by
   have hLx := HSZ.out.2.2.2;refine ⟨hL, by rw [hL]; exact lvl_pos F l0 (by rw [HL0.out.1]; omega) t, by rw [hL]; exact lvl_le F l0 67 (by rw [HL0.out.1]; omega) t, by rw [hL]; exact lvl_all F Nn HFL.out l0 HL0.out.2 t, fun h1 => ?_⟩;refine Nat.lt_of_le_of_ne ht fun e => ?_
   have h7 := lvl_seven F l0 (by rw [HL0.out.1]; omega);rw [<- e, <- hL] at h7;omega
  rw [<- hL] at HL;clear hL;obtain ⟨gl, cl, rfl, hgl, hgne, hlc, hcm⟩ := HL.out.2.2.1.form;have HGL : Shh (gl < wr.heap.size /\ gl ≠ ga /\ L.length <= cl) := ⟨hgl, hgne, hlc⟩;clear hgl hgne hlc hcm
  by_cases hone : 1 < L.length
  ·have hc1 : (1 : Int) < (L.length : Int) := by omega
   obtain ⟨pr, hpr⟩ : ∃ pr, pr = L.length / 2 := ⟨_, rfl⟩;have HDQ : Shh (pr = L.length / 2 /\ L.length <= 1000000) := ⟨hpr, by have := HLE.out; omega⟩;have HPR : Shh (2 * pr <= L.length /\ L.length <= 2 * pr + 1 /\ 0 < pr /\ pr <= 33) := ⟨by omega, by omega, by omega, by have := HLE.out; omega⟩;clear hpr;obtain ⟨bb, hbb⟩ : ∃ bb, bb = wr.heap.size := ⟨_, rfl⟩;obtain ⟨WL, hWL⟩ : ∃ WL, WL = wr := ⟨_, rfl⟩;have HB : Shh (ga < bb /\ w.heap.size <= bb /\ bb = WL.heap.size /\ gl < bb /\ PartF WL bb ga w.heap.size t (.slice (some ⟨gl, 0, none⟩) L.length cl) L) := ⟨by rw [hbb]; exact HL.out.2.1.lt, by rw [hbb]; exact HL.out.2.2.2.size, by rw [hbb, hWL], by rw [hbb]; exact HGL.out.1, by rw [hbb, hWL]; exact HL.out.2.2.1⟩;have HU : Shh (Row wr w.heap.size 27 [.int .u32 xc, .bool xs, .int .i64 (Nn : Int), .int .i64 xh, .int .i64 (Lx : Int)] /\ Row wr ga 64 (wordCells (adr11 1 leaf t j0)) /\ AbvA wr bb (.slice none 0 0) (nodes F t L 0) /\ But bb ga WL wr /\ Below w.heap.size w wr) := ⟨HL.out.1, HL.out.2.1, AbvA.nil_, by rw [hWL]; exact But.refl _ _ _, HL.out.2.2.2⟩;have ht7 := HLE.out.2.2.2.2 hone;clear HL hbb hWL
   go_wp2_with (refine wl_value (.int .i64 (pr : Int)) rfl (quo_half HDQ.out rfl rfl) ?_)
   clear hc1 HDQ;go_loopw [12, 32] (fun nv i wr => ∃ k j : Nat, k <= pr /\ i = .int .i64 (k : Int) /\ Shh (Row wr w.heap.size 27 [.int .u32 xc, .bool xs, .int .i64 (Nn : Int), .int .i64 xh, .int .i64 (Lx : Int)] /\ Row wr ga 64 (wordCells (adr11 1 leaf t j)) /\ AbvA wr bb nv (nodes F t L k) /\ But bb ga WL wr /\ Below w.heap.size w wr)) (fun _ i _ => pr - (intOf i).toNat)
   case atStart => exact ⟨0, j0, Nat.zero_le _, rfl, HU⟩
   case round =>
    clear HU;obtain ⟨k, j, hk, rfl, HK⟩ := hrel;obtain ⟨nl, hnl⟩ : ∃ nl, nl = nodes F t L k := ⟨_, rfl⟩;have HNL : Shh (nl.length = k /\ nl = nodes F t L k) := ⟨by rw [hnl, nodes_length], hnl⟩;rw [<- hnl] at HK;clear hnl;obtain ⟨An, cn, rfl⟩ := HK.out.2.2.1.form
    by_cases hlt : k < pr
    ·have hkc : (k : Int) < (pr : Int) := by omega
     have hk32 : (k : Int) % 4294967296 = (k : Int) := by have := HPR.out; omega
     have hk32w : IntKind.u32.wrap (k : Int) = (k : Int) := by have := HPR.out; rw [IntKind.wrap_u32]; omega
     obtain ⟨y6, c6⟩ : ∃ y : Int, wr.cell? ⟨ga, 6, none⟩ = some (.int .u32 y) := ⟨_, wordRow_cell HK.out.2.1 6 (by show 6 < 8; decide)⟩;have f6 := HK.out.2.1.free 6;obtain ⟨Z, hZ⟩ : ∃ Z, Z = wr.setCell ⟨ga, 6, none⟩ (.int .u32 (k : Int)) := ⟨_, rfl⟩;obtain ⟨ii, hii⟩ : ∃ ii, ii = 2 * k := ⟨_, rfl⟩;obtain ⟨b0, hb0⟩ : ∃ b, b = L.getD ii [] := ⟨_, rfl⟩;obtain ⟨b1, hb1⟩ : ∃ b, b = L.getD (ii + 1) [] := ⟨_, rfl⟩;obtain ⟨nb, hnb⟩ : ∃ b, b = F t k b0 b1 := ⟨_, rfl⟩;have hl2 : ii + 1 < L.length := by have := HPR.out; omega
     have g0 : L[ii]'(by omega) = b0 := by rw [hb0, getD_at (by omega)]
     have g1 : L[ii + 1]'hl2 = b1 := by rw [hb1, getD_at hl2]
     have HBL : Shh (b0.length = Nn /\ b1.length = Nn) := ⟨by rw [<- g0]; exact HLE.out.2.2.2.1 _ (List.getElem_mem _), by rw [<- g1]; exact HLE.out.2.2.2.1 _ (List.getElem_mem _)⟩;have HNJ : Shh (nodes F t L (k + 1) = nl ++ [nb]) := ⟨by rw [nodes_succ, HNL.out.2, hnb, hb0, hb1, hii]⟩;have HBZ : Shh (But bb ga WL Z) := ⟨by rw [hZ]; exact HK.out.2.2.2.1.setCell _ _⟩;have hPZ := HB.out.2.2.2.2.but HBZ.out;obtain ⟨u0, hu0, hs0, _⟩ := hPZ.at_ ii (by omega);obtain ⟨u1, hu1, hs1, _⟩ := hPZ.at_ (ii + 1) hl2;rw [g0] at hs0;rw [g1] at hs1;obtain ⟨A0, c0, rfl, _, _⟩ := hs0.form;obtain ⟨A1, c1, rfl, _, _⟩ := hs1.form;have HZ : Shh (Row Z w.heap.size 27 [.int .u32 xc, .bool xs, .int .i64 (Nn : Int), .int .i64 xh, .int .i64 (Lx : Int)] /\ Row Z ga 64 (wordCells (adr11 1 leaf t k)) /\ AbvA Z bb (.slice An nl.length cn) nl /\ Below w.heap.size w Z /\ bb <= Z.heap.size /\ PC Z gl ii (.slice A0 b0.length c0) /\ PC Z gl (ii + 1) (.slice A1 b1.length c1) /\ Sl Z Z.heap.size (.slice A0 b0.length c0) b0 /\ Sl Z Z.heap.size (.slice A1 b1.length c1) b1) := by
      have hbz : bb <= Z.heap.size := by have := HBZ.out.size; have := HB.out.2.2.1; omega
      have hw0 : w.heap.size < ga := by have := HGA.out; omega
      refine ⟨?_, ?_, ?_, ?_, hbz, ⟨by have := HB.out; omega, hu0⟩, ⟨by have := HB.out; omega, hu1⟩, hs0.more hbz, hs1.more hbz⟩
      ·rw [hZ]; exact HK.out.1.other _ _ (by show w.heap.size ≠ ga; omega)
      ·rw [hZ]; exact wordRow_set HK.out.2.1 6 k (by have := HPR.out; omega)
      ·refine HK.out.2.2.1.but HB.out.1 ?_;rw [hZ]; exact (But.refl _ _ _).setCell _ _
      ·rw [hZ]; exact HK.out.2.2.2.2.setCell (by show w.heap.size <= ga; omega) _
     obtain ⟨LA, hLA⟩ : ∃ LA, LA = wordCells (adr11 1 leaf t k) := ⟨_, rfl⟩
     have HLA : Shh (LA.length = 8 /\ ∀ (vl vr : Value) (W : World), Sl W W.heap.size (.slice As seed.length cs) seed -> Sl W W.heap.size vl b0 -> Sl W W.heap.size vr b1 -> Tabs W -> Calls Tryz.prog 83 #[.agg #[.int .u32 xc, .bool xs, .int .i64 (Nn : Int), .int .i64 xh, .int .i64 (Lx : Int)], .slice As seed.length cs, .agg LA.toArray, vl, vr] W (NewSl W nb)) := ⟨by rw [hLA, wordCells_length]; rfl, fun vl vr W h1 h2 h3 h4 => by
      have h := HND.out t k vl vr b0 b1 W h1 h2 h3 HBL.out.1 HBL.out.2 h4;unfold adrV at h;rw [<- hLA, <- hnb] at h
      exact h⟩
     have HLAE := Shh.mk hLA;rw [<- hLA] at HZ;have HII : Shh ((ii = 2 * k /\ ii <= 1000000) /\ ii < L.length /\ ii + 1 < L.length /\ ii <= 1000000 /\ k + 1 <= pr /\ nl.length + 1 <= 1000) := ⟨⟨hii, by have := HLE.out; omega⟩, by omega, hl2, by have := HLE.out; omega, hlt, by have := HNL.out.1; have := HPR.out; omega⟩;have HBT : Shh (But bb ga WL Z) := HBZ;clear hb0 hb1 hnb g0 g1 hLA hu0 hu1 hs0 hs1 hPZ HK hii hl2 hlt HBZ;obtain ⟨hi0, hz0, hsz0, hby0⟩ := HI.out
     go_wp2_with fail
     rw [<- hZ];clear hZ c6 f6 hkc hk32 hk32w;refine wp_region_held_drew (S := fun w' => Row w' w.heap.size 27 [.int .u32 xc, .bool xs, .int .i64 (Nn : Int), .int .i64 xh, .int .i64 (Lx : Int)] /\ Row w' ga 64 LA /\ w'.cell? ⟨gl, 0 + ii, none⟩ = some (.slice A0 b0.length c0) /\ w'.cell? ⟨gl, 0 + (ii + 1), none⟩ = some (.slice A1 b1.length c1)) (by kernel_rfl) ⟨HZ.out.1.drew, HZ.out.2.1.drew, by rw [Nat.zero_add]; exact HZ.out.2.2.2.2.2.1.2, by rw [Nat.zero_add]; exact HZ.out.2.2.2.2.2.2.1.2⟩ (fun hS => ?_);clear hS;obtain ⟨V, hV⟩ : ∃ V, V = World.drew Z := ⟨_, rfl⟩;rw [<- hV];have bV : Below Z.heap.size Z V := by rw [hV]; exact (Below.refl _ _).drew
     have rX : Row V w.heap.size 27 [.int .u32 xc, .bool xs, .int .i64 (Nn : Int), .int .i64 xh, .int .i64 (Lx : Int)] := HZ.out.1.go bV;have rA : Row V ga 64 LA := HZ.out.2.1.go bV;have oN : AbvA V bb (.slice An nl.length cn) nl := HZ.out.2.2.1.go bV;have HBV : Below w.heap.size w V := Below.chain HZ.out.2.2.2.1 bV;have p0 : PC V gl (0 + ii) (.slice A0 b0.length c0) := by rw [Nat.zero_add]; exact HZ.out.2.2.2.2.2.1.go bV
     have p1 : PC V gl (0 + (ii + 1)) (.slice A1 b1.length c1) := by rw [Nat.zero_add]; exact HZ.out.2.2.2.2.2.2.1.go bV
     have s0 : Sl V V.heap.size (.slice A0 b0.length c0) b0 := HZ.out.2.2.2.2.2.2.2.1.go bV;have s1 : Sl V V.heap.size (.slice A1 b1.length c1) b1 := HZ.out.2.2.2.2.2.2.2.2.go bV;have sS := (HARG.out V HBV).1;have rT := (HARG.out V HBV).2.2;have HBS : Shh (bb <= V.heap.size /\ But bb ga WL V) := ⟨Nat.le_trans HZ.out.2.2.2.2.1 bV.size, HBT.out.trans (But.of (bV.mono HZ.out.2.2.2.2.1) ga)⟩
     have HNR : Shh (∀ k, (Value.slice An nl.length cn).ownBlock = some k -> k < V.heap.size) := ⟨fun k hk => by
      obtain ⟨us, _, h2, _⟩ := oN
      exact (h2.lt k hk).2⟩
     clear hV bV HZ HBT;refine hdv0 0 38 (.slice An nl.length cn) (by rfl) (⟨rX, rA, (p0).2, (p1).2⟩) ?_;refine hdv0 2 40 (.slice As seed.length cs) (by rfl) (⟨rX, rA, (p0).2, (p1).2⟩) ?_;refine hdv0 4 42 (.slice (some ⟨gl, 0, none⟩) L.length cl) (by rfl) (⟨rX, rA, (p0).2, (p1).2⟩) ?_;refine hdv0 5 43 (.int .i64 (k : Int)) (by rfl) (⟨rX, rA, (p0).2, (p1).2⟩) ?_;refine hdv 6 44 (.int .i64 (ii : Int)) (by rfl) (fun w hS => mul_two HII.out.1 rfl (by kernel_rfl)) (⟨rX, rA, (p0).2, (p1).2⟩) ?_;refine hdv 7 45 (.pointer (some ⟨gl, 0 + ii, none⟩)) (by rfl) (fun w hS => index_p gl 0 ii L.length cl HII.out.2.1 rfl (by kernel_rfl) (by kernel_rfl) _) (⟨rX, rA, (p0).2, (p1).2⟩) ?_;refine hdv 8 46 (.slice A0 b0.length c0) (by rfl) (fun w hS => load_p rfl hS.2.2.1 (by kernel_rfl)) (⟨rX, rA, (p0).2, (p1).2⟩) ?_;refine hdv0 9 47 (.slice (some ⟨gl, 0, none⟩) L.length cl) (by rfl) (⟨rX, rA, (p0).2, (p1).2⟩) ?_;refine hdv0 10 48 (.int .i64 (k : Int)) (by rfl) (⟨rX, rA, (p0).2, (p1).2⟩) ?_;refine hdv 11 49 (.int .i64 (ii : Int)) (by rfl) (fun w hS => mul_two HII.out.1 rfl (by kernel_rfl)) (⟨rX, rA, (p0).2, (p1).2⟩) ?_;refine hdv 12 50 (.int .i64 ((ii + 1 : Nat) : Int)) (by rfl) (fun w hS => add_one HII.out.2.2.2.1 rfl (by kernel_rfl)) (⟨rX, rA, (p0).2, (p1).2⟩) ?_;refine hdv 13 51 (.pointer (some ⟨gl, 0 + (ii + 1), none⟩)) (by rfl) (fun w hS => index_p gl 0 (ii + 1) L.length cl HII.out.2.2.1 rfl (by kernel_rfl) (by kernel_rfl) _) (⟨rX, rA, (p0).2, (p1).2⟩) ?_;refine hdv 14 52 (.slice A1 b1.length c1) (by rfl) (fun w hS => load_p rfl hS.2.2.2 (by kernel_rfl)) (⟨rX, rA, (p0).2, (p1).2⟩) ?_;refine held_load 1 27 (.tmp 4) (some 39) (by kernel_rfl) (by rfl) (by kernel_rfl) w.heap.size 0 (by kernel_rfl) ([.int .u32 xc, .bool xs, .int .i64 (Nn : Int), .int .i64 xh, .int .i64 (Lx : Int)]) _ (fun w h => h.1.range) Tryz.underlying27 rfl (info_xms) (fun _ _ _ _ h => h) (⟨rX, rA, (p0).2, (p1).2⟩) ?_;simp only [Act.put, arr9, hd9, tl9];refine held_load 3 64 (.tmp 9) (some 41) (by kernel_rfl) (by rfl) (by kernel_rfl) ga 0 (by kernel_rfl) (LA) _ (fun w h => h.2.1.range) Tryz.underlying64 rfl (info_adr11 HLA.out.1) (fun _ _ _ _ h => h) (⟨rX, rA, (p0).2, (p1).2⟩) ?_;simp only [Act.put, arr9, hd9, tl9];refine held_one 15 (by kernel_rfl) ?_;refine step_call 15 _ _ (some 53) 83 #[.agg ([.int .u32 xc, .bool xs, .int .i64 (Nn : Int), .int .i64 xh, .int .i64 (Lx : Int)]).toArray, .slice As seed.length cs, .agg LA.toArray, .slice A0 b0.length c0, .slice A1 b1.length c1] (by rfl) (by kernel_rfl) (by first | kernel_rfl | go_simp) ?_;refine (HLA.out.2 _ _ V (sS) (s0) (s1) (rT)).mono ?_;unfold NewSl; rintro e Y1 ⟨vk, rfl, gr, br, orr⟩;have bx : Below V.heap.size V Y1 := br;obtain ⟨Ak, ck, vEq, _, _⟩ := gr.form;subst vEq;have sK := gr;have HOK : Shh (∀ g, g < V.heap.size -> Off g (.slice Ak nb.length ck)) := ⟨fun g hg => orr g hg⟩;clear gr orr;have b_V := bx;have m_Y1 : V.heap.size <= Y1.heap.size := bx.size;clear bx;refine ⟨_, rfl, ⟨(rX.go b_V), (rA.go b_V), ((p0.go b_V)).2, ((p1.go b_V)).2⟩, ?_⟩;simp only [Act.put, arr9, hd9, tl9];refine held_one 16 (by kernel_rfl) ?_;refine step_value 16 _ _ (some 54) (.slice (some ⟨Y1.heap.size, 0, none⟩) 1 1) (Y1.alloc (.cells #[.slice Ak nb.length ck] 23)) (by rfl) (by kernel_rfl) (by first | kernel_rfl | go_simp) (⟨((rX.go b_V)).alloc _, ((rA.go b_V)).alloc _, (((p0.go b_V)).go (below1 _ _)).2, (((p1.go b_V)).go (below1 _ _)).2⟩) ?_;simp only [Act.put, arr9, hd9, tl9];have bx : Below Y1.heap.size Y1 (Y1.alloc (.cells #[.slice Ak nb.length ck] 23)) := Below.alloc (Below.refl _ _) (Nat.le_refl _) _;have rB : Row (Y1.alloc (.cells #[.slice Ak nb.length ck] 23)) Y1.heap.size 23 [.slice Ak nb.length ck] := Row.new_ rfl rfl;have z_rB := asz Y1 (.cells #[.slice Ak nb.length ck] 23);generalize Y1.alloc (.cells #[.slice Ak nb.length ck] 23) = Y2 at *;replace b_V := Below.chain b_V bx;have b_Y1 := bx;have m_Y2 : Y1.heap.size <= Y2.heap.size := bx.size;clear bx;refine held_one 17 (by kernel_rfl) ?_;refine step_appendA (c := 1) Y2 17 _ (some 55) 82 i0 (.slice none 0 0) Tryz.underlying82 hi0 hz0 hsz0 hby0 rfl (.tmp 38) (.tmp 54) (by rfl) (by kernel_rfl) ((oN.go b_V)) (by kernel_rfl) (by kernel_rfl) ((rB).cell 0) ((sK.go b_Y1)) (fun k hk => HOK.out k (HNR.out k hk)) (fun k hk => HOK.out k (Nat.lt_of_lt_of_le hk HBS.out.1)) (by have := HII.out.2.2.2.2.2; omega) (by have := b_V.size; have := HBS.out.1; omega) ?_;intro v2 Y3 ho2 hg2 hz2;have hlo : w.heap.size < bb /\ ga < bb /\ gl < bb := by have := HB.out; have := HGA.out; omega
     replace rX : Row Y3 w.heap.size 27 [.int .u32 xc, .bool xs, .int .i64 (Nn : Int), .int .i64 xh, .int .i64 (Lx : Int)] := (hg2.block _ hlo.1).trans ((rX.go b_V));replace rA : Row Y3 ga 64 LA := (hg2.block _ hlo.2.1).trans ((rA.go b_V));have q0 := (hg2.cell (p := ⟨gl, 0 + ii, none⟩) hlo.2.2).trans ((p0.go b_V)).2;have q1 := (hg2.cell (p := ⟨gl, 0 + (ii + 1), none⟩) hlo.2.2).trans ((p1.go b_V)).2;have nB : Below w.heap.size w Y3 := (Below.chain HBV b_V).trans (hg2.mono (Nat.le_of_lt hlo.1));have nT : But bb ga WL Y3 := (HBS.out.2.trans (But.of (b_V.mono HBS.out.1) ga)).trans (But.of hg2 ga);replace p0 : PC Y3 gl (0 + ii) (.slice A0 b0.length c0) := ⟨Nat.lt_of_lt_of_le ((p0.go b_V)).1 hz2, q0⟩;replace p1 : PC Y3 gl (0 + (ii + 1)) (.slice A1 b1.length c1) := ⟨Nat.lt_of_lt_of_le ((p1.go b_V)).1 hz2, q1⟩;refine ⟨⟨rX, rA, q0, q1⟩, ?_⟩;simp only [Act.put, arr9, hd9, tl9];refine hdv0 18 12 (v2) (by rfl) (⟨rX, rA, (p0).2, (p1).2⟩) ?_;refine wpAnyH_done (by kernel_rfl) ?_ _;have HR : Shh (Row Y3 w.heap.size 27 [.int .u32 xc, .bool xs, .int .i64 (Nn : Int), .int .i64 xh, .int .i64 (Lx : Int)] /\ Row Y3 ga 64 (wordCells (adr11 1 leaf t k)) /\ AbvA Y3 bb v2 (nodes F t L (k + 1)) /\ But bb ga WL Y3 /\ Below w.heap.size w Y3) := ⟨rX, by rw [<- HLAE.out]; exact rA, by rw [HNJ.out]; exact ho2, nT, nB⟩;have hk1 := HII.out.2.2.2.2.1;have hk33 : k <= 40 := by have := HPR.out; omega
     clear nT nB q1 q0 hlo hz2 hg2 ho2 m_Y2 b_Y1 z_rB rB m_Y1 b_V HOK sK HBV rX rA oN p0 p1 s0 s1 sS rT hi0 hz0 hsz0 hby0;clear HII HBL HNJ HNR HBS HNL HLAE HLA;go_wp2
     go_roundw
     case rel => exact ⟨k + 1, k, hk1, by go_num, HR⟩
     case measure => simp [intOf]; omega
    ·obtain rfl : k = pr := by omega
     have hkc : ¬ (k : Int) < (k : Int) := by omega
     obtain ⟨ii, hii⟩ : ∃ ii, ii = 2 * k := ⟨_, rfl⟩;have HM2 : Shh (ii = 2 * k /\ ii <= 1000000) := ⟨hii, by have := HPR.out; omega⟩;obtain ⟨ad, runR, had⟩ := rest_82 (q := gl) (n := L.length) (c := cl) (p := ii) (by have := HPR.out; omega) HGL.out.2.2;have hPZ := HB.out.2.2.2.2.but HK.out.2.2.2.1;have hbz : bb <= wr.heap.size := by have := HK.out.2.2.2.1.size; have := HB.out.2.2.1; omega
     have HX : Shh (∃ (news : List Value) (ext : List (List UInt8)), news.length = L.length - ii /\ ext.length = L.length - ii /\ (∀ j u, news[j]? = some u -> wr.cell? (ad.add j) = some u) /\ (∀ j (h : j < news.length) (h2 : j < ext.length), Sl wr bb news[j] ext[j] /\ Off ga news[j]) /\ lvl F l0 (t + 1) = nl ++ ext) := ⟨by
      by_cases hodd : ii < L.length
      ·obtain ⟨u, hu, hsu, hou, _⟩ := hPZ.at_ ii hodd;have hL1 : L.length = ii + 1 := by have := HPR.out; omega
       have hde := had hodd;refine ⟨[u], [L[ii]], by rw [List.length_singleton]; omega, by rw [List.length_singleton]; omega, fun j u' hj => ?_, fun j h h2 => ?_, ?_⟩
       ·match j, hj with
        | 0, hj =>
         simp at hj; subst hj;rw [hde, addr_add];exact hu
        | (j + 1), hj => simp at hj
       ·match j, h with
        | 0, _ => exact ⟨hsu, hou⟩
        | (j + 1), h => simp at h
       ·show pairs (F t) 0 (lvl F l0 t) = _;rw [<- HLE.out.1, pairs_odd F t L k (by omega), HNL.out.2, getD_at (by omega)];simp only [hii]
      ·have hL1 : L.length = ii := by have := HPR.out; omega
       refine ⟨[], [], by simp [hL1], by simp [hL1], fun j u' hj => by simp at hj, fun j h => by simp at h, ?_⟩;show pairs (F t) 0 (lvl F l0 t) = _
       rw [<- HLE.out.1, pairs_even F t L k (by omega), HNL.out.2, List.append_nil]⟩
     obtain ⟨news, ext, HXX⟩ := HX.out;have HXY := Shh.mk HXX;have HKK : Shh (AbvA wr bb (.slice An nl.length cn) nl /\ 0 < nl.length /\ nl.length + (L.length - ii) <= 1000000 /\ bb <= wr.heap.size) := ⟨HK.out.2.2.1, by have := HNL.out.1; have := HPR.out; omega, by have := HNL.out.1; have := HPR.out; have := HLE.out; omega, hbz⟩;clear hPZ HX HXX had hbz hii;obtain ⟨hi0, hz0, hsz0, hby0⟩ := HI.out
     go_wp2_with (first | refine wl_value (.int .i64 (ii : Int)) rfl (mul_two HM2.out rfl rfl) ?_ | (at_builtin; refine wpList_rest (ga := ga) (N0 := w.heap.size) (tt := t + 1) _ 82 i0 (.slice none 0 0) Tryz.underlying82 hi0 hz0 hsz0 hby0 rfl rfl _ _ rfl HKK.out.1 HKK.out.2.1 rfl rfl HXY.out.1 HXY.out.2.1 HXY.out.2.2.1 HXY.out.2.2.2.1 HKK.out.2.2.1 HKK.out.2.2.2 HB.out.1 HB.out.2.1 ?_))
     intro v4 w4 p4 bl4 hs4;rw [<- HXY.out.2.2.2.2] at p4;obtain ⟨q4, c4, rfl, _, _, _, _⟩ := p4.form
     have HLEN : Shh ((lvl F l0 (t + 1)).length < L.length) := ⟨by
      have e1 := HXY.out.2.1;have e2 := HNL.out.1;have e3 := HM2.out.1;have e4 := HPR.out;rw [HXY.out.2.2.2.2, List.length_append]
      omega⟩
     have r4 : Row w4 ga 64 (wordCells (adr11 1 leaf t j)) := (bl4.block _ HB.out.1).trans HK.out.2.1;obtain ⟨y5, hy5, c5⟩ : ∃ y : Nat, y = t /\ w4.cell? ⟨ga, 5, none⟩ = some (.int .u32 (y : Int)) := ⟨t, rfl, by rw [wordRow_cell r4 5 (by show 5 < 8; decide), ofNat_cell (show t < 4294967296 by omega)]; rfl⟩;rw [hy5] at c5;have f5 := r4.free 5;have hq5 : ((t : Int) + 1) % 4294967296 = (t : Int) + 1 := by omega
     have hq6 : IntKind.u32.wrap ((t : Int) + 1) = (t : Int) + 1 := by rw [IntKind.wrap_u32]; omega
     obtain ⟨Z5, hZ5⟩ : ∃ Z5, Z5 = w4.setCell ⟨ga, 5, none⟩ (.int .u32 ((t : Int) + 1)) := ⟨_, rfl⟩;have HR : Shh (Row Z5 w.heap.size 27 [.int .u32 xc, .bool xs, .int .i64 (Nn : Int), .int .i64 xh, .int .i64 (Lx : Int)] /\ Row Z5 ga 64 (wordCells (adr11 1 leaf (t + 1) j)) /\ PartF Z5 Z5.heap.size ga w.heap.size (t + 1) (.slice (some ⟨q4, 0, none⟩) (lvl F l0 (t + 1)).length c4) (lvl F l0 (t + 1)) /\ Below w.heap.size w Z5) := by
      have hw0 : w.heap.size < ga := by have := HGA.out; omega
      have hwb : w.heap.size < bb := by have := HB.out; omega
      have rX4 : Row w4 w.heap.size 27 [.int .u32 xc, .bool xs, .int .i64 (Nn : Int), .int .i64 xh, .int .i64 (Lx : Int)] := (bl4.block _ hwb).trans HK.out.1;have hbut : But w4.heap.size ga w4 Z5 := by rw [hZ5]; exact (But.refl _ _ _).setCell _ _
      have e : (t : Int) + 1 = ((t + 1 : Nat) : Int) := by omega
      refine ⟨?_, ?_, (p4.but hbut).more hbut.size, ?_⟩
      ·rw [hZ5]; exact rX4.other _ _ (by show w.heap.size ≠ ga; omega)
      ·rw [hZ5, e]; exact wordRow_set r4 5 (t + 1) (by omega)
      ·rw [hZ5]; exact (HK.out.2.2.2.2.trans (bl4.mono (Nat.le_of_lt hwb))).setCell (by show w.heap.size <= ga; omega) _
     rw [hZ5] at HR;clear hZ5 hy5 r4 p4 bl4 hs4 HK HKK HXY HNL HM2 HPR HB hi0 hz0 hsz0 hby0 runR;go_wp2
     go_roundw
     case rel => exact ⟨t + 1, j, by omega, HR⟩
     case measure => simpa [lenV] using HLEN.out
  ·have hc1 : ¬ (1 : Int) < (L.length : Int) := by omega
   have hc0 : (0 : Int) < (L.length : Int) := by have := HLE.out.2.1; omega
   obtain ⟨u0, hu0, hs0, _, hf0⟩ := HL.out.2.2.1.at_ 0 HLE.out.2.1;have hres : L[0]'HLE.out.2.1 = RS := by
    have h7 := lvl_stays F l0 t (by rw [<- HLE.out.1]; omega) (7 - t);rw [show t + (7 - t) = 7 by omega] at h7;have h8 : RS = L.getD 0 [] := by
     rw [HLT.out, h7];exact congrArg (fun m => m.getD 0 []) HLE.out.1.symm
    exact (getD_at HLE.out.2.1).symm.trans h8.symm
   rw [hres] at hs0;obtain ⟨A0, c0, rfl, _, _⟩ := hs0.form;have ht0 : 0 < t := by
    refine Nat.pos_of_ne_zero fun e => ?_
    have h := HLE.out.1;rw [e] at h;have h2 : L.length = l0.length := by rw [h]; rfl
    have := HL0.out.1;have := HSZ.out;omega
   have HR : Shh (Sl wr wr.heap.size (.slice A0 RS.length c0) RS /\ Below w.heap.size w wr /\ ∀ g, g < w.heap.size -> Off g (.slice A0 RS.length c0)) := ⟨hs0, HL.out.2.2.2, hf0 rfl ht0⟩;have hcell : wr.cell? ⟨gl, 0, none⟩ = some (.slice A0 RS.length c0) := hu0;clear hu0 hs0 hf0 hres ht0 HL HND HLE HGL HSZ;go_wp2;go_ret;exact ⟨_, rfl, HR.out⟩
end Go.Proofs.YtdakbipiifkmfaaGreatDoor
