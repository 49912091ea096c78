/-
  THE PROGRAM'S OWN: words; a set that may be; a hash that is copied.
-/
import Derived.Test.YtobbbljnkdfkeaaDoorWs11
namespace Go.Proofs.YtobbbljnkdfkeaaDoor
open Go.RowKit
set_option maxRecDepth 100000
theorem isSet_of (xc : Int) (xs : Bool) (xn xh xl : Int) (yc : Int) (ys : Bool) (yn yh yl : Int) (ee : Int) (hxc : (Lit.int .u32 xc).wf = true) (hxn : (Lit.int .i64 xn).wf = true) (hxh : (Lit.int .i64 xh).wf = true) (hxl : (Lit.int .i64 xl).wf = true) (hyc : (Lit.int .u32 yc).wf = true) (hyn : (Lit.int .i64 yn).wf = true) (hyh : (Lit.int .i64 yh).wf = true) (hyl : (Lit.int .i64 yl).wf = true) (hset : ∀ W, Calls Tryd.prog 63 #[.int .u32 xc] W (OldIs (.tuple #[.agg #[.int .u32 yc, .bool ys, .int .i64 yn, .int .i64 yh, .int .i64 yl], .int .i64 ee]) W)) (w : World) :
    Calls Tryd.prog 47 #[.agg #[.int .u32 xc, .bool xs, .int .i64 xn, .int .i64 xh, .int .i64 xl]] w (OldIs (.bool (decide (ee = 0 ∧ (xc = yc ∧ xs = ys ∧ xn = yn ∧ xh = yh ∧ xl = yl)))) w) := by
  unfold OldIs
  have HW : Shh (Row (w.alloc (.cells #[.int .u32 xc, .bool xs, .int .i64 xn, .int .i64 xh, .int .i64 xl] 24)) w.heap.size 24 [.int .u32 xc, .bool xs, .int .i64 xn, .int .i64 xh, .int .i64 xl] ∧ Below w.heap.size w (w.alloc (.cells #[.int .u32 xc, .bool xs, .int .i64 xn, .int .i64 xh, .int .i64 xl] 24))) := ⟨Row.new_ rfl rfl, Below.alloc (Below.refl _ _) (Nat.le_refl _) _⟩
  by_cases he : ee = 0
  · subst he
    have hres : decide ((0 : Int) = 0 ∧ (xc = yc ∧ xs = ys ∧ xn = yn ∧ xh = yh ∧ xl = yl)) = decide (xc = yc ∧ xs = ys ∧ xn = yn ∧ xh = yh ∧ xl = yl) := by
      refine decide_eq_decide.2 ⟨fun h => ?_, fun h => ?_⟩
      · obtain ⟨_, rfl, rfl, rfl, rfl, rfl⟩ := h
        exact ⟨rfl, rfl, rfl, rfl, rfl⟩
      · obtain ⟨rfl, rfl, rfl, rfl, rfl⟩ := h
        exact ⟨rfl, rfl, rfl, rfl, rfl, rfl⟩
    have heq := fun W : World => eq_xms xc xs xn xh xl yc ys yn yh yl hxc hxn hxh hxl hyc hyn hyh hyl W
    rw [hres]
    generalize decide (xc = yc ∧ xs = ys ∧ xn = yn ∧ xh = yh ∧ xl = yl) = r at heq ⊢
    clear hres
    go_enter Tryd.func47, Tryd.ntmps47
    go_wp2_with (go_at_call 63; refine (hset _).mono ?_)
    unfold OldIs
    rintro e w2 ⟨rfl, b2⟩
    have F2 : Shh (Row w2 w.heap.size 24 [.int .u32 xc, .bool xs, .int .i64 xn, .int .i64 xh, .int .i64 xl] ∧ Below w.heap.size w w2) := ⟨HW.out.1.go b2, Below.chain HW.out.2 b2⟩
    clear HW b2 hset
    obtain ⟨G, hG⟩ : ∃ G, Shh (G = w2.heap.size) := ⟨_, ⟨rfl⟩⟩
    go_wp2_with (refine wpList_store_any rfl 24 (.tmp 3) (.tmp 9) rfl G (by rw [hG.out]; rfl) [.int .u32 yc, .bool ys, .int .i64 yn, .int .i64 yh, .int .i64 yl] rfl 24 _ (Row.new_ hG.out rfl) info_xms rfl oneCell5 ?_)
    intro Z hr bt _
    have F3 : Shh (Row Z w.heap.size 24 [.int .u32 xc, .bool xs, .int .i64 xn, .int .i64 xh, .int .i64 xl] ∧ Row Z G 24 [.int .u32 yc, .bool ys, .int .i64 yn, .int .i64 yh, .int .i64 yl] ∧ Below w.heap.size w Z) := by
      have hl := F2.out.1.lt
      refine ⟨bt.row (F2.out.1.alloc _) (by first | omega | (simp only [asz]; omega)) (by have := hG.out; omega), hr, Below.chain F2.out.2 ?_⟩
      exact (Below.alloc (Below.refl _ _) (Nat.le_refl _) _).trans (bt.under (by first | omega | (simp only [asz]; omega)) (by have := hG.out; omega))
    rw [← hG.out]
    clear hr bt F2 hG
    go_wp2_with (first | refine wl_loadW 24 (.tmp 1) rfl w.heap.size rfl 24 [.int .u32 xc, .bool xs, .int .i64 xn, .int .i64 xh, .int .i64 xl] _ rfl F3.out.1 Tryd.underlying24 rfl info_xms ?_ | refine wl_loadW 24 (.tmp 3) rfl G rfl 24 [.int .u32 yc, .bool ys, .int .i64 yn, .int .i64 yh, .int .i64 yl] _ rfl F3.out.2.1 Tryd.underlying24 rfl info_xms ?_ | refine wl_eqlW 24 24 (.tmp 14) (.tmp 15) rfl #[.int .u32 xc, .bool xs, .int .i64 xn, .int .i64 xh, .int .i64 xl] #[.int .u32 yc, .bool ys, .int .i64 yn, .int .i64 yh, .int .i64 yl] rfl rfl rfl (by kernel_rfl) r (heq _) ?_)
    go_ret
    exact ⟨rfl, F3.out.2.2⟩
  · have hres : (decide (ee = 0 ∧ (xc = yc ∧ xs = ys ∧ xn = yn ∧ xh = yh ∧ xl = yl))) = false := decide_eq_false fun h => he h.1
    rw [hres]
    clear hres
    go_enter Tryd.func47, Tryd.ntmps47
    go_wp2_with (go_at_call 63; refine (hset _).mono ?_)
    unfold OldIs
    rintro e w2 ⟨rfl, b2⟩
    have F2 : Shh (Row w2 w.heap.size 24 [.int .u32 xc, .bool xs, .int .i64 xn, .int .i64 xh, .int .i64 xl] ∧ Below w.heap.size w w2) := ⟨HW.out.1.go b2, Below.chain HW.out.2 b2⟩
    clear HW b2 hset
    obtain ⟨G, hG⟩ : ∃ G, Shh (G = w2.heap.size) := ⟨_, ⟨rfl⟩⟩
    go_wp2_with (refine wpList_store_any rfl 24 (.tmp 3) (.tmp 9) rfl G (by rw [hG.out]; rfl) [.int .u32 yc, .bool ys, .int .i64 yn, .int .i64 yh, .int .i64 yl] rfl 24 _ (Row.new_ hG.out rfl) info_xms rfl oneCell5 ?_)
    intro Z hr bt _
    have F3 : Shh (True ∧ Below w.heap.size w Z) := by
      refine ⟨trivial, Below.chain F2.out.2 ?_⟩
      exact (Below.alloc (Below.refl _ _) (Nat.le_refl _) _).trans (bt.under (by first | omega | (simp only [asz]; omega)) (by have := hG.out; omega))
    clear hr bt F2 hG
    go_wp2
    go_ret
    exact ⟨rfl, F3.out.2⟩
theorem isSet_any (x : S5) (h : x.wf) (w : World) : Calls Tryd.prog 47 #[x.v] w (OldIs (.bool x.ok) w) := by
  obtain ⟨xc, xs, xn, xh, xl⟩ := x
  have hn := c5_nat h
  simp only at hn
  have hw := xms_wf xc.toNat hn.2
  exact isSet_of xc xs xn xh xl (xC xc.toNat) (xSh xc.toNat) (xN xc.toNat) (xH xc.toNat : Int) (xL xc.toNat) (xE xc.toNat) h.1 h.2.1 h.2.2.1 h.2.2.2 hw.1 hw.2.1 hw.2.2.1 hw.2.2.2 (fun W => by have := xmss_any xc.toNat hn.2 W; rw [hn.1] at this; exact this) w
/-- a slice of bytes that lies in no block that was there -/
def NewSl (w : World) (bs : List UInt8) (e : Ending) (w' : World) : Prop := ∃ v, e = .returned v ∧ Sl w' w'.heap.size v bs ∧ Below w.heap.size w w' ∧ ∀ g, g < w.heap.size → Off g v
theorem gives_off {w w' : World} {v : Value} {bs : List UInt8} (h : Gives w bs v w') (g : Nat) (hg : g < w.heap.size) : Off g v := by
  intro x l c hv hl
  rcases h.1.2 with ⟨h0, _⟩ | ⟨gb, cap, cur, h0, hb, _⟩
  · rw [hv] at h0; cases h0
  · rw [hv] at h0
    injection h0 with h1 h2 h3
    injection h1 with h1
    rw [h1]
    show gb ≠ g
    omega
theorem own_new {w : World} {bs : List UInt8} {e : Ending} {w' : World} (h : OwnIs w bs e w') : NewSl w bs e w' := by
  obtain ⟨v, rfl, g⟩ := h
  exact ⟨v, rfl, gives_sl g, g.2, fun q hq => gives_off g q hq⟩
theorem byteCells_at (bs : List UInt8) (j : Nat) (u : Value) (h : (Lib.byteCells bs)[j]? = some u) : ∃ hj : j < bs.length, u = .int .u8 (bs[j].toNat : Int) := by
  unfold Lib.byteCells at h
  rw [List.getElem?_map] at h
  obtain ⟨y, hy, rfl⟩ := Option.map_eq_some_iff.1 h
  obtain ⟨hj, rfl⟩ := List.getElem?_eq_some_iff.1 hy
  exact ⟨hj, rfl⟩
/-- the first outputs of a longer output -/
theorem Sp.outs_take (rate : Nat) : ∀ (n N : Nat), n ≤ N → ∀ s : Sp, (s.outs rate N).take n = s.outs rate n
  | 0, _, _, _ => rfl
  | n + 1, 0, h, _ => absurd h (by omega)
  | n + 1, N + 1, h, s => congrArg (byteL (s.next rate).l ((s.next rate).at_ - 1) :: ·) (Sp.outs_take rate n N (by omega) (s.next rate))
/-- a second Hash to which m has been written -/
def ShCloneIs (w : World) (m : List UInt8) (e : Ending) (w' : World) : Prop := ∃ g, e = .returned (.pointer (some ⟨g, 0, none⟩)) ∧ g = w.heap.size ∧ HashAt w' g m ∧ Below w.heap.size w w'
theorem shclone_any (g : Nat) (m : List UInt8) (w : World) (h : HashAt w g m) :
    Calls Tryd.prog 69 #[.pointer (some ⟨g, 0, none⟩)] w (ShCloneIs w m) := by
  unfold ShCloneIs
  have hg := h.lt
  obtain ⟨cs, hcv, hrow, hcl, hco⟩ := HashVal.of h
  have hpos : 0 ≠ w.heap.size := by have := h.1; omega
  go_enter Tryd.func69, Tryd.ntmps69
  go_wp2_with (go_at_call 79; refine (isMade_yes g m _ h).mono ?_)
  rintro e w1 ⟨rfl, rfl⟩
  have hz := zero59
  have hc : (Value.agg hashZero.toArray).cells = hashZero.toArray := rfl
  have hzl := hashZero_length
  generalize hashZero = zs at *
  go_wp2_with (first | refine wpList_load_any rfl 100 (.tmp 8) rfl g rfl 100 cs _ hrow Tryd.underlying100 rfl (info_hash.trans (by rw [hcl])) ?_ | refine wpList_alloc_any rfl 100 rfl zs.toArray hz ?_ | refine wpList_store_any rfl 100 (.tmp 3) (.tmp 9) rfl w1.heap.size rfl cs rfl 100 zs (Row.new_ rfl rfl) (info_hash.trans (by rw [hcl])) (by omega) hco ?_)
  intro w2 hr2 b2 hs2
  have hb2 : Below w1.heap.size w1 w2 := (Below.alloc (Below.refl _ _) (Nat.le_refl _) _).trans (b2.under (Nat.le_succ _) (Nat.le_refl _))
  go_wp2
  go_ret
  exact ⟨w1.heap.size, rfl, rfl, hcv.at_ hpos hr2, hb2⟩
section
variable {P : Program} {md : Region.Mode} {ops : Array Oper} {Q : Exit → Act → World → Prop} {S : World → Prop} {fuel : Nat} {listed : Array Bool} {a : Act}
/-- copy into a row in a region that draws its order -/
theorem step_copyS (w : World) (i : Nat) (ty : TypeId) (dst : Option Tmp) (d s : Operand) (dT sT : TypeId)
    (hop : (ops[i]?).map (fun o => (o.op, o.type, o.dst)) = some (.call { callee := .builtin .copy, args := #[d, s], argTypes := #[dT, sT] }, ty, dst)) (hw : (ops[i]?).map (fun o => Region.wanted o (yielded ops a.tmps)) = some true)
    (elem : TypeId) (hu : P.underlying dT = some (.slice elem)) (hsz : (P.info? elem).map (·.size) = some 1)
    (dLen dCap sLen sCap : Nat) (ad : Addr) (g off : Nat) (hd : a.eval d = .slice (some ⟨g, off, none⟩) dLen dCap) (hs : a.eval s = .slice (some ad) sLen sCap)
    (cur : List Value) (t : TypeId) (hr : Row w g t cur) (cs : List Value) (hn : cs.length = Nat.min sLen dLen)
    (hsrc : ∀ j v, cs[j]? = some v → w.cell? (ad.add j) = some v) (hfit : off + cs.length ≤ cur.length) (h1 : ∀ v ∈ cs, v.oneCell' = true)
    (h : ∀ w', Row w' g t (splice cur off cs) → But w.heap.size g w w' → w'.heap.size = w.heap.size → S w' ∧ wpAnyH P md ops Q S fuel (listed.setIfInBounds i true) (a.put dst (goInt cs.length)) w') : HStep P md ops Q S fuel listed a w i := by
  unfold HStep
  cases ho : ops[i]? with
  | none => rw [ho] at hop; cases hop
  | some op =>
    rw [ho] at hop hw
    simp only [Option.map_some, Option.some.injEq, Prod.mk.injEq] at hop hw
    obtain ⟨hop1, hop2, hop3⟩ := hop
    refine wpOp_step ho fun K' hK => ?_
    rw [if_pos hw]
    have hrun := run_copy_row (P := P) w dT sT op.type elem g off dLen dCap ad sLen sCap cur.toArray t cs hu hsz hr hn hsrc (by simpa using hfit) h1
    unfold Oper.wp
    simp [execOp, hop1, resolve, invoke, builtin, hd, hs, hrun, Result.andThen]
    subst hop3
    exact hK _ _ (h _ (show _ = _ by simpa [splice] using setRow_heap w g _ _ t _ hr) ⟨rfl, rfl, rfl, Nat.le_of_eq (by simp), fun k _ hk => Go.setRow_other w g k _ hk⟩ (by simp))
end
end Go.Proofs.YtobbbljnkdfkeaaDoor
