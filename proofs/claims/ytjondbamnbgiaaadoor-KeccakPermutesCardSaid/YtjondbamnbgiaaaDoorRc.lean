/-
  WALK: the document's own rc.
-/
import Derived.Test.YtjondbamnbgiaaaDoorRPerm
import Derived.Test.YtjondbamnbgiaaaDoorApp
import Derived.BigRegion
namespace Go.Proofs.YtjondbamnbgiaaaDoor
open Go.RowKit
set_option maxRecDepth 100000

/-- what an inner round makes of nine bits -/
def rcKs (j : Nat) : Nat := [0, 4, 5, 6].getD j 0
def rcIn (l : List Bool) : Nat → List Bool
  | 0 => l
  | j + 1 => (rcIn l j).set (rcKs j) ((rcIn l j).getD (rcKs j) false != (rcIn l j).getD 8 false)
def rcL : Nat → List Bool
  | 0 => [true, false, false, false, false, false, false, false]
  | n + 1 => (rcIn (false :: rcL n) 4).take 8
def rcB (t : Nat) : Bool := (rcL (t % 255)).getD 0 false
theorem rcIn_length (l : List Bool) (j : Nat) : (rcIn l j).length = l.length := by
  induction j with
  | zero => rfl
  | succ j ih => rw [rcIn, List.length_set, ih]
theorem rcL_length (n : Nat) : (rcL n).length = 8 := by
  induction n with
  | zero => rfl
  | succ n ih => rw [rcL, List.length_take, rcIn_length, List.length_cons, ih]; rfl
theorem rcKs_lt (j : Nat) : rcKs j < 8 := by
  match j with
  | 0 => decide
  | 1 => decide
  | 2 => decide
  | 3 => decide
  | j + 4 => simp [rcKs]
def boolCells (l : List Bool) : List Value := l.map Value.bool
theorem boolCells_get (l : List Bool) (k : Nat) (h : k < l.length) : (boolCells l)[k]? = some (.bool (l.getD k false)) := by
  simp [boolCells, List.getD, List.getElem?_eq_getElem h]
theorem boolCells_length (l : List Bool) : (boolCells l).length = l.length := by simp [boolCells]
theorem boolCells_set (l : List Bool) (k : Nat) (x : Bool) : (boolCells l).set k (.bool x) = boolCells (l.set k x) := by simp [boolCells, List.map_set]
section
variable {P : Program} {w : World} {a : Act} {o : Oper}
theorem run_load1B {ty : TypeId} {x : Operand} {v : Value} {b p : Nat} (ho : o.op = .load ty x) (hu : P.underlying ty = some .bool) (hx : a.eval x = .pointer (some ⟨b, p, none⟩)) (hc : w.cell? ⟨b, p, none⟩ = some v) : (execOp a.eval o).run P w = .ok (.value v) w := by
  unfold execOp
  simp only [ho, hx]
  have h1 : (isAgg ty).run P w = .ok false w := by
    unfold isAgg
    rw [Sem.run_bind, run_underlying hu w]
    rfl
  simp [Instr.loadAt, Instr.sureAddr, loadVar, h1, go_sem, hc]
end
theorem run_indexB {a : Act} {x y : Operand} {op : Oper} (b k n c : Nat) (hk : k < n) (ho : op.op = .indexAddr 77 x y) (hx : a.eval x = .slice (some ⟨b, 0, none⟩) n c) (hy : a.eval y = .int .i64 (k : Int)) (w : World) :
    (execOp a.eval op).run Tryd.prog w = .ok (.value (.pointer (some ⟨b, k, none⟩))) w := by
  have h0 : (0 : Int) ≤ (k : Int) := by omega
  have h1 : (k : Int) < (n : Int) := by omega
  unfold execOp
  simp only [ho, hx, hy]
  go_simp
theorem run_neqB {a : Act} {x y : Operand} {op : Oper} (p q : Bool) (ho : op.op = .binOp .neq 4 x y 4) (hx : a.eval x = .bool p) (hy : a.eval y = .bool q) (w : World) :
    (execOp a.eval op).run Tryd.prog w = .ok (.value (.bool (p != q))) w := by
  unfold execOp
  simp only [ho, hx, hy]
  cases p <;> cases q <;> go_simp
theorem run_storeB {a : Act} {w : World} {o : Oper} {x y : Operand} {u : Value} (z : Bool) (b p : Nat) (ho : o.op = .store 4 x y) (hx : a.eval x = .pointer (some ⟨b, p, none⟩)) (hy : a.eval y = .bool z) (hc : w.cell? ⟨b, p, none⟩ = some u) (hf : w.frozen? ⟨b, p, none⟩ = false) :
    (execOp a.eval o).run Tryd.prog w = .ok .skip (w.setCell ⟨b, p, none⟩ (.bool z)) := by
  unfold execOp
  simp only [ho, hx, hy]
  go_simp
theorem slice77 : Tryd.prog.underlying 77 = some (.slice (Tryd.prog.elem 77)) := by kernel_rfl
theorem elem77 : Tryd.prog.elem 77 = 4 := by kernel_rfl
theorem run_sizeOf_bool (w : World) : (sizeOf 4).run Tryd.prog w = .ok 1 w := by simp [go_sem]
theorem run_hiB (g n c j : Nat) (hj : j ≤ c) (h0 : 0 < c) (w : World) : (Instr.sliceAt 77 (.slice (some ⟨g, 0, none⟩) n c) none (some (.int .i64 (j : Int))) none).run Tryd.prog w = .ok (.slice (some ⟨g, 0, none⟩) j c) w := by
  rw [run_sliceAt_slice _ _ _ _ _ _ slice77, run_slice_h w 77 (some ⟨g, 0, none⟩) n c slice77 .i64 (j : Int) (by omega) (by omega), elem77, run_sizeOf_bool, Result.andThen_ok, Int.toNat_natCast]
  unfold sliced
  rw [if_neg (by omega)]
  simp [addr_add]
theorem info_bool : (Tryd.prog.info? 4).map (fun i => (i.zero, i.size, i.bytes)) = some (some (.bool false), 1, 1) := by kernel_rfl
theorem info_boolp : ∃ i0, Tryd.prog.info? 4 = some i0 ∧ i0.zero = some (.bool false) ∧ i0.size = 1 ∧ i0.bytes = 1 := by
  have h := info_bool
  cases hi : Tryd.prog.info? 4 with
  | none => rw [hi] at h; cases h
  | some i0 =>
    rw [hi] at h
    simp only [Option.map_some, Option.some.injEq, Prod.mk.injEq] at h
    exact ⟨i0, rfl, h.1, h.2.1, h.2.2⟩
/-- the first n cells of a row are the bools l -/
structure Bl (w : World) (g cap : Nat) (l : List Bool) : Prop where
  ex : ∃ cs, Row w g 4 cs ∧ cs.take l.length = boolCells l
theorem Bl.below {w w' : World} {B g cap : Nat} {l : List Bool} (h : Bl w g cap l) (hb : Below B w w') (hg : g < B) : Bl w' g cap l := by
  obtain ⟨cs, hr, ht⟩ := h.ex
  exact ⟨cs, hr.below hb hg, ht⟩

set_option maxHeartbeats 2000000 in
theorem rc_any (t : Nat) (ht : t < 255) (w : World) :
    Calls Tryd.prog 40 #[.int .i64 (t : Int)] w fun e w' => e = .returned (.bool (rcB t)) ∧ Below w.heap.size w w' := by
  have HB : Shh (rcB t = (rcL t).getD 0 false) := Shh.mk (by rw [rcB, Nat.mod_eq_of_lt ht])
  obtain ⟨i0, hi, hz0, hz1, hz2⟩ := info_boolp
  have q1 : (t : Int).tmod 255 = (t : Int) := (show (t : Int).tmod 255 = ((t % 255 : Nat) : Int) from rfl).trans (by rw [Nat.mod_eq_of_lt ht])
  have q2 : (t : Int) % 255 = (t : Int) := by omega
  have wt : IntKind.i64.wrap (t : Int) = (t : Int) := by rw [IntKind.wrap_i64]; omega
  generalize hN : w.heap.size = N at *
  have hr0 : Row (w.alloc (.cells #[.bool true, .bool false, .bool false, .bool false, .bool false, .bool false, .bool false, .bool false] 4)) N 4 (boolCells (rcL 0)) := Row.new_ hN.symm rfl
  have hb0 : Below N w (w.alloc (.cells #[.bool true, .bool false, .bool false, .bool false, .bool false, .bool false, .bool false, .bool false] 4)) := (Below.refl N w).alloc (by omega) _
  go_enter Tryd.func40, Tryd.ntmps40
  go_wp2
  go_loopw [3, 4, 6, 10, 17] (fun r _ _ i _ wr => ∃ (k g cap : Nat) (cs : List Value), k ≤ t ∧ i = .int .i64 (k : Int) ∧ r = .slice (some ⟨g, 0, none⟩) 8 cap ∧ N ≤ g ∧ 8 ≤ cap ∧ cap ≤ maxLen ∧ Row wr g 4 cs ∧ Shh (cs.take 8 = boolCells (rcL k)) ∧ Below N w wr) (fun _ _ _ i _ _ => t - (intOf i).toNat)
  case atStart => exact ⟨0, N, 8, _, Nat.zero_le _, rfl, rfl, Nat.le_refl _, Nat.le_refl _, by unfold maxLen; omega, hr0, Shh.mk rfl, hb0⟩
  case round =>
    clear hr0 hb0
    obtain ⟨k, g, cap, cs, hk, rfl, rfl, hNg, hcap, hcm, hr, HT, hbel⟩ := hrel
    have hcs8 : (boolCells (rcL k)).length = 8 := by rw [boolCells_length, rcL_length]
    by_cases hlt : k < t
    · have HNX : Shh (rcL (k + 1) = (rcIn (false :: rcL k) 4).take 8) := Shh.mk rfl
      obtain ⟨rl, HRL⟩ : ∃ r, Shh (r = rcL k) := ⟨_, Shh.mk rfl⟩
      rw [← HRL.out] at HNX hcs8 HT
      have hrl8 : rl.length = 8 := by rw [HRL.out, rcL_length]
      have hcell : ∀ (W : World), Row W g 4 cs → ∀ (j : Nat) (u : Value), (boolCells rl)[j]? = some u → W.cell? ((⟨g, 0, none⟩ : Addr).add j) = some u := fun W hW j u hu => by
        rw [addr_add, Nat.zero_add, hW.cell j, ← hu, ← HT.out]
        have hj : j < 8 := by
          rcases Nat.lt_or_ge j 8 with h | h
          · exact h
          · rw [List.getElem?_eq_none (by omega)] at hu; cases hu
        rw [List.getElem?_take_of_lt hj]
      obtain ⟨n1, hn1⟩ : ∃ n, wr.heap.size = n := ⟨_, rfl⟩
      have hown : (wr.alloc (.cells #[.bool false] 4)).ownsRow n1 4 1 (.slice (some ⟨n1, 0, none⟩) 1 1) 1 [.bool false] :=
        ⟨rfl, .inr ⟨n1, 1, #[.bool false], rfl, Nat.le_refl _, by rw [← hn1]; exact heap_alloc_new wr _, Nat.le_refl _, by unfold maxLen; omega, rfl, rfl⟩⟩
      have hrA := hr.alloc (.cells #[.bool false] 4)
      have hgl := hr.lt
      have hbA := hbel.alloc (by have := hbel.size; omega) (.cells #[.bool false] 4)
      have hszA : (wr.alloc (.cells #[.bool false] 4)).heap.size = n1 + 1 := by rw [asz, hn1]
      have hcl1 : ∀ u ∈ boolCells rl, u.oneCell' = true := by
        intro u hu
        simp only [boolCells, List.mem_map] at hu
        obtain ⟨b, _, rfl⟩ := hu
        rfl
      rw [hn1] at hgl
      have hNn : N ≤ n1 := by omega
      go_wp2_with (at_builtin; refine wpList_append_own _ rfl _ _ 77 rfl n1 4 i0 (.bool false) 1 1 Tryd.underlying77 hi hz0 hz1 hz2 rfl (by decide) _ 1 [.bool false] rfl hown ⟨g, 0, none⟩ 8 cap (boolCells rl) rfl (by rw [hcs8]) (hcell _ hrA) hcl1 (by unfold maxLen; omega) (by omega) (by rw [hszA]; omega) ?_)
      intro v' w2 o2 g2w _
      have hrB : Row w2 g 4 cs := (g2w.block g (by rw [hszA]; omega) (by show some g ≠ some n1; intro e; cases e; omega)).trans hrA
      have hbB : Below N w w2 := hbA.grown g2w (by rw [hszA]; omega) (fun q hq => by cases hq; omega)
      have hzB := g2w.size
      rw [hszA] at hzB
      rcases o2.2 with ⟨_, h9⟩ | ⟨g2, cap2, cur, hv, hg2, hh, hnc, hcm2, hsz, hcur⟩
      · exfalso; omega
      subst hv
      have hr2 : Row w2 g2 4 cur.toList := by simpa [Row] using hh
      have HT2 : Shh (cur.toList.take 9 = boolCells (rcIn (false :: rl) 0)) := Shh.mk (by
        have := hcur
        simpa [boolCells, rcIn] using this)
      have hl2 : 9 ≤ cur.toList.length := by rw [Array.length_toList]; omega
      have hg2l := hr2.lt
      clear hh hcur hsz o2 hown hrA hbA hszA hcl1 hcell hr hbel g2w hrB
      generalize cur.toList = c2 at *
      obtain ⟨n3, hn3⟩ : ∃ n, w2.heap.size = n := ⟨_, rfl⟩
      rw [hn3] at hg2l
      have hi3 : Row (w2.alloc (.cells #[.int .i64 0, .int .i64 4, .int .i64 5, .int .i64 6] 3)) n3 3 [.int .i64 0, .int .i64 4, .int .i64 5, .int .i64 6] := Row.new_ hn3.symm rfl
      have hr3 := hr2.alloc (.cells #[.int .i64 0, .int .i64 4, .int .i64 5, .int .i64 6] 3)
      have hb3 := hbB.alloc (by omega) (.cells #[.int .i64 0, .int .i64 4, .int .i64 5, .int .i64 6] 3)
      have hcu := fun u => run_hiB g2 9 cap2 8 (by omega) (by omega) u
      clear hr2 hbB
      go_wp2
      go_loopw [6, 17] (fun _ i wr => ∃ (j : Nat) (c2 : List Value), j ≤ 4 ∧ i = .int .i64 (j : Int) ∧ Row wr g2 4 c2 ∧ 9 ≤ c2.length ∧ Shh (c2.take 9 = boolCells (rcIn (false :: rl) j)) ∧ Row wr n3 3 [.int .i64 0, .int .i64 4, .int .i64 5, .int .i64 6] ∧ Below N w wr) (fun _ i _ => 4 - (intOf i).toNat)
      case atStart => exact ⟨0, c2, Nat.zero_le _, rfl, hr3, hl2, HT2, hi3, hb3⟩
      case round =>
        clear hr3 hl2 HT2 hi3 hb3
        obtain ⟨j, c2, hj, rfl, hr3, hl2, HT2, hi3, hb3⟩ := hrel
        have hrl : (rcIn (false :: rl) j).length = 9 := by rw [rcIn_length, List.length_cons, hrl8]
        by_cases hlj : j < 4
        · have HS : Shh (rcIn (false :: rl) (j + 1) = (rcIn (false :: rl) j).set (rcKs j) ((rcIn (false :: rl) j).getD (rcKs j) false != (rcIn (false :: rl) j).getD 8 false)) := Shh.mk rfl
          obtain ⟨li, HLI⟩ : ∃ l, Shh (l = rcIn (false :: rl) j) := ⟨_, Shh.mk rfl⟩
          rw [← HLI.out] at HS HT2 hrl
          have hks : ([.int .i64 0, .int .i64 4, .int .i64 5, .int .i64 6] : List Value)[j]? = some (.int .i64 (rcKs j : Int)) := by
            match j, hlj with
            | 0, _ => rfl
            | 1, _ => rfl
            | 2, _ => rfl
            | 3, _ => rfl
          have hck := (hi3.cell j).trans hks
          have hkk := rcKs_lt j
          obtain ⟨kk, hke⟩ : ∃ kk, kk = rcKs j := ⟨_, rfl⟩
          rw [← hke] at hck hkk HS
          clear hks hke
          have hkk9 : kk < 9 := by omega
          have hget : ∀ i, i < 9 → c2[i]? = some (.bool (li.getD i false)) := fun i hi => by
            rw [← boolCells_get li i (by omega), ← HT2.out, List.getElem?_take_of_lt hi]
          have hckd : wr.drew.cell? ⟨n3, j, none⟩ = some (.int .i64 (kk : Int)) := hck
          replace hr3 := hr3.drew
          replace hi3 := hi3.drew
          replace hb3 := hb3.drew
          have hcx := (hr3.cell kk).trans (hget kk hkk9)
          have hc8 := (hr3.cell 8).trans (hget 8 (by omega))
          have hfx := hr3.free kk
          have hc8' : (c2.set kk (.bool (li.getD kk false != li.getD 8 false)))[8]? = some (.bool (li.getD 8 false)) := by
            rw [List.getElem?_set_ne (by omega)]
            exact hget 8 (by omega)
          have hr2 := hr3.set_ kk (.bool (li.getD kk false != li.getD 8 false))
          have HT2' : Shh ((c2.set kk (.bool (li.getD kk false != li.getD 8 false))).take 9 = boolCells (rcIn (false :: rl) (j + 1))) := Shh.mk (by
            rw [HS.out, ← boolCells_set, ← HT2.out, List.take_set])
          have hl2' : 9 ≤ (c2.set kk (.bool (li.getD kk false != li.getD 8 false))).length := by rw [List.length_set]; exact hl2
          have hi2 := hi3.other ⟨g2, kk, none⟩ (.bool (li.getD kk false != li.getD 8 false)) (by show n3 ≠ g2; omega)
          have hbel2 := hb3.setCell (p := ⟨g2, kk, none⟩) (show N ≤ g2 by omega) (.bool (li.getD kk false != li.getD 8 false))
          clear HS HT2 hl2 HLI hget
          generalize li.getD kk false = x at *
          generalize li.getD 8 false = y at *
          have HT2 := HT2'
          have hl2 := hl2'
          clear HT2' hl2'
          go_wp2
          refine wp_region_held_drew (S := fun w' => w'.cell? ⟨g2, 8, none⟩ = some (.bool y)) (by kernel_rfl) hc8 (fun hSX => ?_)
          clear hck
          generalize wr.drew = X at *
          refine held_value 0 (Op.move (Operand.tmp 4)) 77 (some 21) (.slice (some ⟨g2, 0, none⟩) 9 cap2) (by kernel_rfl) (by kernel_rfl) (by kernel_rfl) (fun w hS => by kernel_rfl) (fun _ _ _ _ h => h) hSX ?_
          simp only [Act.put, List.setIfInBounds_toArray, List.set_cons_zero, List.set_cons_succ]
          refine held_value 1 (Op.move (Operand.tmp 6)) 3 (some 22) (.int .i64 (kk : Int)) (by kernel_rfl) (by kernel_rfl) (by kernel_rfl) (fun w hS => by kernel_rfl) (fun _ _ _ _ h => h) hSX ?_
          simp only [Act.put, List.setIfInBounds_toArray, List.set_cons_zero, List.set_cons_succ]
          refine held_value 2 (Op.move (Operand.tmp 4)) 77 (some 23) (.slice (some ⟨g2, 0, none⟩) 9 cap2) (by kernel_rfl) (by kernel_rfl) (by kernel_rfl) (fun w hS => by kernel_rfl) (fun _ _ _ _ h => h) hSX ?_
          simp only [Act.put, List.setIfInBounds_toArray, List.set_cons_zero, List.set_cons_succ]
          refine held_value 3 (Op.move (Operand.tmp 6)) 3 (some 24) (.int .i64 (kk : Int)) (by kernel_rfl) (by kernel_rfl) (by kernel_rfl) (fun w hS => by kernel_rfl) (fun _ _ _ _ h => h) hSX ?_
          simp only [Act.put, List.setIfInBounds_toArray, List.set_cons_zero, List.set_cons_succ]
          refine held_value 4 (Op.indexAddr 77 (Operand.tmp 23) (Operand.tmp 24)) 0 (some 25) (.pointer (some ⟨g2, kk, none⟩)) (by kernel_rfl) (by kernel_rfl) (by kernel_rfl) (fun w hS => run_indexB g2 kk 9 cap2 hkk9 rfl (by kernel_rfl) (by kernel_rfl) w) (fun _ _ _ _ h => h) hSX ?_
          simp only [Act.put, List.setIfInBounds_toArray, List.set_cons_zero, List.set_cons_succ]
          refine held_value 6 (Op.move (Operand.tmp 4)) 77 (some 27) (.slice (some ⟨g2, 0, none⟩) 9 cap2) (by kernel_rfl) (by kernel_rfl) (by kernel_rfl) (fun w hS => by kernel_rfl) (fun _ _ _ _ h => h) hSX ?_
          simp only [Act.put, List.setIfInBounds_toArray, List.set_cons_zero, List.set_cons_succ]
          refine held_value 7 (Op.indexAddr 77 (Operand.tmp 27) (Operand.const (Value.int IntKind.i64 8))) 0 (some 28) (.pointer (some ⟨g2, 8, none⟩)) (by kernel_rfl) (by kernel_rfl) (by kernel_rfl) (fun w hS => run_indexB g2 8 9 cap2 (by omega) rfl (by kernel_rfl) (by kernel_rfl) w) (fun _ _ _ _ h => h) hSX ?_
          simp only [Act.put, List.setIfInBounds_toArray, List.set_cons_zero, List.set_cons_succ]
          refine held_value 8 (Op.load 4 (Operand.tmp 28)) 4 (some 29) (.bool y) (by kernel_rfl) (by kernel_rfl) (by kernel_rfl) (fun w hS => run_load1B rfl Tryd.underlying4 (by kernel_rfl) hS) (fun _ _ _ _ h => h) hSX ?_
          simp only [Act.put, List.setIfInBounds_toArray, List.set_cons_zero, List.set_cons_succ]
          refine held_one 5 (by kernel_rfl) ?_
          refine step_value 5 (Op.load 4 (Operand.tmp 25)) 4 (some 26) (.bool x) _ (by kernel_rfl) (by kernel_rfl) (run_load1B rfl Tryd.underlying4 (by kernel_rfl) hcx) hSX ?_
          simp only [Act.put, List.setIfInBounds_toArray, List.set_cons_zero, List.set_cons_succ]
          refine held_value 9 (Op.binOp BinOp.neq 4 (Operand.tmp 26) (Operand.tmp 29) 4) 4 (some 30) (.bool (x != y)) (by kernel_rfl) (by kernel_rfl) (by kernel_rfl) (fun w hS => run_neqB x y rfl (by kernel_rfl) (by kernel_rfl) w) (fun _ _ _ _ h => h) hSX ?_
          simp only [Act.put, List.setIfInBounds_toArray, List.set_cons_zero, List.set_cons_succ]
          refine held_value 10 (Op.indexAddr 77 (Operand.tmp 21) (Operand.tmp 22)) 0 (some 31) (.pointer (some ⟨g2, kk, none⟩)) (by kernel_rfl) (by kernel_rfl) (by kernel_rfl) (fun w hS => run_indexB g2 kk 9 cap2 hkk9 rfl (by kernel_rfl) (by kernel_rfl) w) (fun _ _ _ _ h => h) hSX ?_
          simp only [Act.put, List.setIfInBounds_toArray, List.set_cons_zero, List.set_cons_succ]
          refine held_one 11 (by kernel_rfl) ?_
          refine step_store1 11 (Op.store 4 (Operand.tmp 31) (Operand.tmp 30)) (by kernel_rfl) (by kernel_rfl) (X.setCell ⟨g2, kk, none⟩ (.bool (x != y))) (run_storeB (x != y) g2 kk rfl (by kernel_rfl) (by kernel_rfl) hcx hfx) ⟨(hr2.cell 8).trans hc8', ?_⟩
          refine wpAnyH_done (by kernel_rfl) ?_ _
          clear hSX hcx hfx
          generalize X.setCell ⟨g2, kk, none⟩ (.bool (x != y)) = Y at *
          go_wp2
          go_roundw
          case rel => exact ⟨j + 1, _, by omega, by go_num, hr2, hl2, HT2, hi2, hbel2⟩
          case measure => simp [intOf]; omega
        · have hj4 : j = 4 := by omega
          have HT3 : Shh (c2.take 8 = boolCells (rcL (k + 1))) := Shh.mk (by
            rw [HNX.out, ← hj4, boolCells, List.map_take, ← boolCells, ← HT2.out, List.take_take]
            rfl)
          have HJ := Shh.mk hj4
          clear hj4 HT2
          go_wp2
          go_roundw
          case rel => exact ⟨k + 1, g2, cap2, c2, by omega, by go_num, rfl, by omega, by omega, hcm2, hr3, HT3, hb3⟩
          case measure => simp [intOf]; omega
    · have hkt : k = t := by omega
      have hc0 : wr.cell? ⟨g, 0, none⟩ = some (.bool (rcB t)) := by
        rw [hr.cell 0, HB.out, ← hkt, ← boolCells_get (rcL k) 0 (by rw [rcL_length]; decide), ← HT.out, List.getElem?_take_of_lt (by decide)]
      clear hkt HT HB
      go_wp2
      go_ret
      exact ⟨rfl, hbel⟩
end Go.Proofs.YtjondbamnbgiaaaDoor
