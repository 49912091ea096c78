import Derived.Test.YtapjiknedghhfaaDoorKPerm
import Derived.Test.YtapjiknedghhfaaDoorMC
import Derived.Test.YtapjiknedghhfaaDoorKMix
import Derived.Laws.Cover3
/-
 THE SPONGE IN MEMORY: 27 cells from place o of a block on: lanes, rate, place.
-/
namespace Go.Proofs.YtapjiknedghhfaaDoor
open Go.RowKit
set_option maxRecDepth 100000

def spCells (pre : List Value) (s : Sp) (rate : Nat) (post : List Value) : List Value := pre ++ (laneCells s.l ++ (.int .i64 (rate : Int) :: .int .i64 (s.at_ : Int) :: post))
/-- block g holds just: o cells pre, the sponge s with that rate, the cells post -/
structure SpAt (w : World) (g o : Nat) (T : TypeId) (pre : List Value) (s : Sp) (rate : Nat) (post : List Value) : Prop where
 row : Row w g T (spCells pre s rate post)
 pre : pre.length = o
 len : s.l.length = 25
section
variable {w w' : World} {g o : Nat} {T : TypeId} {pre post : List Value} {s : Sp} {rate : Nat}
theorem spCells_lane (hp : pre.length = o) (hl : s.l.length = 25) (k : Nat) (hk : k < 25) : (spCells pre s rate post)[o + k]? = some (.int .u64 ((lane s.l k).toNat : Int)) := by
 unfold spCells
 rw [List.getElem?_append_right (by omega), show o + k - pre.length = k by omega, List.getElem?_append_left (by rw [laneCells_length]; omega), laneCells_lane _ _ (by omega)]
theorem spCells_rate (hp : pre.length = o) (hl : s.l.length = 25) : (spCells pre s rate post)[o + 25]? = some (.int .i64 (rate : Int)) := by
 unfold spCells
 rw [List.getElem?_append_right (by omega), show o + 25 - pre.length = 25 by omega, List.getElem?_append_right (by rw [laneCells_length]; omega), laneCells_length, hl]
 rfl
theorem spCells_at (hp : pre.length = o) (hl : s.l.length = 25) : (spCells pre s rate post)[o + 26]? = some (.int .i64 (s.at_ : Int)) := by
 unfold spCells
 rw [List.getElem?_append_right (by omega), show o + 26 - pre.length = 26 by omega, List.getElem?_append_right (by rw [laneCells_length]; omega), laneCells_length, hl]
 rfl
theorem spCells_setLane (hp : pre.length = o) (hl : s.l.length = 25) (k : Nat) (hk : k < 25) (x : UInt64) : (spCells pre s rate post).set (o + k) (.int .u64 (x.toNat : Int)) = spCells pre ⟨s.l.set k x, s.at_⟩ rate post := by
 unfold spCells
 rw [List.set_append_right _ _ (by omega), show o + k - pre.length = k by omega, List.set_append_left _ _ (by rw [laneCells_length]; omega), laneCells_set]
theorem spCells_setAt (hp : pre.length = o) (hl : s.l.length = 25) (n : Nat) : (spCells pre s rate post).set (o + 26) (.int .i64 (n : Int)) = spCells pre ⟨s.l, n⟩ rate post := by
 unfold spCells
 rw [List.set_append_right _ _ (by omega), show o + 26 - pre.length = 26 by omega, List.set_append_right _ _ (by rw [laneCells_length]; omega), laneCells_length, hl]
 rfl
theorem spCells_length : (spCells pre s rate post).length = pre.length + (s.l.length + (2 + post.length)) := by
 simp only [spCells, List.length_append, laneCells_length, List.length_cons]
 omega
theorem spCells_over (hp : pre.length = o) (hl : s.l.length = 25) (l : List UInt64) (h : l.length = 25) : over (spCells pre s rate post) o (laneCells l) = spCells pre ⟨l, s.at_⟩ rate post := by
 rw [over_eq _ _ _ (by rw [spCells_length, laneCells_length]; omega), laneCells_length, h]
 unfold spCells
 rw [List.take_left' hp, List.append_assoc, ← List.drop_drop, List.drop_left' hp, List.drop_left' (by rw [laneCells_length, hl])]
theorem SpAt.lane_cell (h : SpAt w g o T pre s rate post) (k : Nat) (hk : k < 25) : w.cell? ⟨g, o + k, none⟩ = some (.int .u64 ((lane s.l k).toNat : Int)) := (h.row.cell _).trans (spCells_lane h.pre h.len k hk)
theorem SpAt.rate_cell (h : SpAt w g o T pre s rate post) : w.cell? ⟨g, o + 25, none⟩ = some (.int .i64 (rate : Int)) := (h.row.cell _).trans (spCells_rate h.pre h.len)
theorem SpAt.at_cell (h : SpAt w g o T pre s rate post) : w.cell? ⟨g, o + 26, none⟩ = some (.int .i64 (s.at_ : Int)) := (h.row.cell _).trans (spCells_at h.pre h.len)
theorem SpAt.free (h : SpAt w g o T pre s rate post) (k : Nat) : w.frozen? ⟨g, k, none⟩ = false := h.row.free k
theorem SpAt.lt (h : SpAt w g o T pre s rate post) : g < w.heap.size := h.row.lt
theorem SpAt.lanes (h : SpAt w g o T pre s rate post) : w.rangeAt g o (laneCells s.l) := fun j v hv => by
 have hj : j < 25 := by
  rcases Nat.lt_or_ge j 25 with hj | hj
  ·exact hj
  ·rw [List.getElem?_eq_none (by rw [laneCells_length, h.len]; exact hj)] at hv; cases hv
 rw [laneCells_lane _ _ (by rw [h.len]; exact hj)] at hv
 rw [h.lane_cell j hj, hv]
theorem SpAt.there (h : SpAt w g o T pre s rate post) (n : Nat) (hn : n = 25) : w.there g o n := h.row.there o n (by rw [spCells_length, h.pre, h.len]; omega)
theorem SpAt.setAt (h : SpAt w g o T pre s rate post) (n : Nat) : SpAt (w.setCell ⟨g, o + 26, none⟩ (.int .i64 (n : Int))) g o T pre ⟨s.l, n⟩ rate post :=
 ⟨(congrArg (Row _ g T) (spCells_setAt h.pre h.len n)).mp (h.row.set_ _ _), h.pre, h.len⟩
theorem SpAt.setLane (h : SpAt w g o T pre s rate post) (k : Nat) (hk : k < 25) (x : UInt64) : SpAt (w.setCell ⟨g, o + k, none⟩ (.int .u64 (x.toNat : Int))) g o T pre ⟨s.l.set k x, s.at_⟩ rate post :=
 ⟨(congrArg (Row _ g T) (spCells_setLane h.pre h.len k hk x)).mp (h.row.set_ _ _), h.pre, (List.length_set).trans h.len⟩
theorem SpAt.setLanes (h : SpAt w g o T pre s rate post) (l : List UInt64) (hl : l.length = 25) : SpAt (w.setCells g o (laneCells l)) g o T pre ⟨l, s.at_⟩ rate post :=
 ⟨(congrArg (Row _ g T) (spCells_over h.pre h.len l hl)).mp (h.row.setCells (laneCells l) o), h.pre, hl⟩
theorem SpAt.below (h : SpAt w g o T pre s rate post) (hb : Below w.heap.size w w') : SpAt w' g o T pre s rate post := ⟨h.row.below hb h.lt, h.pre, h.len⟩
theorem SpAt.drew (h : SpAt w g o T pre s rate post) : SpAt w.drew g o T pre s rate post := ⟨h.row, h.pre, h.len⟩
theorem KVars.butG (h : KVars w) (hb : But w.heap.size g w w') (hg : 0 ≠ g) : KVars w' := fun k hk => (hb.cell (p := ⟨0, k, none⟩) h.pos hg).trans (h k hk)
end
/-- the place of the next byte is handed back; the sponge has gone on; nothing else has turned -/
def NextIs (w : World) (g o : Nat) (T : TypeId) (pre : List Value) (s : Sp) (rate : Nat) (post : List Value) (e : Ending) (w' : World) : Prop :=
 e = .returned (.int .i64 (((s.next rate).at_ - 1 : Nat) : Int)) ∧ SpAt w' g o T pre (s.next rate) rate post ∧ But w.heap.size g w w'
/-- nothing is handed back; the sponge has become s; nothing else has turned -/
def SpIs (w : World) (g o : Nat) (T : TypeId) (pre : List Value) (s : Sp) (rate : Nat) (post : List Value) (e : Ending) (w' : World) : Prop :=
 e = .returned (.tuple #[]) ∧ SpAt w' g o T pre s rate post ∧ But w.heap.size g w w'
theorem Sp.next_full (s : Sp) (rate : Nat) (h : s.at_ = rate) : s.next rate = ⟨permL s.l, 1⟩ := if_pos h
theorem Sp.next_more (s : Sp) (rate : Nat) (h : ¬ s.at_ = rate) : s.next rate = ⟨s.l, s.at_ + 1⟩ := if_neg h
end Go.Proofs.YtapjiknedghhfaaDoor

/-
 WALK: (*keccak.sponge).next.
-/
namespace Go.Proofs.YtapjiknedghhfaaDoor
open Go.RowKit
set_option maxRecDepth 100000

theorem But.setCells_ {a b : World} {B g : Nat} (vs : List Value) (o : Nat) (h : But B g a b) : But B g a (b.setCells g o vs) := h.setCells vs o
theorem size_setCells (g : Nat) : ∀ (vs : List Value) (o : Nat) {w : World}, (w.setCells g o vs).heap.size = w.heap.size
 | [], _, _ => rfl
 | v :: r, o, w => (size_setCells g r (o + 1) (w := w.setCell ⟨g, o, none⟩ v)).trans (by simp [World.setCell])
section
variable {P : Program} {ops : Array Oper} {rest : List Oper} {a : Act} {w : World} {Q : Exit → Act → World → Prop} {T : TypeId} {pre post : List Value} {s : Sp} {rate : Nat} {op : Oper}
theorem wpList_store_sp (hgd : op.guard = none) (ty : TypeId) (x y : Operand) (ho : op.op = .store ty x y) (g o : Nat) (hx : a.eval x = .pointer (some ⟨g, o, none⟩)) (l : List UInt64) (hy : a.eval y = .agg (laneCells l).toArray)
  (hs : SpAt w g o T pre s rate post) (hl : l.length = 25) (hi : (P.info? ty).map (·.size) = some 25)
  (h : ∀ w2, SpAt w2 g o T pre ⟨l, s.at_⟩ rate post → But w.heap.size g w w2 → w2.heap.size = w.heap.size → wpList P ops Q rest (a.put op.dst undef) w2) : wpList P ops Q (op :: rest) a w := by
 have hz : (laneCells l).toArray.size = 25 := by rw [List.size_toArray, laneCells_length, hl]
 refine wpList_store_mid hgd ty x y ho g o (laneCells l).toArray hx hy (hs.there _ hz) (hi.trans (congrArg some hz.symm)) (all_oneCell_toArray (cell_oneLane l)) ?_
 exact h _ (hs.setLanes l hl) ((But.refl _ g w).setCells _ _) (size_setCells _ _ _)
end
/-- Permute keeps its contract -/
def PermOk : Prop := ∀ (s : List UInt64) (w : World), s.length = 25 → KVars w → Calls Tryd.prog 50 #[.agg (laneCells s).toArray] w (LanesIs w (permL s))
theorem next_of (hP : PermOk) {w : World} {g o : Nat} {T : TypeId} {pre post : List Value} {s : Sp} {rate : Nat} (h : SpAt w g o T pre s rate post) (hv : KVars w) (ha : s.at_ ≤ rate) (hr2 : rate ≤ 200) :
  Calls Tryd.prog 43 #[.pointer (some ⟨g, o, none⟩)] w (NextIs w g o T pre s rate post) := by
 unfold NextIs
 have hlt := h.lt
 have hca := h.at_cell
 have hcr := h.rate_cell
 by_cases hc : s.at_ = rate
 ·obtain ⟨l, a⟩ := s
  rw [Sp.next_full _ _ hc]
  simp only at hc hca ha ⊢
  subst hc
  have hll : l.length = 25 := h.len
  have hpl := permL_length l hll
  go_enter Tryd.func43, Tryd.ntmps43
  go_wp2
  go_region
  go_wp2_with (first
   | refine wpList_load_mid rfl 57 (.tmp 15) rfl g o rfl (laneCells l) (.array 25 56) h.drew.lanes Tryd.underlying57 rfl (info_l25.trans (size_lanes _ _ hll)) ?_
   | (go_at_call 50; refine (hP l _ hll hv.drew).mono ?_))
  rintro e w1 ⟨rfl, hb⟩
  have h1 := h.drew.below hb
  have hb1 : But w.heap.size g w w1 := ((But.refl w.heap.size g w).drew).trans (show But w.heap.size g w.drew w1 from But.of hb g)
  clear h hca hcr hv hb
  go_wp2_with (refine wpList_store_sp rfl 57 (.tmp 19) (.tmp 17) rfl g o rfl (permL l) rfl h1 hpl info_l25 ?_)
  intro w2 h2 hb2 hz2
  have hb2 := hb1.trans (hb2.mono hb1.size)
  clear hb1 h1 hz2
  have hca := h2.at_cell
  have hfa := h2.free (o + 26)
  go_wp2
  go_ret
  exact ⟨rfl, (h2.setAt 0).setAt 1, (hb2.setCell _ _).setCell _ _⟩
 ·obtain ⟨l, a⟩ := s
  rw [Sp.next_more _ _ hc]
  simp only at hc hca ha ⊢
  have hfa := h.free (o + 26)
  go_enter Tryd.func43, Tryd.ntmps43
  go_wp2
  go_region
  go_wp2
  go_ret
  exact ⟨by simp, h.drew.setAt (a + 1), ((But.refl _ g w).drew).setCell _ _⟩
end Go.Proofs.YtapjiknedghhfaaDoor

/-
 WALK: (*keccak.sponge).mask.
-/
namespace Go.Proofs.YtapjiknedghhfaaDoor
open Go.RowKit
set_option maxRecDepth 100000

theorem run_index25o {a : Act} {x y : Operand} {op : Oper} (b o k : Nat) (hk : k < 25) (ho : op.op = .indexAddr 57 x y) (hx : a.eval x = .pointer (some ⟨b, o, none⟩)) (hy : a.eval y = .int .i64 (k : Int)) (w : World) :
  (execOp a.eval op).run Tryd.prog w = .ok (.value (.pointer (some ⟨b, o + k, none⟩))) w := by
 have h0 : (0 : Int) ≤ (k : Int) := by omega
 have h1 : (k : Int) < 25 := by omega
 unfold execOp
 simp only [ho, hx, hy]
 go_simp
theorem run_shlB {a : Act} {x y : Operand} {op : Oper} {t u : TypeId} (b : UInt8) (r : Nat) (hr : r < 64) (ho : op.op = .binOp .shl t x y u) (hx : a.eval x = .int .u64 (b.toNat : Int)) (hy : a.eval y = .int .i64 (r : Int)) (w : World) :
  (execOp a.eval op).run Tryd.prog w = .ok (.value (.int .u64 ((UInt64.ofNat (b.toNat * 2 ^ r)).toNat : Int))) w := by
 have h0 : (0 : Int) ≤ (r : Int) := by omega
 have h1 : (r : Int) < 64 := by omega
 have hn : ((r : Int)).toNat = r := by omega
 unfold execOp
 simp only [ho, hx, hy]
 clear hx hy ho
 generalize hq : (2 : Nat) ^ r = q
 simp [go_sem, hn]
 all_goals
  rw [IntKind.wrap_u64, ← hq]
  simp
theorem mask_any {w : World} {g o : Nat} {T : TypeId} {pre post : List Value} {s : Sp} {rate : Nat} (h : SpAt w g o T pre s rate post) (p : Nat) (hp : p < 200) (b : UInt8) :
  Calls Tryd.prog 42 #[.pointer (some ⟨g, o, none⟩), .int .i64 (p : Int), .int .u8 (b.toNat : Int)] w (SpIs w g o T pre ⟨maskL s.l p b, s.at_⟩ rate post) := by
 unfold SpIs
 have hsh : ∀ v, Calls Tryd.prog 44 #[.int .i64 (p : Int)] v fun e w' => e = .returned (.int .i64 ((8 * (p % 8) : Nat) : Int)) ∧ w' = v := shift_any p
 have q1 : (p : Int).tdiv 8 = ((p / 8 : Nat) : Int) := rfl
 have q2 : (p : Int) / 8 = ((p / 8 : Nat) : Int) := rfl
 have hk : p / 8 < 25 := by omega
 have hmk : maskL s.l p b = s.l.set (p / 8) (lane s.l (p / 8) ^^^ UInt64.ofNat (b.toNat * 2 ^ (8 * (p % 8)))) := rfl
 have hr64 : 8 * (p % 8) < 64 := by omega
 have hb8 : b.toNat < 256 := b.toNat_lt
 have hwk : IntKind.i64.wrap (((p / 8 : Nat)) : Int) = ((p / 8 : Nat) : Int) := by rw [IntKind.wrap_i64]; omega
 have hw8 := wraps_u64 (b.toNat : Int) (by omega) (by omega)
 obtain ⟨k, hkk⟩ : ∃ k, Hid (k = p / 8) := ⟨_, Lib.hid rfl⟩
 obtain ⟨r, hrr⟩ : ∃ r, Hid (r = 8 * (p % 8)) := ⟨_, Lib.hid rfl⟩
 rw [← hkk.out] at q1 q2 hk hmk hwk
 rw [← hrr.out] at hsh hr64 hmk
 clear hkk hrr
 obtain ⟨z, hz⟩ : ∃ z, Hid (z = UInt64.ofNat (b.toNat * 2 ^ r)) := ⟨_, Lib.hid rfl⟩
 rw [← hz.out] at hmk
 rw [hmk]
 clear hmk
 replace h := h.drew
 have hX : But w.heap.size g w w.drew := (But.refl _ g w).drew
 go_enter Tryd.func42, Tryd.ntmps42
 go_wp2
 refine wp_region_held_drew (S := fun _ => True) (by kernel_rfl) trivial (fun _ => ?_)
 generalize w.drew = X at *
 refine hdv0 0 6 (.pointer (some ⟨g, o, none⟩)) (by rfl) trivial ?_
 refine hdv0 1 7 (.int .i64 (p : Int)) (by rfl) trivial ?_
 refine hdv 2 8 (.int .i64 (k : Int)) (by rfl) (fun w _ => by go_simp) trivial ?_
 refine hdv0 3 9 (.pointer (some ⟨g, o, none⟩)) (by rfl) trivial ?_
 refine hdv0 4 10 (.pointer (some ⟨g, o, none⟩)) (by rfl) trivial ?_
 refine hdv 5 11 (.pointer (some ⟨g, o + k, none⟩)) (by rfl) (fun w _ => run_index25o g o k hk rfl (by kernel_rfl) (by kernel_rfl) w) trivial ?_
 refine hdv0 7 13 (.int .u8 (b.toNat : Int)) (by rfl) trivial ?_
 refine hdv 8 14 (.int .u64 (b.toNat : Int)) (by rfl) (fun w _ => by go_simp) trivial ?_
 refine hdv0 9 15 (.int .i64 (p : Int)) (by rfl) trivial ?_
 refine hdv0 13 19 (.pointer (some ⟨g, o, none⟩)) (by rfl) trivial ?_
 refine hdv0 14 20 (.pointer (some ⟨g, o, none⟩)) (by rfl) trivial ?_
 refine held_two 6 10 (by kernel_rfl) ?_ ?_
 ·refine step_value 6 (Op.load 56 (Operand.tmp 11)) 56 (some 12) (.int .u64 ((lane s.l k).toNat : Int)) _ (by kernel_rfl) (by kernel_rfl) (run_load1 rfl Tryd.underlying56 (by kernel_rfl) (h.lane_cell k hk)) trivial ?_
  simp only [Act.put, arr9, hd9, tl9]
  refine held_call 10 (Op.call { callee := Callee.value (Operand.func 44), args := #[Operand.tmp 15], argTypes := #[3] }) 3 (some 16) 44 #[.int .i64 (p : Int)] (by kernel_rfl) (by kernel_rfl) (by kernel_rfl) (by kernel_rfl) ?_
  refine (hsh _).mono ?_
  rintro e w' ⟨rfl, hw'⟩
  obtain rfl : X = w' := hw'.symm
  refine ⟨_, rfl, trivial, ?_⟩
  simp only [Act.put, arr9, hd9, tl9]
  refine hdv 11 17 (.int .u64 (z.toNat : Int)) (by rfl) (fun w _ => by rw [hz.out]; exact run_shlB b r hr64 rfl (by kernel_rfl) (by kernel_rfl) w) trivial ?_
  refine hdv 12 18 (.int .u64 ((lane s.l k ^^^ z).toNat : Int)) (by rfl) (fun w _ => run_xorL (p := lane s.l k) (q := z) rfl (by kernel_rfl) (by kernel_rfl)) trivial ?_
  refine hdv 15 21 (.pointer (some ⟨g, o + k, none⟩)) (by rfl) (fun w _ => run_index25o g o k hk rfl (by kernel_rfl) (by kernel_rfl) w) trivial ?_
  refine held_one 16 (by kernel_rfl) ?_
  refine step_store1 16 (Op.store 56 (Operand.tmp 21) (Operand.tmp 18)) (by kernel_rfl) (by kernel_rfl) (X.setCell ⟨g, o + k, none⟩ (.int .u64 ((lane s.l k ^^^ z).toNat : Int))) (run_store64 (lane s.l k ^^^ z) g (o + k) rfl (by kernel_rfl) (by kernel_rfl) (h.lane_cell k hk) (h.free _)) ⟨trivial, ?_⟩
  refine wpAnyH_done (by kernel_rfl) ?_ _
  have hfin := h.setLane k hk (lane s.l k ^^^ z)
  have hbf := hX.setCell (o + k) (.int .u64 ((lane s.l k ^^^ z).toNat : Int))
  generalize X.setCell ⟨g, o + k, none⟩ (.int .u64 ((lane s.l k ^^^ z).toNat : Int)) = Y at *
  go_wp2
  go_end0
  exact ⟨rfl, hfin, hbf⟩
 ·refine step_call 10 (Op.call { callee := Callee.value (Operand.func 44), args := #[Operand.tmp 15], argTypes := #[3] }) 3 (some 16) 44 #[.int .i64 (p : Int)] (by kernel_rfl) (by kernel_rfl) (by kernel_rfl) ?_
  refine (hsh _).mono ?_
  rintro e w' ⟨rfl, hw'⟩
  obtain rfl : X = w' := hw'.symm
  refine ⟨_, rfl, trivial, ?_⟩
  simp only [Act.put, arr9, hd9, tl9]
  refine hdv 11 17 (.int .u64 (z.toNat : Int)) (by rfl) (fun w _ => by rw [hz.out]; exact run_shlB b r hr64 rfl (by kernel_rfl) (by kernel_rfl) w) trivial ?_
  refine held_one 6 (by kernel_rfl) ?_
  refine step_value 6 (Op.load 56 (Operand.tmp 11)) 56 (some 12) (.int .u64 ((lane s.l k).toNat : Int)) _ (by kernel_rfl) (by kernel_rfl) (run_load1 rfl Tryd.underlying56 (by kernel_rfl) (h.lane_cell k hk)) trivial ?_
  simp only [Act.put, arr9, hd9, tl9]
  refine hdv 12 18 (.int .u64 ((lane s.l k ^^^ z).toNat : Int)) (by rfl) (fun w _ => run_xorL (p := lane s.l k) (q := z) rfl (by kernel_rfl) (by kernel_rfl)) trivial ?_
  refine hdv 15 21 (.pointer (some ⟨g, o + k, none⟩)) (by rfl) (fun w _ => run_index25o g o k hk rfl (by kernel_rfl) (by kernel_rfl) w) trivial ?_
  refine held_one 16 (by kernel_rfl) ?_
  refine step_store1 16 (Op.store 56 (Operand.tmp 21) (Operand.tmp 18)) (by kernel_rfl) (by kernel_rfl) (X.setCell ⟨g, o + k, none⟩ (.int .u64 ((lane s.l k ^^^ z).toNat : Int))) (run_store64 (lane s.l k ^^^ z) g (o + k) rfl (by kernel_rfl) (by kernel_rfl) (h.lane_cell k hk) (h.free _)) ⟨trivial, ?_⟩
  refine wpAnyH_done (by kernel_rfl) ?_ _
  have hfin := h.setLane k hk (lane s.l k ^^^ z)
  have hbf := hX.setCell (o + k) (.int .u64 ((lane s.l k ^^^ z).toNat : Int))
  generalize X.setCell ⟨g, o + k, none⟩ (.int .u64 ((lane s.l k ^^^ z).toNat : Int)) = Y at *
  go_wp2
  go_end0
  exact ⟨rfl, hfin, hbf⟩
end Go.Proofs.YtapjiknedghhfaaDoor

/-
 WALK: (*keccak.sponge).absorb.
-/
namespace Go.Proofs.YtapjiknedghhfaaDoor
open Go.RowKit
set_option maxRecDepth 100000

theorem permOk : PermOk := fun s w hs hv => permute_of (fun l w h => mix_any l w h) s hs w hv
theorem next_any {w : World} {g o : Nat} {T : TypeId} {pre post : List Value} {s : Sp} {rate : Nat} (h : SpAt w g o T pre s rate post) (hv : KVars w) (ha : s.at_ ≤ rate) (hr2 : rate ≤ 200) :
  Calls Tryd.prog 43 #[.pointer (some ⟨g, o, none⟩)] w (NextIs w g o T pre s rate post) := next_of permOk h hv ha hr2

theorem Sp.next_at (s : Sp) (rate : Nat) (ha : s.at_ ≤ rate) (hr : 0 < rate) : 0 < (s.next rate).at_ ∧ (s.next rate).at_ ≤ rate := by
 by_cases hc : s.at_ = rate
 ·rw [Sp.next_full _ _ hc]; exact ⟨Nat.one_pos, hr⟩
 ·rw [Sp.next_more _ _ hc]; show 0 < s.at_ + 1 ∧ s.at_ + 1 ≤ rate; omega
theorem Sp.puts_at (rate : Nat) (hr : 0 < rate) (l : List UInt8) : ∀ s : Sp, s.at_ ≤ rate → (s.puts rate l).at_ ≤ rate := by
 induction l with
 | nil => intro s h; exact h
 | cons b r ih => intro s h; exact ih _ (s.next_at rate h hr).2
theorem Sp.puts_append (rate : Nat) (l m : List UInt8) : ∀ s : Sp, s.puts rate (l ++ m) = (s.puts rate l).puts rate m := by
 induction l with
 | nil => intro s; rfl
 | cons b r ih => intro s; exact ih _
theorem Sp.puts_take (rate : Nat) (s : Sp) (bs : List UInt8) (k : Nat) (h : k < bs.length) : s.puts rate (bs.take (k + 1)) = (s.puts rate (bs.take k)).put rate bs[k] := by
 rw [List.take_succ_eq_append_getElem h, Sp.puts_append]
 rfl

set_option maxHeartbeats 1000000 in
theorem absorb_any {w : World} {g o : Nat} {T : TypeId} {pre post : List Value} {s : Sp} {rate : Nat} (h : SpAt w g o T pre s rate post) (hv : KVars w) (hg : 0 ≠ g) (ha : s.at_ ≤ rate) (hr : 0 < rate) (hr2 : rate ≤ 200) (bs : List UInt8) (B : Nat) (v : Value) (hs : Sl w B v bs) (hB : B ≤ w.heap.size) (hof : Off g v) :
  Calls Tryd.prog 41 #[.pointer (some ⟨g, o, none⟩), v] w (SpIs w g o T pre (s.puts rate bs) rate post) := by
 unfold SpIs
 obtain ⟨A, c, hA, hc1, hc2, -⟩ := id hs
 have hmx := Nat.le_trans hc1 hc2
 unfold maxLen at hmx
 subst hA
 go_enter Tryd.func41, Tryd.ntmps41
 go_wp2
 go_loopw [5, 8] (fun _ i wr => ∃ k : Nat, k ≤ bs.length ∧ i = .int .i64 k ∧ SpAt wr g o T pre (s.puts rate (bs.take k)) rate post ∧ KVars wr ∧ But w.heap.size g w wr) (fun _ i _ => bs.length - (intOf i).toNat)
 case atStart => exact ⟨0, Nat.zero_le _, rfl, h, hv, But.refl _ _ _⟩
 case round =>
  clear h hv
  obtain ⟨k, hk, rfl, hh, hv, hbut⟩ := hrel
  by_cases hlt : k < bs.length
  ·have hsr := hs.but hof (hbut.mono hB)
   obtain ⟨A', c', hA', -, -, hc⟩ := hsr
   cases hA'
   obtain ⟨b, off, rfl, hbB, hcc⟩ := hc (by omega)
   have hcell := hcc k hlt
   have HF := Lib.hid (Sp.puts_take rate s bs k hlt)
   have hat := Sp.puts_at rate hr (bs.take k) s ha
   clear hc hcc hs
   generalize bs[k] = bk at *
   generalize s.puts rate (bs.take k) = sk at *
   have hna := sk.next_at rate hat hr
   go_wp2_with (go_at_call 43; refine (next_any hh hv hat hr2).mono ?_)
   rintro e w1 ⟨rfl, hh1, hb1⟩
   go_wp2_with (go_at_call 42; refine (mask_any hh1 ((sk.next rate).at_ - 1) (by omega) bk).mono ?_)
   rintro e w2 ⟨rfl, hh2, hb2⟩
   go_wp2
   go_roundw
   case rel => exact ⟨k + 1, by omega, by go_num, by rw [HF.out]; exact hh2, (hv.but hb1 hg).but hb2 hg, (hbut.chain hb1).chain hb2⟩
   case measure => simp [intOf]; omega
  ·obtain rfl : k = bs.length := by omega
   rw [List.take_length] at hh
   go_wp2
   go_end0
   exact ⟨rfl, hh, hbut⟩
end Go.Proofs.YtapjiknedghhfaaDoor

/-
 WALK: keccak.absorbed.
-/
namespace Go.Proofs.YtapjiknedghhfaaDoor
open Go.RowKit
set_option maxRecDepth 100000

theorem info_sp : (Tryd.prog.info? 59).map (·.size) = some 27 := by kernel_rfl
/-- a sponge is handed back; nothing that was there has turned -/
def SpongeIs (w : World) (s : Sp) (rate : Nat) (e : Ending) (w' : World) : Prop := e = .returned (.agg (spCells [] s rate []).toArray) ∧ Below w.heap.size w w'
theorem sp_oneCell (s : Sp) (rate : Nat) : ∀ u ∈ spCells [] s rate [], u.oneCell' = true := by
 intro u hu
 simp only [spCells, List.nil_append, List.mem_append, List.mem_cons, List.not_mem_nil, or_false] at hu
 rcases hu with hu | rfl | rfl
 ·exact cell_oneLane _ u hu
 ·rfl
 ·rfl
theorem zero27 : (#[.int .u64 0, .int .u64 0, .int .u64 0, .int .u64 0, .int .u64 0, .int .u64 0, .int .u64 0, .int .u64 0, .int .u64 0, .int .u64 0, .int .u64 0, .int .u64 0, .int .u64 0, .int .u64 0, .int .u64 0, .int .u64 0, .int .u64 0, .int .u64 0, .int .u64 0, .int .u64 0, .int .u64 0, .int .u64 0, .int .u64 0, .int .u64 0, .int .u64 0, .int .i64 0, .int .i64 0] : Array Value) = (spCells [] ⟨zeroL, 0⟩ 0 []).toArray := by rfl
theorem zero_len : zeroL.length = 25 := rfl

theorem SpAt.of_row {w : World} {g : Nat} {T : TypeId} {s : Sp} {rate : Nat} (h : Row w g T (spCells [] s rate [])) (hl : s.l.length = 25) : SpAt w g 0 T [] s rate [] := ⟨h, rfl, hl⟩
theorem Sp.puts_flat (rate : Nat) (s : Sp) (bss : List (List UInt8)) (k : Nat) (h : k < bss.length) : s.puts rate (bss.take (k + 1)).flatten = (s.puts rate (bss.take k).flatten).puts rate bss[k] := by
 rw [List.take_succ_eq_append_getElem h, List.flatten_append, Sp.puts_append]
 simp only [List.flatten_cons, List.flatten_nil, List.append_nil]
theorem spCells_size (s : Sp) (rate : Nat) (h : s.l.length = 25) : some 27 = some (spCells [] s rate []).length := by rw [spCells_length, h]; rfl
theorem absorbL_eq (rate : Nat) (suf : UInt8) (m : List UInt8) (s : Sp) (h : s = ((Sp.mk zeroL 0).puts rate m).puts rate [suf]) : absorbL rate suf m = ⟨maskL s.l (rate - 1) 128, rate⟩ := by rw [h, ← Sp.puts_append]; rfl

set_option maxHeartbeats 1000000 in
theorem absorbed_any (rate : Nat) (hr : 0 < rate) (hr2 : rate ≤ 200) (suf : UInt8) (bss : List (List UInt8)) (hbl : bss.length ≤ 1000000) (B : Nat) (v : Value) (w : World) (hp : PartsO w B B v bss) (hB : B ≤ w.heap.size) (hv : KVars w) :
  Calls Tryd.prog 33 #[.int .i64 (rate : Int), .int .u8 (suf.toNat : Int), v] w (SpongeIs w (absorbL rate suf bss.flatten) rate) := by
 unfold SpongeIs
 obtain ⟨A, c, rfl⟩ := hp.form
 have hpos := hv.pos
 generalize hn0 : w.heap.size = n0 at *
 go_enter Tryd.func33, Tryd.ntmps33
 go_wp2_with (first
  | refine wpList_build_eq rfl 59 _ rfl (spCells [] ⟨zeroL, 0⟩ rate []).toArray (by kernel_rfl) ?_
  | refine wpList_store_any rfl 59 (.tmp 7) (.tmp 11) rfl (n0 + 1) rfl (spCells [] ⟨zeroL, 0⟩ rate []) rfl 59 (spCells [] ⟨zeroL, 0⟩ 0 []) (Row.new_ (by rw [asz, hn0]) zero27) (info_sp.trans (spCells_size _ _ rfl)) rfl (sp_oneCell _ _) ?_)
 intro w2 hr4 bt hs2
 have h4 := SpAt.of_row hr4 zero_len
 have hrA : Row w2 n0 59 (spCells [] ⟨zeroL, 0⟩ 0 []) := bt.row ((Row.new_ hn0.symm zero27).alloc _) (by omega) (by omega)
 have hbel : Below n0 w w2 := (((Below.refl n0 w).alloc (by omega) _).alloc (by rw [asz]; omega) _).trans (bt.under (by omega) (by omega))
 have hv2 : KVars w2 := hv.under hbel hpos
 clear hr4 bt hs2
 go_wp2
 go_loopw [9, 14] (fun _ i wr => ∃ k : Nat, k ≤ bss.length ∧ i = .int .i64 k ∧ SpAt wr (n0 + 1) 0 59 [] ((Sp.mk zeroL 0).puts rate (bss.take k).flatten) rate [] ∧ Row wr n0 59 (spCells [] ⟨zeroL, 0⟩ 0 []) ∧ KVars wr ∧ Below n0 w wr) (fun _ i _ => bss.length - (intOf i).toNat)
 case atStart => exact ⟨0, Nat.zero_le _, rfl, h4, hrA, hv2, hbel⟩
 case round =>
  clear h4 hrA hv2 hbel
  obtain ⟨k, hk, rfl, hh, hrA, hv2, hbel⟩ := hrel
  have hlr := hh.lt
  by_cases hlt : k < bss.length
  ·have hpr := hp.below (hbel.mono hB)
   obtain ⟨q, off, rfl, hq, hqg, hc⟩ := hpr.at_ (by omega)
   obtain ⟨u, hu, hs, ho⟩ := hc k hlt
   have HF := Lib.hid (Sp.puts_flat rate (Sp.mk zeroL 0) bss k hlt)
   have hat := Sp.puts_at rate hr (bss.take k).flatten (Sp.mk zeroL 0) (Nat.zero_le _)
   clear hpr hc
   generalize bss[k] = bk at *
   generalize (Sp.mk zeroL 0).puts rate (bss.take k).flatten = sk at *
   go_wp2_with (go_at_call 41; refine (absorb_any hh hv2 (by omega) hat hr hr2 bk B u hs (by omega) (hs.off (by omega))).mono ?_)
   rintro e w3 ⟨rfl, hh2, hb2⟩
   rw [← HF.out] at hh2
   go_wp2
   go_roundw
   case rel => exact ⟨k + 1, by omega, by go_num, hh2, hb2.row hrA (by omega) (by omega), hv2.but hb2 (by omega), hbel.trans (hb2.under (by omega) (by omega))⟩
   case measure => simp [intOf]; omega
  ·obtain rfl : k = bss.length := by omega
   rw [List.take_length] at hh
   have hat := Sp.puts_at rate hr bss.flatten (Sp.mk zeroL 0) (Nat.zero_le _)
   have HA := Lib.hid (absorbL_eq rate suf bss.flatten _ rfl)
   generalize (Sp.mk zeroL 0).puts rate bss.flatten = sk at *
   have hbA : Below wr.heap.size wr (wr.alloc (.cells #[.int .u8 (suf.toNat : Int)] 5)) := (Below.refl _ _).alloc (Nat.le_refl _) _
   have hhA := hh.below hbA
   have hvA := hv2.step hbA
   have hbelA := hbel.trans (hbA.mono (Nat.le_of_lt (Nat.lt_trans (Nat.lt_succ_self n0) hlr)))
   have hrB := hrA.alloc (.cells #[.int .u8 (suf.toNat : Int)] 5)
   have hsl : Sl (wr.alloc (.cells #[.int .u8 (suf.toNat : Int)] 5)) (wr.heap.size + 1) (.slice (some ⟨wr.heap.size, 0, none⟩) 1 1) [suf] := Sl.of_bytes (T := 5) (Row.new_ rfl rfl) (by omega) rfl (by omega)
   have hq1 : (rate : Int) - 1 = ((rate - 1 : Nat) : Int) := by omega
   clear hh hv2 hbel hrA hbA
   go_wp2_with (go_at_call 41; refine (absorb_any hhA hvA (by omega) hat hr hr2 [suf] (wr.heap.size + 1) _ hsl (by rw [asz]; omega) (Off.at_ (by omega))).mono ?_)
   rintro e w3 ⟨rfl, hh3, hb3⟩
   rw [asz] at hb3
   have hrC := hb3.row hrB (by omega) (by omega)
   have hbel3 := hbelA.trans (hb3.under (by omega) (by omega))
   have hlr3 := hh3.lt
   clear hhA hvA hbelA hrB hsl hb3
   go_wp2_with (go_at_call 42; refine (mask_any hh3 (rate - 1) (by omega) 128).mono ?_)
   rintro e w4 ⟨rfl, hh4, hb4⟩
   have hrD := hb4.row hrC (by omega) (by omega)
   have hbel4 := hbel3.trans (hb4.under (by omega) (by omega))
   have hca : w4.cell? ⟨n0 + 1, 26, none⟩ = _ := hh4.at_cell
   have hfa := hh4.free 26
   have hlr4 := hh4.lt
   have h5 := hh4.setAt rate
   have hrE := hrD.other ⟨n0 + 1, 26, none⟩ (.int .i64 (rate : Int)) (by show n0 ≠ n0 + 1; omega)
   have hbel5 := hbel4.setCell (p := ⟨n0 + 1, 26, none⟩) (Nat.le_succ n0) (.int .i64 (rate : Int))
   clear hh3 hh4 hb4 hbel3 hbel4 hrC hrD
   go_wp2_with (first
    | refine wpList_load_any rfl 59 (.tmp 7) rfl (n0 + 1) rfl 59 (spCells [] _ rate []) _ h5.row Tryd.underlying59 rfl (info_sp.trans (spCells_size _ _ h5.len)) ?_
    | refine wpList_store_any rfl 59 (.tmp 6) (.tmp 29) rfl n0 rfl (spCells [] _ rate []) rfl 59 _ hrE (info_sp.trans (spCells_size _ _ h5.len)) ((Option.some.inj ((spCells_size _ _ zero_len).symm.trans (spCells_size _ _ h5.len)))) (sp_oneCell _ _) ?_)
   intro w9 hr9 b9 _
   have hb9 := hbel5.trans (b9.under (by omega) (Nat.le_refl _))
   go_wp2
   exact ret_row Tryd.results33 rfl rfl hr9 Tryd.underlying59 rfl (info_sp.trans (spCells_size _ _ h5.len)) ⟨by rw [HA.out], hb9⟩
end Go.Proofs.YtapjiknedghhfaaDoor

/-
 WALK: (*keccak.sponge).squeezed.
-/
namespace Go.Proofs.YtapjiknedghhfaaDoor
open Go.RowKit
set_option maxRecDepth 100000

theorem run_shrB {a : Act} {x y : Operand} {op : Oper} {t u : TypeId} (b : UInt64) (r : Nat) (hr : r < 64) (ho : op.op = .binOp .shr t x y u) (hx : a.eval x = .int .u64 (b.toNat : Int)) (hy : a.eval y = .int .i64 (r : Int)) (w : World) :
  (execOp a.eval op).run Tryd.prog w = .ok (.value (.int .u64 ((b.toNat / 2 ^ r : Nat) : Int))) w := by
 have h0 : (0 : Int) ≤ (r : Int) := by omega
 have h1 : (r : Int) < 64 := by omega
 have hn : ((r : Int)).toNat = r := by omega
 generalize hq : (2 : Nat) ^ r = q
 unfold execOp
 simp only [ho, hx, hy]
 clear hx hy ho
 simp [go_sem, hn]
 rw [← hq]
 simp
theorem run_convB {a : Act} {x : Operand} {op : Oper} (m : Nat) (ho : op.op = .convert 56 5 x) (hx : a.eval x = .int .u64 (m : Int)) (w : World) :
  (execOp a.eval op).run Tryd.prog w = .ok (.value (.int .u8 ((UInt8.ofNat m).toNat : Int))) w := by
 have hw : IntKind.u8.wrap (m : Int) = ((UInt8.ofNat m).toNat : Int) := by rw [IntKind.wrap_u8]; simp
 generalize (UInt8.ofNat m).toNat = q at *
 unfold execOp
 simp only [ho, hx]
 go_simp
theorem run_indexS {a : Act} {x y : Operand} {op : Oper} (b k n : Nat) (hk : k < n) (ho : op.op = .indexAddr 22 x y) (hx : a.eval x = .slice (some ⟨b, 0, none⟩) n n) (hy : a.eval y = .int .i64 (k : Int)) (w : World) :
  (execOp a.eval op).run Tryd.prog w = .ok (.value (.pointer (some ⟨b, k, none⟩))) w := by
 have h0 : (0 : Int) ≤ (k : Int) := by omega
 have h1 : (k : Int) < (n : Int) := by omega
 unfold execOp
 simp only [ho, hx, hy]
 go_simp
theorem run_store8 {a : Act} {w : World} {o : Oper} {x y : Operand} {u : Value} (z : UInt8) (b p : Nat) (ho : o.op = .store 5 x y) (hx : a.eval x = .pointer (some ⟨b, p, none⟩)) (hy : a.eval y = .int .u8 (z.toNat : Int)) (hc : w.cell? ⟨b, p, none⟩ = some u) (hf : w.frozen? ⟨b, p, none⟩ = false) :
  (execOp a.eval o).run Tryd.prog w = .ok .skip (w.setCell ⟨b, p, none⟩ (.int .u8 (z.toNat : Int))) := by
 unfold execOp
 simp only [ho, hx, hy]
 go_simp
theorem SpAt.other {w : World} {g o : Nat} {T : TypeId} {pre post : List Value} {s : Sp} {rate : Nat} (h : SpAt w g o T pre s rate post) (a : Addr) (v : Value) (hne : g ≠ a.block) : SpAt (w.setCell a v) g o T pre s rate post := ⟨h.row.other a v hne, h.pre, h.len⟩
theorem But.setBeyond {a b : World} {B g q o : Nat} (h : But B g a b) (v : Value) (hq : B ≤ q) : But B g a (b.setCell ⟨q, o, none⟩ v) :=
 ⟨h.os, h.tape, h.output, Nat.le_trans h.size (by simp [World.setCell]), fun i hi hg => (heap_setCell_other b ⟨q, o, none⟩ i v (by show i ≠ q; omega)).trans (h.block i hi hg)⟩
theorem KVars.setBeyond {w : World} {q o : Nat} (h : KVars w) (v : Value) (hq : 0 ≠ q) : KVars (w.setCell ⟨q, o, none⟩ v) := fun k hk => (World.cell?_setCell_other w ⟨q, o, none⟩ ⟨0, k, none⟩ v (by intro e; cases e; exact hq rfl)).trans (h k hk)

theorem Sp.outs_length (rate : Nat) : ∀ (n : Nat) (s : Sp), (s.outs rate n).length = n
 | 0, _ => rfl
 | n + 1, s => congrArg (· + 1) (Sp.outs_length rate n (s.next rate))
theorem Sp.behind_succ (rate : Nat) : ∀ (n : Nat) (s : Sp), s.behind rate (n + 1) = (s.behind rate n).next rate
 | 0, _ => rfl
 | n + 1, s => Sp.behind_succ rate n (s.next rate)
theorem Sp.outs_succ (rate : Nat) : ∀ (n : Nat) (s : Sp), s.outs rate (n + 1) = s.outs rate n ++ [byteL ((s.behind rate n).next rate).l (((s.behind rate n).next rate).at_ - 1)]
 | 0, _ => rfl
 | n + 1, s => congrArg (byteL (s.next rate).l ((s.next rate).at_ - 1) :: ·) (Sp.outs_succ rate n (s.next rate))
theorem Sp.behind_at (rate : Nat) (hr : 0 < rate) : ∀ (n : Nat) (s : Sp), s.at_ ≤ rate → (s.behind rate n).at_ ≤ rate
 | 0, _, h => h
 | n + 1, s, h => Sp.behind_at rate hr n (s.next rate) (s.next_at rate h hr).2
/-- the row of bytes, k of them drawn -/
def sqRow (s : Sp) (rate n k : Nat) : List UInt8 := s.outs rate k ++ List.replicate (n - k) 0
theorem sqRow_succ (s : Sp) (rate n k : Nat) (hk : k < n) : sqRow s rate n (k + 1) = (sqRow s rate n k).set k (byteL ((s.behind rate k).next rate).l (((s.behind rate k).next rate).at_ - 1)) := by
 unfold sqRow
 rw [Sp.outs_succ, List.set_append_right _ _ (by rw [Sp.outs_length]; exact Nat.le_refl _), Sp.outs_length, Nat.sub_self, show n - k = (n - (k + 1)) + 1 by omega, List.replicate_succ, List.set_cons_zero]
 simp
theorem sqRow_all (s : Sp) (rate n : Nat) : sqRow s rate n n = s.outs rate n := by simp [sqRow]
theorem sqRow_length (s : Sp) (rate n k : Nat) (h : k ≤ n) : (sqRow s rate n k).length = n := by simp only [sqRow, List.length_append, Sp.outs_length, List.length_replicate]; omega
theorem byteCells_set (l : List UInt8) (k : Nat) (x : UInt8) : (Lib.byteCells l).set k (.int .u8 (x.toNat : Int)) = Lib.byteCells (l.set k x) := by simp [Lib.byteCells, List.map_set]

/-- n bytes of the output are handed back in a block of their own; the sponge has gone on; nothing else has turned -/
def SqIs (w : World) (g o : Nat) (T : TypeId) (pre : List Value) (s : Sp) (rate : Nat) (post : List Value) (n : Nat) (e : Ending) (w' : World) : Prop :=
 e = .returned (.slice (some ⟨w.heap.size, 0, none⟩) n n) ∧ Row w' w.heap.size 5 (Lib.byteCells (s.outs rate n)) ∧ SpAt w' g o T pre (s.behind rate n) rate post ∧ But w.heap.size g w w'

set_option maxHeartbeats 1000000 in
theorem squeezed_any {w : World} {g o : Nat} {T : TypeId} {pre post : List Value} {s : Sp} {rate : Nat} (h : SpAt w g o T pre s rate post) (hv : KVars w) (hg : 0 ≠ g) (ha : s.at_ ≤ rate) (hr : 0 < rate) (hr2 : rate ≤ 200) (n : Nat) (hn : n ≤ 1048576) :
  Calls Tryd.prog 35 #[.pointer (some ⟨g, o, none⟩), .int .i64 (n : Int)] w (SqIs w g o T pre s rate post n) := by
 unfold SqIs
 have hpos := hv.pos
 have hglt := h.lt
 have hmk := make_run n (by omega) w
 have hal : Below w.heap.size w (w.alloc (.cells (Lib.byteCells (List.replicate n 0)).toArray 5)) := (Below.refl _ _).alloc (Nat.le_refl _) _
 have h0 := h.below hal
 have hr0 : Row (w.alloc (.cells (Lib.byteCells (List.replicate n 0)).toArray 5)) w.heap.size 5 (Lib.byteCells (sqRow s rate n 0)) := Row.new_ rfl (by simp [sqRow, Sp.outs])
 have hv0 := hv.step hal
 have hb0 := But.of hal g
 generalize hW : w.alloc (.cells (Lib.byteCells (List.replicate n 0)).toArray 5) = W at *
 generalize hn0' : w.heap.size = n0 at *
 clear h hv hal
 go_enter Tryd.func35, Tryd.ntmps35
 go_wp2
 go_loopw [6, 7, 12] (fun _ _ i wr => ∃ k : Nat, k ≤ n ∧ i = .int .i64 k ∧ SpAt wr g o T pre (s.behind rate k) rate post ∧ Row wr n0 5 (Lib.byteCells (sqRow s rate n k)) ∧ KVars wr ∧ But n0 g w wr) (fun _ _ i _ => n - (intOf i).toNat)
 case atStart => exact ⟨0, Nat.zero_le _, rfl, h0, hr0, hv0, hb0⟩
 case round =>
  clear h0 hr0 hv0 hb0 hW
  obtain ⟨k, hk, rfl, hh, hrow, hv, hbut⟩ := hrel
  by_cases hlt : k < n
  ·have HB := Lib.hid (Sp.behind_succ rate k s)
   have HO := Lib.hid (sqRow_succ s rate n k hlt)
   have hat := Sp.behind_at rate hr k s ha
   obtain ⟨u0, hku⟩ : ∃ u, (Lib.byteCells (sqRow s rate n k))[k]? = some u := ⟨_, List.getElem?_eq_getElem (by rw [Lib.byteCells_length, sqRow_length _ _ _ _ hk]; exact hlt)⟩
   generalize sqRow s rate n k = row at *
   generalize s.behind rate k = sk at *
   have hna := sk.next_at rate hat hr
   go_wp2_with (go_at_call 43; refine (next_any hh hv hat hr2).mono ?_)
   rintro e w1 ⟨rfl, h1, hb1⟩
   have hsz := hbut.size
   have hv1 := hv.but hb1 hg
   have hrow := hb1.row hrow (hrow.lt) (by omega)
   have hb1 := hbut.trans (hb1.mono (by omega))
   clear hh hv hbut
   generalize sk.next rate = s1 at *
   obtain ⟨p, hp⟩ : ∃ p, Hid (p = s1.at_ - 1) := ⟨_, Lib.hid rfl⟩
   rw [← hp.out] at HO
   rw [← hp.out]
   have hp2 : p < 200 := by have := hp.out; omega
   have hsh : ∀ v, Calls Tryd.prog 44 #[.int .i64 (p : Int)] v fun e w' => e = .returned (.int .i64 ((8 * (p % 8) : Nat) : Int)) ∧ w' = v := shift_any p
   have q1 : (p : Int).tdiv 8 = ((p / 8 : Nat) : Int) := rfl
   have q2 : (p : Int) / 8 = ((p / 8 : Nat) : Int) := rfl
   have hkk : p / 8 < 25 := by omega
   have hr64 : 8 * (p % 8) < 64 := by omega
   have hwk : IntKind.i64.wrap (((p / 8 : Nat)) : Int) = ((p / 8 : Nat) : Int) := by rw [IntKind.wrap_i64]; omega
   obtain ⟨z, hz⟩ : ∃ z, Hid (z = byteL s1.l p) := ⟨_, Lib.hid rfl⟩
   rw [← hz.out] at HO
   unfold byteL at hz
   have hcell := h1.drew.lane_cell _ hkk
   generalize lane s1.l (p / 8) = x at *
   obtain ⟨kk, hkk'⟩ : ∃ kk, Hid (kk = p / 8) := ⟨_, Lib.hid rfl⟩
   obtain ⟨r, hrr⟩ : ∃ r, Hid (r = 8 * (p % 8)) := ⟨_, Lib.hid rfl⟩
   rw [← hkk'.out] at q1 q2 hkk hwk hcell
   rw [← hrr.out] at hsh hr64 hz
   clear hkk' hrr hp hna
   replace h1 := h1.drew
   replace hrow := hrow.drew
   replace hv1 := hv1.drew
   replace hb1 := hb1.drew
   go_wp2
   refine wp_region_held_drew (S := fun _ => True) (by kernel_rfl) trivial (fun _ => ?_)
   generalize w1.drew = X at *
   refine hdv0 0 17 (.slice (some ⟨n0, 0, none⟩) n n) (by rfl) trivial ?_
   refine hdv0 1 18 (.int .i64 (k : Int)) (by rfl) trivial ?_
   refine hdv0 2 19 (.pointer (some ⟨g, o, none⟩)) (by rfl) trivial ?_
   refine hdv0 3 20 (.int .i64 (p : Int)) (by rfl) trivial ?_
   refine hdv 4 21 (.int .i64 (kk : Int)) (by rfl) (fun w _ => by go_simp) trivial ?_
   refine hdv0 5 22 (.pointer (some ⟨g, o, none⟩)) (by rfl) trivial ?_
   refine hdv0 6 23 (.pointer (some ⟨g, o, none⟩)) (by rfl) trivial ?_
   refine hdv 7 24 (.pointer (some ⟨g, o + kk, none⟩)) (by rfl) (fun w _ => run_index25o g o kk hkk rfl (by kernel_rfl) (by kernel_rfl) w) trivial ?_
   refine hdv0 9 26 (.int .i64 (p : Int)) (by rfl) trivial ?_
   refine held_two 8 10 (by kernel_rfl) ?_ ?_
   ·refine step_value 8 (Op.load 56 (Operand.tmp 24)) 56 (some 25) (.int .u64 (x.toNat : Int)) _ (by kernel_rfl) (by kernel_rfl) (run_load1 rfl Tryd.underlying56 (by kernel_rfl) hcell) trivial ?_
    simp only [Act.put, arr9, hd9, tl9]
    refine held_call 10 (Op.call { callee := Callee.value (Operand.func 44), args := #[Operand.tmp 26], argTypes := #[3] }) 3 (some 27) 44 #[.int .i64 (p : Int)] (by kernel_rfl) (by kernel_rfl) (by kernel_rfl) (by kernel_rfl) ?_
    refine (hsh _).mono ?_
    rintro e w' ⟨rfl, hw'⟩
    obtain rfl : X = w' := hw'.symm
    refine ⟨_, rfl, trivial, ?_⟩
    simp only [Act.put, arr9, hd9, tl9]
    refine hdv 11 28 (.int .u64 ((x.toNat / 2 ^ r : Nat) : Int)) (by rfl) (fun w _ => run_shrB x r hr64 rfl (by kernel_rfl) (by kernel_rfl) w) trivial ?_
    refine hdv 12 29 (.int .u8 (z.toNat : Int)) (by rfl) (fun w _ => by rw [hz.out]; exact run_convB (x.toNat / 2 ^ r) rfl (by kernel_rfl) w) trivial ?_
    refine hdv 13 30 (.pointer (some ⟨n0, k, none⟩)) (by rfl) (fun w _ => run_indexS n0 k n hlt rfl (by kernel_rfl) (by kernel_rfl) w) trivial ?_
    refine held_one 14 (by kernel_rfl) ?_
    refine step_store1 14 (Op.store 5 (Operand.tmp 30) (Operand.tmp 29)) (by kernel_rfl) (by kernel_rfl) (X.setCell ⟨n0, k, none⟩ (.int .u8 (z.toNat : Int))) (run_store8 z n0 k rfl (by kernel_rfl) (by kernel_rfl) (hrow.cell k |>.trans hku) (hrow.free _)) ⟨trivial, ?_⟩
    refine wpAnyH_done (by kernel_rfl) ?_ _
    have hfin := h1.other ⟨n0, k, none⟩ (.int .u8 (z.toNat : Int)) (by show g ≠ n0; omega)
    have hbf := hb1.setBeyond (o := k) (.int .u8 (z.toNat : Int)) (Nat.le_refl n0)
    have hrf := hrow.set_ k (.int .u8 (z.toNat : Int))
    have hvf := hv1.setBeyond (q := n0) (o := k) (.int .u8 (z.toNat : Int)) (by omega)
    generalize X.setCell ⟨n0, k, none⟩ (.int .u8 (z.toNat : Int)) = Y at *
    go_wp2
    go_roundw
    case rel => exact ⟨k + 1, by omega, by go_num, by rw [HB.out]; exact hfin, by rw [HO.out, ← byteCells_set]; exact hrf, hvf, hbf⟩
    case measure => simp [intOf]; omega
   ·refine step_call 10 (Op.call { callee := Callee.value (Operand.func 44), args := #[Operand.tmp 26], argTypes := #[3] }) 3 (some 27) 44 #[.int .i64 (p : Int)] (by kernel_rfl) (by kernel_rfl) (by kernel_rfl) ?_
    refine (hsh _).mono ?_
    rintro e w' ⟨rfl, hw'⟩
    obtain rfl : X = w' := hw'.symm
    refine ⟨_, rfl, trivial, ?_⟩
    simp only [Act.put, arr9, hd9, tl9]
    refine held_one 8 (by kernel_rfl) ?_
    refine step_value 8 (Op.load 56 (Operand.tmp 24)) 56 (some 25) (.int .u64 (x.toNat : Int)) _ (by kernel_rfl) (by kernel_rfl) (run_load1 rfl Tryd.underlying56 (by kernel_rfl) hcell) trivial ?_
    simp only [Act.put, arr9, hd9, tl9]
    refine hdv 11 28 (.int .u64 ((x.toNat / 2 ^ r : Nat) : Int)) (by rfl) (fun w _ => run_shrB x r hr64 rfl (by kernel_rfl) (by kernel_rfl) w) trivial ?_
    refine hdv 12 29 (.int .u8 (z.toNat : Int)) (by rfl) (fun w _ => by rw [hz.out]; exact run_convB (x.toNat / 2 ^ r) rfl (by kernel_rfl) w) trivial ?_
    refine hdv 13 30 (.pointer (some ⟨n0, k, none⟩)) (by rfl) (fun w _ => run_indexS n0 k n hlt rfl (by kernel_rfl) (by kernel_rfl) w) trivial ?_
    refine held_one 14 (by kernel_rfl) ?_
    refine step_store1 14 (Op.store 5 (Operand.tmp 30) (Operand.tmp 29)) (by kernel_rfl) (by kernel_rfl) (X.setCell ⟨n0, k, none⟩ (.int .u8 (z.toNat : Int))) (run_store8 z n0 k rfl (by kernel_rfl) (by kernel_rfl) (hrow.cell k |>.trans hku) (hrow.free _)) ⟨trivial, ?_⟩
    refine wpAnyH_done (by kernel_rfl) ?_ _
    have hfin := h1.other ⟨n0, k, none⟩ (.int .u8 (z.toNat : Int)) (by show g ≠ n0; omega)
    have hbf := hb1.setBeyond (o := k) (.int .u8 (z.toNat : Int)) (Nat.le_refl n0)
    have hrf := hrow.set_ k (.int .u8 (z.toNat : Int))
    have hvf := hv1.setBeyond (q := n0) (o := k) (.int .u8 (z.toNat : Int)) (by omega)
    generalize X.setCell ⟨n0, k, none⟩ (.int .u8 (z.toNat : Int)) = Y at *
    go_wp2
    go_roundw
    case rel => exact ⟨k + 1, by omega, by go_num, by rw [HB.out]; exact hfin, by rw [HO.out, ← byteCells_set]; exact hrf, hvf, hbf⟩
    case measure => simp [intOf]; omega
  ·obtain rfl : k = n := by omega
   rw [sqRow_all] at hrow
   go_wp2
   go_ret
   exact ⟨rfl, hrow, hh, hbut⟩
end Go.Proofs.YtapjiknedghhfaaDoor

/-
 WALKS: keccak.Sha3256, keccak.Sha3512.
-/
namespace Go.Proofs.YtapjiknedghhfaaDoor
open Go.RowKit
set_option maxRecDepth 100000

theorem Sp.next_len (s : Sp) (rate : Nat) (h : s.l.length = 25) : (s.next rate).l.length = 25 := by
 by_cases hc : s.at_ = rate
 ·rw [Sp.next_full _ _ hc]; exact permL_length _ h
 ·rw [Sp.next_more _ _ hc]; exact h
theorem Sp.puts_len (rate : Nat) (l : List UInt8) : ∀ s : Sp, s.l.length = 25 → (s.puts rate l).l.length = 25 := by
 induction l with
 | nil => intro s h; exact h
 | cons b r ih => intro s h; exact ih _ ((List.length_set).trans (s.next_len rate h))
theorem absorbL_len (rate : Nat) (suf : UInt8) (m : List UInt8) : (absorbL rate suf m).l.length = 25 := (List.length_set).trans (Sp.puts_len rate _ _ zero_len)

end Go.Proofs.YtapjiknedghhfaaDoor
