/-
  WALK: (*keccak.sponge).squeezed.
-/
import Derived.Test.YtjondbamnbgiaaaDoorAbsorbed
namespace Go.Proofs.YtjondbamnbgiaaaDoor
open Go.RowKit
set_option maxRecDepth 100000

theorem run_shrB {a : Act} {x y : Operand} {op : Oper} {t u : TypeId} (b : UInt64) (r : Nat) (hr : r < 64) (ho : op.op = .binOp .shr t x y u) (hx : a.eval x = .int .u64 (b.toNat : Int)) (hy : a.eval y = .int .i64 (r : Int)) (w : World) :
    (execOp a.eval op).run Tryd.prog w = .ok (.value (.int .u64 ((b.toNat / 2 ^ r : Nat) : Int))) w := by
  have h0 : (0 : Int) ≤ (r : Int) := by omega
  have h1 : (r : Int) < 64 := by omega
  have hn : ((r : Int)).toNat = r := by omega
  generalize hq : (2 : Nat) ^ r = q
  unfold execOp
  simp only [ho, hx, hy]
  clear hx hy ho
  simp [go_sem, hn]
  rw [← hq]
  simp
theorem run_convB {a : Act} {x : Operand} {op : Oper} (m : Nat) (ho : op.op = .convert 22 5 x) (hx : a.eval x = .int .u64 (m : Int)) (w : World) :
    (execOp a.eval op).run Tryd.prog w = .ok (.value (.int .u8 ((UInt8.ofNat m).toNat : Int))) w := by
  have hw : IntKind.u8.wrap (m : Int) = ((UInt8.ofNat m).toNat : Int) := by rw [IntKind.wrap_u8]; simp
  generalize (UInt8.ofNat m).toNat = q at *
  unfold execOp
  simp only [ho, hx]
  go_simp
theorem run_indexS {a : Act} {x y : Operand} {op : Oper} (b k n : Nat) (hk : k < n) (ho : op.op = .indexAddr 29 x y) (hx : a.eval x = .slice (some ⟨b, 0, none⟩) n n) (hy : a.eval y = .int .i64 (k : Int)) (w : World) :
    (execOp a.eval op).run Tryd.prog w = .ok (.value (.pointer (some ⟨b, k, none⟩))) w := by
  have h0 : (0 : Int) ≤ (k : Int) := by omega
  have h1 : (k : Int) < (n : Int) := by omega
  unfold execOp
  simp only [ho, hx, hy]
  go_simp
theorem run_store8 {a : Act} {w : World} {o : Oper} {x y : Operand} {u : Value} (z : UInt8) (b p : Nat) (ho : o.op = .store 5 x y) (hx : a.eval x = .pointer (some ⟨b, p, none⟩)) (hy : a.eval y = .int .u8 (z.toNat : Int)) (hc : w.cell? ⟨b, p, none⟩ = some u) (hf : w.frozen? ⟨b, p, none⟩ = false) :
    (execOp a.eval o).run Tryd.prog w = .ok .skip (w.setCell ⟨b, p, none⟩ (.int .u8 (z.toNat : Int))) := by
  unfold execOp
  simp only [ho, hx, hy]
  go_simp
theorem SpAt.other {w : World} {g o : Nat} {T : TypeId} {pre post : List Value} {s : Sp} {rate : Nat} (h : SpAt w g o T pre s rate post) (a : Addr) (v : Value) (hne : g ≠ a.block) : SpAt (w.setCell a v) g o T pre s rate post := ⟨h.row.other a v hne, h.pre, h.len⟩
theorem But.setBeyond {a b : World} {B g q o : Nat} (h : But B g a b) (v : Value) (hq : B ≤ q) : But B g a (b.setCell ⟨q, o, none⟩ v) :=
  ⟨h.os, h.tape, h.output, Nat.le_trans h.size (by simp [World.setCell]), fun i hi hg => (heap_setCell_other b ⟨q, o, none⟩ i v (by show i ≠ q; omega)).trans (h.block i hi hg)⟩
theorem Vars.setBeyond {w : World} {q o : Nat} (h : Vars w) (v : Value) (hq : 0 ≠ q) : Vars (w.setCell ⟨q, o, none⟩ v) := fun k hk => (World.cell?_setCell_other w ⟨q, o, none⟩ ⟨0, k, none⟩ v (by intro e; cases e; exact hq rfl)).trans (h k hk)

theorem Sp.outs_length (rate : Nat) : ∀ (n : Nat) (s : Sp), (s.outs rate n).length = n
  | 0, _ => rfl
  | n + 1, s => congrArg (· + 1) (Sp.outs_length rate n (s.next rate))
theorem Sp.behind_succ (rate : Nat) : ∀ (n : Nat) (s : Sp), s.behind rate (n + 1) = (s.behind rate n).next rate
  | 0, _ => rfl
  | n + 1, s => Sp.behind_succ rate n (s.next rate)
theorem Sp.outs_succ (rate : Nat) : ∀ (n : Nat) (s : Sp), s.outs rate (n + 1) = s.outs rate n ++ [byteL ((s.behind rate n).next rate).l (((s.behind rate n).next rate).at_ - 1)]
  | 0, _ => rfl
  | n + 1, s => congrArg (byteL (s.next rate).l ((s.next rate).at_ - 1) :: ·) (Sp.outs_succ rate n (s.next rate))
theorem Sp.behind_at (rate : Nat) (hr : 0 < rate) : ∀ (n : Nat) (s : Sp), s.at_ ≤ rate → (s.behind rate n).at_ ≤ rate
  | 0, _, h => h
  | n + 1, s, h => Sp.behind_at rate hr n (s.next rate) (s.next_at rate h hr).2
/-- the row of bytes, k of them drawn -/
def sqRow (s : Sp) (rate n k : Nat) : List UInt8 := s.outs rate k ++ List.replicate (n - k) 0
theorem sqRow_succ (s : Sp) (rate n k : Nat) (hk : k < n) : sqRow s rate n (k + 1) = (sqRow s rate n k).set k (byteL ((s.behind rate k).next rate).l (((s.behind rate k).next rate).at_ - 1)) := by
  unfold sqRow
  rw [Sp.outs_succ, List.set_append_right _ _ (by rw [Sp.outs_length]; exact Nat.le_refl _), Sp.outs_length, Nat.sub_self, show n - k = (n - (k + 1)) + 1 by omega, List.replicate_succ, List.set_cons_zero]
  simp
theorem sqRow_all (s : Sp) (rate n : Nat) : sqRow s rate n n = s.outs rate n := by simp [sqRow]
theorem sqRow_length (s : Sp) (rate n k : Nat) (h : k ≤ n) : (sqRow s rate n k).length = n := by simp only [sqRow, List.length_append, Sp.outs_length, List.length_replicate]; omega
theorem byteCells_set (l : List UInt8) (k : Nat) (x : UInt8) : (Lib.byteCells l).set k (.int .u8 (x.toNat : Int)) = Lib.byteCells (l.set k x) := by simp [Lib.byteCells, List.map_set]

/-- n bytes of the output are handed back in a block of their own; the sponge has gone on; nothing else has turned -/
def SqIs (w : World) (g o : Nat) (T : TypeId) (pre : List Value) (s : Sp) (rate : Nat) (post : List Value) (n : Nat) (e : Ending) (w' : World) : Prop :=
  e = .returned (.slice (some ⟨w.heap.size, 0, none⟩) n n) ∧ Row w' w.heap.size 5 (Lib.byteCells (s.outs rate n)) ∧ SpAt w' g o T pre (s.behind rate n) rate post ∧ But w.heap.size g w w'

set_option maxHeartbeats 1000000 in
theorem squeezed_any {w : World} {g o : Nat} {T : TypeId} {pre post : List Value} {s : Sp} {rate : Nat} (h : SpAt w g o T pre s rate post) (hv : Vars w) (hg : 0 ≠ g) (ha : s.at_ ≤ rate) (hr : 0 < rate) (hr2 : rate ≤ 200) (n : Nat) (hn : n ≤ 1048576) :
    Calls Tryd.prog 36 #[.pointer (some ⟨g, o, none⟩), .int .i64 (n : Int)] w (SqIs w g o T pre s rate post n) := by
  unfold SqIs
  have hpos := hv.pos
  have hglt := h.lt
  have hmk := make_run n (by omega) w
  have hal : Below w.heap.size w (w.alloc (.cells (Lib.byteCells (List.replicate n 0)).toArray 5)) := (Below.refl _ _).alloc (Nat.le_refl _) _
  have h0 := h.below hal
  have hr0 : Row (w.alloc (.cells (Lib.byteCells (List.replicate n 0)).toArray 5)) w.heap.size 5 (Lib.byteCells (sqRow s rate n 0)) := Row.new_ rfl (by simp [sqRow, Sp.outs])
  have hv0 := hv.step hal
  have hb0 := But.of hal g
  generalize hW : w.alloc (.cells (Lib.byteCells (List.replicate n 0)).toArray 5) = W at *
  generalize hn0' : w.heap.size = n0 at *
  clear h hv hal
  go_enter Tryd.func36, Tryd.ntmps36
  go_wp2
  go_loopw [6, 7, 12] (fun _ _ i wr => ∃ k : Nat, k ≤ n ∧ i = .int .i64 k ∧ SpAt wr g o T pre (s.behind rate k) rate post ∧ Row wr n0 5 (Lib.byteCells (sqRow s rate n k)) ∧ Vars wr ∧ But n0 g w wr) (fun _ _ i _ => n - (intOf i).toNat)
  case atStart => exact ⟨0, Nat.zero_le _, rfl, h0, hr0, hv0, hb0⟩
  case round =>
    clear h0 hr0 hv0 hb0 hW
    obtain ⟨k, hk, rfl, hh, hrow, hv, hbut⟩ := hrel
    by_cases hlt : k < n
    · have HB := Lib.hid (Sp.behind_succ rate k s)
      have HO := Lib.hid (sqRow_succ s rate n k hlt)
      have hat := Sp.behind_at rate hr k s ha
      obtain ⟨u0, hku⟩ : ∃ u, (Lib.byteCells (sqRow s rate n k))[k]? = some u := ⟨_, List.getElem?_eq_getElem (by rw [Lib.byteCells_length, sqRow_length _ _ _ _ hk]; exact hlt)⟩
      generalize sqRow s rate n k = row at *
      generalize s.behind rate k = sk at *
      have hna := sk.next_at rate hat hr
      go_wp2_with (go_at_call 44; refine (next_any hh hv hat hr2).mono ?_)
      rintro e w1 ⟨rfl, h1, hb1⟩
      have hsz := hbut.size
      have hv1 := hv.but hb1 hg
      have hrow := hb1.row hrow (hrow.lt) (by omega)
      have hb1 := hbut.trans (hb1.mono (by omega))
      clear hh hv hbut
      generalize sk.next rate = s1 at *
      obtain ⟨p, hp⟩ : ∃ p, Hid (p = s1.at_ - 1) := ⟨_, Lib.hid rfl⟩
      rw [← hp.out] at HO
      rw [← hp.out]
      have hp2 : p < 200 := by have := hp.out; omega
      have hsh : ∀ v, Calls Tryd.prog 45 #[.int .i64 (p : Int)] v fun e w' => e = .returned (.int .i64 ((8 * (p % 8) : Nat) : Int)) ∧ w' = v := shift_any p
      have q1 : (p : Int).tdiv 8 = ((p / 8 : Nat) : Int) := rfl
      have q2 : (p : Int) / 8 = ((p / 8 : Nat) : Int) := rfl
      have hkk : p / 8 < 25 := by omega
      have hr64 : 8 * (p % 8) < 64 := by omega
      have hwk : IntKind.i64.wrap (((p / 8 : Nat)) : Int) = ((p / 8 : Nat) : Int) := by rw [IntKind.wrap_i64]; omega
      obtain ⟨z, hz⟩ : ∃ z, Hid (z = byteL s1.l p) := ⟨_, Lib.hid rfl⟩
      rw [← hz.out] at HO
      unfold byteL at hz
      have hcell := h1.drew.lane_cell _ hkk
      generalize lane s1.l (p / 8) = x at *
      obtain ⟨kk, hkk'⟩ : ∃ kk, Hid (kk = p / 8) := ⟨_, Lib.hid rfl⟩
      obtain ⟨r, hrr⟩ : ∃ r, Hid (r = 8 * (p % 8)) := ⟨_, Lib.hid rfl⟩
      rw [← hkk'.out] at q1 q2 hkk hwk hcell
      rw [← hrr.out] at hsh hr64 hz
      clear hkk' hrr hp hna
      replace h1 := h1.drew
      replace hrow := hrow.drew
      replace hv1 := hv1.drew
      replace hb1 := hb1.drew
      go_wp2
      refine wp_region_held_drew (S := fun _ => True) (by kernel_rfl) trivial (fun _ => ?_)
      generalize w1.drew = X at *
      refine held_value 0 (Op.move (Operand.tmp 5)) 29 (some 17) (.slice (some ⟨n0, 0, none⟩) n n) (by kernel_rfl) (by kernel_rfl) (by kernel_rfl) (fun w _ => by kernel_rfl) (fun _ _ _ _ h => h) trivial ?_
      simp only [Act.put, List.setIfInBounds_toArray, List.set_cons_zero, List.set_cons_succ]
      refine held_value 1 (Op.move (Operand.tmp 6)) 3 (some 18) (.int .i64 (k : Int)) (by kernel_rfl) (by kernel_rfl) (by kernel_rfl) (fun w _ => by kernel_rfl) (fun _ _ _ _ h => h) trivial ?_
      simp only [Act.put, List.setIfInBounds_toArray, List.set_cons_zero, List.set_cons_succ]
      refine held_value 2 (Op.move (Operand.tmp 0)) 74 (some 19) (.pointer (some ⟨g, o, none⟩)) (by kernel_rfl) (by kernel_rfl) (by kernel_rfl) (fun w _ => by kernel_rfl) (fun _ _ _ _ h => h) trivial ?_
      simp only [Act.put, List.setIfInBounds_toArray, List.set_cons_zero, List.set_cons_succ]
      refine held_value 3 (Op.move (Operand.tmp 7)) 3 (some 20) (.int .i64 (p : Int)) (by kernel_rfl) (by kernel_rfl) (by kernel_rfl) (fun w _ => by kernel_rfl) (fun _ _ _ _ h => h) trivial ?_
      simp only [Act.put, List.setIfInBounds_toArray, List.set_cons_zero, List.set_cons_succ]
      refine held_value 4 (Op.binOp BinOp.quo 3 (Operand.tmp 20) (Operand.const (Value.int IntKind.i64 8)) 3) 3 (some 21) (.int .i64 (kk : Int)) (by kernel_rfl) (by kernel_rfl) (by kernel_rfl) (fun w _ => by go_simp) (fun _ _ _ _ h => h) trivial ?_
      simp only [Act.put, List.setIfInBounds_toArray, List.set_cons_zero, List.set_cons_succ]
      refine held_value 5 (Op.nilCheck (Operand.tmp 19)) 0 (some 22) (.pointer (some ⟨g, o, none⟩)) (by kernel_rfl) (by kernel_rfl) (by kernel_rfl) (fun w _ => by kernel_rfl) (fun _ _ _ _ h => h) trivial ?_
      simp only [Act.put, List.setIfInBounds_toArray, List.set_cons_zero, List.set_cons_succ]
      refine held_value 6 (Op.fieldAddr 64 (Operand.tmp 22) 0) 0 (some 23) (.pointer (some ⟨g, o, none⟩)) (by kernel_rfl) (by kernel_rfl) (by kernel_rfl) (fun w _ => by kernel_rfl) (fun _ _ _ _ h => h) trivial ?_
      simp only [Act.put, List.setIfInBounds_toArray, List.set_cons_zero, List.set_cons_succ]
      refine held_value 7 (Op.indexAddr 23 (Operand.tmp 23) (Operand.tmp 21)) 0 (some 24) (.pointer (some ⟨g, o + kk, none⟩)) (by kernel_rfl) (by kernel_rfl) (by kernel_rfl) (fun w _ => run_index25o g o kk hkk rfl (by kernel_rfl) (by kernel_rfl) w) (fun _ _ _ _ h => h) trivial ?_
      simp only [Act.put, List.setIfInBounds_toArray, List.set_cons_zero, List.set_cons_succ]
      refine held_value 9 (Op.move (Operand.tmp 7)) 3 (some 26) (.int .i64 (p : Int)) (by kernel_rfl) (by kernel_rfl) (by kernel_rfl) (fun w _ => by kernel_rfl) (fun _ _ _ _ h => h) trivial ?_
      simp only [Act.put, List.setIfInBounds_toArray, List.set_cons_zero, List.set_cons_succ]
      refine held_two 8 10 (by kernel_rfl) ?_ ?_
      · refine step_value 8 (Op.load 22 (Operand.tmp 24)) 22 (some 25) (.int .u64 (x.toNat : Int)) _ (by kernel_rfl) (by kernel_rfl) (run_load1 rfl Tryd.underlying22 (by kernel_rfl) hcell) trivial ?_
        simp only [Act.put, List.setIfInBounds_toArray, List.set_cons_zero, List.set_cons_succ]
        refine held_call 10 (Op.call { callee := Callee.value (Operand.func 45), args := #[Operand.tmp 26], argTypes := #[3] }) 3 (some 27) 45 #[.int .i64 (p : Int)] (by kernel_rfl) (by kernel_rfl) (by kernel_rfl) (by kernel_rfl) ?_
        refine (hsh _).mono ?_
        rintro e w' ⟨rfl, hw'⟩
        obtain rfl : X = w' := hw'.symm
        refine ⟨_, rfl, trivial, ?_⟩
        simp only [Act.put, List.setIfInBounds_toArray, List.set_cons_zero, List.set_cons_succ]
        refine held_value 11 (Op.binOp BinOp.shr 22 (Operand.tmp 25) (Operand.tmp 27) 3) 22 (some 28) (.int .u64 ((x.toNat / 2 ^ r : Nat) : Int)) (by kernel_rfl) (by kernel_rfl) (by kernel_rfl) (fun w _ => run_shrB x r hr64 rfl (by kernel_rfl) (by kernel_rfl) w) (fun _ _ _ _ h => h) trivial ?_
        simp only [Act.put, List.setIfInBounds_toArray, List.set_cons_zero, List.set_cons_succ]
        refine held_value 12 (Op.convert 22 5 (Operand.tmp 28)) 5 (some 29) (.int .u8 (z.toNat : Int)) (by kernel_rfl) (by kernel_rfl) (by kernel_rfl) (fun w _ => by rw [hz.out]; exact run_convB (x.toNat / 2 ^ r) rfl (by kernel_rfl) w) (fun _ _ _ _ h => h) trivial ?_
        simp only [Act.put, List.setIfInBounds_toArray, List.set_cons_zero, List.set_cons_succ]
        refine held_value 13 (Op.indexAddr 29 (Operand.tmp 17) (Operand.tmp 18)) 0 (some 30) (.pointer (some ⟨n0, k, none⟩)) (by kernel_rfl) (by kernel_rfl) (by kernel_rfl) (fun w _ => run_indexS n0 k n hlt rfl (by kernel_rfl) (by kernel_rfl) w) (fun _ _ _ _ h => h) trivial ?_
        simp only [Act.put, List.setIfInBounds_toArray, List.set_cons_zero, List.set_cons_succ]
        refine held_one 14 (by kernel_rfl) ?_
        refine step_store1 14 (Op.store 5 (Operand.tmp 30) (Operand.tmp 29)) (by kernel_rfl) (by kernel_rfl) (X.setCell ⟨n0, k, none⟩ (.int .u8 (z.toNat : Int))) (run_store8 z n0 k rfl (by kernel_rfl) (by kernel_rfl) (hrow.cell k |>.trans hku) (hrow.free _)) ⟨trivial, ?_⟩
        refine wpAnyH_done (by kernel_rfl) ?_ _
        have hfin := h1.other ⟨n0, k, none⟩ (.int .u8 (z.toNat : Int)) (by show g ≠ n0; omega)
        have hbf := hb1.setBeyond (o := k) (.int .u8 (z.toNat : Int)) (Nat.le_refl n0)
        have hrf := hrow.set_ k (.int .u8 (z.toNat : Int))
        have hvf := hv1.setBeyond (q := n0) (o := k) (.int .u8 (z.toNat : Int)) (by omega)
        generalize X.setCell ⟨n0, k, none⟩ (.int .u8 (z.toNat : Int)) = Y at *
        go_wp2
        go_roundw
        case rel => exact ⟨k + 1, by omega, by go_num, by rw [HB.out]; exact hfin, by rw [HO.out, ← byteCells_set]; exact hrf, hvf, hbf⟩
        case measure => simp [intOf]; omega
      · refine step_call 10 (Op.call { callee := Callee.value (Operand.func 45), args := #[Operand.tmp 26], argTypes := #[3] }) 3 (some 27) 45 #[.int .i64 (p : Int)] (by kernel_rfl) (by kernel_rfl) (by kernel_rfl) ?_
        refine (hsh _).mono ?_
        rintro e w' ⟨rfl, hw'⟩
        obtain rfl : X = w' := hw'.symm
        refine ⟨_, rfl, trivial, ?_⟩
        simp only [Act.put, List.setIfInBounds_toArray, List.set_cons_zero, List.set_cons_succ]
        refine held_one 8 (by kernel_rfl) ?_
        refine step_value 8 (Op.load 22 (Operand.tmp 24)) 22 (some 25) (.int .u64 (x.toNat : Int)) _ (by kernel_rfl) (by kernel_rfl) (run_load1 rfl Tryd.underlying22 (by kernel_rfl) hcell) trivial ?_
        simp only [Act.put, List.setIfInBounds_toArray, List.set_cons_zero, List.set_cons_succ]
        refine held_value 11 (Op.binOp BinOp.shr 22 (Operand.tmp 25) (Operand.tmp 27) 3) 22 (some 28) (.int .u64 ((x.toNat / 2 ^ r : Nat) : Int)) (by kernel_rfl) (by kernel_rfl) (by kernel_rfl) (fun w _ => run_shrB x r hr64 rfl (by kernel_rfl) (by kernel_rfl) w) (fun _ _ _ _ h => h) trivial ?_
        simp only [Act.put, List.setIfInBounds_toArray, List.set_cons_zero, List.set_cons_succ]
        refine held_value 12 (Op.convert 22 5 (Operand.tmp 28)) 5 (some 29) (.int .u8 (z.toNat : Int)) (by kernel_rfl) (by kernel_rfl) (by kernel_rfl) (fun w _ => by rw [hz.out]; exact run_convB (x.toNat / 2 ^ r) rfl (by kernel_rfl) w) (fun _ _ _ _ h => h) trivial ?_
        simp only [Act.put, List.setIfInBounds_toArray, List.set_cons_zero, List.set_cons_succ]
        refine held_value 13 (Op.indexAddr 29 (Operand.tmp 17) (Operand.tmp 18)) 0 (some 30) (.pointer (some ⟨n0, k, none⟩)) (by kernel_rfl) (by kernel_rfl) (by kernel_rfl) (fun w _ => run_indexS n0 k n hlt rfl (by kernel_rfl) (by kernel_rfl) w) (fun _ _ _ _ h => h) trivial ?_
        simp only [Act.put, List.setIfInBounds_toArray, List.set_cons_zero, List.set_cons_succ]
        refine held_one 14 (by kernel_rfl) ?_
        refine step_store1 14 (Op.store 5 (Operand.tmp 30) (Operand.tmp 29)) (by kernel_rfl) (by kernel_rfl) (X.setCell ⟨n0, k, none⟩ (.int .u8 (z.toNat : Int))) (run_store8 z n0 k rfl (by kernel_rfl) (by kernel_rfl) (hrow.cell k |>.trans hku) (hrow.free _)) ⟨trivial, ?_⟩
        refine wpAnyH_done (by kernel_rfl) ?_ _
        have hfin := h1.other ⟨n0, k, none⟩ (.int .u8 (z.toNat : Int)) (by show g ≠ n0; omega)
        have hbf := hb1.setBeyond (o := k) (.int .u8 (z.toNat : Int)) (Nat.le_refl n0)
        have hrf := hrow.set_ k (.int .u8 (z.toNat : Int))
        have hvf := hv1.setBeyond (q := n0) (o := k) (.int .u8 (z.toNat : Int)) (by omega)
        generalize X.setCell ⟨n0, k, none⟩ (.int .u8 (z.toNat : Int)) = Y at *
        go_wp2
        go_roundw
        case rel => exact ⟨k + 1, by omega, by go_num, by rw [HB.out]; exact hfin, by rw [HO.out, ← byteCells_set]; exact hrf, hvf, hbf⟩
        case measure => simp [intOf]; omega
    · obtain rfl : k = n := by omega
      rw [sqRow_all] at hrow
      go_wp2
      go_ret
      exact ⟨rfl, hrow, hh, hbut⟩
end Go.Proofs.YtjondbamnbgiaaaDoor
