/-
  WALK: (*keccak.sponge).mask.
-/
import Derived.Test.YtjondbamnbgiaaaDoorNext
namespace Go.Proofs.YtjondbamnbgiaaaDoor
open Go.RowKit
set_option maxRecDepth 100000

theorem run_index25o {a : Act} {x y : Operand} {op : Oper} (b o k : Nat) (hk : k < 25) (ho : op.op = .indexAddr 23 x y) (hx : a.eval x = .pointer (some ⟨b, o, none⟩)) (hy : a.eval y = .int .i64 (k : Int)) (w : World) :
    (execOp a.eval op).run Tryd.prog w = .ok (.value (.pointer (some ⟨b, o + k, none⟩))) w := by
  have h0 : (0 : Int) ≤ (k : Int) := by omega
  have h1 : (k : Int) < 25 := by omega
  unfold execOp
  simp only [ho, hx, hy]
  go_simp
theorem run_shlB {a : Act} {x y : Operand} {op : Oper} {t u : TypeId} (b : UInt8) (r : Nat) (hr : r < 64) (ho : op.op = .binOp .shl t x y u) (hx : a.eval x = .int .u64 (b.toNat : Int)) (hy : a.eval y = .int .i64 (r : Int)) (w : World) :
    (execOp a.eval op).run Tryd.prog w = .ok (.value (.int .u64 ((UInt64.ofNat (b.toNat * 2 ^ r)).toNat : Int))) w := by
  have h0 : (0 : Int) ≤ (r : Int) := by omega
  have h1 : (r : Int) < 64 := by omega
  have hn : ((r : Int)).toNat = r := by omega
  unfold execOp
  simp only [ho, hx, hy]
  clear hx hy ho
  generalize hq : (2 : Nat) ^ r = q
  simp [go_sem, hn]
  all_goals
    rw [IntKind.wrap_u64, ← hq]
    simp
theorem mask_any {w : World} {g o : Nat} {T : TypeId} {pre post : List Value} {s : Sp} {rate : Nat} (h : SpAt w g o T pre s rate post) (p : Nat) (hp : p < 200) (b : UInt8) :
    Calls Tryd.prog 43 #[.pointer (some ⟨g, o, none⟩), .int .i64 (p : Int), .int .u8 (b.toNat : Int)] w (SpIs w g o T pre ⟨maskL s.l p b, s.at_⟩ rate post) := by
  unfold SpIs
  have hsh : ∀ v, Calls Tryd.prog 45 #[.int .i64 (p : Int)] v fun e w' => e = .returned (.int .i64 ((8 * (p % 8) : Nat) : Int)) ∧ w' = v := shift_any p
  have q1 : (p : Int).tdiv 8 = ((p / 8 : Nat) : Int) := rfl
  have q2 : (p : Int) / 8 = ((p / 8 : Nat) : Int) := rfl
  have hk : p / 8 < 25 := by omega
  have hmk : maskL s.l p b = s.l.set (p / 8) (lane s.l (p / 8) ^^^ UInt64.ofNat (b.toNat * 2 ^ (8 * (p % 8)))) := rfl
  have hr64 : 8 * (p % 8) < 64 := by omega
  have hb8 : b.toNat < 256 := b.toNat_lt
  have hwk : IntKind.i64.wrap (((p / 8 : Nat)) : Int) = ((p / 8 : Nat) : Int) := by rw [IntKind.wrap_i64]; omega
  have hw8 := wraps_u64 (b.toNat : Int) (by omega) (by omega)
  obtain ⟨k, hkk⟩ : ∃ k, Hid (k = p / 8) := ⟨_, Lib.hid rfl⟩
  obtain ⟨r, hrr⟩ : ∃ r, Hid (r = 8 * (p % 8)) := ⟨_, Lib.hid rfl⟩
  rw [← hkk.out] at q1 q2 hk hmk hwk
  rw [← hrr.out] at hsh hr64 hmk
  clear hkk hrr
  obtain ⟨z, hz⟩ : ∃ z, Hid (z = UInt64.ofNat (b.toNat * 2 ^ r)) := ⟨_, Lib.hid rfl⟩
  rw [← hz.out] at hmk
  rw [hmk]
  clear hmk
  replace h := h.drew
  have hX : But w.heap.size g w w.drew := (But.refl _ g w).drew
  go_enter Tryd.func43, Tryd.ntmps43
  go_wp2
  refine wp_region_held_drew (S := fun _ => True) (by kernel_rfl) trivial (fun _ => ?_)
  generalize w.drew = X at *
  refine held_value 0 (Op.move (Operand.tmp 0)) 74 (some 6) (.pointer (some ⟨g, o, none⟩)) (by kernel_rfl) (by kernel_rfl) (by kernel_rfl) (fun w _ => by kernel_rfl) (fun _ _ _ _ h => h) trivial ?_
  simp only [Act.put, List.setIfInBounds_toArray, List.set_cons_zero, List.set_cons_succ]
  refine held_value 1 (Op.move (Operand.tmp 1)) 3 (some 7) (.int .i64 (p : Int)) (by kernel_rfl) (by kernel_rfl) (by kernel_rfl) (fun w _ => by kernel_rfl) (fun _ _ _ _ h => h) trivial ?_
  simp only [Act.put, List.setIfInBounds_toArray, List.set_cons_zero, List.set_cons_succ]
  refine held_value 2 (Op.binOp BinOp.quo 3 (Operand.tmp 7) (Operand.const (Value.int IntKind.i64 8)) 3) 3 (some 8) (.int .i64 (k : Int)) (by kernel_rfl) (by kernel_rfl) (by kernel_rfl) (fun w _ => by go_simp) (fun _ _ _ _ h => h) trivial ?_
  simp only [Act.put, List.setIfInBounds_toArray, List.set_cons_zero, List.set_cons_succ]
  refine held_value 3 (Op.nilCheck (Operand.tmp 6)) 0 (some 9) (.pointer (some ⟨g, o, none⟩)) (by kernel_rfl) (by kernel_rfl) (by kernel_rfl) (fun w _ => by kernel_rfl) (fun _ _ _ _ h => h) trivial ?_
  simp only [Act.put, List.setIfInBounds_toArray, List.set_cons_zero, List.set_cons_succ]
  refine held_value 4 (Op.fieldAddr 64 (Operand.tmp 9) 0) 0 (some 10) (.pointer (some ⟨g, o, none⟩)) (by kernel_rfl) (by kernel_rfl) (by kernel_rfl) (fun w _ => by kernel_rfl) (fun _ _ _ _ h => h) trivial ?_
  simp only [Act.put, List.setIfInBounds_toArray, List.set_cons_zero, List.set_cons_succ]
  refine held_value 5 (Op.indexAddr 23 (Operand.tmp 10) (Operand.tmp 8)) 0 (some 11) (.pointer (some ⟨g, o + k, none⟩)) (by kernel_rfl) (by kernel_rfl) (by kernel_rfl) (fun w _ => run_index25o g o k hk rfl (by kernel_rfl) (by kernel_rfl) w) (fun _ _ _ _ h => h) trivial ?_
  simp only [Act.put, List.setIfInBounds_toArray, List.set_cons_zero, List.set_cons_succ]
  refine held_value 7 (Op.move (Operand.tmp 2)) 5 (some 13) (.int .u8 (b.toNat : Int)) (by kernel_rfl) (by kernel_rfl) (by kernel_rfl) (fun w _ => by kernel_rfl) (fun _ _ _ _ h => h) trivial ?_
  simp only [Act.put, List.setIfInBounds_toArray, List.set_cons_zero, List.set_cons_succ]
  refine held_value 8 (Op.convert 5 22 (Operand.tmp 13)) 22 (some 14) (.int .u64 (b.toNat : Int)) (by kernel_rfl) (by kernel_rfl) (by kernel_rfl) (fun w _ => by go_simp) (fun _ _ _ _ h => h) trivial ?_
  simp only [Act.put, List.setIfInBounds_toArray, List.set_cons_zero, List.set_cons_succ]
  refine held_value 9 (Op.move (Operand.tmp 1)) 3 (some 15) (.int .i64 (p : Int)) (by kernel_rfl) (by kernel_rfl) (by kernel_rfl) (fun w _ => by kernel_rfl) (fun _ _ _ _ h => h) trivial ?_
  simp only [Act.put, List.setIfInBounds_toArray, List.set_cons_zero, List.set_cons_succ]
  refine held_value 13 (Op.nilCheck (Operand.tmp 6)) 0 (some 19) (.pointer (some ⟨g, o, none⟩)) (by kernel_rfl) (by kernel_rfl) (by kernel_rfl) (fun w _ => by kernel_rfl) (fun _ _ _ _ h => h) trivial ?_
  simp only [Act.put, List.setIfInBounds_toArray, List.set_cons_zero, List.set_cons_succ]
  refine held_value 14 (Op.fieldAddr 64 (Operand.tmp 19) 0) 0 (some 20) (.pointer (some ⟨g, o, none⟩)) (by kernel_rfl) (by kernel_rfl) (by kernel_rfl) (fun w _ => by kernel_rfl) (fun _ _ _ _ h => h) trivial ?_
  simp only [Act.put, List.setIfInBounds_toArray, List.set_cons_zero, List.set_cons_succ]
  refine held_two 6 10 (by kernel_rfl) ?_ ?_
  · refine step_value 6 (Op.load 22 (Operand.tmp 11)) 22 (some 12) (.int .u64 ((lane s.l k).toNat : Int)) _ (by kernel_rfl) (by kernel_rfl) (run_load1 rfl Tryd.underlying22 (by kernel_rfl) (h.lane_cell k hk)) trivial ?_
    simp only [Act.put, List.setIfInBounds_toArray, List.set_cons_zero, List.set_cons_succ]
    refine held_call 10 (Op.call { callee := Callee.value (Operand.func 45), args := #[Operand.tmp 15], argTypes := #[3] }) 3 (some 16) 45 #[.int .i64 (p : Int)] (by kernel_rfl) (by kernel_rfl) (by kernel_rfl) (by kernel_rfl) ?_
    refine (hsh _).mono ?_
    rintro e w' ⟨rfl, hw'⟩
    obtain rfl : X = w' := hw'.symm
    refine ⟨_, rfl, trivial, ?_⟩
    simp only [Act.put, List.setIfInBounds_toArray, List.set_cons_zero, List.set_cons_succ]
    refine held_value 11 (Op.binOp BinOp.shl 22 (Operand.tmp 14) (Operand.tmp 16) 3) 22 (some 17) (.int .u64 (z.toNat : Int)) (by kernel_rfl) (by kernel_rfl) (by kernel_rfl) (fun w _ => by rw [hz.out]; exact run_shlB b r hr64 rfl (by kernel_rfl) (by kernel_rfl) w) (fun _ _ _ _ h => h) trivial ?_
    simp only [Act.put, List.setIfInBounds_toArray, List.set_cons_zero, List.set_cons_succ]
    refine held_value 12 (Op.binOp BinOp.xor 22 (Operand.tmp 12) (Operand.tmp 17) 22) 22 (some 18) (.int .u64 ((lane s.l k ^^^ z).toNat : Int)) (by kernel_rfl) (by kernel_rfl) (by kernel_rfl) (fun w _ => run_xorL (p := lane s.l k) (q := z) rfl (by kernel_rfl) (by kernel_rfl)) (fun _ _ _ _ h => h) trivial ?_
    simp only [Act.put, List.setIfInBounds_toArray, List.set_cons_zero, List.set_cons_succ]
    refine held_value 15 (Op.indexAddr 23 (Operand.tmp 20) (Operand.tmp 8)) 0 (some 21) (.pointer (some ⟨g, o + k, none⟩)) (by kernel_rfl) (by kernel_rfl) (by kernel_rfl) (fun w _ => run_index25o g o k hk rfl (by kernel_rfl) (by kernel_rfl) w) (fun _ _ _ _ h => h) trivial ?_
    simp only [Act.put, List.setIfInBounds_toArray, List.set_cons_zero, List.set_cons_succ]
    refine held_one 16 (by kernel_rfl) ?_
    refine step_store1 16 (Op.store 22 (Operand.tmp 21) (Operand.tmp 18)) (by kernel_rfl) (by kernel_rfl) (X.setCell ⟨g, o + k, none⟩ (.int .u64 ((lane s.l k ^^^ z).toNat : Int))) (run_store64 (lane s.l k ^^^ z) g (o + k) rfl (by kernel_rfl) (by kernel_rfl) (h.lane_cell k hk) (h.free _)) ⟨trivial, ?_⟩
    refine wpAnyH_done (by kernel_rfl) ?_ _
    have hfin := h.setLane k hk (lane s.l k ^^^ z)
    have hbf := hX.setCell (o + k) (.int .u64 ((lane s.l k ^^^ z).toNat : Int))
    generalize X.setCell ⟨g, o + k, none⟩ (.int .u64 ((lane s.l k ^^^ z).toNat : Int)) = Y at *
    go_wp2
    go_end0
    exact ⟨rfl, hfin, hbf⟩
  · refine step_call 10 (Op.call { callee := Callee.value (Operand.func 45), args := #[Operand.tmp 15], argTypes := #[3] }) 3 (some 16) 45 #[.int .i64 (p : Int)] (by kernel_rfl) (by kernel_rfl) (by kernel_rfl) ?_
    refine (hsh _).mono ?_
    rintro e w' ⟨rfl, hw'⟩
    obtain rfl : X = w' := hw'.symm
    refine ⟨_, rfl, trivial, ?_⟩
    simp only [Act.put, List.setIfInBounds_toArray, List.set_cons_zero, List.set_cons_succ]
    refine held_value 11 (Op.binOp BinOp.shl 22 (Operand.tmp 14) (Operand.tmp 16) 3) 22 (some 17) (.int .u64 (z.toNat : Int)) (by kernel_rfl) (by kernel_rfl) (by kernel_rfl) (fun w _ => by rw [hz.out]; exact run_shlB b r hr64 rfl (by kernel_rfl) (by kernel_rfl) w) (fun _ _ _ _ h => h) trivial ?_
    simp only [Act.put, List.setIfInBounds_toArray, List.set_cons_zero, List.set_cons_succ]
    refine held_one 6 (by kernel_rfl) ?_
    refine step_value 6 (Op.load 22 (Operand.tmp 11)) 22 (some 12) (.int .u64 ((lane s.l k).toNat : Int)) _ (by kernel_rfl) (by kernel_rfl) (run_load1 rfl Tryd.underlying22 (by kernel_rfl) (h.lane_cell k hk)) trivial ?_
    simp only [Act.put, List.setIfInBounds_toArray, List.set_cons_zero, List.set_cons_succ]
    refine held_value 12 (Op.binOp BinOp.xor 22 (Operand.tmp 12) (Operand.tmp 17) 22) 22 (some 18) (.int .u64 ((lane s.l k ^^^ z).toNat : Int)) (by kernel_rfl) (by kernel_rfl) (by kernel_rfl) (fun w _ => run_xorL (p := lane s.l k) (q := z) rfl (by kernel_rfl) (by kernel_rfl)) (fun _ _ _ _ h => h) trivial ?_
    simp only [Act.put, List.setIfInBounds_toArray, List.set_cons_zero, List.set_cons_succ]
    refine held_value 15 (Op.indexAddr 23 (Operand.tmp 20) (Operand.tmp 8)) 0 (some 21) (.pointer (some ⟨g, o + k, none⟩)) (by kernel_rfl) (by kernel_rfl) (by kernel_rfl) (fun w _ => run_index25o g o k hk rfl (by kernel_rfl) (by kernel_rfl) w) (fun _ _ _ _ h => h) trivial ?_
    simp only [Act.put, List.setIfInBounds_toArray, List.set_cons_zero, List.set_cons_succ]
    refine held_one 16 (by kernel_rfl) ?_
    refine step_store1 16 (Op.store 22 (Operand.tmp 21) (Operand.tmp 18)) (by kernel_rfl) (by kernel_rfl) (X.setCell ⟨g, o + k, none⟩ (.int .u64 ((lane s.l k ^^^ z).toNat : Int))) (run_store64 (lane s.l k ^^^ z) g (o + k) rfl (by kernel_rfl) (by kernel_rfl) (h.lane_cell k hk) (h.free _)) ⟨trivial, ?_⟩
    refine wpAnyH_done (by kernel_rfl) ?_ _
    have hfin := h.setLane k hk (lane s.l k ^^^ z)
    have hbf := hX.setCell (o + k) (.int .u64 ((lane s.l k ^^^ z).toNat : Int))
    generalize X.setCell ⟨g, o + k, none⟩ (.int .u64 ((lane s.l k ^^^ z).toNat : Int)) = Y at *
    go_wp2
    go_end0
    exact ⟨rfl, hfin, hbf⟩
end Go.Proofs.YtjondbamnbgiaaaDoor
