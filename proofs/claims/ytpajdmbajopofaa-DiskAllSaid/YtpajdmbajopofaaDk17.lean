/-
 WALKS: a disk that no call made; Block.
-/
import Derived.Test.YtpajdmbajopofaaDk16
namespace Go.Proofs.Ytpajdmbajopofaa
open Go.RowKit
set_option maxRecDepth 100000
theorem nil_Sectors (w : World) : Calls Try.prog 30 #[.pointer none] w (AnsIs w (.int .i64 0)) := by
 unfold AnsIs
 go_enter Try.func30, Try.ntmps30
 go_wp2_with (go_at_call 42; refine (isMade_nil _).mono ?_)
 unfold AnsIs
 rintro e w1 ⟨rfl, rfl⟩
 go_wp2
 go_ret
 exact ⟨rfl, rfl⟩
theorem nil_Read (i : Int) (w : World) : Calls Try.prog 24 #[.pointer none, .int .i64 i] w (AnsIs w (.tuple #[.slice none 0 0, .int .i64 2])) := by
 unfold AnsIs
 go_enter Try.func24, Try.ntmps24
 go_wp2_with (go_at_call 42; refine (isMade_nil _).mono ?_)
 unfold AnsIs
 rintro e w1 ⟨rfl, rfl⟩
 go_wp2
 go_ret2
 exact ⟨rfl, rfl⟩
theorem nil_Write (i : Int) (A : Option Addr) (n c : Nat) (w : World) : Calls Try.prog 28 #[.pointer none, .int .i64 i, .slice A n c] w (AnsIs w (.int .i64 2)) := by
 unfold AnsIs
 go_enter Try.func28, Try.ntmps28
 go_wp2_with (go_at_call 42; refine (isMade_nil _).mono ?_)
 unfold AnsIs
 rintro e w1 ⟨rfl, rfl⟩
 go_wp2
 go_ret
 exact ⟨rfl, rfl⟩
theorem nil_Sync (w : World) : Calls Try.prog 27 #[.pointer none] w (AnsIs w (.int .i64 2)) := by
 unfold AnsIs
 go_enter Try.func27, Try.ntmps27
 go_wp2_with (go_at_call 42; refine (isMade_nil _).mono ?_)
 unfold AnsIs
 rintro e w1 ⟨rfl, rfl⟩
 go_wp2
 go_ret
 exact ⟨rfl, rfl⟩
theorem nil_Arm (i : Int) (w : World) : Calls Try.prog 35 #[.pointer none, .int .i64 i] w (AnsIs w (.int .i64 2)) := by
 unfold AnsIs
 go_enter Try.func35, Try.ntmps35
 go_wp2_with (go_at_call 42; refine (isMade_nil _).mono ?_)
 unfold AnsIs
 rintro e w1 ⟨rfl, rfl⟩
 go_wp2
 go_ret
 exact ⟨rfl, rfl⟩
theorem nil_Calm (w : World) : Calls Try.prog 34 #[.pointer none] w (AnsIs w (.tuple #[])) := by
 unfold AnsIs
 go_enter Try.func34, Try.ntmps34
 go_wp2_with (go_at_call 42; refine (isMade_nil _).mono ?_)
 unfold AnsIs
 rintro e w1 ⟨rfl, rfl⟩
 go_wp2
 go_end0
 exact ⟨rfl, rfl⟩
theorem nil_On (w : World) : Calls Try.prog 32 #[.pointer none] w (AnsIs w (.bool false)) := by
 unfold AnsIs
 go_enter Try.func32, Try.ntmps32
 go_wp2_with (go_at_call 42; refine (isMade_nil _).mono ?_)
 unfold AnsIs
 rintro e w1 ⟨rfl, rfl⟩
 go_wp2
 go_ret
 exact ⟨rfl, rfl⟩
theorem nil_Waits (w : World) : Calls Try.prog 31 #[.pointer none] w (AnsIs w (.int .i64 0)) := by
 unfold AnsIs
 go_enter Try.func31, Try.ntmps31
 go_wp2_with (go_at_call 42; refine (isMade_nil _).mono ?_)
 unfold AnsIs
 rintro e w1 ⟨rfl, rfl⟩
 go_wp2
 go_ret
 exact ⟨rfl, rfl⟩
theorem nil_Ops (w : World) : Calls Try.prog 33 #[.pointer none] w (AnsIs w (.int .i64 0)) := by
 unfold AnsIs
 go_enter Try.func33, Try.ntmps33
 go_wp2_with (go_at_call 42; refine (isMade_nil _).mono ?_)
 unfold AnsIs
 rintro e w1 ⟨rfl, rfl⟩
 go_wp2
 go_ret
 exact ⟨rfl, rfl⟩
theorem nil_Image (w : World) : Calls Try.prog 19 #[.pointer none] w (AnsIs w (.slice none 0 0)) := by
 unfold AnsIs
 go_enter Try.func19, Try.ntmps19
 go_wp2_with (go_at_call 42; refine (isMade_nil _).mono ?_)
 unfold AnsIs
 rintro e w1 ⟨rfl, rfl⟩
 go_wp2
 go_ret
 exact ⟨rfl, rfl⟩
theorem nil_Clone (w : World) : Calls Try.prog 16 #[.pointer none] w (AnsIs w (.pointer none)) := by
 unfold AnsIs
 go_enter Try.func16, Try.ntmps16
 go_wp2_with (go_at_call 42; refine (isMade_nil _).mono ?_)
 unfold AnsIs
 rintro e w1 ⟨rfl, rfl⟩
 go_wp2
 go_ret
 exact ⟨rfl, rfl⟩
def QuietIs (w : World) (v : Value) (e : Ending) (w' : World) : Prop := e = .returned v ∧ Below w.heap.size w w'
theorem nil_Crash (A : Option Addr) (n c : Nat) (w : World) : Calls Try.prog 17 #[.pointer none, .slice A n c] w (QuietIs w (.tuple #[])) := by
 unfold QuietIs
 obtain ⟨W0, hW0⟩ : ∃ W0, w.alloc (.cells #[.slice A n c] 34) = W0 := ⟨_, rfl⟩
 have bA : Below w.heap.size w W0 := by rw [← hW0]; exact Below.alloc (Below.refl _ _) (Nat.le_refl _) _
 have HB := Shh.mk bA
 clear bA
 go_enter Try.func17, Try.ntmps17
 go_wp2_with (go_at_call 42; refine (isMade_nil _).mono ?_)
 unfold AnsIs
 rintro e w1 ⟨rfl, rfl⟩
 go_wp2
 refine bodyPost_ret (results_none rfl _ _ _) rfl ?_
 exact ⟨rfl, HB.out⟩
/-- the bytes of a block: x + i % 7 -/
def blkL (x : UInt8) (n : Nat) : List UInt8 := (List.range n).map fun i => x + UInt8.ofNat (i % 7)
theorem blkL_len (x : UInt8) (n : Nat) : (blkL x n).length = n := by simp [blkL]
theorem blkL_succ (x : UInt8) (n : Nat) : blkL x (n + 1) = blkL x n ++ [x + UInt8.ofNat (n % 7)] := by simp [blkL, List.range_succ]
/-- the first k bytes laid, zeros behind -/
def blkZ (x : UInt8) (k : Nat) : List UInt8 := blkL x k ++ List.replicate (256 - k) 0
theorem blkZ_len (x : UInt8) (k : Nat) (h : k ≤ 256) : (blkZ x k).length = 256 := by unfold blkZ; rw [List.length_append, blkL_len, List.length_replicate]; omega
theorem blkZ_set (x : UInt8) (k : Nat) (h : k < 256) : (blkZ x k).set k (x + UInt8.ofNat (k % 7)) = blkZ x (k + 1) := by
 unfold blkZ
 rw [List.set_append_right _ _ (by rw [blkL_len]; exact Nat.le_refl _), blkL_len, Nat.sub_self, show 256 - k = (256 - (k + 1)) + 1 by omega, List.replicate_succ, List.set_cons_zero, blkL_succ, List.append_assoc]
 rfl
theorem blkZ_zero (x : UInt8) : blkZ x 0 = zB := rfl
theorem blkZ_all (x : UInt8) : blkZ x 256 = blkL x 256 := by unfold blkZ; simp
section
variable {o : Oper} {a : Act} {w : World} {x y : Operand}
theorem rem_7 {i r : Nat} (h : r = i % 7) (hi : i ≤ 256) (ho : o.op = .binOp .rem 3 x (.const (.int .i64 7)) 3) (hx : a.eval x = .int .i64 (i : Int)) : (execOp a.eval o).run Try.prog w = .ok (.value (.int .i64 (r : Int))) w := by
 have e : (i : Int).tmod 7 = (r : Int) := by rw [Int.tmod_eq_emod_of_nonneg (by omega), h]; omega
 have e2 : (i : Int) % 7 = (r : Int) := by rw [h]; omega
 have hk : a.eval (.const (.int .i64 7)) = .int .i64 7 := rfl
 clear h
 unfold execOp
 simp only [ho, hx, hk]
 go_simp
theorem conv_i8 {r : Nat} (hr : r < 7) (ho : o.op = .convert 3 5 x) (hx : a.eval x = .int .i64 (r : Int)) : (execOp a.eval o).run Try.prog w = .ok (.value (.int .u8 (r : Int))) w := by
 have e : IntKind.u8.wrap (r : Int) = (r : Int) := by rw [IntKind.wrap_u8]; omega
 have e2 : (r : Int) % 256 = (r : Int) := by omega
 unfold execOp
 simp only [ho, hx]
 go_simp
theorem add_88 {p q r : UInt8} (h : r = p + q) (ho : o.op = .binOp .add 5 x y 5) (hx : a.eval x = .int .u8 (p.toNat : Int)) (hy : a.eval y = .int .u8 (q.toNat : Int)) : (execOp a.eval o).run Try.prog w = .ok (.value (.int .u8 (r.toNat : Int))) w := by
 have e : ((p.toNat : Int) + (q.toNat : Int)) % 256 = (r.toNat : Int) := by rw [h, UInt8.toNat_add]; omega
 have e2 : IntKind.u8.wrap ((p.toNat : Int) + (q.toNat : Int)) = (r.toNat : Int) := by  rw [IntKind.wrap_u8]; exact e
 clear h
 unfold execOp
 simp only [ho, hx, hy]
 go_simp
end
theorem store_bc {g k : Nat} {l : List UInt8} {b : UInt8} {w : World} (hr : Row w g 5 (Lib.byteCells l)) (hk : k < l.length) : Row (w.setCell ⟨g, k, none⟩ (.int .u8 (b.toNat : Int))) g 5 (Lib.byteCells (l.set k b)) := by
 have := hr.set_ k (.int .u8 (b.toNat : Int))
 rw [show (Lib.byteCells l).set k (.int .u8 (b.toNat : Int)) = Lib.byteCells (l.set k b) by simp [Lib.byteCells, List.map_set]] at this
 exact this
set_option maxHeartbeats 2000000 in
theorem Block_any (x : UInt8) (w : World) : Calls Try.prog 29 #[.int .u8 (x.toNat : Int)] w (OwnIs w (blkL x 256)) := by
 unfold OwnIs Gives
 have hmk := make_256
 obtain ⟨W0, hW0⟩ : ∃ W0, w.alloc (.cells (Lib.byteCells zB).toArray 5) = W0 := ⟨_, rfl⟩
 have H0 : Shh (Row W0 w.heap.size 5 (Lib.byteCells (blkZ x 0)) ∧ Below w.heap.size w W0) := ⟨by rw [← hW0, blkZ_zero]; exact Row.new_ rfl rfl, by rw [← hW0]; exact Below.alloc (Below.refl _ _) (Nat.le_refl _) _⟩
 go_enter Try.func29, Try.ntmps29
 go_wp2
 clear hW0 hmk
 go_loopw [8] (fun i wr => ∃ k : Nat, k ≤ 256 ∧ i = .int .i64 (k : Int) ∧ Shh (Row wr w.heap.size 5 (Lib.byteCells (blkZ x k)) ∧ Below w.heap.size w wr)) (fun i _ => 256 - (intOf i).toNat)
 case atStart => exact ⟨0, by omega, rfl, H0⟩
 case round =>
  clear H0
  obtain ⟨k, hk, rfl, H⟩ := hrel
  by_cases hlt : k < 256
  ·have hlt2 : (k : Int) < 256 := by omega
   have hz : (0 : Int) ≤ (k : Int) := by omega
   have hcl := H.out.1.cell k
   rw [byteCells_get _ k (by rw [blkZ_len x k (by omega)]; exact hlt)] at hcl
   have hfr := H.out.1.free k
   obtain ⟨r, hr⟩ : ∃ r, Shh (r = k % 7) := ⟨_, ⟨rfl⟩⟩
   have hr7 : r < 7 := by rw [hr.out]; omega
   have hu : (r : Int) = ((UInt8.ofNat r).toNat : Int) := by simp; omega
   obtain ⟨b, hb⟩ : ∃ b, Shh (b = x + UInt8.ofNat r) := ⟨_, ⟨rfl⟩⟩
   have F : Shh (Row (wr.setCell ⟨w.heap.size, k, none⟩ (.int .u8 (b.toNat : Int))) w.heap.size 5 (Lib.byteCells (blkZ x (k + 1))) ∧ Below w.heap.size w (wr.setCell ⟨w.heap.size, k, none⟩ (.int .u8 (b.toNat : Int)))) := by
    refine ⟨?_, H.out.2.setCell (p := ⟨w.heap.size, k, none⟩) (Nat.le_refl _) _⟩
    have := store_bc (b := b) H.out.1 (by rw [blkZ_len x k (by omega)]; exact hlt)
    rw [hb.out, hr.out, blkZ_set x k hlt, ← hr.out, ← hb.out] at this
    exact this
   have HU := Shh.mk hu
   have hw2 : wrap64 ((k : Int) + 1) = (k : Int) + 1 := by unfold wrap64; omega
   clear hu H
   go_wp2_with (first | refine wl_at 15 rfl (.int .i64 (r : Int)) rfl (rem_7 hr.out hk rfl rfl) ?_ | refine wl_at 16 rfl (.int .u8 ((UInt8.ofNat r).toNat : Int)) rfl (by rw [← HU.out]; exact conv_i8 hr7 rfl rfl) ?_ | refine wl_at 17 rfl (.int .u8 (b.toNat : Int)) rfl (add_88 hb.out rfl rfl rfl) ?_)
   go_roundw
   case rel => exact ⟨k + 1, by omega, by go_num, F⟩
   case measure => simp [intOf]; omega
  ·obtain rfl : k = 256 := by omega
   have HE : Shh (Row wr w.heap.size 5 (Lib.byteCells (blkL x 256)) ∧ Below w.heap.size w wr) := ⟨by rw [← blkZ_all]; exact H.out.1, H.out.2⟩
   clear H
   have hlt2 : ¬ ((256 : Nat) : Int) < 256 := by omega
   go_wp2
   go_ret
   refine ⟨_, rfl, ?_, HE.out.2⟩
   have hF := HE.out.1
   have hl := blkL_len x 256
   exact ⟨by rw [bc_len, Nat.mul_one], .inr ⟨w.heap.size, 256, (Lib.byteCells (blkL x 256)).toArray, by rw [hl]; rfl, Nat.le_refl _, hF, by omega, by unfold maxLen; omega, by rw [List.size_toArray, bc_len, hl], by
    simp only [Nat.mul_one]
    exact List.take_of_length_le (by rw [bc_len]; exact Nat.le_refl _)⟩⟩
end Go.Proofs.Ytpajdmbajopofaa
