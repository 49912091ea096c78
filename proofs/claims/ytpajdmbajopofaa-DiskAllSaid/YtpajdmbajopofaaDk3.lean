/-
 WALKS: what a disk tells of itself.
-/
import Derived.Test.YtpajdmbajopofaaDk0
namespace Go.Proofs.Ytpajdmbajopofaa
open Go.RowKit
set_option maxRecDepth 100000
/-- an answer that leaves memory as it is -/
def AnsIs (w : World) (v : Value) (e : Ending) (w' : World) : Prop := e = .returned v ∧ w = w'
theorem isMade_nil (w : World) : Calls Try.prog 42 #[.pointer none] w (AnsIs w (.bool false)) := by
 unfold AnsIs
 go_enter Try.func42, Try.ntmps42
 go_wp2
 go_ret
 exact ⟨rfl, rfl⟩
theorem isMade_row (g q N dc : Nat) (pv : Value) (on : Bool) (f d : Int) (w : World) (hN : 0 < N) (hr : Row w g 67 [.slice (some ⟨q, 0, none⟩) N dc, pv, .bool on, .int .i64 f, .int .i64 d]) : Calls Try.prog 42 #[.pointer (some ⟨g, 0, none⟩)] w (AnsIs w (.bool true)) := by
 unfold AnsIs
 have c0 : w.cell? ⟨g, 0, none⟩ = some (.slice (some ⟨q, 0, none⟩) N dc) := hr.cell 0
 have HP := Shh.mk hN
 clear hr hN
 go_enter Try.func42, Try.ntmps42
 go_wp2
 go_ret
 refine ⟨?_, rfl⟩
 show Ending.returned (.bool (decide (0 < N))) = _
 rw [decide_eq_true HP.out]
theorem DAt.made {col : Nat → Nat} {c g : Nat} {w : World} {s : DS} (h : DAt col c w g s) : Calls Try.prog 42 #[.pointer (some ⟨g, 0, none⟩)] w (AnsIs w (.bool true)) := by
 obtain ⟨h0, h1, q, dc, pv, sp, h2, h3, _⟩ := h
 have := h0.lo
 exact isMade_row g q _ dc pv _ _ _ w (by omega) h3
/-- the cells of a disk, for a walk -/
theorem DAt.cells {col : Nat → Nat} {c g : Nat} {w : World} {s : DS} (h : DAt col c w g s) : ∃ q N dc pv, Shh (N = 256 * s.good.length ∧ N ≤ dc ∧ dc ≤ maxLen) ∧ w.cell? ⟨g, 0, none⟩ = some (.slice (some ⟨q, 0, none⟩) N dc) ∧ w.cell? ⟨g, 1, none⟩ = some pv ∧ w.cell? ⟨g, 2, none⟩ = some (.bool s.on) ∧ w.cell? ⟨g, 3, none⟩ = some (.int .i64 s.fuse) ∧ w.cell? ⟨g, 4, none⟩ = some (.int .i64 s.done) ∧ (∃ A cap, pv = .slice A s.wait.length cap) := by
 obtain ⟨h0, h1, q, dc, pv, sp, h2, h3, h4, h5, h6, xs, h7, _⟩ := h
 refine ⟨q, _, dc, pv, ⟨rfl, by omega, h6⟩, h3.cell 0, h3.cell 1, h3.cell 2, h3.cell 3, h3.cell 4, ?_⟩
 rcases h7.2 with ⟨rfl, e⟩ | ⟨p, cap, cur, rfl, _⟩
 ·exact ⟨none, 0, by rw [e]⟩
 ·exact ⟨_, _, rfl⟩
theorem Sectors_any {col : Nat → Nat} {c g : Nat} {w : World} {s : DS} (h : DAt col c w g s) : Calls Try.prog 30 #[.pointer (some ⟨g, 0, none⟩)] w (AnsIs w (.int .i64 (s.good.length : Int))) := by
 unfold AnsIs
 have HM := Shh.mk h.made
 obtain ⟨q, N, dc, pv, HN, c0, _⟩ := h.cells
 have hq : (N : Int) / 256 = (s.good.length : Int) := by have := HN.out.1; omega
 have hw : IntKind.i64.wrap (s.good.length : Int) = (s.good.length : Int) := by have := h.1.hi; rw [IntKind.wrap_i64]; omega
 generalize (s.good.length : Int) = n at *
 clear h HN
 go_enter Try.func30, Try.ntmps30
 go_wp2_with (go_at_call 42; refine (HM.out).mono ?_)
 unfold AnsIs
 rintro e w1 ⟨rfl, rfl⟩
 go_wp2
 go_ret
 exact ⟨rfl, rfl⟩
theorem has_any {col : Nat → Nat} {c g : Nat} {w : World} {s : DS} (h : DAt col c w g s) (i : Int) : Calls Try.prog 47 #[.pointer (some ⟨g, 0, none⟩), .int .i64 i] w (AnsIs w (.bool (s.has i))) := by
 unfold AnsIs
 have HS := Shh.mk (Sectors_any h)
 obtain ⟨n, hn⟩ : ∃ n : Int, n = (s.good.length : Int) := ⟨_, rfl⟩
 rw [← hn] at HS
 by_cases h1 : 0 ≤ i
 ·have HR : Shh (s.has i = decide (i < n)) := ⟨by unfold DS.has; rw [hn]; by_cases h2 : i < (s.good.length : Int) <;> simp [h1, h2]⟩
  clear h hn
  go_enter Try.func47, Try.ntmps47
  go_wp2_with (go_at_call 30; refine (HS.out).mono ?_)
  unfold AnsIs
  rintro e w1 ⟨rfl, rfl⟩
  go_wp2
  go_ret
  exact ⟨by rw [HR.out]; rfl, rfl⟩
 ·have HR : Shh (s.has i = false) := ⟨by unfold DS.has; rw [decide_eq_false]; omega⟩
  clear h hn
  go_enter Try.func47, Try.ntmps47
  go_wp2
  go_ret
  exact ⟨by rw [HR.out]; rfl, rfl⟩
theorem On_any {col : Nat → Nat} {c g : Nat} {w : World} {s : DS} (h : DAt col c w g s) : Calls Try.prog 32 #[.pointer (some ⟨g, 0, none⟩)] w (AnsIs w (.bool s.on)) := by
 unfold AnsIs
 have HM := Shh.mk h.made
 obtain ⟨q, N, dc, pv, HN, c0, c1, c2, _⟩ := h.cells
 clear h HN
 go_enter Try.func32, Try.ntmps32
 go_wp2_with (go_at_call 42; refine (HM.out).mono ?_)
 unfold AnsIs
 rintro e w1 ⟨rfl, rfl⟩
 go_wp2
 go_ret
 exact ⟨rfl, rfl⟩
theorem Waits_any {col : Nat → Nat} {c g : Nat} {w : World} {s : DS} (h : DAt col c w g s) : Calls Try.prog 31 #[.pointer (some ⟨g, 0, none⟩)] w (AnsIs w (.int .i64 (s.wait.length : Int))) := by
 unfold AnsIs
 have HM := Shh.mk h.made
 obtain ⟨q, N, dc, pv, HN, c0, c1, c2, c3, c4, A, cap, rfl⟩ := h.cells
 clear h HN
 go_enter Try.func31, Try.ntmps31
 go_wp2_with (go_at_call 42; refine (HM.out).mono ?_)
 unfold AnsIs
 rintro e w1 ⟨rfl, rfl⟩
 go_wp2
 go_ret
 exact ⟨rfl, rfl⟩
theorem Ops_any {col : Nat → Nat} {c g : Nat} {w : World} {s : DS} (h : DAt col c w g s) : Calls Try.prog 33 #[.pointer (some ⟨g, 0, none⟩)] w (AnsIs w (.int .i64 s.done)) := by
 unfold AnsIs
 have HM := Shh.mk h.made
 obtain ⟨q, N, dc, pv, HN, c0, c1, c2, c3, c4, A, cap, rfl⟩ := h.cells
 clear h HN
 go_enter Try.func33, Try.ntmps33
 go_wp2_with (go_at_call 42; refine (HM.out).mono ?_)
 unfold AnsIs
 rintro e w1 ⟨rfl, rfl⟩
 go_wp2
 go_ret
 exact ⟨rfl, rfl⟩
theorem run_cutFrom (A : Option Addr) (n c i : Nat) (hi : i ≤ n) (hc : n ≤ c) (w : World) : (Instr.sliceAt 33 (.slice A n c) (some (.int .i64 (i : Int))) none none).run Try.prog w = .ok (sliced A i n c 1) w := by
 rw [run_sliceAt_slice _ _ _ _ _ _ slice30, run_slice_l w 33 A n c slice30 .i64 (i : Int) (by omega) (by omega), elem30, run_sizeOf_u8, Result.andThen_ok, Int.toNat_natCast]
theorem mul_256 {o : Oper} {a : Act} {w : World} {x : Operand} {i j : Nat} (h : j = 256 * i) (hi : i ≤ 2048) (ho : o.op = .binOp .mul 3 x (.const (.int .i64 256)) 3) (hx : a.eval x = .int .i64 (i : Int)) : (execOp a.eval o).run Try.prog w = .ok (.value (.int .i64 (j : Int))) w := by
 have e : IntKind.i64.wrap ((i : Int) * 256) = (j : Int) := by rw [IntKind.wrap_i64]; omega
 have hk : a.eval (.const (.int .i64 256)) = .int .i64 256 := rfl
 unfold execOp
 simp only [ho, hx, hk]
 go_simp
theorem op_from {P : Program} {o : Oper} {a : Act} {w : World} {T : TypeId} {x lo : Operand} {u h v : Value} (hrun : (Instr.sliceAt T u (some h) none none).run P w = .ok v w) (ho : o.op = .slice T x (some lo) none none) (hx : a.eval x = u) (hl : a.eval lo = h) : (execOp a.eval o).run P w = .ok (.value v) w := by
 unfold execOp
 simp only [ho, hx, hl, Option.map_some, Option.map_none, Sem.run_bind, hrun, Result.andThen_ok]
 rfl
theorem op_to {P : Program} {o : Oper} {a : Act} {w : World} {T : TypeId} {x hi : Operand} {u h v : Value} (hrun : (Instr.sliceAt T u none (some h) none).run P w = .ok v w) (ho : o.op = .slice T x none (some hi) none) (hx : a.eval x = u) (hl : a.eval hi = h) : (execOp a.eval o).run P w = .ok (.value v) w := by
 unfold execOp
 simp only [ho, hx, hl, Option.map_some, Option.map_none, Sem.run_bind, hrun, Result.andThen_ok]
 rfl
/-- a sector's bytes where they lie -/
theorem sector_any (g q n dc i : Nat) (pv : Value) (on : Bool) (f d : Int) (w : World) (hi : i < n) (hn : n ≤ 2048) (hdc : 256 * n ≤ dc) (hr : Row w g 67 [.slice (some ⟨q, 0, none⟩) (256 * n) dc, pv, .bool on, .int .i64 f, .int .i64 d]) :
  Calls Try.prog 53 #[.pointer (some ⟨g, 0, none⟩), .int .i64 (i : Int)] w (AnsIs w (.slice (some ⟨q, 256 * i, none⟩) 256 (dc - 256 * i))) := by
 unfold AnsIs
 have c0 : w.cell? ⟨g, 0, none⟩ = some (.slice (some ⟨q, 0, none⟩) (256 * n) dc) := hr.cell 0
 obtain ⟨N, HN⟩ : ∃ N, Shh (N = 256 * n) := ⟨_, ⟨rfl⟩⟩
 obtain ⟨J, HJ⟩ : ∃ J, Shh (J = 256 * i) := ⟨_, ⟨rfl⟩⟩
 rw [← HN.out] at c0
 rw [← HJ.out]
 have H1 : Shh ((Instr.sliceAt 33 (.slice (some ⟨q, 0, none⟩) N dc) (some (.int .i64 (J : Int))) none none).run Try.prog w = .ok (.slice (some ⟨q, J, none⟩) (N - J) (dc - J)) w) := ⟨by
  have := HN.out
  have := HJ.out
  rw [run_cutFrom _ N dc J (by omega) (by omega)]
  unfold sliced
  rw [if_neg (by omega), Nat.mul_one]
  simp [addr_add]⟩
 have H2 : Shh ((Instr.sliceAt 33 (.slice (some ⟨q, J, none⟩) (N - J) (dc - J)) none (some (.int .i64 (256 : Int))) none).run Try.prog w = .ok (.slice (some ⟨q, J, none⟩) 256 (dc - J)) w) := ⟨by
  have := HN.out
  have := HJ.out
  have h := run_cutE (some ⟨q, J, none⟩) (N - J) (dc - J) 256 (by omega) w
  rw [show ((256 : Nat) : Int) = 256 by rfl] at h
  rw [h]
  unfold sliced
  simp [addr_add]⟩
 have HI : Shh (i ≤ 2048) := ⟨by omega⟩
 clear hr hi hn hdc
 go_enter Try.func53, Try.ntmps53
 go_wp2_with (first | refine wl_at 10 rfl (.int .i64 (J : Int)) rfl (mul_256 HJ.out HI.out rfl rfl) ?_ | refine wl_at 11 rfl _ rfl (op_from H1.out rfl rfl rfl) ?_ | refine wl_at 12 rfl _ rfl (op_to H2.out rfl rfl rfl) ?_)
 go_ret
 exact ⟨rfl, rfl⟩
end Go.Proofs.Ytpajdmbajopofaa
