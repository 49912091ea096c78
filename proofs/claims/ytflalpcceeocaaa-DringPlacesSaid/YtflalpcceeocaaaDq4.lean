/-
 NORM, the program's and the document's; the chapter's examples.
-/
import Derived.Test.YtflalpcceeocaaaDq3
import Derived.Test.YtflalpcceeocaaaDd4
namespace Go.Proofs.Ytflalpcceeocaaa
open Go.RowKit
set_option maxRecDepth 100000
/-- the greatest of the first k sizes -/
def mxD (c : Nat → Int) : Nat → Int
 | 0 => 0
 | k + 1 => if mxD c k < absD (c k) then absD (c k) else mxD c k
def normD (p : Nat → Int) : Int := mxD (centD p) 256
theorem mxD_lt (c : Nat → Int) (h : ∀ i, -4190208 ≤ c i ∧ c i ≤ 4190208) : ∀ k, 0 ≤ mxD c k ∧ mxD c k ≤ 4190208
 | 0 => by show (0 : Int) ≤ 0 ∧ (0 : Int) ≤ 4190208; decide
 | k + 1 => by
  have h1 := mxD_lt c h k
  have h2 := h k
  unfold mxD absD
  split <;> split <;> omega
theorem mxD_le (c : Nat → Int) (B : Int) (hB : 0 ≤ B) (h : ∀ i, i < 256 → -B ≤ c i ∧ c i ≤ B) : ∀ k, k ≤ 256 → mxD c k ≤ B
 | 0, _ => hB
 | k + 1, hk => by
  have h1 := mxD_le c B hB h k (by omega)
  have h2 := h k (by omega)
  unfold mxD absD
  split <;> split <;> omega
theorem le_mxD (c : Nat → Int) (i : Nat) : ∀ k, i < k → -mxD c k ≤ c i ∧ c i ≤ mxD c k
 | 0, h => by omega
 | k + 1, h => by
  by_cases e : i = k
  ·subst e
   unfold mxD absD
   split <;> split <;> omega
  ·have h1 := le_mxD c i k (by omega)
   unfold mxD absD
   split <;> split <;> omega
theorem absD_lt {x : Int} (h : -4190208 ≤ x ∧ x ≤ 4190208) : 0 ≤ absD x ∧ absD x ≤ 4190208 := by unfold absD; split <;> omega
def eA (i : Nat) : Int := if i = 0 then 8380416 else 0
def eB (i : Nat) : Int := if i = 0 then 4097 else 0
section
variable {a : Act} {w : World} {op : Oper}
theorem build_eA (ho : op.op = .build 34 #[(0, .const (.int .i32 8380416))]) : (execOp a.eval op).run Try.prog w = .ok (.value (.agg (dc eA).toArray)) w := by
 have h : (execOp a.eval ⟨none, .build 34 #[(0, .const (.int .i32 8380416))], 0, "", #[], none⟩).run Try.prog w = .ok (.value (.agg (dc eA).toArray)) w := by kernel_rfl
 rw [← h]
 unfold execOp
 simp only [ho]
theorem build_eB (ho : op.op = .build 34 #[(0, .const (.int .i32 4097))]) : (execOp a.eval op).run Try.prog w = .ok (.value (.agg (dc eB).toArray)) w := by
 have h : (execOp a.eval ⟨none, .build 34 #[(0, .const (.int .i32 4097))], 0, "", #[], none⟩).run Try.prog w = .ok (.value (.agg (dc eB).toArray)) w := by kernel_rfl
 rw [← h]
 unfold execOp
 simp only [ho]
end
theorem eA_32 (i : Nat) (_ : i < 256) : i32 (eA i) := by unfold eA i32; split <;> decide
theorem eB_32 (i : Nat) (_ : i < 256) : i32 (eB i) := by unfold eB i32; split <;> decide
theorem eA_is : decH eA 0 = 0 ∧ decL eA 0 = -1 := by decide +kernel
theorem eB_is : hiP eB 0 = 1 ∧ loP eB 0 = -4095 := by decide +kernel
set_option maxHeartbeats 2000000 in
theorem live15 (w : World) : Calls Try.prog 4 #[] w (TrueIs w) := by
 unfold TrueIs
 generalize hN : w.heap.size = N at *
 obtain ⟨ha, la, HA, HAv⟩ : ∃ p r : Nat → Int, Shh (∀ W, Calls Try.prog 11 #[.agg (dc eA).toArray] W (TwoIs W p r)) ∧ Shh (p 0 = 0 ∧ r 0 = -1) := ⟨decH eA, decL eA, ⟨fun W => Decompose_any eA eA_32 W⟩, ⟨eA_is⟩⟩
 obtain ⟨hb, lb, HB, HBv⟩ : ∃ p r : Nat → Int, Shh (∀ W, Calls Try.prog 12 #[.agg (dc eB).toArray] W (TwoIs W p r)) ∧ Shh (p 0 = 1 ∧ r 0 = -4095) := ⟨hiP eB, loP eB, ⟨fun W => Power2Round_any eB eB_32 W⟩, ⟨eB_is⟩⟩
 have FA : Shh (Below N w w) := ⟨Below.refl _ _⟩
 go_enter Try.func4, Try.ntmps4
 go_wp2_with (first | refine wl_at 6 rfl (.agg (dc eA).toArray) rfl (build_eA rfl) ?_ | (go_at_call 11; refine (HA.out _).mono ?_))
 rintro e w1 ⟨rfl, b2⟩
 rw [hN] at b2
 have FB : Shh (Below N w w1) := ⟨b2⟩
 clear b2 FA
 have FC : Shh (Below N w w1 ∧ N ≤ w1.heap.size) := ⟨FB.out, by have := FB.out.size; omega⟩
 clear FB
 go_wp2_with (first | refine wl_new2 1 2 (ha) (la) rfl rfl rfl rfl rfl rfl rfl rfl rfl rfl rfl rfl rfl rfl rfl rfl ?_)
 intro G1 G2 w4 hG1 hG2 r5 q6 b3
 try simp only [Act.put, arr9, hd9, tl9]
 have FD : Shh (Below N w w4 ∧ N ≤ w4.heap.size ∧ Row w4 G1 34 (dc ha) ∧ Row w4 G2 34 (dc la)) := by
  obtain ⟨h0, h1⟩ := FC.out
  have := b3.size
  have := hG1.out
  have := hG2.out
  exact ⟨h0.trans (b3.mono (by omega)), (by omega), r5, q6⟩
 clear b3 FC r5 q6 hG1 hG2
 go_wp2_with (first | refine wl_at 11 rfl (.agg (dc eB).toArray) rfl (build_eB rfl) ?_ | (go_at_call 12; refine (HB.out _).mono ?_))
 rintro e w7 ⟨rfl, b8⟩
 have FE : Shh (Below N w w7 ∧ N ≤ w7.heap.size ∧ Row w7 G1 34 (dc ha) ∧ Row w7 G2 34 (dc la)) := by
  obtain ⟨h0, h1, h2, h3⟩ := FD.out
  have := h2.lt
  have := h3.lt
  have := b8.size
  exact ⟨h0.trans (b8.mono (by omega)), (by omega), h2.go b8, h3.go b8⟩
 clear b8 FD
 go_wp2_with (first | refine wl_new2 3 4 (hb) (lb) rfl rfl rfl rfl rfl rfl rfl rfl rfl rfl rfl rfl rfl rfl rfl rfl ?_)
 intro G3 G4 w10 hG3 hG4 r11 q12 b9
 try simp only [Act.put, arr9, hd9, tl9]
 have FF : Shh (Below N w w10 ∧ N ≤ w10.heap.size ∧ Row w10 G1 34 (dc ha) ∧ Row w10 G2 34 (dc la) ∧ Row w10 G3 34 (dc hb) ∧ Row w10 G4 34 (dc lb)) := by
  obtain ⟨h0, h1, h2, h3⟩ := FE.out
  have := h2.lt
  have := h3.lt
  have := b9.size
  have := hG3.out
  have := hG4.out
  exact ⟨h0.trans (b9.mono (by omega)), (by omega), h2.go b9, h3.go b9, r11, q12⟩
 clear b9 FE r11 q12 hG3 hG4
 have c0 := FF.out.2.2.1.cell 0
 rw [dc_get _ (by decide), HAv.out.1] at c0
 have c1 := FF.out.2.2.2.1.cell 0
 rw [dc_get _ (by decide), HAv.out.2] at c1
 have c2 := FF.out.2.2.2.2.1.cell 0
 rw [dc_get _ (by decide), HBv.out.1] at c2
 have c3 := FF.out.2.2.2.2.2.cell 0
 rw [dc_get _ (by decide), HBv.out.2] at c3
 go_wp2
 go_ret
 exact ⟨rfl, FF.out.1⟩
end Go.Proofs.Ytflalpcceeocaaa
