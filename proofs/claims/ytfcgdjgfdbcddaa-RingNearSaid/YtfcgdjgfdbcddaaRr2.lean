/-
 THE DOCUMENT'S OWN roots: rev, power, Root; width, Near.
-/
import Derived.Test.YtfcgdjgfdbcddaaRr1
import Derived.Test.YtfcgdjgfdbcddaaRg2
namespace Go.Proofs.Ytfcgdjgfdbcddaa
open Go.RowKit
set_option maxRecDepth 100000
section
variable {a : Act} {x y : Operand} {op : Oper} {w : World}
theorem rem_i2 {n r : Nat} (h : r = n % 2) (hn : n ≤ 1000000000000) (ho : op.op = .binOp .rem 3 x (.const (.int .i64 2)) 3) (hx : a.eval x = .int .i64 (n : Int)) : (execOp a.eval op).run Try.prog w = .ok (.value (.int .i64 (r : Int))) w := by
 have hc : a.eval (.const (.int .i64 2)) = .int .i64 2 := rfl
 have e : (n : Int).tmod 2 = (r : Int) := by rw [Int.tmod_eq_emod_of_nonneg (by omega)]; omega
 have e2 : (n : Int) % 2 = (r : Int) := by omega
 have hw : IntKind.i64.wrap (r : Int) = (r : Int) := by rw [IntKind.wrap_i64]; omega
 clear h
 unfold execOp
 simp only [ho, hx, hc]
 go_simp
theorem quo_i2 {n r : Nat} (h : r = n / 2) (hn : n ≤ 1000000000000) (ho : op.op = .binOp .quo 3 x (.const (.int .i64 2)) 3) (hx : a.eval x = .int .i64 (n : Int)) : (execOp a.eval op).run Try.prog w = .ok (.value (.int .i64 (r : Int))) w := by
 have hc : a.eval (.const (.int .i64 2)) = .int .i64 2 := rfl
 have e : (n : Int).tdiv 2 = (r : Int) := by rw [Int.tdiv_eq_ediv_of_nonneg (by omega)]; omega
 have e2 : (n : Int) / 2 = (r : Int) := by omega
 have hw : IntKind.i64.wrap (r : Int) = (r : Int) := by rw [IntKind.wrap_i64]; omega
 clear h
 unfold execOp
 simp only [ho, hx, hc]
 go_simp
theorem quo_ii {i j k : Nat} (h : k = i / j) (hj : 0 < j) (hi : i ≤ 1000000000000) (ho : op.op = .binOp .quo 3 x y 3) (hx : a.eval x = .int .i64 (i : Int)) (hy : a.eval y = .int .i64 (j : Int)) : (execOp a.eval op).run Try.prog w = .ok (.value (.int .i64 (k : Int))) w := by
 have hk : k ≤ i := by rw [h]; exact Nat.div_le_self _ _
 have e : (i : Int).tdiv (j : Int) = (k : Int) := by rw [Int.tdiv_eq_ediv_of_nonneg (by omega), h, Int.natCast_ediv]
 have hw : IntKind.i64.wrap (k : Int) = (k : Int) := by rw [IntKind.wrap_i64]; omega
 have hz : ¬ (j : Int) = 0 := by omega
 clear h
 generalize (i : Int) = ii at *
 generalize (j : Int) = jj at *
 generalize (k : Int) = kk at *
 unfold execOp
 simp only [ho, hx, hy]
 go_simp
end
/-- the first k digits from behind -/
def rvP (i : Nat) : Nat → Nat
 | 0 => 0
 | k + 1 => 2 * rvP i k + i / 2 ^ k % 2
theorem rvP_le (i : Nat) : ∀ k, rvP i k < 2 ^ k
 | 0 => Nat.one_pos
 | k + 1 => by
  show 2 * rvP i k + i / 2 ^ k % 2 < 2 ^ (k + 1)
  have := rvP_le i k
  rw [Nat.pow_succ]
  omega
theorem rvP_all (i : Nat) : rvP i 7 = rvN i := by
 show 2 * (2 * (2 * (2 * (2 * (2 * (2 * 0 + i / 1 % 2) + i / 2 % 2) + i / 4 % 2) + i / 8 % 2) + i / 16 % 2) + i / 32 % 2) + i / 64 % 2 = rvN i
 unfold rvN
 omega
/-- the answer is a number, and the world is as it was -/
def NumIs (w : World) (n : Nat) (e : Ending) (w' : World) : Prop := e = .returned (.int .i64 (n : Int)) ∧ w = w'
set_option maxHeartbeats 1000000 in
theorem rev_any (i : Nat) (hi : i < 128) (w : World) : Calls Try.prog 58 #[.int .i64 (i : Int)] w (NumIs w (rvN i)) := by
 unfold NumIs
 have HA := Shh.mk (rvP_all i)
 have HP := Shh.mk (rvP_le i)
 have HI := Shh.mk hi
 generalize rvN i = r at *
 go_enter Try.func58, Try.ntmps58
 go_wp2
 go_loopw [0, 3, 4] (fun t o c wr => ∃ k : Nat, k ≤ 7 ∧ c = .int .i64 (k : Int) ∧ t = .int .i64 ((i / 2 ^ k : Nat) : Int) ∧ o = .int .i64 (rvP i k : Int) ∧ wr = w) (fun _ _ c _ => 7 - (intOf c).toNat)
 case atStart => exact ⟨0, by omega, rfl, by simp, rfl, rfl⟩
 case round =>
  obtain ⟨k, hk, rfl, rfl, rfl, rfl⟩ := hrel
  by_cases hlt : k < 7
  ·have hlt2 : (k : Int) < 7 := by omega
   have HT : Shh (i / 2 ^ k < 128 ∧ rvP i k < 128 ∧ rvP i (k + 1) = 2 * rvP i k + i / 2 ^ k % 2 ∧ i / 2 ^ (k + 1) = i / 2 ^ k / 2) := by
    refine ⟨Nat.lt_of_le_of_lt (Nat.div_le_self _ _) HI.out, Nat.lt_of_lt_of_le (HP.out k) (Nat.le_trans (Nat.pow_le_pow_right (by decide) (Nat.le_of_lt hlt)) (by decide)), rfl, by rw [Nat.pow_succ, Nat.div_div_eq_div_mul]⟩
   obtain ⟨t, Ht⟩ : ∃ t, Shh (t = i / 2 ^ k) := ⟨_, ⟨rfl⟩⟩
   obtain ⟨o, Ho⟩ : ∃ o, Shh (o = rvP i k) := ⟨_, ⟨rfl⟩⟩
   rw [← Ht.out, ← Ho.out] at HT ⊢
   clear Ht Ho
   go_wp2_with (first | refine wl_value (.int .i64 ((2 * o : Nat) : Int)) rfl (mul_iin (i := 2) rfl (by have := HT.out; omega) rfl rfl rfl) ?_ | refine wl_value (.int .i64 ((t % 2 : Nat) : Int)) rfl (rem_i2 rfl (by have := HT.out; omega) rfl rfl) ?_ | refine wl_value (.int .i64 ((2 * o + t % 2 : Nat) : Int)) rfl (add_ii (i := 2 * o) (j := t % 2) ⟨rfl, by have := HT.out; omega⟩ rfl rfl rfl) ?_ | refine wl_value (.int .i64 ((t / 2 : Nat) : Int)) rfl (quo_i2 (n := t) rfl (by have := HT.out; omega) rfl rfl) ?_)
   go_roundw
   case rel => exact ⟨k + 1, by omega, by go_num, by rw [HT.out.2.2.2]; rfl, by rw [HT.out.2.2.1]; rfl, trivial⟩
   case measure => simp [intOf]; omega
  ·have hlt2 : ¬ (k : Int) < 7 := by omega
   have HE : Shh (rvP i k = r) := ⟨by rw [show k = 7 by omega]; exact HA.out⟩
   rw [HE.out]
   go_wp2
   go_ret
   exact ⟨rfl, rfl⟩
/-- powers modulo q, one factor after the other -/
def pwN (x : Nat) : Nat → Nat
 | 0 => 1
 | n + 1 => pwN x n * x % 3329
theorem pwN_eq (x : Nat) : ∀ n, pwN x n % 3329 = x ^ n % 3329
 | 0 => rfl
 | n + 1 => by
  show pwN x n * x % 3329 % 3329 = x ^ (n + 1) % 3329
  rw [Nat.mod_mod, Nat.pow_succ, Nat.mul_mod, pwN_eq x n, ← Nat.mul_mod]
theorem pwN_lt (x : Nat) : ∀ n, pwN x n < 3329
 | 0 => by show 1 < 3329; decide
 | n + 1 => Nat.mod_lt _ (by decide)
theorem pwN_is (x n : Nat) : pwN x n = x ^ n % 3329 := by rw [← pwN_eq, Nat.mod_eq_of_lt (pwN_lt x n)]
set_option maxHeartbeats 1000000 in
theorem power_any (x n : Nat) (hx : x < 3329) (hn : n ≤ 1000000) (w : World) : Calls Try.prog 48 #[.int .i64 (x : Int), .int .i64 (n : Int)] w (NumIs w (x ^ n % 3329)) := by
 unfold NumIs
 rw [← pwN_is]
 have HX := Shh.mk hx
 have HP := Shh.mk (pwN_lt x)
 go_enter Try.func48, Try.ntmps48
 go_wp2
 go_loopw [5, 7] (fun o c wr => ∃ k : Nat, k ≤ n ∧ c = .int .i64 (k : Int) ∧ o = .int .i64 (pwN x k : Int) ∧ wr = w) (fun _ c _ => n - (intOf c).toNat)
 case atStart => exact ⟨0, by omega, rfl, rfl, rfl⟩
 case round =>
  obtain ⟨k, hk, rfl, rfl, rfl⟩ := hrel
  by_cases hlt : k < n
  ·have hlt2 : (k : Int) < (n : Int) := by omega
   have HT : Shh (pwN x k < 3329 ∧ pwN x (k + 1) = pwN x k * x % 3329) := ⟨HP.out k, rfl⟩
   obtain ⟨o, Ho⟩ : ∃ o, Shh (o = pwN x k) := ⟨_, ⟨rfl⟩⟩
   rw [← Ho.out] at HT ⊢
   clear Ho
   have HM : Shh (o * x ≤ 1000000000000) := ⟨Nat.le_trans (Nat.mul_le_mul (Nat.le_of_lt HT.out.1) (Nat.le_of_lt HX.out)) (by decide)⟩
   obtain ⟨m, Hm⟩ : ∃ m, Shh (m = o * x) := ⟨_, ⟨rfl⟩⟩
   have HM2 : Shh (m ≤ 1000000000000) := ⟨by rw [Hm.out]; exact HM.out⟩
   go_wp2_with (first | refine wl_value (.int .i64 (m : Int)) rfl (mul_iin (i := o) (j := x) Hm.out HM2.out rfl rfl rfl) ?_ | refine wl_value (.int .i64 ((m % 3329 : Nat) : Int)) rfl (rem_iq rfl HM2.out rfl rfl) ?_)
   go_roundw
   case rel => exact ⟨k + 1, by omega, by go_num, by rw [HT.out.2, ← Hm.out]; rfl, trivial⟩
   case measure => simp [intOf]; omega
  ·have hlt2 : ¬ (k : Int) < (n : Int) := by omega
   rw [show k = n by omega]
   go_wp2
   go_ret
   exact ⟨rfl, rfl⟩
set_option maxHeartbeats 1000000 in
theorem Root_any (i : Nat) (hi : i < 128) (w : World) : Calls Try.prog 47 #[.int .i64 (i : Int)] w (NumIs w (rtN i)) := by
 have hr := rv_lt i hi
 have HV : Shh (∀ w, Calls Try.prog 58 #[.int .i64 (i : Int)] w (NumIs w (rvN i))) := ⟨fun w => rev_any i hi w⟩
 have HW : Shh (∀ w, Calls Try.prog 48 #[.int .i64 17, .int .i64 ((2 * rvN i + 1 : Nat) : Int)] w (NumIs w (rtN i))) := ⟨fun w => power_any 17 (2 * rvN i + 1) (by decide) (by omega) w⟩
 generalize rtN i = t at *
 have HR := Shh.mk hr
 clear hr
 generalize rvN i = r at *
 unfold NumIs at *
 go_enter Try.func47, Try.ntmps47
 go_wp2_with (go_at_call 58; refine (HV.out _).mono ?_)
 rintro e w2 ⟨rfl, rfl⟩
 go_wp2_with (first | (go_at_call 48; refine (HW.out _).mono ?_) | refine wl_value (.int .i64 ((2 * r : Nat) : Int)) rfl (mul_iin (i := 2) rfl (by have := HR.out; omega) rfl rfl rfl) ?_ | refine wl_value (.int .i64 ((2 * r + 1 : Nat) : Int)) rfl (add_ii (i := 2 * r) (j := 1) ⟨rfl, by have := HR.out; omega⟩ rfl rfl rfl) ?_)
 rintro e w3 ⟨rfl, rfl⟩
 go_wp2
 go_ret
 exact ⟨rfl, rfl⟩
set_option maxHeartbeats 1000000 in
theorem width_any (d : Nat) (hd : d ≤ 30) (w : World) : Calls Try.prog 50 #[.int .i64 (d : Int)] w (NumIs w (2 ^ d)) := by
 unfold NumIs
 have HP : Shh (∀ k, k ≤ d → 2 ^ k ≤ 2 ^ 30) := ⟨fun k hk => Nat.pow_le_pow_right (by decide) (by omega)⟩
 have HQ : Shh (∀ k, 2 ^ (k + 1) = 2 ^ k * 2) := ⟨fun k => Nat.pow_succ _ _⟩
 obtain ⟨f, Hf⟩ : ∃ f : Nat → Nat, Shh (f = fun k => 2 ^ k) := ⟨_, ⟨rfl⟩⟩
 have HF : Shh ((∀ k, k ≤ d → f k ≤ 1073741824) ∧ (∀ k, f (k + 1) = f k * 2) ∧ f 0 = 1) := ⟨by rw [Hf.out]; exact ⟨fun k hk => HP.out k hk, fun k => HQ.out k, rfl⟩⟩
 rw [show (2 ^ d : Nat) = f d by rw [Hf.out]]
 clear HP HQ Hf
 go_enter Try.func50, Try.ntmps50
 go_wp2
 go_loopw [3, 5] (fun o c wr => ∃ k : Nat, k ≤ d ∧ c = .int .i64 (k : Int) ∧ o = .int .i64 (f k : Int) ∧ wr = w) (fun _ c _ => d - (intOf c).toNat)
 case atStart => exact ⟨0, by omega, rfl, by rw [HF.out.2.2]; rfl, rfl⟩
 case round =>
  obtain ⟨k, hk, rfl, rfl, rfl⟩ := hrel
  by_cases hlt : k < d
  ·have hlt2 : (k : Int) < (d : Int) := by omega
   have HT : Shh (f k ≤ 1073741824 ∧ f (k + 1) = f k * 2) := ⟨HF.out.1 k hk, HF.out.2.1 k⟩
   obtain ⟨o, Ho⟩ : ∃ o, Shh (o = f k) := ⟨_, ⟨rfl⟩⟩
   rw [← Ho.out] at HT ⊢
   clear Ho
   go_wp2_with (refine wl_value (.int .i64 ((o * 2 : Nat) : Int)) rfl (mul_iin (i := o) (j := 2) rfl (by have := HT.out; omega) rfl rfl rfl) ?_)
   go_roundw
   case rel => exact ⟨k + 1, by omega, by go_num, by rw [HT.out.2]; rfl, trivial⟩
   case measure => simp [intOf]; omega
  ·have hlt2 : ¬ (k : Int) < (d : Int) := by omega
   rw [show k = d by omega]
   go_wp2
   go_ret
   exact ⟨rfl, rfl⟩
theorem Near_any (x u d : Nat) (hx : x ≤ 100000) (hu : u ≤ 100000) (hd : 0 < d ∧ d ≤ 100000) (w : World) : Calls Try.prog 41 #[.int .i64 (x : Int), .int .i64 (u : Int), .int .i64 (d : Int)] w (NumIs w ((2 * x * u + d) / (2 * d))) := by
 unfold NumIs
 have h1 : 2 * x * u ≤ 200000 * 100000 := Nat.mul_le_mul (by omega) hu
 obtain ⟨m, Hm⟩ : ∃ m, Shh (m = 2 * x * u) := ⟨_, ⟨rfl⟩⟩
 have HM : Shh (m ≤ 20000000000) := ⟨by rw [Hm.out]; exact h1⟩
 have HX : Shh (x ≤ 100000 ∧ 0 < d ∧ d ≤ 100000) := ⟨hx, hd⟩
 rw [← Hm.out]
 clear h1 hx hu hd
 go_enter Try.func41, Try.ntmps41
 go_wp2_with (first | refine wl_value (.int .i64 ((2 * x : Nat) : Int)) rfl (mul_iin (i := 2) (j := x) rfl (by have := HX.out; omega) rfl rfl rfl) ?_ | refine wl_value (.int .i64 (m : Int)) rfl (mul_iin (i := 2 * x) (j := u) Hm.out (by have := HM.out; omega) rfl rfl rfl) ?_ | refine wl_value (.int .i64 ((m + d : Nat) : Int)) rfl (add_ii (i := m) (j := d) ⟨rfl, by have := HM.out; have := HX.out; omega⟩ rfl rfl rfl) ?_ | refine wl_value (.int .i64 ((2 * d : Nat) : Int)) rfl (mul_iin (i := 2) (j := d) rfl (by have := HX.out; omega) rfl rfl rfl) ?_ | refine wl_value (.int .i64 (((m + d) / (2 * d) : Nat) : Int)) rfl (quo_ii (i := m + d) (j := 2 * d) rfl (by have := HX.out; omega) (by have := HM.out; have := HX.out; omega) rfl rfl rfl) ?_)
 go_ret
 exact ⟨rfl, rfl⟩
end Go.Proofs.Ytfcgdjgfdbcddaa
