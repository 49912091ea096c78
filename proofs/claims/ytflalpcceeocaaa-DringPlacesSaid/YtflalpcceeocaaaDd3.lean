/-
 SMALL FUNCTIONS of dring and of the document: residue, mod, size, sum, difference, product, split, neighbour, rev.
-/
import Derived.Test.YtflalpcceeocaaaDd2
import Derived.Test.YtflalpcceeocaaaDg2
import Derived.Lib.BitFns
namespace Go.Proofs.Ytflalpcceeocaaa
open Go.RowKit
set_option maxRecDepth 100000
theorem tmod_low (x : Int) : (x.tmod 8380417 < 0 → x.tmod 8380417 + 8380417 = qd x) ∧ (¬ x.tmod 8380417 < 0 → x.tmod 8380417 = qd x) ∧ -8380417 < x.tmod 8380417 ∧ x.tmod 8380417 < 8380417 := by
 unfold qd
 have h := Int.mul_tdiv_add_tmod x 8380417
 by_cases hx : 0 ≤ x
 ·rw [Int.tmod_eq_emod_of_nonneg hx]
  omega
 ·have h2 : x.tmod 8380417 = -((-x) % 8380417) := by
   rw [← Int.tmod_eq_emod_of_nonneg (by omega), Int.neg_tmod, Int.neg_neg]
  rw [h2]
  omega
theorem residue_any (x : Int) (_ : i32 x) (w : World) : Calls Try.prog 17 #[.int .i32 x] w (I32Is w (qd x)) := by
 unfold I32Is
 obtain ⟨h1, h2, h3, h4⟩ := tmod_low x
 obtain ⟨m, Hm⟩ : ∃ m, Shh (m = x.tmod 8380417) := ⟨_, ⟨rfl⟩⟩
 rw [← Hm.out] at h1 h2 h3 h4
 have HM : Shh (m = x.tmod 8380417 ∧ -2147483648 ≤ m ∧ m ≤ 2147483647) := ⟨Hm.out, by omega, by omega⟩
 have HL := qd_lt x
 generalize qd x = r at *
 clear Hm
 by_cases hm : m < 0
 ·have HA : Shh (r = m + 8380417 ∧ -2147483648 ≤ r ∧ r ≤ 2147483647) := ⟨(h1 hm).symm, by omega, by omega⟩
  clear h1 h2 h3 h4 HL
  go_enter Try.func17, Try.ntmps17
  go_wp2_with (first | refine wl_at 4 rfl (.int .i32 m) rfl (rem_d HM.out (by decide) rfl rfl rfl) ?_ | refine wl_at 8 rfl (.int .i32 r) rfl (add_d HA.out rfl rfl rfl) ?_)
  go_ret
  exact ⟨rfl, rfl⟩
 have e := h2 hm
 clear h1 h2 h3 h4 HL
 go_enter Try.func17, Try.ntmps17
 go_wp2_with (refine wl_at 4 rfl (.int .i32 m) rfl (rem_d HM.out (by decide) rfl rfl rfl) ?_)
 go_ret
 exact ⟨rfl, rfl⟩
/-- a number without its sign -/
def absD (x : Int) : Int := if x < 0 then -x else x
/-- what is left of x by steps of s, and how many steps -/
def lowS (s x : Int) : Int := if s / 2 < x % s then x % s - s else x % s
def highS (s x : Int) : Int := (x - lowS s x) / s
def SplitIs (w : World) (h l : Int) (e : Ending) (w' : World) : Prop := e = .returned (.tuple #[.int .i32 h, .int .i32 l]) ∧ w = w'
theorem split_8192 (x : Int) (hx : 0 ≤ x ∧ x < 8380417) (w : World) : Calls Try.prog 16 #[.int .i32 x, .int .i32 8192] w (SplitIs w (highS 8192 x) (lowS 8192 x)) := by
 unfold SplitIs
 have H1 : (if 4096 < x % 8192 then x % 8192 - 8192 else x % 8192) = lowS 8192 x := rfl
 have H2 : (x - lowS 8192 x) / 8192 = highS 8192 x := rfl
 generalize highS 8192 x = h at *
 generalize lowS 8192 x = l at *
 obtain ⟨m, Hm⟩ : ∃ m, Shh (m = x.tmod 8192 ∧ -2147483648 ≤ m ∧ m ≤ 2147483647) := ⟨x % 8192, ⟨by rw [Int.tmod_eq_emod_of_nonneg hx.1], by omega, by omega⟩⟩
 have hm : m = x % 8192 := by rw [Hm.out.1, Int.tmod_eq_emod_of_nonneg hx.1]
 rw [← hm] at H1
 have Hh : Shh (((4096 : Int) = (8192 : Int).tdiv 2) ∧ (-2147483648 : Int) ≤ 4096 ∧ (4096 : Int) ≤ 2147483647) := ⟨by decide⟩
 obtain ⟨d, Hd⟩ : ∃ d, Shh (d = x - l ∧ -2147483648 ≤ d ∧ d ≤ 2147483647) := ⟨x - l, ⟨rfl, by split at H1 <;> omega, by split at H1 <;> omega⟩⟩
 have hd0 : 0 ≤ d := by
  have := Hd.out.1
  by_cases hc : 4096 < m
  ·rw [if_pos hc] at H1
   omega
  ·rw [if_neg hc] at H1
   omega
 have Hq : Shh (h = d.tdiv 8192 ∧ -2147483648 ≤ h ∧ h ≤ 2147483647) := ⟨by rw [Int.tdiv_eq_ediv_of_nonneg hd0, Hd.out.1, H2], by have := Hd.out; omega, by have := Hd.out; omega⟩
 by_cases hc : 4096 < m
 ·rw [if_pos hc] at H1
  have HL : Shh (l = m - 8192 ∧ -2147483648 ≤ l ∧ l ≤ 2147483647) := ⟨H1.symm, by omega, by omega⟩
  clear hm H1 H2 hx hd0
  go_enter Try.func16, Try.ntmps16
  go_wp2_with (first | refine wl_at 8 rfl (.int .i32 m) rfl (rem_d Hm.out (by decide) rfl rfl rfl) ?_ | refine wl_at 11 rfl (.int .i32 4096) rfl (quo_d Hh.out (by decide) rfl rfl rfl) ?_ | refine wl_at 15 rfl (.int .i32 l) rfl (sub_d HL.out rfl rfl rfl) ?_ | refine wl_at 18 rfl (.int .i32 d) rfl (sub_d Hd.out rfl rfl rfl) ?_ | refine wl_at 20 rfl (.int .i32 h) rfl (quo_d Hq.out (by decide) rfl rfl rfl) ?_)
  go_ret2
  exact ⟨rfl, rfl⟩
 ·rw [if_neg hc] at H1
  have e : m = l := H1
  subst e
  clear hm H2 hx hd0
  go_enter Try.func16, Try.ntmps16
  go_wp2_with (first | refine wl_at 8 rfl (.int .i32 m) rfl (rem_d Hm.out (by decide) rfl rfl rfl) ?_ | refine wl_at 11 rfl (.int .i32 4096) rfl (quo_d Hh.out (by decide) rfl rfl rfl) ?_ | refine wl_at 18 rfl (.int .i32 d) rfl (sub_d Hd.out rfl rfl rfl) ?_ | refine wl_at 20 rfl (.int .i32 h) rfl (quo_d Hq.out (by decide) rfl rfl rfl) ?_)
  go_ret2
  exact ⟨rfl, rfl⟩
theorem split_523776 (x : Int) (hx : 0 ≤ x ∧ x < 8380417) (w : World) : Calls Try.prog 16 #[.int .i32 x, .int .i32 523776] w (SplitIs w (highS 523776 x) (lowS 523776 x)) := by
 unfold SplitIs
 have H1 : (if 261888 < x % 523776 then x % 523776 - 523776 else x % 523776) = lowS 523776 x := rfl
 have H2 : (x - lowS 523776 x) / 523776 = highS 523776 x := rfl
 generalize highS 523776 x = h at *
 generalize lowS 523776 x = l at *
 obtain ⟨m, Hm⟩ : ∃ m, Shh (m = x.tmod 523776 ∧ -2147483648 ≤ m ∧ m ≤ 2147483647) := ⟨x % 523776, ⟨by rw [Int.tmod_eq_emod_of_nonneg hx.1], by omega, by omega⟩⟩
 have hm : m = x % 523776 := by rw [Hm.out.1, Int.tmod_eq_emod_of_nonneg hx.1]
 rw [← hm] at H1
 have Hh : Shh (((261888 : Int) = (523776 : Int).tdiv 2) ∧ (-2147483648 : Int) ≤ 261888 ∧ (261888 : Int) ≤ 2147483647) := ⟨by decide⟩
 obtain ⟨d, Hd⟩ : ∃ d, Shh (d = x - l ∧ -2147483648 ≤ d ∧ d ≤ 2147483647) := ⟨x - l, ⟨rfl, by split at H1 <;> omega, by split at H1 <;> omega⟩⟩
 have hd0 : 0 ≤ d := by
  have := Hd.out.1
  by_cases hc : 261888 < m
  ·rw [if_pos hc] at H1
   omega
  ·rw [if_neg hc] at H1
   omega
 have Hq : Shh (h = d.tdiv 523776 ∧ -2147483648 ≤ h ∧ h ≤ 2147483647) := ⟨by rw [Int.tdiv_eq_ediv_of_nonneg hd0, Hd.out.1, H2], by have := Hd.out; omega, by have := Hd.out; omega⟩
 by_cases hc : 261888 < m
 ·rw [if_pos hc] at H1
  have HL : Shh (l = m - 523776 ∧ -2147483648 ≤ l ∧ l ≤ 2147483647) := ⟨H1.symm, by omega, by omega⟩
  clear hm H1 H2 hx hd0
  go_enter Try.func16, Try.ntmps16
  go_wp2_with (first | refine wl_at 8 rfl (.int .i32 m) rfl (rem_d Hm.out (by decide) rfl rfl rfl) ?_ | refine wl_at 11 rfl (.int .i32 261888) rfl (quo_d Hh.out (by decide) rfl rfl rfl) ?_ | refine wl_at 15 rfl (.int .i32 l) rfl (sub_d HL.out rfl rfl rfl) ?_ | refine wl_at 18 rfl (.int .i32 d) rfl (sub_d Hd.out rfl rfl rfl) ?_ | refine wl_at 20 rfl (.int .i32 h) rfl (quo_d Hq.out (by decide) rfl rfl rfl) ?_)
  go_ret2
  exact ⟨rfl, rfl⟩
 ·rw [if_neg hc] at H1
  have e : m = l := H1
  subst e
  clear hm H2 hx hd0
  go_enter Try.func16, Try.ntmps16
  go_wp2_with (first | refine wl_at 8 rfl (.int .i32 m) rfl (rem_d Hm.out (by decide) rfl rfl rfl) ?_ | refine wl_at 11 rfl (.int .i32 261888) rfl (quo_d Hh.out (by decide) rfl rfl rfl) ?_ | refine wl_at 18 rfl (.int .i32 d) rfl (sub_d Hd.out rfl rfl rfl) ?_ | refine wl_at 20 rfl (.int .i32 h) rfl (quo_d Hq.out (by decide) rfl rfl rfl) ?_)
  go_ret2
  exact ⟨rfl, rfl⟩
/-- the neighbouring step's number -/
def nbD (h l : Int) : Int := if 0 < l then (h + 1) % 16 else (h + 15) % 16
theorem rev8Q_is : ((List.range 256).all fun i => decide (Lib.rev8 (i : Int) = (rvQ i : Int))) = true := by decide +kernel
end Go.Proofs.Ytflalpcceeocaaa
