/-
  THE SETS OF A LEVEL: do they fit? lengths: the program's and the document's.
-/
import Derived.Test.YthahnckjmlcehaaHs1
namespace Go.Proofs.Ythahnckjmlcehaa
open Go.RowKit
set_option maxRecDepth 100000
theorem hN_le (f : Nat) : 0 ≤ hN f ∧ hN f ≤ 32 := by unfold hN; split <;> omega
theorem oR_wf (c : Nat) : (0 ≤ (oR c).2.1 ∧ (oR c).2.1 ≤ 1000) ∧ (0 ≤ (oR c).2.2.1 ∧ (oR c).2.2.1 ≤ 1000) ∧ (0 ≤ (oR c).2.2.2.1 ∧ (oR c).2.2.2.1 ≤ 1000) ∧ (0 ≤ (oR c).2.2.2.2 ∧ (oR c).2.2.2.2 ≤ 1000) := by
  by_cases h : c < 1 ∨ 16 < c
  · rw [(oR_none h).1]; decide
  · have key : ∀ j : Fin 17, (0 ≤ (oR j.val).2.1 ∧ (oR j.val).2.1 ≤ 1000) ∧ (0 ≤ (oR j.val).2.2.1 ∧ (oR j.val).2.2.1 ≤ 1000) ∧ (0 ≤ (oR j.val).2.2.2.1 ∧ (oR j.val).2.2.2.1 ≤ 1000) ∧ (0 ≤ (oR j.val).2.2.2.2 ∧ (oR j.val).2.2.2.2 ≤ 1000) := by decide +kernel
    exact key ⟨c, by omega⟩
theorem ots_wf (c : Nat) : (Lit.int .u32 (oC c)).wf = true ∧ (Lit.int .i64 (oR c).2.1).wf = true ∧ (Lit.int .i64 (oR c).2.2.1).wf = true ∧ (Lit.int .i64 (oR c).2.2.2.1).wf = true ∧ (Lit.int .i64 (oR c).2.2.2.2).wf = true := by
  have h := oR_wf c
  have hC : 0 ≤ oC c ∧ oC c ≤ 4294967295 := by unfold oC; split <;> omega
  exact ⟨wf32 hC.1 hC.2, wf64 (by omega) (by omega), wf64 (by omega) (by omega), wf64 (by omega) (by omega), wf64 (by omega) (by omega)⟩
theorem lms_wf (c : Nat) (hc : c < 4294967296) : (Lit.int .u32 (lC c)).wf = true ∧ (Lit.int .i64 (lN c)).wf = true ∧ (Lit.int .i64 (lH c : Int)).wf = true := by
  have h1 := hN_le (lF c)
  have h2 := lH_le c
  have hC : 0 ≤ lC c ∧ lC c ≤ 4294967295 := by unfold lC; split <;> omega
  have hn : 0 ≤ lN c ∧ lN c ≤ 32 := by unfold lN; split <;> omega
  exact ⟨wf32 hC.1 hC.2, wf64 (by omega) (by omega), wf64 (by omega) (by omega)⟩
/-- is there a set of this code? -/
def okL (a : Nat) : Bool := decide (lH a ≠ 0)
def okO (b : Nat) : Bool := decide (1 ≤ b ∧ b ≤ 16)
def fitL (a b : Nat) : Bool := fitB (okL a) (okO b) (lSh a) (oR b).1 (lN a) (oR b).2.1
def otL (b : Nat) : Int := otsLn (okO b) (oR b).2.1 (oR b).2.2.2.1
def lnL (a b : Nat) : Int := lmsLn (fitL a b) (otL b) (lN a) (lH a : Int)
def pbL (a : Nat) : Int := lmsPb (okL a) (lN a)
theorem lC_nat (a : Nat) (ha : a < 4294967296) : ∃ c : Nat, (c : Int) = lC a ∧ c < 4294967296 ∧ (lE c = 0 ∧ (lC a = lC c ∧ lSh a = lSh c ∧ lN a = lN c ∧ (lH a : Int) = (lH c : Int)) ↔ lH a ≠ 0) := by
  by_cases h : lH a = 0
  · refine ⟨0, by unfold lC; rw [if_pos h]; rfl, by decide, ⟨fun hh => ?_, fun hh => absurd h hh⟩⟩
    exact absurd hh.1 (by decide)
  · refine ⟨a, by unfold lC; rw [if_neg h], ha, ⟨fun _ => h, fun _ => ⟨by unfold lE; rw [if_neg h], rfl, rfl, rfl, rfl⟩⟩⟩
theorem oC_nat (b : Nat) : ∃ c : Nat, (c : Int) = oC b ∧ c < 4294967296 ∧ (oE c = 0 ∧ (oC b = oC c ∧ (oR b).1 = (oR c).1 ∧ (oR b).2.1 = (oR c).2.1 ∧ (oR b).2.2.1 = (oR c).2.2.1 ∧ (oR b).2.2.2.1 = (oR c).2.2.2.1 ∧ (oR b).2.2.2.2 = (oR c).2.2.2.2) ↔ 1 ≤ b ∧ b ≤ 16) := by
  by_cases h : 1 ≤ b ∧ b ≤ 16
  · exact ⟨b, by unfold oC; rw [if_pos h], by omega, ⟨fun _ => h, fun _ => ⟨by unfold oE; rw [if_pos h], rfl, rfl, rfl, rfl, rfl, rfl⟩⟩⟩
  · refine ⟨0, by unfold oC; rw [if_neg h]; rfl, by decide, ⟨fun hh => ?_, fun hh => absurd hh h⟩⟩
    exact absurd hh.1 (by decide)
theorem isLms_lv (a : Nat) (ha : a < 4294967296) (w : World) : Calls Try.prog 29 #[lmsV a] w (OldIs (.bool (okL a)) w) := by
  obtain ⟨c, hc, hc2, he⟩ := lC_nat a ha
  obtain ⟨a1, a2, a3⟩ := lms_wf a ha
  obtain ⟨b1, b2, b3⟩ := lms_wf c hc2
  have := isLms_of (lC a) (lSh a) (lN a) (lH a : Int) (lC c) (lSh c) (lN c) (lH c : Int) (lE c) a1 a2 a3 b1 b2 b3 (fun W => by have := lms_any c hc2 W; rw [hc] at this; exact this) w
  rw [decide_eq_decide.2 he] at this
  exact this
theorem MayLms_lv (a : Nat) (ha : a < 4294967296) (w : World) : Calls Try.prog 34 #[lmsV a] w (OldIs (.bool (okL a)) w) := by
  obtain ⟨c, hc, hc2, he⟩ := lC_nat a ha
  obtain ⟨a1, a2, a3⟩ := lms_wf a ha
  obtain ⟨b1, b2, b3⟩ := lms_wf c hc2
  have := MayLms_of (lC a) (lSh a) (lN a) (lH a : Int) (lC c) (lSh c) (lN c) (lH c : Int) (lE c) a1 a2 a3 b1 b2 b3 (fun W => by have := refLms_any c hc2 W; rw [hc] at this; exact this) w
  rw [decide_eq_decide.2 he] at this
  exact this
theorem isOts_lv (b : Nat) (w : World) : Calls Try.prog 45 #[otsV b] w (OldIs (.bool (okO b)) w) := by
  obtain ⟨c, hc, hc2, he⟩ := oC_nat b
  obtain ⟨a1, a2, a3, a4, a5⟩ := ots_wf b
  obtain ⟨b1, b2, b3, b4, b5⟩ := ots_wf c
  have := isOts_of (oC b) (oR b).1 (oR b).2.1 (oR b).2.2.1 (oR b).2.2.2.1 (oR b).2.2.2.2 (oC c) (oR c).1 (oR c).2.1 (oR c).2.2.1 (oR c).2.2.2.1 (oR c).2.2.2.2 (oE c) a1 a2 a3 a4 a5 b1 b2 b3 b4 b5 (fun W => by have := ots_any c W; rw [hc] at this; exact this) w
  rw [decide_eq_decide.2 he] at this
  exact this
theorem MayOts_lv (b : Nat) (w : World) : Calls Try.prog 44 #[otsV b] w (OldIs (.bool (okO b)) w) := by
  obtain ⟨c, hc, hc2, he⟩ := oC_nat b
  obtain ⟨a1, a2, a3, a4, a5⟩ := ots_wf b
  obtain ⟨b1, b2, b3, b4, b5⟩ := ots_wf c
  have := MayOts_of (oC b) (oR b).1 (oR b).2.1 (oR b).2.2.1 (oR b).2.2.2.1 (oR b).2.2.2.2 (oC c) (oR c).1 (oR c).2.1 (oR c).2.2.1 (oR c).2.2.2.1 (oR c).2.2.2.2 (oE c) a1 a2 a3 a4 a5 b1 b2 b3 b4 b5 (fun W => by have := refOts_any c W; rw [hc] at this; exact this) w
  rw [decide_eq_decide.2 he] at this
  exact this
theorem fit_lv (a b : Nat) (ha : a < 4294967296) (w : World) : Calls Try.prog 30 #[lmsV a, otsV b] w (OldIs (.bool (fitL a b)) w) :=
  pFit_of _ _ _ _ _ _ _ _ _ _ _ _ (fun W => isLms_lv a ha W) (fun W => isOts_lv b W) w
theorem refFit_lv (a b : Nat) (ha : a < 4294967296) (w : World) : Calls Try.prog 28 #[lmsV a, otsV b] w (OldIs (.bool (fitL a b)) w) :=
  rFit_of _ _ _ _ _ _ _ _ _ _ _ _ (fun W => MayLms_lv a ha W) (fun W => MayOts_lv b W) w
theorem lmsLen_lv (a b : Nat) (ha : a < 4294967296) (w : World) : Calls Try.prog 18 #[lmsV a, otsV b] w (OldIs (.int .i64 (lnL a b)) w) :=
  pLmsLen_of _ _ _ _ _ _ _ _ _ _ _ _ (fun W => fit_lv a b ha W) (fun W => pOtsLen_of _ _ _ _ _ _ _ (fun W => isOts_lv b W) W) w
theorem refLmsLen_lv (a b : Nat) (ha : a < 4294967296) (w : World) : Calls Try.prog 20 #[lmsV a, otsV b] w (OldIs (.int .i64 (lnL a b)) w) :=
  rLmsLen_of _ _ _ _ _ _ _ _ _ _ _ _ (fun W => refFit_lv a b ha W) (fun W => rOtsLen_of _ _ _ _ _ _ _ (fun W => MayOts_lv b W) W) w
theorem lmsPub_lv (a : Nat) (ha : a < 4294967296) (w : World) : Calls Try.prog 17 #[lmsV a] w (OldIs (.int .i64 (pbL a)) w) :=
  pLmsPub_of _ _ _ _ _ (fun W => isLms_lv a ha W) w
theorem refLmsPub_lv (a : Nat) (ha : a < 4294967296) (w : World) : Calls Try.prog 21 #[lmsV a] w (OldIs (.int .i64 (pbL a)) w) :=
  rLmsPub_of _ _ _ _ _ (fun W => MayLms_lv a ha W) w
theorem wrap64_small {x : Int} (h1 : -9223372036854775808 ≤ x) (h2 : x ≤ 9223372036854775807) : wrap64 x = x := by
  unfold wrap64
  omega
theorem pbL_le (a : Nat) : 0 ≤ pbL a ∧ pbL a ≤ 1000 := by
  have h1 := hN_le (lF a)
  have hn : 0 ≤ lN a ∧ lN a ≤ 32 := by unfold lN; split <;> omega
  unfold pbL lmsPb
  split
  · rw [wrap64_small (by omega) (by omega)]; omega
  · omega
theorem lnL_le (a b : Nat) : 0 ≤ lnL a b ∧ lnL a b ≤ 10000000 := by
  have h1 := hN_le (lF a)
  have hn : 0 ≤ lN a ∧ lN a ≤ 32 := by unfold lN; split <;> omega
  have hh := lH_le a
  have ho := oR_wf b
  have hp : 0 ≤ (lH a : Int) * lN a ∧ (lH a : Int) * lN a ≤ 25 * 32 := ⟨Int.mul_nonneg (by omega) hn.1, Int.mul_le_mul (by omega) hn.2 hn.1 (by omega)⟩
  have hq : 0 ≤ (oR b).2.1 * ((oR b).2.2.2.1 + 1) ∧ (oR b).2.1 * ((oR b).2.2.2.1 + 1) ≤ 1000 * 1001 := ⟨Int.mul_nonneg (by omega) (by omega), Int.mul_le_mul (by omega) (by omega) (by omega) (by omega)⟩
  have hot : 0 ≤ otL b ∧ otL b ≤ 1001004 := by
    unfold otL otsLn
    split
    · rw [wrap64_small (x := (oR b).2.2.2.1 + 1) (by omega) (by omega), wrap64_small (x := (oR b).2.1 * ((oR b).2.2.2.1 + 1)) (by omega) (by omega), wrap64_small (by omega) (by omega)]; omega
    · omega
  unfold lnL lmsLn
  split
  · rw [wrap64_small (x := 8 + otL b) (by omega) (by omega), wrap64_small (x := (lH a : Int) * lN a) (by omega) (by omega), wrap64_small (by omega) (by omega)]; omega
  · omega
end Go.Proofs.Ythahnckjmlcehaa
