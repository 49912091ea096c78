/-
  WALK: the law DrbgFull.
-/
import Derived.Test.YtanpplniedphkaaDoorDrLive
namespace Go.Proofs.YtanpplniedphkaaDoor
open Go.RowKit
set_option maxRecDepth 100000
def long5B (b : List UInt8) : Bool := decide ((500 < b.length ∧ b.length ≤ 4096) ∨ 9000 < b.length)
theorem long5_any (B : Nat) (v : Value) (b : List UInt8) (w : World) (hs : Sl w B v b) : Calls Tryd.prog 10 #[v] w (KeepIs (.bool (long5B b)) w) := by
  unfold KeepIs
  obtain ⟨A, c, rfl, _, _⟩ := hs.form
  clear hs
  by_cases h1 : 500 < b.length
  · have h1i : (500 : Int) < (b.length : Int) := by omega
    by_cases h2 : b.length ≤ 4096
    · have h2i : (b.length : Int) ≤ 4096 := by omega
      have HB : Shh (long5B b = true) := ⟨by unfold long5B; simp; omega⟩
      rw [HB.out]
      go_enter Tryd.func10, Tryd.ntmps10
      go_wp2
      go_ret
      exact ⟨rfl, rfl⟩
    · have h2i : ¬ (b.length : Int) ≤ 4096 := by omega
      by_cases h3 : 9000 < b.length
      · have h3i : (9000 : Int) < (b.length : Int) := by omega
        have HB : Shh (long5B b = true) := ⟨by unfold long5B; simp; omega⟩
        rw [HB.out]
        go_enter Tryd.func10, Tryd.ntmps10
        go_wp2
        go_ret
        exact ⟨rfl, rfl⟩
      · have h3i : ¬ (9000 : Int) < (b.length : Int) := by omega
        have HB : Shh (long5B b = false) := ⟨by unfold long5B; simp; omega⟩
        rw [HB.out]
        go_enter Tryd.func10, Tryd.ntmps10
        go_wp2
        go_ret
        exact ⟨rfl, rfl⟩
  · have h3i : ¬ (9000 : Int) < (b.length : Int) := by omega
    have h1i : ¬ (500 : Int) < (b.length : Int) := by omega
    have HB : Shh (long5B b = false) := ⟨by unfold long5B; simp; omega⟩
    rw [HB.out]
    go_enter Tryd.func10, Tryd.ntmps10
    go_wp2
    go_ret
    exact ⟨rfl, rfl⟩
theorem fit_one (en : List UInt8) : (fitE en [[], []] = 0 ↔ 32 ≤ en.length ∧ en.length ≤ 4096) ∧ (fitE en [[]] = fitE en [[], []]) := by
  have e1 : (longB en || [([] : List UInt8), []].any longB) = longB en := by simp [longB]
  have e2 : (longB en || [([] : List UInt8)].any longB) = longB en := by simp [longB]
  unfold fitE
  rw [e1, e2]
  refine ⟨?_, rfl⟩
  unfold longB
  by_cases h : en.length < 32
  · rw [if_pos h]; simp <;> omega
  · rw [if_neg h]
    by_cases h2 : 4096 < en.length
    · simp [h2] <;> omega
    · simp [h2] <;> omega
end Go.Proofs.YtanpplniedphkaaDoor
