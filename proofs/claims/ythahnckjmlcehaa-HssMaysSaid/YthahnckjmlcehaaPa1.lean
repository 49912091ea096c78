/-
  WALKS: the sets of LM-OTS: what the program answers.
-/
import Derived.Test.YthahnckjmlcehaaKeys1
import Derived.Test.YthahnckjmlcehaaLaw
namespace Go.Proofs.Ythahnckjmlcehaa
open Go.RowKit
set_option maxRecDepth 100000
/-- a value is handed back and nothing has changed -/
def StayIs (v : Value) (w : World) (e : Ending) (w' : World) : Prop := e = .returned v ∧ w = w'
/-- a value is handed back and nothing that was there has changed -/
def OldIs (v : Value) (w : World) (e : Ending) (w' : World) : Prop := e = .returned v ∧ Below w.heap.size w w'
def hS (f : Nat) : Bool := decide (f = 2 ∨ f = 3)
def hN (f : Nat) : Int := if f = 1 ∨ f = 3 then 24 else 32
theorem hashOf_any (f : Nat) (w : World) : Calls Try.prog 48 #[.int .u32 (f : Int)] w (StayIs (.tuple #[.bool (hS f), .int .i64 (hN f)]) w) := by
  unfold StayIs
  by_cases h1 : f = 1
  · subst h1
    go_enter Try.func48, Try.ntmps48
    go_wp2
    go_ret2
    exact ⟨rfl, rfl⟩
  by_cases h2 : f = 2
  · subst h2
    go_enter Try.func48, Try.ntmps48
    go_wp2
    go_ret2
    exact ⟨rfl, rfl⟩
  by_cases h3 : f = 3
  · subst h3
    go_enter Try.func48, Try.ntmps48
    go_wp2
    go_ret2
    exact ⟨rfl, rfl⟩
  have e1 : hS f = false := by unfold hS; simp; omega
  have e2 : hN f = 32 := by unfold hN; rw [if_neg (by omega)]
  rw [e1, e2]
  have i1 : ¬ (f : Int) = 1 := by omega
  have i2 : ¬ (f : Int) = 2 := by omega
  have i3 : ¬ (f : Int) = 3 := by omega
  go_enter Try.func48, Try.ntmps48
  go_wp2
  go_ret2
  exact ⟨rfl, rfl⟩
def lenL : List (Nat × Nat) := [(256, 9), (384, 9), (960, 10), (8160, 13), (192, 8), (288, 9), (720, 10), (6120, 13)]
theorem len64_lit (x r : Nat) (h : (x, r) ∈ lenL) (w : World) : Calls Try.prog 53 #[.int .u64 (x : Int)] w (StayIs (.int .i64 (r : Int)) w) := by
  unfold StayIs
  simp only [lenL, List.mem_cons, Prod.mk.injEq, List.not_mem_nil, or_false] at h
  rcases h with ⟨rfl, rfl⟩ | ⟨rfl, rfl⟩ | ⟨rfl, rfl⟩ | ⟨rfl, rfl⟩ | ⟨rfl, rfl⟩ | ⟨rfl, rfl⟩ | ⟨rfl, rfl⟩ | ⟨rfl, rfl⟩
  all_goals
    go_enter Try.func53, Try.ntmps53
    go_wp2
    go_ret
    refine ⟨?_, rfl⟩
    kernel_rfl
theorem len_lit (x r : Nat) (h : (x, r) ∈ lenL) (w : World) : Calls Try.prog 51 #[.int .u64 (x : Int)] w (StayIs (.int .i64 (r : Int)) w) := by
  unfold StayIs
  go_enter Try.func51, Try.ntmps51
  go_wp2_with (go_at_call 53; refine (len64_lit x r h w).mono ?_)
  unfold StayIs
  rintro e w' ⟨rfl, rfl⟩
  go_wp2
  go_ret
  exact ⟨rfl, rfl⟩
end Go.Proofs.Ythahnckjmlcehaa
