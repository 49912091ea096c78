/-
  WALKS: the sets of XMSS: what the program answers for each code.
-/
import Derived.Test.YthahnckjmlcehaaPa5
namespace Go.Proofs.Ythahnckjmlcehaa
open Go.RowKit
set_option maxRecDepth 100000
def hts (i : Nat) : Nat := if i = 0 then 10 else if i = 1 then 16 else 20
def xF (c : Nat) : Nat := if 1 ≤ c ∧ c ≤ 3 then 0 else if 13 ≤ c ∧ c ≤ 21 then 1 + (c - 13) / 3 else ownF c xB
def xH (c : Nat) : Nat := if 1 ≤ c ∧ c ≤ 3 then hts (c - 1) else if 13 ≤ c ∧ c ≤ 21 then hts ((c - 13) % 3) else ownH c xB
theorem hts_le (i : Nat) : hts i ≤ 20 := by
  unfold hts
  split
  · omega
  · split <;> omega
theorem xF_le (c : Nat) : xF c ≤ 3 := by
  unfold xF
  split
  · omega
  · split
    · omega
    · exact ownF_le c xB
theorem xH_le (c : Nat) : xH c ≤ 20 := by
  unfold xH
  split
  · exact hts_le _
  · split
    · exact hts_le _
    · have := ownH_le c xB; omega
def xC (c : Nat) : Int := if xH c = 0 then 0 else (c : Int)
def xSh (c : Nat) : Bool := if xH c = 0 then false else hS (xF c)
def xN (c : Nat) : Int := if xH c = 0 then 0 else hN (xF c)
def xL (c : Nat) : Int := if xH c = 0 then 0 else if hN (xF c) = 24 then 51 else 67
def xE (c : Nat) : Int := if xH c = 0 then 60 else 0
def xmsV (c : Nat) : Value := .agg #[.int .u32 (xC c), .bool (xSh c), .int .i64 (xN c), .int .i64 (xH c : Int), .int .i64 (xL c)]
theorem oneCell5 {a : Int} {b : Bool} {c d e : Int} : ∀ u ∈ [Value.int .u32 a, .bool b, .int .i64 c, .int .i64 d, .int .i64 e], u.oneCell' = true := by
  intro u hu
  simp only [List.mem_cons, List.not_mem_nil, or_false] at hu
  rcases hu with rfl | rfl | rfl | rfl | rfl <;> rfl
end Go.Proofs.Ythahnckjmlcehaa
