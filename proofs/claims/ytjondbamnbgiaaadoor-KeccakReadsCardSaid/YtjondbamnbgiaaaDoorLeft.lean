/-
  WALKS: bits.RotateLeft64, keccak.left, keccak.shift, keccak.chi.
-/
import Derived.Test.YtjondbamnbgiaaaDoorWords
import Derived.Test.YtjondbamnbgiaaaDoorKMath
import Derived.BigQuiet
import Derived.Deep.QuietTactic
namespace Go.Proofs.YtjondbamnbgiaaaDoor
open Go.RowKit
set_option maxRecDepth 100000

/-- a word is handed back, nothing else has turned -/
def LaneIs (w : World) (x : UInt64) (e : Ending) (w' : World) : Prop := e = .returned ((.int .u64 (x.toNat : Int))) ∧ w' = w

theorem and63 : ∀ n : Fin 64, bits .and .u64 (IntKind.u64.wrap (n.val : Int)) 63 = (n.val : Int) := by decide +kernel
theorem low63 (n : Nat) (h2 : n ≤ 63) : bits .and .u64 (n : Int) 63 = (n : Int) := by
  have := and63 ⟨n, by omega⟩
  simp only at this
  rwa [wraps_u64 _ (by omega) (by omega)] at this
theorem rotateLeft_any (x : UInt64) (n : Nat) (h2 : n ≤ 63) (w : World) :
    Calls Tryd.prog 47 #[(.int .u64 (x.toNat : Int)), .int .i64 (n : Int)] w (LaneIs w (rotl x n)) := by
  unfold LaneIs
  have hb := low63 n h2
  have hr := u64_rotl x n
  have hw := wraps_u64 (n : Int) (by omega) (by omega)
  have q1 : (64 : Int) - (n : Int) = ((64 - n : Nat) : Int) := by omega
  go_enter Tryd.func47, Tryd.ntmps47
  go_wp2
  go_ret
  refine ⟨ret_int ?_, rfl⟩
  exact hr
theorem left_any (x : UInt64) (n : Nat) (h2 : n ≤ 63) (w : World) :
    Calls Tryd.prog 41 #[(.int .u64 (x.toNat : Int)), .int .i64 (n : Int)] w (LaneIs w (rotl x n)) := by
  go_enter Tryd.func41, Tryd.ntmps41
  go_wp2_with (go_at_call 47; refine (rotateLeft_any x n h2 _).mono ?_)
  rintro e wK ⟨rfl, rfl⟩
  go_wp2
  go_ret
  exact ⟨rfl, rfl⟩
theorem shift_any (p : Nat) (w : World) :
    Calls Tryd.prog 45 #[.int .i64 (p : Int)] w fun e w' => e = .returned (.int .i64 ((8 * (p % 8) : Nat) : Int)) ∧ w' = w := by
  obtain ⟨r, hr⟩ : ∃ r, r = p % 8 := ⟨_, rfl⟩
  have q1 : (p : Int).tmod 8 = (r : Int) := (show (p : Int).tmod 8 = ((p % 8 : Nat) : Int) from rfl).trans (by omega)
  have q2 : (p : Int) % 8 = (r : Int) := by omega
  have hr8 : r < 8 := by omega
  rw [← hr]
  clear hr
  go_enter Tryd.func45, Tryd.ntmps45
  go_wp2
  go_ret
  exact ⟨by simp, rfl⟩
/-- five words are handed back, nothing else has turned -/
def FiveIs (w : World) (b0 b1 b2 b3 b4 : UInt64) (e : Ending) (w' : World) : Prop := e = .returned (.tuple #[.int .u64 (b0.toNat : Int), .int .u64 (b1.toNat : Int), .int .u64 (b2.toNat : Int), .int .u64 (b3.toNat : Int), .int .u64 (b4.toNat : Int)]) ∧ w' = w
theorem chi_any (b0 b1 b2 b3 b4 : UInt64) (w : World) :
    Calls Tryd.prog 33 #[.int .u64 (b0.toNat : Int), .int .u64 (b1.toNat : Int), .int .u64 (b2.toNat : Int), .int .u64 (b3.toNat : Int), .int .u64 (b4.toNat : Int)] w
      (FiveIs w (b0 ^^^ andn b2 b1) (b1 ^^^ andn b3 b2) (b2 ^^^ andn b4 b3) (b3 ^^^ andn b0 b4) (b4 ^^^ andn b1 b0)) := by
  unfold FiveIs
  have h1 : ∀ a b : UInt64, bits .xor .u64 (a.toNat : Int) (b.toNat : Int) = ((a ^^^ b).toNat : Int) := u64_xor
  have h2 : ∀ a b : UInt64, bits .andNot .u64 (a.toNat : Int) (b.toNat : Int) = ((andn a b).toNat : Int) := u64_andn
  go_enter Tryd.func33, Tryd.ntmps33
  go_wp2
  refine bodyPost_ret (v := .tuple #[.int .u64 ((b0 ^^^ andn b2 b1).toNat : Int), .int .u64 ((b1 ^^^ andn b3 b2).toNat : Int), .int .u64 ((b2 ^^^ andn b4 b3).toNat : Int), .int .u64 ((b3 ^^^ andn b0 b4).toNat : Int), .int .u64 ((b4 ^^^ andn b1 b0).toNat : Int)]) ?_ rfl ⟨rfl, rfl⟩
  first | kernel_rfl | simp [results, Tryd.results33, go_sem]
end Go.Proofs.YtjondbamnbgiaaaDoor
