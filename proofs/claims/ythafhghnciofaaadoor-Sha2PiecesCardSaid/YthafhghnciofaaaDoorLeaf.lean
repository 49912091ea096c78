/-
  WALKS: the small functions on words: bits.RotateLeft32, sha2.right, small0, small1, sum0, sum1, choice, majority; the document's own rot.
-/
import Derived.Test.YthafhghnciofaaaDoorWords
import Derived.Test.YthafhghnciofaaaDoorSha
namespace Go.Proofs.YthafhghnciofaaaDoor
open Go.RowKit
set_option maxRecDepth 100000

/-- a word is handed back, nothing else has turned -/
def WordIs (w : World) (x : UInt32) (e : Ending) (w' : World) : Prop := e = .returned ((.int .u32 (x.toNat : Int))) ∧ w' = w

theorem and31 : ∀ n : Fin 32, 1 ≤ n.val → bits .and .u64 (IntKind.u64.wrap (-(n.val : Int))) 31 = 32 - (n.val : Int) := by decide +kernel
theorem neg31 (n : Nat) (h1 : 1 ≤ n) (h2 : n ≤ 31) : bits .and .u64 (IntKind.u64.wrap (-(n : Int))) 31 = ((32 - n : Nat) : Int) := by
  have := and31 ⟨n, by omega⟩ h1
  simp only at this
  rw [this]
  omega

theorem rotateLeft_any (x : UInt32) (n : Nat) (h1 : 1 ≤ n) (h2 : n ≤ 31) (w : World) :
    Calls Tryd.prog 53 #[(.int .u32 (x.toNat : Int)), .int .i64 (-(n : Int))] w (WordIs w (rotr x n)) := by
  unfold WordIs
  have hb := neg31 n h1 h2
  have hr := u32_rotl x n
  go_enter Tryd.func53, Tryd.ntmps53
  go_wp2
  go_ret
  refine ⟨ret_int ?_, rfl⟩
  rw [show 32 - (32 - n) = n by omega]
  exact hr

theorem right_any (x : UInt32) (n : Nat) (h1 : 1 ≤ n) (h2 : n ≤ 31) (w : World) :
    Calls Tryd.prog 50 #[(.int .u32 (x.toNat : Int)), .int .i64 (n : Int)] w (WordIs w (rotr x n)) := by
  go_enter Tryd.func50, Tryd.ntmps50
  go_wp2_with (go_at_call 53; refine (rotateLeft_any x n h1 h2 _).mono ?_)
  rintro e wK ⟨rfl, rfl⟩
  go_wp2
  go_ret
  exact ⟨rfl, rfl⟩

theorem rot_any (x : UInt32) (n : Nat) (h1 : 1 ≤ n) (h2 : n ≤ 31) (w : World) :
    Calls Tryd.prog 38 #[(.int .u32 (x.toNat : Int)), .int .u64 (n : Int)] w (WordIs w (rotr x n)) := by
  unfold WordIs
  have hr := u32_rotr x n
  go_enter Tryd.func38, Tryd.ntmps38
  go_wp2
  go_ret
  exact ⟨rfl, rfl⟩

theorem sum0_any (x : UInt32) (w : World) : Calls Tryd.prog 34 #[(.int .u32 (x.toNat : Int))] w (WordIs w (bg0 x)) := by
  go_enter Tryd.func34, Tryd.ntmps34
  go_wp2_with (go_at_call 50; refine (right_any x 2 (by decide) (by decide) _).mono ?_)
  rintro e wK ⟨rfl, rfl⟩
  go_wp2_with (go_at_call 50; refine (right_any x 13 (by decide) (by decide) _).mono ?_)
  rintro e wK ⟨rfl, rfl⟩
  go_wp2_with (go_at_call 50; refine (right_any x 22 (by decide) (by decide) _).mono ?_)
  rintro e wK ⟨rfl, rfl⟩
  go_wp2
  go_ret
  refine ⟨ret_int ?_, rfl⟩
  rw [u32_xor, u32_xor]
  rfl
theorem sum1_any (x : UInt32) (w : World) : Calls Tryd.prog 32 #[(.int .u32 (x.toNat : Int))] w (WordIs w (bg1 x)) := by
  go_enter Tryd.func32, Tryd.ntmps32
  go_wp2_with (go_at_call 50; refine (right_any x 6 (by decide) (by decide) _).mono ?_)
  rintro e wK ⟨rfl, rfl⟩
  go_wp2_with (go_at_call 50; refine (right_any x 11 (by decide) (by decide) _).mono ?_)
  rintro e wK ⟨rfl, rfl⟩
  go_wp2_with (go_at_call 50; refine (right_any x 25 (by decide) (by decide) _).mono ?_)
  rintro e wK ⟨rfl, rfl⟩
  go_wp2
  go_ret
  refine ⟨ret_int ?_, rfl⟩
  rw [u32_xor, u32_xor]
  rfl
theorem small0_any (x : UInt32) (w : World) : Calls Tryd.prog 49 #[(.int .u32 (x.toNat : Int))] w (WordIs w (sm0 x)) := by
  go_enter Tryd.func49, Tryd.ntmps49
  go_wp2_with (go_at_call 50; refine (right_any x 7 (by decide) (by decide) _).mono ?_)
  rintro e wK ⟨rfl, rfl⟩
  go_wp2_with (go_at_call 50; refine (right_any x 18 (by decide) (by decide) _).mono ?_)
  rintro e wK ⟨rfl, rfl⟩
  go_wp2
  go_ret
  refine ⟨ret_int ?_, rfl⟩
  have h3 := u32_shr x 3
  simp only [Int.reducePow] at h3
  rw [h3, u32_xor, u32_xor]
  rfl
theorem small1_any (x : UInt32) (w : World) : Calls Tryd.prog 48 #[(.int .u32 (x.toNat : Int))] w (WordIs w (sm1 x)) := by
  go_enter Tryd.func48, Tryd.ntmps48
  go_wp2_with (go_at_call 50; refine (right_any x 17 (by decide) (by decide) _).mono ?_)
  rintro e wK ⟨rfl, rfl⟩
  go_wp2_with (go_at_call 50; refine (right_any x 19 (by decide) (by decide) _).mono ?_)
  rintro e wK ⟨rfl, rfl⟩
  go_wp2
  go_ret
  refine ⟨ret_int ?_, rfl⟩
  have h3 := u32_shr x 10
  simp only [Int.reducePow] at h3
  rw [h3, u32_xor, u32_xor]
  rfl
theorem choice_any (x y z : UInt32) (w : World) : Calls Tryd.prog 33 #[(.int .u32 (x.toNat : Int)), (.int .u32 (y.toNat : Int)), (.int .u32 (z.toNat : Int))] w (WordIs w (chw x y z)) := by
  have hsg : IntKind.u32.signed = false := rfl
  go_enter Tryd.func33, Tryd.ntmps33
  go_wp2
  go_ret
  refine ⟨ret_int ?_, rfl⟩
  rw [u32_not, u32_and, u32_and, u32_or]
  rfl
theorem majority_any (x y z : UInt32) (w : World) : Calls Tryd.prog 35 #[(.int .u32 (x.toNat : Int)), (.int .u32 (y.toNat : Int)), (.int .u32 (z.toNat : Int))] w (WordIs w (mjw x y z)) := by
  go_enter Tryd.func35, Tryd.ntmps35
  go_wp2
  go_ret
  refine ⟨ret_int ?_, rfl⟩
  rw [u32_and, u32_and, u32_and, u32_or, u32_or]
  rfl
end Go.Proofs.YthafhghnciofaaaDoor
