/-
 WALK: the chapter's example holds (live).
-/
import Derived.Test.YtpajdmbajopofaaDk19
namespace Go.Proofs.Ytpajdmbajopofaa
open Go.RowKit
set_option maxRecDepth 100000
def lv0 : DS := newS (secs (List.replicate (256 * 8) 0) 8)
def lv1 : DS := wrS lv0 0 (blkL 1 256)
def lv2 : DS := wrS lv1 0 (blkL 2 256)
def lv3 : DS := crS lv2 [false, true]
def lv4 : DS := arS lv3 0
def lv5 : DS := syS lv4
theorem lv_e1 : wrE lv0 0 (blkL 1 256).length = 0 := by decide +kernel
theorem lv_e2 : wrE lv1 0 (blkL 2 256).length = 0 := by decide +kernel
theorem lv_b : rdB lv3 0 = blkL 2 256 := by decide +kernel
theorem lv_r : rdE lv3 0 = 0 := by decide +kernel
theorem lv_a : arE lv3 0 = 0 := by decide +kernel
theorem lv_s : syE lv4 = 5 := by decide +kernel
theorem lv_o : lv5.on = false := by decide +kernel
theorem lv_l : lv0.wait.length ≤ 1000000 ∧ lv1.wait.length ≤ 1000000 ∧ lv2.wait.length ≤ 1000000 ∧ lv3.wait.length ≤ 1000000 ∧ lv4.wait.length ≤ 1000000 := by decide +kernel
def OneE (g : Nat) (s : DS) : Nat → Option Ent := putE noE 1 (some ⟨false, g, s⟩)
theorem oneE_1 (g : Nat) (s : DS) : OneE g s 1 = some ⟨false, g, s⟩ := putE_same _ _ _
theorem oneE_put (g : Nat) (s t : DS) : putE (OneE g s) 1 (some ⟨false, g, t⟩) = OneE g t := putE_putE _ _ _ _
set_option maxHeartbeats 4000000 in
theorem live_any (w : World) : Calls Try.prog 12 #[] w (TrueIs w) := by
 unfold TrueIs
 have H0 := Shh.mk (sys_New (Sys.start w) (c := 1) rfl (by decide) (by decide) 8 (by decide) (by decide))
 have HB1 : Shh (∀ W, Calls Try.prog 29 #[.int .u8 1] W (OwnIs W (blkL 1 256))) := ⟨fun W => Block_any 1 W⟩
 have HB2 : Shh (∀ W, Calls Try.prog 29 #[.int .u8 2] W (OwnIs W (blkL 2 256))) := ⟨fun W => Block_any 2 W⟩
 go_enter Try.func12, Try.ntmps12
 go_wp2_with (go_at_call 10; refine (H0.out).mono ?_)
 unfold SysNew
 rintro e w1 ⟨g, rfl, h1, _, _⟩
 have S1 : Shh (Sys w w1 (OneE g lv0)) := ⟨h1⟩
 clear h1 H0
 go_wp2_with (go_at_call 29; refine (HB1.out _).mono ?_)
 unfold OwnIs Gives
 rintro e w2 ⟨v1, rfl, h1, hb⟩
 have S2 := Shh.mk (S1.out.go hb)
 have W1 := Shh.mk (sys_Write S2.out (oneE_1 _ _) lv_l.1 0 w2.heap.size v1 _ (Sl.of_own h1) (Nat.le_refl _))
 rw [oneE_put, lv_e1] at W1
 clear h1 hb S1 S2
 go_wp2_with (go_at_call 28; refine (W1.out).mono ?_)
 unfold SysIs
 rintro e w3 ⟨rfl, h1⟩
 have S3 : Shh (Sys w w3 (OneE g lv1)) := ⟨h1⟩
 clear h1 W1
 go_wp2_with (go_at_call 29; refine (HB2.out _).mono ?_)
 unfold OwnIs Gives
 rintro e w4 ⟨v2, rfl, h1, hb⟩
 have S4 := Shh.mk (S3.out.go hb)
 have W2 := Shh.mk (sys_Write S4.out (oneE_1 _ _) lv_l.2.1 0 w4.heap.size v2 _ (Sl.of_own h1) (Nat.le_refl _))
 rw [oneE_put, lv_e2] at W2
 clear h1 hb S3 S4
 go_wp2_with (go_at_call 28; refine (W2.out).mono ?_)
 unfold SysIs
 rintro e w5 ⟨rfl, h1⟩
 have S5 : Shh (Sys w w5 (OneE g lv2)) := ⟨h1⟩
 clear h1 W2
 obtain ⟨W0, hW0⟩ : ∃ W0, w5.alloc (.cells #[.bool false, .bool true] 4) = W0 := ⟨_, rfl⟩
 have bA : Below w5.heap.size w5 W0 := by rw [← hW0]; exact Below.alloc (Below.refl _ _) (Nat.le_refl _) _
 have hr : Row W0 w5.heap.size 4 (boolCells [false, true]) := by rw [← hW0]; exact Row.new_ rfl rfl
 have CR := Shh.mk (sys_CrashNew S5.out (oneE_1 _ _) lv_l.2.2.1 [false, true] bA (Nat.le_refl _) hr rfl (cp := 2) (by decide) (by unfold maxLen; decide))
 rw [oneE_put] at CR
 clear bA hr S5
 go_wp2_with (go_at_call 17; refine (CR.out).mono ?_)
 unfold SysIs
 rintro e w6 ⟨rfl, h1⟩
 have S6 : Shh (Sys w w6 (OneE g lv3)) := ⟨h1⟩
 clear h1 CR hW0
 have RD := Shh.mk (sys_Read S6.out (oneE_1 _ _) lv_l.2.2.2.1 0)
 rw [lv_b, lv_r] at RD
 go_wp2_with (go_at_call 24; refine (RD.out).mono ?_)
 unfold RdIs
 rintro e w7 ⟨v3, rfl, h1, hb⟩
 have S7 : Shh (Sys w w7 (OneE g lv3) ∧ Sl w7 w7.heap.size v3 (blkL 2 256)) := ⟨S6.out.go hb, Sl.of_own h1⟩
 clear h1 hb S6 RD
 go_wp2_with (go_at_call 29; refine (HB2.out _).mono ?_)
 unfold OwnIs Gives
 rintro e w8 ⟨v4, rfl, h1, hb⟩
 have S8 : Shh (Sys w w8 (OneE g lv3)) := ⟨S7.out.1.go hb⟩
 have EQ := Shh.mk (refEqual_any _ _ v3 v4 _ _ w8 (S7.out.2.below hb) (Sl.of_own h1))
 rw [show (blkL 2 256 == blkL 2 256) = true from by simp] at EQ
 clear h1 hb S7
 go_wp2_with (go_at_call 18; refine (EQ.out).mono ?_)
 rintro e w9 ⟨rfl, rfl⟩
 have AR := Shh.mk (sys_Arm S8.out (oneE_1 _ _) 0 (by decide))
 rw [oneE_put, lv_a] at AR
 clear S8 EQ
 go_wp2_with (go_at_call 35; refine (AR.out).mono ?_)
 unfold SysIs
 rintro e w10 ⟨rfl, h1⟩
 have S10 : Shh (Sys w w10 (OneE g lv4)) := ⟨h1⟩
 clear h1 AR
 have SY := Shh.mk (sys_Sync S10.out (oneE_1 _ _) lv_l.2.2.2.2)
 rw [oneE_put, lv_s] at SY
 clear S10
 go_wp2_with (go_at_call 27; refine (SY.out).mono ?_)
 unfold SysIs
 rintro e w11 ⟨rfl, h1⟩
 have S11 : Shh (Sys w w11 (OneE g lv5)) := ⟨h1⟩
 clear h1 SY
 have ON := Shh.mk (sys_On S11.out (oneE_1 _ _))
 rw [lv_o] at ON
 go_wp2_with (go_at_call 32; refine (ON.out).mono ?_)
 unfold AnsIs
 rintro e w12 ⟨rfl, rfl⟩
 have F := Shh.mk S11.out.bel
 clear S11 ON
 go_wp2
 go_ret
 exact ⟨rfl, F.out⟩
end Go.Proofs.Ytpajdmbajopofaa
