import Derived.Test.YtdakbipiifkmfaaGreatDoorGP5
import Derived.Test.YtdakbipiifkmfaaGreatDoorGX
/-
 THE PROGRAM'S OWN Tree where there is none; the laws' own live; XmssNone.
-/
namespace Go.Proofs.YtdakbipiifkmfaaGreatDoor
open Go.RowKit
set_option maxRecDepth 100000
theorem live11_any (w : World) (ht : Tabs w) : Calls Tryz.prog 14 #[] w (TrueIs w) :=
 live11_of (Tb := Tabs) (fun _ _ h b => h.go b) (fun x vs vl vr seed l r a W h1 h2 h3 h4 h5 h6 => Node_any x vs vl vr seed l r a W h1 h2 h3 h4 h5 h6) w ht
theorem tMade_nil (w : World) : Calls Tryz.prog 78 #[.pointer none] w (OldIs (.bool false) w) := by
 unfold OldIs
 go_enter Tryz.func78, Tryz.ntmps78
 go_wp2
 go_ret
 exact ⟨rfl, Below.refl _ _⟩
theorem tRoot_nil (w : World) : Calls Tryz.prog 35 #[.pointer none] w (ResIs w 2 []) := by
 unfold ResIs
 go_enter Tryz.func35, Tryz.ntmps35
 go_wp2_with (go_at_call 78; refine (tMade_nil _).mono ?_)
 unfold OldIs
 rintro e w2 ⟨rfl, b2⟩
 have HB := Shh.mk b2
 clear b2
 go_wp2
 go_ret2
 exact ⟨_, rfl, Sl.nil_, HB.out⟩
theorem tAdd_nil (w : World) : Calls Tryz.prog 39 #[.pointer none] w (OldIs (.int .i64 2) w) := by
 unfold OldIs
 go_enter Tryz.func39, Tryz.ntmps39
 go_wp2_with (go_at_call 78; refine (tMade_nil _).mono ?_)
 unfold OldIs
 rintro e w2 ⟨rfl, b2⟩
 have HB := Shh.mk b2
 clear b2
 go_wp2
 go_ret
 exact ⟨rfl, HB.out⟩
theorem tHeld_nil (w : World) : Calls Tryz.prog 37 #[.pointer none] w (OldIs (.int .i64 0) w) := by
 unfold OldIs
 go_enter Tryz.func37, Tryz.ntmps37
 go_wp2_with (go_at_call 78; refine (tMade_nil _).mono ?_)
 unfold OldIs
 rintro e w2 ⟨rfl, b2⟩
 have HB := Shh.mk b2
 clear b2
 go_wp2
 go_ret
 exact ⟨rfl, HB.out⟩
theorem tLeaves_nil (w : World) : Calls Tryz.prog 36 #[.pointer none] w (OldIs (.int .i64 0) w) := by
 unfold OldIs
 go_enter Tryz.func36, Tryz.ntmps36
 go_wp2_with (go_at_call 78; refine (tMade_nil _).mono ?_)
 unfold OldIs
 rintro e w2 ⟨rfl, b2⟩
 have HB := Shh.mk b2
 clear b2
 go_wp2
 go_ret
 exact ⟨rfl, HB.out⟩
theorem none_law (n : Int) (w : World) (ht : Tabs w) : Calls Tryz.prog 10 #[.int .i64 n] w (TrueIs w) :=
 xmssNone_of (Tb := Tabs) n w ht (fun _ _ h b => h.go b) live11_any (fun W _ => tRoot_nil W) (fun W _ => tAdd_nil W) (fun W _ => tHeld_nil W) (fun W _ => tLeaves_nil W)
end Go.Proofs.YtdakbipiifkmfaaGreatDoor
