/-
 WALK: the law DiskNone.
-/
import Derived.Test.YtpajdmbajopofaaDk20
namespace Go.Proofs.Ytpajdmbajopofaa
open Go.RowKit
set_option maxRecDepth 100000
/-- the six cells of what is done -/
def opC (d i n : Int) (x : UInt8) (vb vp : Value) : List Value := [.int .i64 d, .int .i64 i, .int .i64 n, .int .u8 (x.toNat : Int), vb, vp]
set_option maxHeartbeats 4000000 in
theorem none_any (d i n : Int) (x : UInt8) (B : Nat) (vb vp : Value) (bs : List UInt8) (ps : List Bool) (w : World) (h1 : Sl w B vb bs) (h2 : Slb w B vp ps) : Calls Try.prog 9 #[.agg (opC d i n x vb vp).toArray] w (TrueIs w) := by
 unfold TrueIs opC
 obtain ⟨Ab, cb, rfl, _, _⟩ := h1.form
 obtain ⟨Ap, cp, rfl, _, _⟩ := h2.form
 generalize bs.length = nb at *
 generalize ps.length = np at *
 obtain ⟨W0, hW0⟩ : ∃ W0, w.alloc (.cells #[.int .i64 d, .int .i64 i, .int .i64 n, .int .u8 (x.toNat : Int), .slice Ab nb cb, .slice Ap np cp] 36) = W0 := ⟨_, rfl⟩
 have bA : Below w.heap.size w W0 := by rw [← hW0]; exact Below.alloc (Below.refl _ _) (Nat.le_refl _) _
 have hr : Row W0 w.heap.size 36 [.int .i64 d, .int .i64 i, .int .i64 n, .int .u8 (x.toNat : Int), .slice Ab nb cb, .slice Ap np cp] := by rw [← hW0]; exact Row.new_ rfl rfl
 have c1 : W0.cell? ⟨w.heap.size, 1, none⟩ = some (.int .i64 i) := hr.cell 1
 have c5 : W0.cell? ⟨w.heap.size, 5, none⟩ = some (.slice Ap np cp) := hr.cell 5
 have H0 := Shh.mk (And.intro bA hr)
 clear h1 h2 bA hr
 go_enter Try.func9, Try.ntmps9
 go_wp2_with (go_at_call 24; refine (nil_Read i _).mono ?_)
 unfold AnsIs
 rintro e w1 ⟨rfl, rfl⟩
 go_wp2_with (go_at_call 34; refine (nil_Calm _).mono ?_)
 unfold AnsIs
 rintro e w1 ⟨rfl, rfl⟩
 go_wp2_with (go_at_call 17; refine (nil_Crash Ap np cp _).mono ?_)
 unfold QuietIs
 rintro e w1 ⟨rfl, b1⟩
 clear c1 c5 hW0
 have H1 : Shh (Below w.heap.size w w1 ∧ Row w1 w.heap.size 36 [.int .i64 d, .int .i64 i, .int .i64 n, .int .u8 (x.toNat : Int), .slice Ab nb cb, .slice Ap np cp]) := ⟨Below.chain H0.out.1 b1, H0.out.2.go b1⟩
 clear b1 H0
 go_wp2_with (go_at_call 12; refine (live_any _).mono ?_)
 unfold TrueIs
 rintro e w2 ⟨rfl, b2⟩
 have H2 : Shh (Below w.heap.size w w2) := ⟨Below.chain H1.out.1 b2⟩
 have hr := H1.out.2.go b2
 have c1 : w2.cell? ⟨w.heap.size, 1, none⟩ = some (.int .i64 i) := hr.cell 1
 have c2 : w2.cell? ⟨w.heap.size, 2, none⟩ = some (.int .i64 n) := hr.cell 2
 have c4 : w2.cell? ⟨w.heap.size, 4, none⟩ = some (.slice Ab nb cb) := hr.cell 4
 clear b2 H1 hr
 go_wp2_with (go_at_call 28; refine (nil_Write i Ab nb cb _).mono ?_)
 unfold AnsIs
 rintro e w1 ⟨rfl, rfl⟩
 go_wp2_with (go_at_call 27; refine (nil_Sync _).mono ?_)
 unfold AnsIs
 rintro e w1 ⟨rfl, rfl⟩
 go_wp2_with (go_at_call 35; refine (nil_Arm n _).mono ?_)
 unfold AnsIs
 rintro e w1 ⟨rfl, rfl⟩
 go_wp2_with (go_at_call 30; refine (nil_Sectors _).mono ?_)
 unfold AnsIs
 rintro e w1 ⟨rfl, rfl⟩
 go_wp2_with (go_at_call 32; refine (nil_On _).mono ?_)
 unfold AnsIs
 rintro e w1 ⟨rfl, rfl⟩
 go_wp2_with (go_at_call 31; refine (nil_Waits _).mono ?_)
 unfold AnsIs
 rintro e w1 ⟨rfl, rfl⟩
 go_wp2_with (go_at_call 33; refine (nil_Ops _).mono ?_)
 unfold AnsIs
 rintro e w1 ⟨rfl, rfl⟩
 go_wp2_with (go_at_call 19; refine (nil_Image _).mono ?_)
 unfold AnsIs
 rintro e w1 ⟨rfl, rfl⟩
 go_wp2_with (go_at_call 16; refine (nil_Clone _).mono ?_)
 unfold AnsIs
 rintro e w1 ⟨rfl, rfl⟩
 go_wp2
 go_ret
 exact ⟨rfl, H2.out⟩
end Go.Proofs.Ytpajdmbajopofaa
