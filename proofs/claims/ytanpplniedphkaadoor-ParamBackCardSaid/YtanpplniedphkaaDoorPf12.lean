/-
  WALKS: ParamNames: at every kind, code and name.
-/
import Derived.Test.YtanpplniedphkaaDoorPf11
import Derived.Test.YtanpplniedphkaaDoorPb5
namespace Go.Proofs.YtanpplniedphkaaDoor
open Go.RowKit Go.Shelf
set_option maxRecDepth 100000
theorem refV_form (name : ByteArray) : ∃ (a : Int) (b : Nat) (c : Int), refV name = .tuple #[.int .i64 a, .int .u32 (b : Int), .int .i64 c] := by
  rw [← codeV_ref]
  unfold codeV
  split
  · exact cdV_form _ _ _
  · split
    · exact cdV_form _ _ _
    · split
      · exact cdV_form _ _ _
      · exact ⟨0, 0, 60, rfl⟩
set_option maxHeartbeats 2000000 in
theorem names_any (kind : Int) (c : Nat) (hc : c < 4294967296) (name : ByteArray) (w : World) (hp : Pow w) : Calls Tryd.prog 5 #[.int .i64 kind, .int .u32 (c : Int), .string name] w (TrueIs w) := by
  unfold TrueIs
  have HP := Shh.mk hp
  clear hp
  by_cases hsz : name.size ≤ 200
  · have i1 : ¬ (200 : Int) < (name.size : Int) := by omega
    have hcode := fun W h => code_any name (by omega) W h
    have href := fun W => refCode_any name W
    have hn1 := fun W h => name_any kind c hc W h
    have hn2 := fun W => rname_any kind c hc W
    obtain ⟨a, b, d, hv⟩ := refV_form name
    rw [codeV_ref, hv] at hcode
    rw [hv] at href
    obtain ⟨N, hN⟩ : ∃ N, nmOf kind c = N := ⟨_, rfl⟩
    rw [hN] at hn1 hn2
    have H1 := Shh.mk hcode
    have H2 := Shh.mk href
    have H3 := Shh.mk hn1
    have H4 := Shh.mk hn2
    clear hsz hN hv hcode href hn1 hn2
    go_enter Tryd.func5, Tryd.ntmps5
    go_wp2_with (go_at_call 24; refine (live6 _).mono ?_)
    unfold TrueIs
    rintro e w1 ⟨rfl, b1⟩
    have F := Shh.mk b1
    clear b1
    go_wp2_with (go_at_call 28; refine (H1.out _ (HP.out.go F.out)).mono ?_)
    unfold OldIs
    rintro e w2 ⟨rfl, b2⟩
    have F2 := Shh.mk (Below.chain F.out b2)
    clear b2 F
    go_wp2_with (go_at_call 29; refine (H2.out _).mono ?_)
    unfold OldIs
    rintro e w3 ⟨rfl, b3⟩
    have F3 := Shh.mk (Below.chain F2.out b3)
    clear b3 F2
    go_wp2_with (go_at_call 30; refine (H3.out _ (HP.out.go F3.out)).mono ?_)
    unfold OldIs
    rintro e w4 ⟨rfl, b4⟩
    have F4 := Shh.mk (Below.chain F3.out b4)
    clear b4 F3
    go_wp2_with (go_at_call 31; refine (H4.out _).mono ?_)
    unfold OldIs
    rintro e w5 ⟨rfl, b5⟩
    have F5 := Shh.mk (Below.chain F4.out b5)
    clear b5 F4
    go_wp2
    go_ret
    exact ⟨by simp, F5.out⟩
  · have i1 : (200 : Int) < (name.size : Int) := by omega
    clear hsz
    go_enter Tryd.func5, Tryd.ntmps5
    go_wp2_with (go_at_call 24; refine (live6 _).mono ?_)
    unfold TrueIs
    rintro e w1 ⟨rfl, b1⟩
    have F := Shh.mk b1
    clear b1
    go_wp2_with (go_at_call 24; refine (live6 _).mono ?_)
    unfold TrueIs
    rintro e w2 ⟨rfl, b2⟩
    have F2 := Shh.mk (Below.chain F.out b2)
    clear b2 F
    go_wp2
    go_ret
    exact ⟨rfl, F2.out⟩
end Go.Proofs.YtanpplniedphkaaDoor
