/-
  WALK: HssMays, over contracts of the program's own functions.
-/
import Derived.Test.YthahnckjmlcehaaHs6
namespace Go.Proofs.Ythahnckjmlcehaa
open Go.RowKit
set_option maxRecDepth 100000
/-- what Count hands back -/
def cntV (l : List (Nat × Nat)) : Value := .tuple #[.int .u64 (if mayL l then ((2 ^ sumH l : Nat) : Int) else 0), .int .i64 (if mayL l then 0 else 90)]
def mayE (l : List (Nat × Nat)) : Value := .int .i64 (if mayL l then 0 else 90)
set_option maxHeartbeats 1000000 in
theorem hssMays_of (v : Value) (l : List (Nat × Nat)) (w : World) (hl : Lvs w w.heap.size v l) (ho : LvOk l)
    (hlive : ∀ W, Calls Try.prog 5 #[] W (TrueIs W))
    (hCount : ∀ W, Lvs W W.heap.size v l → Calls Try.prog 6 #[v] W (OldIs (cntV l) W))
    (hMay : ∀ W, Lvs W W.heap.size v l → Calls Try.prog 8 #[v] W (OldIs (mayE l) W))
    (hLen : ∀ W, Lvs W W.heap.size v l → Calls Try.prog 9 #[v] W (OldIs (.int .i64 (sigL l)) W)) :
    Calls Try.prog 3 #[v] w (TrueIs w) := by
  unfold TrueIs
  obtain ⟨A, c, rfl, hc, hcm⟩ := hl.form
  have hll : l.length ≤ 9223372036854775807 := by unfold maxLen at hcm; omega
  have HL := Shh.mk hl
  have HC : Shh ((∀ W, Below w.heap.size w W → Calls Try.prog 6 #[.slice A l.length c] W (OldIs (cntV l) W)) ∧ (∀ W, Below w.heap.size w W → Calls Try.prog 8 #[.slice A l.length c] W (OldIs (mayE l) W)) ∧ (∀ W, Below w.heap.size w W → Calls Try.prog 9 #[.slice A l.length c] W (OldIs (.int .i64 (sigL l)) W)) ∧ (∀ W, Below w.heap.size w W → Calls Try.prog 7 #[.slice A l.length c] W (OldIs (.bool (mayL l)) W)) ∧ (∀ W, Below w.heap.size w W → Calls Try.prog 11 #[.slice A l.length c] W (OldIs (.int .i64 (sigL l)) W)) ∧ (mayL l = true → ∀ W, Below w.heap.size w W → Calls Try.prog 10 #[.slice A l.length c] W (OldIs (.int .u64 ((2 ^ sumH l : Nat) : Int)) W))) :=
    ⟨fun W b => hCount W (hl.go b), fun W b => hMay W (hl.go b), fun W b => hLen W (hl.go b), fun W b => refMay_any _ l W (hl.go b) ho, fun W b => refLen_any _ l W (hl.go b) ho, fun h W b => refCount_any _ l W (hl.go b) ho (mayL_sum h)⟩
  have HT : Shh (∀ W, Calls Try.prog 5 #[] W (TrueIs W)) := ⟨hlive⟩
  clear hl ho hlive hCount hMay hLen HL
  by_cases h100 : 100 < l.length
  · have h1 : (100 : Int) < (l.length : Int) := by omega
    go_enter Try.func3, Try.ntmps3
    go_wp2_with (go_at_call 5; refine (HT.out _).mono ?_)
    unfold TrueIs
    rintro e w2 ⟨rfl, b2⟩
    have HB := Shh.mk b2
    clear b2
    go_wp2_with (go_at_call 5; refine (HT.out _).mono ?_)
    unfold TrueIs
    rintro e w3 ⟨rfl, b3⟩
    have HB3 : Shh (Below w.heap.size w w3) := ⟨Below.chain HB.out b3⟩
    clear b3 HB
    go_wp2
    go_ret
    exact ⟨rfl, HB3.out⟩
  have h1 : ¬ (100 : Int) < (l.length : Int) := by omega
  unfold cntV mayE at HC
  cases hm : mayL l with
  | false =>
    have HV : Shh (sigL l = 0) := ⟨by unfold sigL; rw [hm]; rfl⟩
    rw [hm] at HC
    simp only [Bool.false_eq_true, if_false, false_implies, and_true] at HC
    go_enter Try.func3, Try.ntmps3
    go_wp2_with (go_at_call 5; refine (HT.out _).mono ?_)
    unfold TrueIs
    rintro e w2 ⟨rfl, b2⟩
    have HB2 := Shh.mk b2
    clear b2
    go_wp2_with (go_at_call 6; refine (HC.out.1 _ HB2.out).mono ?_)
    unfold OldIs
    rintro e w3 ⟨rfl, b3⟩
    have HB3 : Shh (Below w.heap.size w w3) := ⟨Below.chain HB2.out b3⟩
    clear b3 HB2
    go_wp2_with (go_at_call 7; refine (HC.out.2.2.2.1 _ HB3.out).mono ?_)
    unfold OldIs
    rintro e w4 ⟨rfl, b4⟩
    have HB4 : Shh (Below w.heap.size w w4) := ⟨Below.chain HB3.out b4⟩
    clear b4 HB3
    go_wp2_with (go_at_call 8; refine (HC.out.2.1 _ HB4.out).mono ?_)
    unfold OldIs
    rintro e w5 ⟨rfl, b5⟩
    have HB5 : Shh (Below w.heap.size w w5) := ⟨Below.chain HB4.out b5⟩
    clear b5 HB4
    go_wp2_with (go_at_call 9; refine (HC.out.2.2.1 _ HB5.out).mono ?_)
    unfold OldIs
    rintro e w6 ⟨rfl, b6⟩
    have HB6 : Shh (Below w.heap.size w w6) := ⟨Below.chain HB5.out b6⟩
    clear b6 HB5 HC
    rw [HV.out]
    clear HV
    go_wp2
    go_ret
    exact ⟨rfl, HB6.out⟩
  | true =>
    rw [hm] at HC
    simp only [if_true, forall_const] at HC
    generalize sigL l = sg at HC
    generalize 2 ^ sumH l = cn at HC
    have hsg : ((sg : Int) == sg) = true := by simp
    have hcn : ((cn : Int) == (cn : Int)) = true := by simp
    go_enter Try.func3, Try.ntmps3
    go_wp2_with (go_at_call 5; refine (HT.out _).mono ?_)
    unfold TrueIs
    rintro e w2 ⟨rfl, b2⟩
    have HB2 := Shh.mk b2
    clear b2
    go_wp2_with (go_at_call 6; refine (HC.out.1 _ HB2.out).mono ?_)
    unfold OldIs
    rintro e w3 ⟨rfl, b3⟩
    have HB3 : Shh (Below w.heap.size w w3) := ⟨Below.chain HB2.out b3⟩
    clear b3 HB2
    go_wp2_with (go_at_call 7; refine (HC.out.2.2.2.1 _ HB3.out).mono ?_)
    unfold OldIs
    rintro e w4 ⟨rfl, b4⟩
    have HB4 : Shh (Below w.heap.size w w4) := ⟨Below.chain HB3.out b4⟩
    clear b4 HB3
    go_wp2_with (go_at_call 8; refine (HC.out.2.1 _ HB4.out).mono ?_)
    unfold OldIs
    rintro e w5 ⟨rfl, b5⟩
    have HB5 : Shh (Below w.heap.size w w5) := ⟨Below.chain HB4.out b5⟩
    clear b5 HB4
    go_wp2_with (go_at_call 10; refine (HC.out.2.2.2.2.2 _ HB5.out).mono ?_)
    unfold OldIs
    rintro e w6 ⟨rfl, b6⟩
    have HB6 : Shh (Below w.heap.size w w6) := ⟨Below.chain HB5.out b6⟩
    clear b6 HB5
    go_wp2_with (go_at_call 9; refine (HC.out.2.2.1 _ HB6.out).mono ?_)
    unfold OldIs
    rintro e w7 ⟨rfl, b7⟩
    have HB7 : Shh (Below w.heap.size w w7) := ⟨Below.chain HB6.out b7⟩
    clear b7 HB6
    go_wp2_with (go_at_call 11; refine (HC.out.2.2.2.2.1 _ HB7.out).mono ?_)
    unfold OldIs
    rintro e w8 ⟨rfl, b8⟩
    have HB8 : Shh (Below w.heap.size w w8) := ⟨Below.chain HB7.out b8⟩
    clear b8 HB7 HC
    go_wp2
    go_ret
    exact ⟨rfl, HB8.out⟩
end Go.Proofs.Ythahnckjmlcehaa
