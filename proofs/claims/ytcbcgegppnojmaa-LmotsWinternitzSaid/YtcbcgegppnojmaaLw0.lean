/-
  WALK: LmotsWinternitz where a hash has no digits.
-/
import Derived.Test.YtcbcgegppnojmaaLm9
namespace Go.Proofs.Ytcbcgegppnojmaa
open Go.RowKit
set_option maxRecDepth 100000
theorem held_skip {P : Program} {md : Region.Mode} {ops : Array Oper} {Q : Exit → Act → World → Prop} {S : World → Prop} {fuel : Nat} {listed : Array Bool} {a : Act} {w : World} (i : Nat) (dst : Option Tmp) (hside : mayTake md ops listed i = true)
    (hop : (ops[i]?).map (fun o => o.dst) = some dst) (hw : (ops[i]?).map (fun o => Region.wanted o (yielded ops a.tmps)) = some false)
    (hQ : ∀ c a w, Q (.panic c) (a.put dst undef) w → Q (.panic c) a w) (hSw : S w)
    (h : wpAnyH P md ops Q S fuel (listed.setIfInBounds i true) (a.put dst undef) w) : wpAnyH P md ops Q S (fuel + 1) listed a w := by
  cases ho : ops[i]? with
  | none => rw [ho] at hop; cases hop
  | some op =>
    rw [ho] at hop hw
    simp only [Option.map_some, Option.some.injEq] at hop hw
    simp only [mayTake, Bool.and_eq_true] at hside
    subst hop
    exact wpAnyH_take ho hside.1.1 hside.1.2 hside.2 hQ (.inr ⟨hw, rfl⟩) hSw h
set_option maxHeartbeats 8000000 in
theorem win_bad1 (k : Nat) (yc : Int) (ys : Bool) (yn ywd yp yl : Int) (a b : List UInt8) (Ea Eb : Int) (Da Db : List Nat)
    (hset : ∀ W, Calls Try.prog 6 #[.int .u32 (k : Int)] W (OldIs (.agg #[.int .u32 yc, .bool ys, .int .i64 yn, .int .i64 ywd, .int .i64 yp, .int .i64 yl]) W)) (ha : Pack a yc ys yn ywd yp yl Ea Da) (hb : Pack b yc ys yn ywd yp yl Eb Db)
    (hE : Ea ≠ 0) (B : Nat) (v1 v2 : Value) (w : World) (h1 : Sl w B v1 a) (h2 : Sl w B v2 b) (hB : B ≤ w.heap.size) :
    Calls Try.prog 4 #[.int .u32 (k : Int), v1, v2] w (TrueIs w) := by
  have q0 : (Ea != 0) = true := by simpa using hE
  unfold TrueIs
  have HA := Shh.mk ha
  have HB := Shh.mk hb
  have hsl := fun (W : World) (q : Below w.heap.size w W) => (⟨h1.below (q.mono hB), h2.below (q.mono hB), Nat.le_trans hB q.size⟩ : Sl W B v1 a ∧ Sl W B v2 b ∧ B ≤ W.heap.size)
  have HSL := Shh.mk hsl
  obtain ⟨A1, c1, rfl, _, _⟩ := h1.form
  obtain ⟨A2, c2, rfl, _, _⟩ := h2.form
  clear h1 h2 hB hsl ha hb
  go_enter Try.func4, Try.ntmps4
  go_wp2_with (go_at_call 6; refine (hset _).mono ?_)
  unfold OldIs
  rintro e w1 ⟨rfl, b1⟩
  obtain ⟨G, hG⟩ : ∃ G, Shh (G = w1.heap.size) := ⟨_, ⟨rfl⟩⟩
  go_wp2_with (refine wpList_store_any rfl 24 (.tmp 7) (.tmp 17) rfl G (by rw [hG.out]; rfl) [.int .u32 yc, .bool ys, .int .i64 yn, .int .i64 ywd, .int .i64 yp, .int .i64 yl] rfl 24 _ (Row.new_ hG.out rfl) info_ots rfl oneCell6 ?_)
  intro Z hr bt _
  have bb : Below w1.heap.size w1 Z := (Below.alloc (Below.refl _ _) (Nat.le_refl _) _).trans (bt.under (by have := hG.out; first | omega | (simp only [asz]; omega)) (by have := hG.out; omega))
  have F1 : Shh (Row Z G 24 [.int .u32 yc, .bool ys, .int .i64 yn, .int .i64 ywd, .int .i64 yp, .int .i64 yl] ∧ Below w.heap.size w Z) := ⟨hr, Below.chain b1 bb⟩
  rw [← hG.out]
  clear hr bt bb b1 hG hset
  go_wp2_with (first | refine wl_loadW 24 (.tmp 7) rfl G rfl 24 [.int .u32 yc, .bool ys, .int .i64 yn, .int .i64 ywd, .int .i64 yp, .int .i64 yl] _ rfl F1.out.1 Try.underlying24 rfl info_ots ?_ | (go_at_call 7; refine (HA.out.dig B _ _ (HSL.out _ F1.out.2).1 (HSL.out _ F1.out.2).2.2).mono ?_))
  rintro e w3 ⟨v8, rfl, s8, b3⟩
  have F3 : Shh (Row w3 G 24 [.int .u32 yc, .bool ys, .int .i64 yn, .int .i64 ywd, .int .i64 yp, .int .i64 yl] ∧ Below w.heap.size w w3 ∧ SI w3 w3.heap.size v8 Da) := ⟨F1.out.1.go b3, Below.chain F1.out.2 b3, s8⟩
  obtain ⟨a8, c8, rfl, _, _⟩ := s8.form
  clear F1 s8 b3
  go_wp2_with (first | refine wl_loadW 24 (.tmp 7) rfl G rfl 24 [.int .u32 yc, .bool ys, .int .i64 yn, .int .i64 ywd, .int .i64 yp, .int .i64 yl] _ rfl F3.out.1 Try.underlying24 rfl info_ots ?_ | (go_at_call 7; refine (HB.out.dig B _ _ (HSL.out _ F3.out.2.1).2.1 (HSL.out _ F3.out.2.1).2.2).mono ?_))
  rintro e w4 ⟨v10, rfl, s10, b4⟩
  have F4 : Shh (Row w4 G 24 [.int .u32 yc, .bool ys, .int .i64 yn, .int .i64 ywd, .int .i64 yp, .int .i64 yl] ∧ Below w.heap.size w w4 ∧ SI w4 w4.heap.size (.slice a8 Da.length c8) Da ∧ SI w4 w4.heap.size v10 Db) := ⟨F3.out.1.go b4, Below.chain F3.out.2.1 b4, F3.out.2.2.go b4, s10⟩
  obtain ⟨a10, c10, rfl, _, _⟩ := s10.form
  clear F3 s10 b4
  go_wp2_with (go_at_call 5; refine (live_any _).mono ?_)
  unfold TrueIs
  rintro e w5 ⟨rfl, b5⟩
  have F5 : Shh (Row w5 G 24 [.int .u32 yc, .bool ys, .int .i64 yn, .int .i64 ywd, .int .i64 yp, .int .i64 yl] ∧ Below w.heap.size w w5 ∧ SI w5 w5.heap.size (.slice a8 Da.length c8) Da ∧ SI w5 w5.heap.size (.slice a10 Db.length c10) Db) := ⟨F4.out.1.go b5, Below.chain F4.out.2.1 b5, F4.out.2.2.1.go b5, F4.out.2.2.2.go b5⟩
  clear F4 b5
  go_wp2_with (go_at_call 5; refine (live_any _).mono ?_)
  unfold TrueIs
  rintro e w6 ⟨rfl, b6⟩
  have F6 : Shh (Row w6 G 24 [.int .u32 yc, .bool ys, .int .i64 yn, .int .i64 ywd, .int .i64 yp, .int .i64 yl] ∧ Below w.heap.size w w6) := ⟨F5.out.1.go b6, Below.chain F5.out.2.1 b6⟩
  clear F5 b6
  go_wp2_with (first | refine wl_loadW 24 (.tmp 7) rfl G rfl 24 [.int .u32 yc, .bool ys, .int .i64 yn, .int .i64 ywd, .int .i64 yp, .int .i64 yl] _ rfl F6.out.1 Try.underlying24 rfl info_ots ?_ | (go_at_call 8; refine (HA.out.may B _ _ (HSL.out _ F6.out.2).1).mono ?_))
  unfold OldIs
  rintro e w7 ⟨rfl, b7⟩
  have F7 : Shh (Below w.heap.size w w7) := ⟨Below.chain F6.out.2 b7⟩
  clear F6 b7
  go_wp2
  go_ret
  exact ⟨rfl, F7.out⟩
set_option maxHeartbeats 8000000 in
theorem win_bad2 (k : Nat) (yc : Int) (ys : Bool) (yn ywd yp yl : Int) (a b : List UInt8) (Eb : Int) (Da Db : List Nat)
    (hset : ∀ W, Calls Try.prog 6 #[.int .u32 (k : Int)] W (OldIs (.agg #[.int .u32 yc, .bool ys, .int .i64 yn, .int .i64 ywd, .int .i64 yp, .int .i64 yl]) W)) (ha : Pack a yc ys yn ywd yp yl 0 Da) (hb : Pack b yc ys yn ywd yp yl Eb Db)
    (hE : Eb ≠ 0) (B : Nat) (v1 v2 : Value) (w : World) (h1 : Sl w B v1 a) (h2 : Sl w B v2 b) (hB : B ≤ w.heap.size) :
    Calls Try.prog 4 #[.int .u32 (k : Int), v1, v2] w (TrueIs w) := by
  have q0 : (Eb != 0) = true := by simpa using hE
  unfold TrueIs
  have HA := Shh.mk ha
  have HB := Shh.mk hb
  have hsl := fun (W : World) (q : Below w.heap.size w W) => (⟨h1.below (q.mono hB), h2.below (q.mono hB), Nat.le_trans hB q.size⟩ : Sl W B v1 a ∧ Sl W B v2 b ∧ B ≤ W.heap.size)
  have HSL := Shh.mk hsl
  obtain ⟨A1, c1, rfl, _, _⟩ := h1.form
  obtain ⟨A2, c2, rfl, _, _⟩ := h2.form
  clear h1 h2 hB hsl ha hb
  go_enter Try.func4, Try.ntmps4
  go_wp2_with (go_at_call 6; refine (hset _).mono ?_)
  unfold OldIs
  rintro e w1 ⟨rfl, b1⟩
  obtain ⟨G, hG⟩ : ∃ G, Shh (G = w1.heap.size) := ⟨_, ⟨rfl⟩⟩
  go_wp2_with (refine wpList_store_any rfl 24 (.tmp 7) (.tmp 17) rfl G (by rw [hG.out]; rfl) [.int .u32 yc, .bool ys, .int .i64 yn, .int .i64 ywd, .int .i64 yp, .int .i64 yl] rfl 24 _ (Row.new_ hG.out rfl) info_ots rfl oneCell6 ?_)
  intro Z hr bt _
  have bb : Below w1.heap.size w1 Z := (Below.alloc (Below.refl _ _) (Nat.le_refl _) _).trans (bt.under (by have := hG.out; first | omega | (simp only [asz]; omega)) (by have := hG.out; omega))
  have F1 : Shh (Row Z G 24 [.int .u32 yc, .bool ys, .int .i64 yn, .int .i64 ywd, .int .i64 yp, .int .i64 yl] ∧ Below w.heap.size w Z) := ⟨hr, Below.chain b1 bb⟩
  rw [← hG.out]
  clear hr bt bb b1 hG hset
  go_wp2_with (first | refine wl_loadW 24 (.tmp 7) rfl G rfl 24 [.int .u32 yc, .bool ys, .int .i64 yn, .int .i64 ywd, .int .i64 yp, .int .i64 yl] _ rfl F1.out.1 Try.underlying24 rfl info_ots ?_ | (go_at_call 7; refine (HA.out.dig B _ _ (HSL.out _ F1.out.2).1 (HSL.out _ F1.out.2).2.2).mono ?_))
  rintro e w3 ⟨v8, rfl, s8, b3⟩
  have F3 : Shh (Row w3 G 24 [.int .u32 yc, .bool ys, .int .i64 yn, .int .i64 ywd, .int .i64 yp, .int .i64 yl] ∧ Below w.heap.size w w3 ∧ SI w3 w3.heap.size v8 Da) := ⟨F1.out.1.go b3, Below.chain F1.out.2 b3, s8⟩
  obtain ⟨a8, c8, rfl, _, _⟩ := s8.form
  clear F1 s8 b3
  go_wp2_with (first | refine wl_loadW 24 (.tmp 7) rfl G rfl 24 [.int .u32 yc, .bool ys, .int .i64 yn, .int .i64 ywd, .int .i64 yp, .int .i64 yl] _ rfl F3.out.1 Try.underlying24 rfl info_ots ?_ | (go_at_call 7; refine (HB.out.dig B _ _ (HSL.out _ F3.out.2.1).2.1 (HSL.out _ F3.out.2.1).2.2).mono ?_))
  rintro e w4 ⟨v10, rfl, s10, b4⟩
  have F4 : Shh (Row w4 G 24 [.int .u32 yc, .bool ys, .int .i64 yn, .int .i64 ywd, .int .i64 yp, .int .i64 yl] ∧ Below w.heap.size w w4 ∧ SI w4 w4.heap.size (.slice a8 Da.length c8) Da ∧ SI w4 w4.heap.size v10 Db) := ⟨F3.out.1.go b4, Below.chain F3.out.2.1 b4, F3.out.2.2.go b4, s10⟩
  obtain ⟨a10, c10, rfl, _, _⟩ := s10.form
  clear F3 s10 b4
  go_wp2_with (go_at_call 5; refine (live_any _).mono ?_)
  unfold TrueIs
  rintro e w5 ⟨rfl, b5⟩
  have F5 : Shh (Row w5 G 24 [.int .u32 yc, .bool ys, .int .i64 yn, .int .i64 ywd, .int .i64 yp, .int .i64 yl] ∧ Below w.heap.size w w5 ∧ SI w5 w5.heap.size (.slice a8 Da.length c8) Da ∧ SI w5 w5.heap.size (.slice a10 Db.length c10) Db) := ⟨F4.out.1.go b5, Below.chain F4.out.2.1 b5, F4.out.2.2.1.go b5, F4.out.2.2.2.go b5⟩
  clear F4 b5
  go_wp2_with (go_at_call 5; refine (live_any _).mono ?_)
  unfold TrueIs
  rintro e w6 ⟨rfl, b6⟩
  have F6 : Shh (Row w6 G 24 [.int .u32 yc, .bool ys, .int .i64 yn, .int .i64 ywd, .int .i64 yp, .int .i64 yl] ∧ Below w.heap.size w w6) := ⟨F5.out.1.go b6, Below.chain F5.out.2.1 b6⟩
  clear F5 b6
  go_wp2_with (first | refine wl_loadW 24 (.tmp 7) rfl G rfl 24 [.int .u32 yc, .bool ys, .int .i64 yn, .int .i64 ywd, .int .i64 yp, .int .i64 yl] _ rfl F6.out.1 Try.underlying24 rfl info_ots ?_ | (go_at_call 8; refine (HB.out.may B _ _ (HSL.out _ F6.out.2).2.1).mono ?_))
  unfold OldIs
  rintro e w7 ⟨rfl, b7⟩
  have F7 : Shh (Below w.heap.size w w7) := ⟨Below.chain F6.out.2 b7⟩
  clear F6 b7
  go_wp2
  go_ret
  exact ⟨rfl, F7.out⟩
end Go.Proofs.Ytcbcgegppnojmaa
