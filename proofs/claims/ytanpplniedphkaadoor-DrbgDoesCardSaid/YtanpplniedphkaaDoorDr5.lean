/-
  WALKS: what is wrong with entropy; the generator's counter.
-/
import Derived.Test.YtanpplniedphkaaDoorDr4
namespace Go.Proofs.YtanpplniedphkaaDoor
open Go.RowKit
set_option maxRecDepth 100000

/-- a value is handed back, the world stays -/
def KeepIs (v : Value) (w : World) (e : Ending) (w' : World) : Prop := e = .returned v ∧ w = w'
theorem isLongK (B : Nat) (v : Value) (b : List UInt8) (w : World) (hs : Sl w B v b) : Calls Tryd.prog 55 #[v] w (KeepIs (.bool (longB b)) w) := isLong_any B v b w hs
/-- some text is too long: an index from 0 on, or -1 -/
def IdxIs (bss : List (List UInt8)) (w : World) (e : Ending) (w' : World) : Prop := ∃ i : Int, e = .returned (.int .i64 i) ∧ Shh (decide (0 ≤ i) = bss.any longB) ∧ w = w'
set_option maxHeartbeats 1000000 in
theorem indexFunc_any (B g : Nat) (v : Value) (bss : List (List UInt8)) (w : World) (hp : PartsO w B g v bss) (hn : bss.length ≤ 1000) :
    Calls Tryd.prog 103 #[v, .func (.func 55) #[] #[]] w (IdxIs bss w) := by
  unfold IdxIs
  obtain ⟨A, c, rfl⟩ := hp.form
  go_enter Tryd.func103, Tryd.ntmps103
  go_wp2
  go_loop [5, 8] (fun _ i => ∃ k : Nat, k ≤ bss.length ∧ i = .int .i64 k ∧ Hid (∀ j (h : j < bss.length), j < k → longB bss[j] = false)) (fun _ i => bss.length - (intOf i).toNat)
  case atStart => exact ⟨0, Nat.zero_le _, rfl, Lib.hid (fun j _ h => absurd h (Nat.not_lt_zero _))⟩
  case round =>
    obtain ⟨k, hk, rfl, HL⟩ := hrel
    by_cases hlt : k < bss.length
    · obtain ⟨q, off, rfl, _, _, hc⟩ := hp.at_ (by omega)
      obtain ⟨u, hu, hs, _⟩ := hc k hlt
      obtain ⟨A2, c2, rfl, _, _⟩ := hs.form
      have HS : Shh (Sl w B (.slice A2 bss[k].length c2) bss[k]) := ⟨hs⟩
      clear hc hs
      go_wp2_with (go_at_call 55; refine (isLongK B _ bss[k] w HS.out).mono ?_)
      rintro e w2 ⟨rfl, rfl⟩
      cases hb : longB bss[k] with
      | true =>
        have HF : Shh (decide ((0 : Int) ≤ (k : Int)) = bss.any longB) := ⟨by
          have h2 : bss.any longB = true := List.any_eq_true.2 ⟨bss[k], List.getElem_mem hlt, hb⟩
          rw [h2]
          simp⟩
        clear hb HL
        go_wp2
        go_ret
        exact ⟨_, rfl, HF, rfl⟩
      | false =>
        have HF := Lib.hid (show ∀ j (h : j < bss.length), j < k + 1 → longB bss[j] = false from fun j hj hjk => by
          by_cases e : j = k
          · subst e; exact hb
          · exact HL.out j hj (by omega))
        clear hb HL
        go_wp2
        go_round
        case rel => exact ⟨k + 1, by omega, by go_num, HF⟩
        case measure => simp [intOf]; omega
    · obtain rfl : k = bss.length := by omega
      have HF : Shh (decide ((0 : Int) ≤ -1) = bss.any longB) := ⟨by
        have h2 : bss.any longB = false := List.any_eq_false.2 (fun b hb => by
          obtain ⟨j, hj, rfl⟩ := List.getElem_of_mem hb
          simp [HL.out j hj hj])
        rw [h2]
        rfl⟩
      clear HL
      go_wp2
      go_ret
      exact ⟨_, rfl, HF, rfl⟩
theorem contains_any (B g : Nat) (v : Value) (bss : List (List UInt8)) (w : World) (hp : PartsO w B g v bss) (hn : bss.length ≤ 1000) :
    Calls Tryd.prog 90 #[v, .func (.func 55) #[] #[]] w (KeepIs (.bool (bss.any longB)) w) := by
  unfold KeepIs
  obtain ⟨A, c, rfl⟩ := hp.form
  go_enter Tryd.func90, Tryd.ntmps90
  go_wp2_with (go_at_call 103; refine (indexFunc_any B g _ bss w hp hn).mono ?_)
  rintro e w2 ⟨i, rfl, HI, rfl⟩
  go_wp2
  go_ret
  refine ⟨?_, rfl⟩
  rw [← HI.out]
  rfl
/-- the error of entropy and what comes along -/
def fitE (en : List UInt8) (bss : List (List UInt8)) : Int := if en.length < 32 then 50 else if longB en || bss.any longB then 3 else 0
set_option maxHeartbeats 1000000 in
theorem check_any (B g : Nat) (ve vp : Value) (en : List UInt8) (bss : List (List UInt8)) (w : World) (he : Sl w B ve en) (hp : PartsO w B g vp bss) (hn : bss.length ≤ 1000) :
    Calls Tryd.prog 48 #[ve, vp] w (KeepIs (.int .i64 (fitE en bss)) w) := by
  unfold KeepIs
  obtain ⟨A, c, rfl⟩ := hp.form
  obtain ⟨A2, c2, rfl, _, _⟩ := he.form
  have HE : Shh (Sl w B (.slice A2 en.length c2) en) := ⟨he⟩
  by_cases h32 : en.length < 32
  · have HF : Shh (fitE en bss = 50) := ⟨by unfold fitE; rw [if_pos h32]⟩
    rw [HF.out]
    go_enter Tryd.func48, Tryd.ntmps48
    go_wp2
    go_ret
    exact ⟨rfl, rfl⟩
  · have HF : Shh (fitE en bss = if longB en || bss.any longB then 3 else 0) := ⟨by unfold fitE; rw [if_neg h32]⟩
    rw [HF.out]
    have h32i : ¬ (en.length : Int) < 32 := by omega
    clear he
    go_enter Tryd.func48, Tryd.ntmps48
    go_wp2_with (go_at_call 55; refine (isLongK B _ en w HE.out).mono ?_)
    rintro e w2 ⟨rfl, rfl⟩
    cases hb : longB en with
    | true =>
      go_wp2
      all_goals go_ret
      all_goals exact ⟨rfl, rfl⟩
    | false =>
      go_wp2_with (go_at_call 90; refine (contains_any B g _ bss w hp hn).mono ?_)
      rintro e w2 ⟨rfl, rfl⟩
      cases hb2 : bss.any longB with
      | true =>
        go_wp2
        all_goals go_ret
        all_goals exact ⟨rfl, rfl⟩
      | false =>
        go_wp2
        all_goals go_ret
        all_goals exact ⟨rfl, rfl⟩
/-! the counter -/
theorem dr_isMade_any (g c : Nat) (s : List UInt8) (w : World) (h : DAt w g s c) : Calls Tryd.prog 54 #[.pointer (some ⟨g, 0, none⟩)] w (KeepIs (.bool (decide (0 < c))) w) := by
  unfold KeepIs
  have hc := h.cnt
  have q : decide ((0 : Int) < (c : Int)) = decide (0 < c) := by simp
  go_enter Tryd.func54, Tryd.ntmps54
  go_wp2
  go_ret
  first | exact ⟨rfl, rfl⟩ | exact ⟨by rw [q], rfl⟩
theorem dr_isMade_nil (w : World) : Calls Tryd.prog 54 #[.pointer none] w (KeepIs (.bool false) w) := by
  unfold KeepIs
  go_enter Tryd.func54, Tryd.ntmps54
  go_wp2
  go_ret
  exact ⟨rfl, rfl⟩
theorem dr_count_any (g c : Nat) (s : List UInt8) (w : World) (h : DAt w g s c) (h0 : 0 < c) : Calls Tryd.prog 46 #[.pointer (some ⟨g, 0, none⟩)] w (KeepIs (.int .i64 (c : Int)) w) := by
  unfold KeepIs
  have hc := h.cnt
  have q : decide (0 < c) = true := by simpa using h0
  go_enter Tryd.func46, Tryd.ntmps46
  go_wp2_with (go_at_call 54; refine (dr_isMade_any g c s w h).mono ?_)
  rintro e w2 ⟨rfl, rfl⟩
  rw [q]
  go_wp2
  go_ret
  exact ⟨rfl, rfl⟩
theorem dr_count_nil (w : World) : Calls Tryd.prog 46 #[.pointer none] w (KeepIs (.int .i64 0) w) := by
  unfold KeepIs
  go_enter Tryd.func46, Tryd.ntmps46
  go_wp2_with (go_at_call 54; refine (dr_isMade_nil w).mono ?_)
  rintro e w2 ⟨rfl, rfl⟩
  go_wp2
  go_ret
  exact ⟨rfl, rfl⟩
theorem dr_left_any (g c : Nat) (s : List UInt8) (w : World) (h : DAt w g s c) (h0 : 0 < c) (h1 : c ≤ 1025) : Calls Tryd.prog 47 #[.pointer (some ⟨g, 0, none⟩)] w (KeepIs (.int .i64 (1025 - (c : Int))) w) := by
  unfold KeepIs
  have hc := h.cnt
  have q : decide (0 < c) = true := by simpa using h0
  go_enter Tryd.func47, Tryd.ntmps47
  go_wp2_with (go_at_call 54; refine (dr_isMade_any g c s w h).mono ?_)
  rintro e w2 ⟨rfl, rfl⟩
  rw [q]
  go_wp2
  go_ret
  exact ⟨rfl, rfl⟩
theorem dr_left_nil (w : World) : Calls Tryd.prog 47 #[.pointer none] w (KeepIs (.int .i64 0) w) := by
  unfold KeepIs
  go_enter Tryd.func47, Tryd.ntmps47
  go_wp2_with (go_at_call 54; refine (dr_isMade_nil w).mono ?_)
  rintro e w2 ⟨rfl, rfl⟩
  go_wp2
  go_ret
  exact ⟨rfl, rfl⟩
theorem dr_clone_nil (w : World) : Calls Tryd.prog 15 #[.pointer none] w (KeepIs (.pointer none) w) := by
  unfold KeepIs
  go_enter Tryd.func15, Tryd.ntmps15
  go_wp2_with (go_at_call 54; refine (dr_isMade_nil w).mono ?_)
  rintro e w2 ⟨rfl, rfl⟩
  go_wp2
  go_ret
  exact ⟨rfl, rfl⟩
theorem dr_reseed_nil (v1 v2 : Value) (w : World) : Calls Tryd.prog 58 #[.pointer none, v1, v2] w (KeepIs (.int .i64 2) w) := by
  unfold KeepIs
  go_enter Tryd.func58, Tryd.ntmps58
  go_wp2_with (go_at_call 54; refine (dr_isMade_nil w).mono ?_)
  rintro e w2 ⟨rfl, rfl⟩
  go_wp2
  go_ret
  exact ⟨rfl, rfl⟩
theorem dr_draw_nil (v1 v2 : Value) (w : World) : Calls Tryd.prog 16 #[.pointer none, v1, v2] w (KeepIs (.tuple #[.slice none 0 0, .int .i64 2]) w) := by
  unfold KeepIs
  go_enter Tryd.func16, Tryd.ntmps16
  go_wp2_with (go_at_call 54; refine (dr_isMade_nil w).mono ?_)
  rintro e w2 ⟨rfl, rfl⟩
  go_wp2
  go_ret2
  exact ⟨rfl, rfl⟩
end Go.Proofs.YtanpplniedphkaaDoor
