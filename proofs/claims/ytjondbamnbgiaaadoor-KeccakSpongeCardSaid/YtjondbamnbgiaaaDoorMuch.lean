/-
  WALK: the law's own much.
-/
import Derived.Test.YtjondbamnbgiaaaDoorLive
namespace Go.Proofs.YtjondbamnbgiaaaDoor
open Go.RowKit
set_option maxRecDepth 100000

/-- are these more bytes than are looked at -/
def muchFrom (n : Nat) : List (List UInt8) → Bool
  | [] => false
  | b :: r => decide (2000 < n + b.length) || muchFrom (n + b.length) r
def muchB (bss : List (List UInt8)) : Bool := muchFrom 0 bss || decide (200 < bss.length)
theorem muchFrom_flat : ∀ (bss : List (List UInt8)) (n : Nat), n ≤ 2000 → muchFrom n bss = decide (2000 < n + bss.flatten.length)
  | [], n, h => by simp [muchFrom]; omega
  | b :: r, n, h => by
    rw [muchFrom]
    by_cases hc : 2000 < n + b.length
    · simp only [hc, decide_true, Bool.true_or, List.flatten_cons, List.length_append]
      exact (decide_eq_true (by omega)).symm
    · rw [muchFrom_flat r (n + b.length) (by omega)]
      simp only [hc, decide_false, Bool.false_or, List.flatten_cons, List.length_append, Nat.add_assoc]
theorem much_step (bss : List (List UInt8)) (k t : Nat) (h : k < bss.length) : muchFrom t (bss.drop k) = (decide (2000 < t + bss[k].length) || muchFrom (t + bss[k].length) (bss.drop (k + 1))) := by
  rw [List.drop_eq_getElem_cons h, muchFrom]

set_option maxHeartbeats 1000000 in
theorem much_any (B g : Nat) (v : Value) (bss : List (List UInt8)) (w : World) (hp : PartsO w B g v bss) (hn : bss.length ≤ 281474976710656) (hlen : ∀ i (h : i < bss.length), bss[i].length ≤ 281474976710656) :
    Calls Tryd.prog 15 #[v] w fun e w' => e = .returned (.bool (muchB bss)) ∧ w' = w := by
  obtain ⟨A, c, rfl⟩ := hp.form
  go_enter Tryd.func15, Tryd.ntmps15
  go_wp2
  go_loop [3, 5, 8] (fun n _ i => ∃ k t : Nat, k ≤ bss.length ∧ i = .int .i64 k ∧ n = .int .i64 t ∧ t ≤ 2000 ∧ Hid (muchFrom 0 bss = muchFrom t (bss.drop k))) (fun _ _ i => bss.length - (intOf i).toNat)
  case atStart => exact ⟨0, 0, Nat.zero_le _, rfl, rfl, Nat.zero_le _, Lib.hid rfl⟩
  case round =>
    obtain ⟨k, t, hk, rfl, rfl, ht, HL⟩ := hrel
    by_cases hlt : k < bss.length
    · obtain ⟨q, off, rfl, _, _, hc⟩ := hp.at_ (by omega)
      obtain ⟨u, hu, hs, _⟩ := hc k hlt
      obtain ⟨A2, c2, rfl, _, _⟩ := hs.form
      have hmx := hlen k hlt
      have HS := Lib.hid (much_step bss k t hlt)
      clear hc hs
      generalize hbk : bss[k].length = len at *
      clear hbk
      obtain ⟨t2, ht2, ht3⟩ : ∃ t2 : Nat, (t : Int) + (len : Int) = (t2 : Int) ∧ Hid (t2 = t + len) := ⟨t + len, by omega, Lib.hid rfl⟩
      by_cases hb : 2000 < t2
      · have HF : Hid (muchB bss = true) := Lib.hid (by unfold muchB; rw [HL.out, HS.out, ← ht3.out, decide_eq_true hb]; rfl)
        have hb2 : (2000 : Int) < (t2 : Int) := by omega
        have ht4 := ht3.out
        have ht5 : t2 ≤ 281474976712656 := by omega
        clear HL HS ht4
        go_wp2
        go_ret
        exact ⟨by rw [HF.out]; rfl, rfl⟩
      · have HF : Hid (muchFrom 0 bss = muchFrom t2 (bss.drop (k + 1))) := Lib.hid (by rw [HL.out, HS.out, ← ht3.out, decide_eq_false hb, Bool.false_or])
        have hb2 : ¬ (2000 : Int) < (t2 : Int) := by omega
        clear HL HS ht3
        go_wp2
        go_round
        case rel => exact ⟨k + 1, t2, by omega, by go_num, by go_num, by omega, HF⟩
        case measure => simp [intOf]; omega
    · obtain rfl : k = bss.length := by omega
      have HF : Hid (muchB bss = decide (200 < bss.length)) := Lib.hid (by unfold muchB; rw [HL.out, List.drop_length, muchFrom, Bool.false_or])
      clear HL
      go_wp2
      go_ret
      refine ⟨?_, rfl⟩
      rw [HF.out]
      simp
      try omega
end Go.Proofs.YtjondbamnbgiaaaDoor
