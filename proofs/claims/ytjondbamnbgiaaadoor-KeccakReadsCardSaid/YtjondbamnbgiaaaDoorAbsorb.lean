/-
  WALK: (*keccak.sponge).absorb.
-/
import Derived.Test.YtjondbamnbgiaaaDoorMask
import Derived.Test.YtjondbamnbgiaaaDoorMix
namespace Go.Proofs.YtjondbamnbgiaaaDoor
open Go.RowKit
set_option maxRecDepth 100000

theorem permOk : PermOk := fun s w hs hv => permute_of (fun l w h => mix_any l w h) s hs w hv
theorem next_any {w : World} {g o : Nat} {T : TypeId} {pre post : List Value} {s : Sp} {rate : Nat} (h : SpAt w g o T pre s rate post) (hv : Vars w) (ha : s.at_ ≤ rate) (hr2 : rate ≤ 200) :
    Calls Tryd.prog 44 #[.pointer (some ⟨g, o, none⟩)] w (NextIs w g o T pre s rate post) := next_of permOk h hv ha hr2

theorem Sp.next_at (s : Sp) (rate : Nat) (ha : s.at_ ≤ rate) (hr : 0 < rate) : 0 < (s.next rate).at_ ∧ (s.next rate).at_ ≤ rate := by
  by_cases hc : s.at_ = rate
  · rw [Sp.next_full _ _ hc]; exact ⟨Nat.one_pos, hr⟩
  · rw [Sp.next_more _ _ hc]; show 0 < s.at_ + 1 ∧ s.at_ + 1 ≤ rate; omega
theorem Sp.puts_at (rate : Nat) (hr : 0 < rate) (l : List UInt8) : ∀ s : Sp, s.at_ ≤ rate → (s.puts rate l).at_ ≤ rate := by
  induction l with
  | nil => intro s h; exact h
  | cons b r ih => intro s h; exact ih _ (s.next_at rate h hr).2
theorem Sp.puts_append (rate : Nat) (l m : List UInt8) : ∀ s : Sp, s.puts rate (l ++ m) = (s.puts rate l).puts rate m := by
  induction l with
  | nil => intro s; rfl
  | cons b r ih => intro s; exact ih _
theorem Sp.puts_take (rate : Nat) (s : Sp) (bs : List UInt8) (k : Nat) (h : k < bs.length) : s.puts rate (bs.take (k + 1)) = (s.puts rate (bs.take k)).put rate bs[k] := by
  rw [List.take_succ_eq_append_getElem h, Sp.puts_append]
  rfl

set_option maxHeartbeats 1000000 in
theorem absorb_any {w : World} {g o : Nat} {T : TypeId} {pre post : List Value} {s : Sp} {rate : Nat} (h : SpAt w g o T pre s rate post) (hv : Vars w) (hg : 0 ≠ g) (ha : s.at_ ≤ rate) (hr : 0 < rate) (hr2 : rate ≤ 200) (bs : List UInt8) (B : Nat) (v : Value) (hs : Sl w B v bs) (hB : B ≤ w.heap.size) (hof : Off g v) :
    Calls Tryd.prog 42 #[.pointer (some ⟨g, o, none⟩), v] w (SpIs w g o T pre (s.puts rate bs) rate post) := by
  unfold SpIs
  obtain ⟨A, c, hA, hc1, hc2, -⟩ := id hs
  have hmx := Nat.le_trans hc1 hc2
  unfold maxLen at hmx
  subst hA
  go_enter Tryd.func42, Tryd.ntmps42
  go_wp2
  go_loopw [5, 8] (fun _ i wr => ∃ k : Nat, k ≤ bs.length ∧ i = .int .i64 k ∧ SpAt wr g o T pre (s.puts rate (bs.take k)) rate post ∧ Vars wr ∧ But w.heap.size g w wr) (fun _ i _ => bs.length - (intOf i).toNat)
  case atStart => exact ⟨0, Nat.zero_le _, rfl, h, hv, But.refl _ _ _⟩
  case round =>
    clear h hv
    obtain ⟨k, hk, rfl, hh, hv, hbut⟩ := hrel
    by_cases hlt : k < bs.length
    · have hsr := hs.but hof (hbut.mono hB)
      obtain ⟨A', c', hA', -, -, hc⟩ := hsr
      cases hA'
      obtain ⟨b, off, rfl, hbB, hcc⟩ := hc (by omega)
      have hcell := hcc k hlt
      have HF := Lib.hid (Sp.puts_take rate s bs k hlt)
      have hat := Sp.puts_at rate hr (bs.take k) s ha
      clear hc hcc hs
      generalize bs[k] = bk at *
      generalize s.puts rate (bs.take k) = sk at *
      have hna := sk.next_at rate hat hr
      go_wp2_with (go_at_call 44; refine (next_any hh hv hat hr2).mono ?_)
      rintro e w1 ⟨rfl, hh1, hb1⟩
      go_wp2_with (go_at_call 43; refine (mask_any hh1 ((sk.next rate).at_ - 1) (by omega) bk).mono ?_)
      rintro e w2 ⟨rfl, hh2, hb2⟩
      go_wp2
      go_roundw
      case rel => exact ⟨k + 1, by omega, by go_num, by rw [HF.out]; exact hh2, (hv.but hb1 hg).but hb2 hg, (hbut.chain hb1).chain hb2⟩
      case measure => simp [intOf]; omega
    · obtain rfl : k = bs.length := by omega
      rw [List.take_length] at hh
      go_wp2
      go_end0
      exact ⟨rfl, hh, hbut⟩
end Go.Proofs.YtjondbamnbgiaaaDoor
