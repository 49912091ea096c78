/-
  THE WALK of the laws' few; five parts in a row.
-/
import Derived.Test.YtaalmjcpaiihhaaDoorMD
namespace Go.Proofs.YtaalmjcpaiihhaaDoor
open Go.RowKit
set_option maxRecDepth 100000

/-- texts of at most 2000 bytes each -/
def few4B (bss : List (List UInt8)) : Bool := bss.all (fun b => decide (b.length ≤ 2000))
theorem few4_no (bss : List (List UInt8)) (k : Nat) (h : k < bss.length) (hb : 2000 < bss[k].length) : few4B bss = false := by
  unfold few4B
  rw [List.all_eq_false]
  exact ⟨bss[k], List.getElem_mem h, by simp; omega⟩
theorem few4_yes {bss : List (List UInt8)} (h : few4B bss = true) : ∀ b ∈ bss, b.length ≤ 2000 := by
  unfold few4B at h
  simp only [List.all_eq_true, decide_eq_true_eq] at h
  exact h
theorem few4_any (B g : Nat) (v : Value) (bss : List (List UInt8)) (w : World) (hp : PartsO w B g v bss) (hn : bss.length ≤ 9223372036854775807) :
    Calls Tryd.prog 15 #[v] w fun e w' => e = .returned (.bool (few4B bss)) ∧ w' = w := by
  obtain ⟨A, c, rfl⟩ := hp.form
  go_enter Tryd.func15, Tryd.ntmps15
  go_wp2
  go_loop [4, 7] (fun _ i => ∃ k : Nat, k ≤ bss.length ∧ i = .int .i64 k ∧ Hid (∀ j (h : j < bss.length), j < k → bss[j].length ≤ 2000)) (fun _ i => bss.length - (intOf i).toNat)
  case atStart => exact ⟨0, Nat.zero_le _, rfl, Lib.hid (fun j _ h => absurd h (Nat.not_lt_zero _))⟩
  case round =>
    obtain ⟨k, hk, rfl, HL⟩ := hrel
    by_cases hlt : k < bss.length
    · obtain ⟨q, off, rfl, _, _, hc⟩ := hp.at_ (by omega)
      obtain ⟨u, hu, hs, _⟩ := hc k hlt
      obtain ⟨A2, c2, rfl, _, _⟩ := hs.form
      have HN := fun h => few4_no bss k hlt h
      have HK : bss[k].length ≤ 2000 → ∀ j (h : j < bss.length), j < k + 1 → bss[j].length ≤ 2000 := fun h j hj hjk => by
        by_cases e : j = k
        · subst e; exact h
        · exact HL.out j hj (by omega)
      by_cases hb : 2000 < bss[k].length
      · have HF := Lib.hid (HN hb)
        have hb2 : (2000 : Int) < (bss[k].length : Int) := by omega
        clear hc HN HK hs HL
        go_wp2
        go_ret
        exact ⟨by rw [HF.out]; rfl, rfl⟩
      · have HF := Lib.hid (HK (by omega))
        have hb2 : ¬ (2000 : Int) < (bss[k].length : Int) := by omega
        clear hc HN HK hs HL
        go_wp2
        go_round
        case rel => exact ⟨k + 1, by omega, by go_num, HF⟩
        case measure => simp [intOf]; omega
    · obtain rfl : k = bss.length := by omega
      have HF : Hid (few4B bss = true) := Lib.hid (by
        unfold few4B
        have : bss.all (fun b => decide (b.length ≤ 2000)) = true := by
          rw [List.all_eq_true]
          intro b hb
          obtain ⟨j, hj, rfl⟩ := List.getElem_of_mem hb
          simpa using HL.out j hj hj
        exact this)
      clear HL
      go_wp2
      go_ret
      refine ⟨?_, rfl⟩
      rw [HF.out]
      rfl

theorem PartsO.five {w : World} {B g q n : Nat} {T : TypeId} {u1 u2 u3 u4 u5 : Value} {b1 b2 b3 b4 b5 : List UInt8} (hq : q < B) (hg : q ≠ g) (hr : Row w q T [u1, u2, u3, u4, u5]) (h1 : Sl w B u1 b1) (o1 : Off g u1) (h2 : Sl w B u2 b2) (o2 : Off g u2) (h3 : Sl w B u3 b3) (o3 : Off g u3) (h4 : Sl w B u4 b4) (o4 : Off g u4) (h5 : Sl w B u5 b5) (o5 : Off g u5) :
    PartsO w B g (.slice (some ⟨q, 0, none⟩) 5 n) [b1, b2, b3, b4, b5] :=
  ⟨_, n, rfl, fun _ => ⟨q, 0, rfl, hq, hg, fun i hi => by
    match i, hi with
    | 0, _ => exact ⟨u1, hr.cell 0, h1, o1⟩
    | 1, _ => exact ⟨u2, hr.cell 1, h2, o2⟩
    | 2, _ => exact ⟨u3, hr.cell 2, h3, o3⟩
    | 3, _ => exact ⟨u4, hr.cell 3, h4, o4⟩
    | 4, _ => exact ⟨u5, hr.cell 4, h5, o5⟩⟩⟩
end Go.Proofs.YtaalmjcpaiihhaaDoor
