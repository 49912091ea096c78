/-
  SLICES OF CODES: read, compared, searched; the laws' codes.
-/
import Derived.Test.YtanpplniedphkaaDoorPf2
import Derived.Test.YtanpplniedphkaaDoorPa7
import Derived.BigQuiet
namespace Go.Proofs.YtanpplniedphkaaDoor
open Go.RowKit Go.Shelf
set_option maxRecDepth 100000
theorem below_drewN {B : Nat} {a w : World} (h : Below B a w) (n : Nat) : Below B a (w.drewN n) := ⟨h.os, h.tape, h.output, h.size, h.block⟩
/-- v is a slice that reads as the numbers l -/
def SU (w : World) (v : Value) (l : List Nat) : Prop := ∃ a cap, v = .slice a l.length cap ∧ ((a = none ∧ l = [] ∧ cap = 0) ∨ ∃ g, a = some ⟨g, 0, none⟩ ∧ g < w.heap.size ∧ l.length ≤ cap ∧ cap ≤ maxLen ∧ ∀ j (h : j < l.length), w.cell? ⟨g, j, none⟩ = some (.int .u32 ((l[j] : Nat) : Int)))
theorem SU.go {w w' : World} {v : Value} {l : List Nat} (h : SU w v l) (b : Below w.heap.size w w') : SU w' v l := by
  obtain ⟨a, cap, rfl, h⟩ := h
  refine ⟨a, cap, rfl, ?_⟩
  rcases h with h | ⟨g, rfl, hg, hc1, hc2, h⟩
  · exact .inl h
  · exact .inr ⟨g, rfl, Nat.lt_of_lt_of_le hg b.size, hc1, hc2, fun j hj => (b.cell (p := ⟨g, j, none⟩) hg).trans (h j hj)⟩
theorem SU.of_own {w : World} {base : Nat} {v : Value} {l : List C32} (h : OwnU w base v l) : SU w v (l.map (·.1)) := by
  rcases h with ⟨hl, ⟨rfl, h0⟩ | ⟨g, cap, cur, rfl, _, hgb, hc, hc2, hs, ht⟩⟩
  · obtain rfl : l = [] := List.eq_nil_of_length_eq_zero h0
    exact ⟨none, 0, rfl, .inl ⟨rfl, rfl, rfl⟩⟩
  · have hlt := Array.getElem?_eq_some_iff.1 hgb
    refine ⟨some ⟨g, 0, none⟩, cap, by simp, .inr ⟨g, rfl, hlt.1, by simpa using hc, hc2, fun j hj => ?_⟩⟩
    rw [List.length_map] at hj
    have h2 : cur[j]? = some (.int .u32 (((l.map (·.1))[j]'(by simpa using hj) : Nat) : Int)) := by
      have e : (cur.toList.take (l.length * 1))[j]? = (l.map fun x => Value.int .u32 (x.1 : Int))[j]? := by rw [ht]
      rw [List.getElem?_take_of_lt (by omega), Array.getElem?_toList] at e
      rw [e]
      simp [hj]
    simpa [World.cell?, hgb] using h2
/-- a slice of numbers is handed back -/
def SeeIs (w : World) (l : List Nat) (e : Ending) (w' : World) : Prop := ∃ v, e = .returned v ∧ SU w' v l ∧ Below w.heap.size w w'
theorem SU.form {w : World} {v : Value} {l : List Nat} (h : SU w v l) : ∃ a cap, v = .slice a l.length cap := by
  obtain ⟨a, cap, rfl, _⟩ := h
  exact ⟨a, cap, rfl⟩
theorem SU.at_ {w : World} {a : Option Addr} {n cap : Nat} {l : List Nat} (h : SU w (.slice a n cap) l) (hl : 0 < l.length) : ∃ g, a = some ⟨g, 0, none⟩ ∧ l.length ≤ cap ∧ cap ≤ maxLen ∧ g < w.heap.size ∧ ∀ j (h : j < l.length), w.cell? ⟨g, j, none⟩ = some (.int .u32 ((l[j] : Nat) : Int)) := by
  obtain ⟨a', cap', e, h⟩ := h
  cases e
  rcases h with ⟨_, rfl, _⟩ | ⟨g, rfl, hg, hc1, hc2, h⟩
  · simp at hl
  · exact ⟨g, rfl, hc1, hc2, hg, h⟩
set_option maxHeartbeats 1000000 in
theorem equal_u32 (v u : Value) (l m : List Nat) (w : World) (hv : SU w v l) (hu : SU w u m) (hl : l.length ≤ 1000000) (hm : m.length ≤ 1000000) :
    Calls Tryd.prog 26 #[v, u] w (OldIs (.bool (decide (l = m))) w) := by
  unfold OldIs
  obtain ⟨a, ca, rfl⟩ := hv.form
  obtain ⟨b, cb, rfl⟩ := hu.form
  have HV := Shh.mk hv
  have HU := Shh.mk hu
  clear hv hu
  by_cases hlen : l.length = m.length
  · have hc : ((l.length : Int) == (m.length : Int)) = true := by simp [hlen]
    go_enter Tryd.func26, Tryd.ntmps26
    go_wp2
    go_loopw [5, 13] (fun _ i wr => ∃ k : Nat, k ≤ l.length ∧ i = .int .i64 (k : Int) ∧ Shh ((∀ j (h : j < l.length) (h' : j < m.length), j < k → l[j] = m[j]) ∧ Below w.heap.size w wr)) (fun _ i _ => l.length - (intOf i).toNat)
    case atStart => exact ⟨0, Nat.zero_le _, rfl, ⟨fun j _ _ h => absurd h (Nat.not_lt_zero _), Below.refl _ _⟩⟩
    case round =>
      obtain ⟨k, hk, rfl, HL⟩ := hrel
      by_cases hlt : k < l.length
      · have HS : Shh (l.length = m.length) := ⟨hlen⟩
        have hlt2 : k < m.length := by omega
        obtain ⟨g, rfl, hca, hca2, hg, hcell⟩ := (HV.out.go HL.out.2).at_ (by omega)
        obtain ⟨q, rfl, hcb, hcb2, hq, hcell2⟩ := (HU.out.go HL.out.2).at_ (by omega)
        have hx := hcell k hlt
        have hy := hcell2 k hlt2
        clear hcell hcell2
        obtain ⟨x, hxe⟩ : ∃ x, l[k] = x := ⟨_, rfl⟩
        obtain ⟨y, hye⟩ : ∃ y, m[k] = y := ⟨_, rfl⟩
        rw [hxe] at hx
        rw [hye] at hy
        by_cases e : x = y
        · have HF : Shh ((∀ j (h : j < l.length) (h' : j < m.length), j < k + 1 → l[j] = m[j]) ∧ Below w.heap.size w wr.drew) := ⟨fun j hj hj2 hjk => by
            by_cases e2 : j = k
            · subst e2; rw [hxe, hye, e]
            · exact HL.out.1 j hj hj2 (by omega), HL.out.2.drew⟩
          have ee : ((x : Int) != (y : Int)) = false := by simp [e]
          clear hxe hye HL hlen e
          go_wp2
          go_region
          go_wp2
          go_roundw
          case rel => exact ⟨k + 1, by omega, by go_num, HF⟩
          case measure => simp [intOf]; omega
        · have HF : Shh (decide (l = m) = false ∧ Below w.heap.size w wr.drew) := ⟨decide_eq_false (fun h => e (by subst h; rw [← hxe, ← hye])), HL.out.2.drew⟩
          have ee : ((x : Int) != (y : Int)) = true := by simp; omega
          clear hxe hye HL hlen e
          go_wp2
          go_region
          go_wp2
          go_ret
          exact ⟨by rw [HF.out.1]; rfl, HF.out.2⟩
      · have HF : Shh (decide (l = m) = true ∧ Below w.heap.size w wr) := ⟨decide_eq_true (List.ext_getElem hlen (fun j h1 h2 => HL.out.1 j h1 h2 (by omega))), HL.out.2⟩
        have hlt2 : ¬ k < m.length := by omega
        clear HL hlen
        go_wp2
        go_ret
        exact ⟨by rw [HF.out.1]; rfl, HF.out.2⟩
  · have hc : ((l.length : Int) == (m.length : Int)) = false := by simp; omega
    have HF : Shh (decide (l = m) = false) := ⟨decide_eq_false (fun h => hlen (by rw [h]))⟩
    clear hlen
    go_enter Tryd.func26, Tryd.ntmps26
    go_wp2
    go_ret
    exact ⟨by rw [HF.out]; rfl, Below.refl _ _⟩
/-- some number is c: its index; or -1 -/
def HasIs (c : Nat) (l : List Nat) (w : World) (e : Ending) (w' : World) : Prop := ∃ i : Int, e = .returned (.int .i64 i) ∧ Shh (0 ≤ i ↔ c ∈ l) ∧ w = w'
set_option maxHeartbeats 1000000 in
theorem index_u32 (v : Value) (l : List Nat) (c : Nat) (w : World) (hv : SU w v l) (hl : l.length ≤ 1000000) :
    Calls Tryd.prog 88 #[v, .int .u32 (c : Int)] w (HasIs c l w) := by
  unfold HasIs
  obtain ⟨a, ca, rfl⟩ := hv.form
  have HV := Shh.mk hv
  clear hv
  go_enter Tryd.func88, Tryd.ntmps88
  go_wp2
  go_loop [5, 8] (fun _ i => ∃ k : Nat, k ≤ l.length ∧ i = .int .i64 (k : Int) ∧ Shh (∀ j (h : j < l.length), j < k → l[j] ≠ c)) (fun _ i => l.length - (intOf i).toNat)
  case atStart => exact ⟨0, Nat.zero_le _, rfl, ⟨fun j _ h => absurd h (Nat.not_lt_zero _)⟩⟩
  case round =>
    obtain ⟨k, hk, rfl, HL⟩ := hrel
    by_cases hlt : k < l.length
    · obtain ⟨g, rfl, hca, hca2, hg, hcell⟩ := HV.out.at_ (by omega)
      have hx := hcell k hlt
      clear hcell
      obtain ⟨x, hxe⟩ : ∃ x, l[k] = x := ⟨_, rfl⟩
      rw [hxe] at hx
      by_cases e : c = x
      · have HF : Shh ((0 : Int) ≤ (k : Int) ↔ c ∈ l) := ⟨by
          have h2 : c ∈ l := by rw [e, ← hxe]; exact List.getElem_mem hlt
          simp [h2]⟩
        have ee : ((c : Int) == (x : Int)) = true := by simp [e]
        clear hxe HL e
        go_wp2
        go_ret
        exact ⟨_, rfl, HF, rfl⟩
      · have HF : Shh (∀ j (h : j < l.length), j < k + 1 → l[j] ≠ c) := ⟨fun j hj hjk => by
          by_cases e2 : j = k
          · subst e2; rw [hxe]; exact fun h => e h.symm
          · exact HL.out j hj (by omega)⟩
        have ee : ((c : Int) == (x : Int)) = false := by simp; omega
        clear hxe HL e
        go_wp2
        go_round
        case rel => exact ⟨k + 1, by omega, by go_num, HF⟩
        case measure => simp [intOf]; omega
    · have HF : Shh ((0 : Int) ≤ -1 ↔ c ∈ l) := ⟨by
        have h2 : ¬ c ∈ l := fun h => by
          obtain ⟨j, hj, e⟩ := List.getElem_of_mem h
          exact HL.out j hj (by omega) e
        simp [h2]⟩
      clear HL
      go_wp2
      go_ret
      exact ⟨_, rfl, HF, rfl⟩
theorem contains_u32 (v : Value) (l : List Nat) (c : Nat) (w : World) (hv : SU w v l) (hl : l.length ≤ 1000000) :
    Calls Tryd.prog 44 #[v, .int .u32 (c : Int)] w (StayIs (.bool (decide (c ∈ l))) w) := by
  unfold StayIs
  go_enter Tryd.func44, Tryd.ntmps44
  go_wp2_with (go_at_call 88; refine (index_u32 v l c w hv hl).mono ?_)
  unfold HasIs
  rintro e w2 ⟨i, rfl, HI, rfl⟩
  go_wp2
  go_ret
  exact ⟨by simp [HI.out], rfl⟩
theorem nan_u32 (x : Nat) (w : World) : Calls Tryd.prog 102 #[.int .u32 (x : Int)] w (StayIs (.bool false) w) := by
  unfold StayIs
  have ee : ((x : Int) != (x : Int)) = false := by simp
  go_enter Tryd.func102, Tryd.ntmps102
  go_wp2
  go_ret
  exact ⟨by simp, rfl⟩
theorem less_u32 (x y : Nat) (w : World) : Calls Tryd.prog 89 #[.int .u32 (x : Int), .int .u32 (y : Int)] w (StayIs (.bool (decide (x < y))) w) := by
  unfold StayIs
  go_enter Tryd.func89, Tryd.ntmps89
  go_wp2_with (go_at_call 102; refine (nan_u32 x _).mono ?_)
  unfold StayIs
  rintro e w2 ⟨rfl, rfl⟩
  go_wp2
  go_ret
  exact ⟨by simp, rfl⟩
set_option maxHeartbeats 1000000 in
theorem sorted_u32 (v : Value) (l : List Nat) (w : World) (hv : SU w v l) (hl : l.length ≤ 1000000) (hs : ∀ i (h : i < l.length), 0 < i → l[i - 1] ≤ l[i]) :
    Calls Tryd.prog 45 #[v] w (OldIs (.bool true) w) := by
  unfold OldIs
  obtain ⟨a, ca, rfl⟩ := hv.form
  have HV := Shh.mk hv
  have HS := Shh.mk hs
  clear hv hs
  go_enter Tryd.func45, Tryd.ntmps45
  go_wp2
  go_loopw [3] (fun i wr => ∃ k : Int, -1 ≤ k ∧ k < (l.length : Int) ∧ i = .int .i64 k ∧ Shh (Below w.heap.size w wr)) (fun i _ => (intOf i).toNat)
  case atStart => exact ⟨(l.length : Int) - 1, by omega, by omega, by go_num, ⟨Below.refl _ _⟩⟩
  case round =>
    obtain ⟨k, hk, hk2, rfl, HL⟩ := hrel
    by_cases hlt : 0 < k
    · obtain ⟨j, rfl⟩ := Int.eq_ofNat_of_zero_le (a := k) (by omega)
      have hj : j < l.length := by omega
      have hj2 : j - 1 < l.length := by omega
      obtain ⟨g, rfl, hca, hca2, hg, hcell⟩ := (HV.out.go HL.out).at_ (by omega)
      have hx := hcell j hj
      have hy := hcell (j - 1) hj2
      have hle := HS.out j hj (by omega)
      clear hcell
      obtain ⟨x, hxe⟩ : ∃ x, l[j] = x := ⟨_, rfl⟩
      obtain ⟨y, hye⟩ : ∃ y, l[j - 1] = y := ⟨_, rfl⟩
      rw [hxe] at hx hle
      rw [hye] at hy hle
      clear hxe hye
      have hj1 : (j : Int) - 1 = ((j - 1 : Nat) : Int) := by omega
      have HF : Shh (∀ n, Below w.heap.size w (wr.drewN n)) := ⟨fun n => below_drewN HL.out n⟩
      have hless : ∀ W, Calls Tryd.prog 89 #[.int .u32 (x : Int), .int .u32 (y : Int)] W (fun e w' => e = .returned (.bool false) ∧ w' = W) := fun W => by
        have h := less_u32 x y W
        rw [decide_eq_false (by omega)] at h
        exact h.mono (fun _ _ k => ⟨k.1, k.2.symm⟩)
      clear HL
      go_wp2
      go_quiet (first | (go_at_call 89; refine Calls.quiet_of_same (hless _)))
      go_wp2
      go_roundw
      case rel => exact ⟨(j : Int) - 1, by omega, by omega, by go_num, ⟨HF.out _⟩⟩
      case measure => simp [intOf]; omega
    · clear HV HS
      have HF : Shh (Below w.heap.size w wr) := ⟨HL.out⟩
      clear HL
      go_wp2
      go_ret
      exact ⟨rfl, HF.out⟩
end Go.Proofs.YtanpplniedphkaaDoor
