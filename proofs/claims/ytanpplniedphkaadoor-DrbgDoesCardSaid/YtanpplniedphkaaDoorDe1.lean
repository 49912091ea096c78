/-
  WALKS: the document's own filled, fits.
-/
import Derived.Test.YtanpplniedphkaaDoorDrMuch
namespace Go.Proofs.YtanpplniedphkaaDoor
open Go.RowKit
set_option maxRecDepth 100000
theorem fill_set (x : UInt8) (k n : Nat) (h : k < n) : (List.replicate k x ++ List.replicate (n - k) (0 : UInt8)).set k x = List.replicate (k + 1) x ++ List.replicate (n - (k + 1)) 0 := by
  rw [List.set_append_right _ _ (by simp), List.length_replicate, Nat.sub_self, show n - k = (n - (k + 1)) + 1 by omega, List.replicate_succ, List.set_cons_zero, List.replicate_succ', List.append_assoc]
  rfl
set_option maxHeartbeats 1000000 in
theorem filled_any (x : UInt8) (w : World) : Calls Tryd.prog 53 #[.int .u8 (x.toNat : Int)] w (SlIs w (List.replicate 32 x)) := by
  unfold SlIs
  have hmk : ∀ u, (Instr.makeSlice 22 (.int .i64 32) (.int .i64 32)).run Tryd.prog u = .ok (.slice (some ⟨u.heap.size, 0, none⟩) 32 32) (u.alloc (.cells (Lib.byteCells (List.replicate 32 0)).toArray 5)) := make_run 32 (by omega)
  generalize hN : w.heap.size = N at *
  go_enter Tryd.func53, Tryd.ntmps53
  go_wp2
  go_loopw [4, 8] (fun _ i wr => ∃ k : Nat, k ≤ 32 ∧ i = .int .i64 k ∧ Row wr N 5 (Lib.byteCells (List.replicate k x ++ List.replicate (32 - k) 0)) ∧ Below N w wr) (fun _ i _ => 32 - (intOf i).toNat)
  case atStart => exact ⟨0, by omega, rfl, Row.new_ hN.symm (by simp), (Below.refl N w).alloc (by omega) _⟩
  case round =>
    obtain ⟨k, hk, rfl, hr, hbel⟩ := hrel
    by_cases hlt : k < 32
    · have hil : (List.replicate k x ++ List.replicate (32 - k) (0 : UInt8)).length = 32 := by simp; omega
      obtain ⟨y, hc⟩ : ∃ y : UInt8, wr.cell? ⟨N, k, none⟩ = some (.int .u8 (y.toNat : Int)) := ⟨(List.replicate k x ++ List.replicate (32 - k) (0 : UInt8))[k]'(by omega), by rw [hr.cell, byteCells_get _ _ (by omega)]⟩
      have hf := hr.free k
      have hset := hr.set_ k (.int .u8 (x.toNat : Int))
      have hset2 : (Lib.byteCells (List.replicate k x ++ List.replicate (32 - k) (0 : UInt8))).set k (.int .u8 (x.toNat : Int)) = Lib.byteCells (List.replicate (k + 1) x ++ List.replicate (32 - (k + 1)) 0) := by
        rw [← fill_set x k 32 hlt]
        simp [Lib.byteCells, List.map_set]
      rw [hset2] at hset
      have HS : Shh (Row (wr.setCell ⟨N, k, none⟩ (.int .u8 (x.toNat : Int))) N 5 (Lib.byteCells (List.replicate (k + 1) x ++ List.replicate (32 - (k + 1)) 0)) ∧ Below N w (wr.setCell ⟨N, k, none⟩ (.int .u8 (x.toNat : Int)))) := ⟨hset, hbel.setCell (Nat.le_refl _) _⟩
      clear hset hset2 hr hbel hil
      go_wp2
      go_roundw
      case rel => exact ⟨k + 1, by omega, by go_num, HS.out⟩
      case measure => simp [intOf]; omega
    · obtain rfl : k = 32 := by omega
      have HE : Shh (Sl wr wr.heap.size (.slice (some ⟨N, 0, none⟩) 32 32) (List.replicate 32 x) ∧ Below N w wr) := ⟨Row.sl (bs := List.replicate 32 x) (by simpa using hr) (by simp) (by omega), hbel⟩
      clear hr hbel
      go_wp2
      go_ret
      exact ⟨_, rfl, HE.out⟩
set_option maxHeartbeats 1000000 in
theorem fits_any (B g : Nat) (ve vp : Value) (en : List UInt8) (bss : List (List UInt8)) (w : World) (he : Sl w B ve en) (hp : PartsO w B g vp bss) (hn : bss.length ≤ 1000) :
    Calls Tryd.prog 51 #[ve, vp] w (KeepIs (.int .i64 (fitE en bss)) w) := by
  unfold KeepIs
  obtain ⟨A, c, rfl⟩ := hp.form
  obtain ⟨A2, c2, rfl, _, _⟩ := he.form
  clear he
  by_cases h32 : en.length < 32
  · have HF : Shh (fitE en bss = 50) := ⟨by unfold fitE; rw [if_pos h32]⟩
    rw [HF.out]
    have h32i : (en.length : Int) < 32 := by omega
    go_enter Tryd.func51, Tryd.ntmps51
    go_wp2
    go_ret
    exact ⟨rfl, rfl⟩
  · have h32i : ¬ (en.length : Int) < 32 := by omega
    by_cases h4 : 4096 < en.length
    · have HF : Shh (fitE en bss = 3) := ⟨by unfold fitE; rw [if_neg h32]; simp [longB, h4]⟩
      rw [HF.out]
      have h4i : (4096 : Int) < (en.length : Int) := by omega
      go_enter Tryd.func51, Tryd.ntmps51
      go_wp2
      go_ret
      exact ⟨rfl, rfl⟩
    · have h4i : ¬ (4096 : Int) < (en.length : Int) := by omega
      have HF : Shh (fitE en bss = if bss.any longB then 3 else 0) := ⟨by unfold fitE; rw [if_neg h32]; simp [longB, h4]⟩
      go_enter Tryd.func51, Tryd.ntmps51
      go_wp2
      go_loop [6, 15] (fun _ i => ∃ k : Nat, k ≤ bss.length ∧ i = .int .i64 k ∧ Hid (∀ j (h : j < bss.length), j < k → longB bss[j] = false)) (fun _ i => bss.length - (intOf i).toNat)
      case atStart => exact ⟨0, Nat.zero_le _, rfl, Lib.hid (fun j _ h => absurd h (Nat.not_lt_zero _))⟩
      case round =>
        obtain ⟨k, hk, rfl, HL⟩ := hrel
        by_cases hlt : k < bss.length
        · obtain ⟨q, off, rfl, _, _, hc⟩ := hp.at_ (by omega)
          obtain ⟨u, hu, hs, _⟩ := hc k hlt
          obtain ⟨A3, c3, rfl, _, _⟩ := hs.form
          clear hc hs
          by_cases hb : 4096 < bss[k].length
          · have HG : Shh (bss.any longB = true) := ⟨List.any_eq_true.2 ⟨bss[k], List.getElem_mem hlt, by simpa [longB] using hb⟩⟩
            have hbi : (4096 : Int) < (bss[k].length : Int) := by omega
            clear HL
            go_wp2
            go_ret
            exact ⟨by rw [HF.out, HG.out]; rfl, rfl⟩
          · have HG := Lib.hid (show ∀ j (h : j < bss.length), j < k + 1 → longB bss[j] = false from fun j hj hjk => by
              by_cases e : j = k
              · subst e; simpa [longB] using hb
              · exact HL.out j hj (by omega))
            have hbi : ¬ (4096 : Int) < (bss[k].length : Int) := by omega
            clear HL
            go_wp2
            go_round
            case rel => exact ⟨k + 1, by omega, by go_num, HG⟩
            case measure => simp [intOf]; omega
        · obtain rfl : k = bss.length := by omega
          have HG : Shh (bss.any longB = false) := ⟨List.any_eq_false.2 (fun b hb => by
            obtain ⟨j, hj, rfl⟩ := List.getElem_of_mem hb
            simp [HL.out j hj hj])⟩
          clear HL
          go_wp2
          go_ret
          exact ⟨by rw [HF.out, HG.out]; rfl, rfl⟩
/-! the states of both -/
theorem keyL_step (s : List UInt8) (h : s.length = 64) : keyL (stepL s) = keyL s := by
  unfold stepL keyL
  rw [List.drop_zero, List.drop_zero, List.append_assoc, List.take_append_of_le_length (by simp; omega), List.take_take, Nat.min_self]
theorem valL_step (s : List UInt8) (h : s.length = 64) : valL (stepL s) = macB (keyL s) (valL s) := by
  have h2 : (s.take 32).length = 32 := by simp; omega
  have h3 : s.drop 64 = [] := List.drop_of_length_le (by omega)
  show ((stepL s).drop 32).take 32 = _
  unfold stepL
  rw [h3, List.append_nil]
  have : (List.take 32 s ++ macB (keyL s) (valL s)).drop 32 = macB (keyL s) (valL s) := by
    have h5 := List.drop_left (l₁ := s.take 32) (l₂ := macB (keyL s) (valL s))
    rw [h2] at h5
    exact h5
  rw [this, List.take_of_length_le (by rw [macB_length]; omega)]
theorem mix_key (p : UInt8) (text s : List UInt8) (h : s.length = 64) : keyL (mixL p text s) = macB (keyL s) (valL s ++ p :: text) ∧ valL (mixL p text s) = macB (macB (keyL s) (valL s ++ p :: text)) (valL s) := by
  have hm := macB_length (keyL s) (valL s ++ p :: text)
  have hl : (s.take 0 ++ macB (keyL s) (valL s ++ p :: text) ++ s.drop 32).length = 64 := by simp [hm]; omega
  have hk : keyL (s.take 0 ++ macB (keyL s) (valL s ++ p :: text) ++ s.drop 32) = macB (keyL s) (valL s ++ p :: text) := by
    have h5 := List.take_left (l₁ := macB (keyL s) (valL s ++ p :: text)) (l₂ := s.drop 32)
    rw [hm] at h5
    rw [List.take_zero, List.nil_append]
    show List.take 32 (List.drop 0 _) = _
    rw [List.drop_zero]
    exact h5
  have hv : valL (s.take 0 ++ macB (keyL s) (valL s ++ p :: text) ++ s.drop 32) = valL s := by
    have h5 := List.drop_left (l₁ := macB (keyL s) (valL s ++ p :: text)) (l₂ := s.drop 32)
    rw [hm] at h5
    rw [List.take_zero, List.nil_append]
    show List.take 32 (List.drop 32 _) = _
    rw [h5]
    rfl
  unfold mixL
  rw [keyL_step _ hl, valL_step _ hl, hk, hv]
  exact ⟨rfl, rfl⟩
end Go.Proofs.YtanpplniedphkaaDoor
