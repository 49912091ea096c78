/-
  PIECES for hss.split: what the loop reckons; slices of uint32 made; slices.Backward.
-/
import Derived.Test.YthahnckjmlcehaaHp6
import Derived.Test.YthahnckjmlcehaaHs9
namespace Go.Proofs.Ythahnckjmlcehaa
open Go.RowKit
set_option maxRecDepth 100000
/-- one round: the leaf of level k, and the index for the levels above -/
def stp (lv : List (Nat × Nat)) (s : Nat × List Nat) (k : Fin lv.length) : Nat × List Nat := (s.1 / 2 ^ lH lv[k].1, s.2.set k.val (s.1 % 2 ^ lH lv[k].1))
def rn (lv : List (Nat × Nat)) (idx : Nat) (pre : List (Fin lv.length)) : Nat × List Nat := pre.foldl (stp lv) (idx, List.replicate lv.length 0)
theorem rn_snoc (lv : List (Nat × Nat)) (idx : Nat) (pre : List (Fin lv.length)) (x : Fin lv.length) : rn lv idx (pre ++ [x]) = stp lv (rn lv idx pre) x := by
  unfold rn
  rw [List.foldl_append]
  rfl
theorem rn_all (lv : List (Nat × Nat)) (idx : Nat) (pre : List (Fin lv.length)) : (rn lv idx pre).1 ≤ idx ∧ (rn lv idx pre).2.length = lv.length := by
  suffices h : ∀ r : List (Fin lv.length), (rn lv idx r.reverse).1 ≤ idx ∧ (rn lv idx r.reverse).2.length = lv.length by
    have := h pre.reverse
    rwa [List.reverse_reverse] at this
  intro r
  induction r with
  | nil => exact ⟨Nat.le_refl _, by simp [rn]⟩
  | cons x r ih =>
    rw [List.reverse_cons, rn_snoc]
    exact ⟨Nat.le_trans (Nat.div_le_self _ _) ih.1, by unfold stp; rw [List.length_set]; exact ih.2⟩
theorem stp_step (lv : List (Nat × Nat)) (idx : Nat) (s : Nat × List Nat) (k0 : Nat) (hk : k0 < lv.length) (e1 : s.1 = preL lv idx (k0 + 1)) (e2 : ∀ k, k < lv.length → k0 + 1 ≤ k → s.2[k]? = some (dgt lv idx k)) (hlen : s.2.length = lv.length) :
    (stp lv s ⟨k0, hk⟩).1 = preL lv idx k0 ∧ ∀ k, k < lv.length → k0 ≤ k → (stp lv s ⟨k0, hk⟩).2[k]? = some (dgt lv idx k) := by
  have hd : dgt lv idx k0 = preL lv idx (k0 + 1) % 2 ^ lH lv[k0].1 := by unfold dgt; rw [getD_lv lv k0 hk]
  have hp : preL lv idx k0 = preL lv idx (k0 + 1) / 2 ^ lH lv[k0].1 := by
    unfold preL
    rw [drop_sum lv k0 hk, Nat.div_div_eq_div_mul, ← Nat.pow_add, Nat.add_comm]
  refine ⟨?_, fun k h1 h2 => ?_⟩
  · show s.1 / 2 ^ lH lv[k0].1 = _
    rw [e1, hp]
  · show (s.2.set k0 (s.1 % 2 ^ lH lv[k0].1))[k]? = _
    by_cases e : k = k0
    · subst e
      rw [List.getElem?_set_self (by omega), e1, hd]
    · rw [List.getElem?_set_ne (by omega)]
      exact e2 k h1 (by omega)
theorem rn_dn (lv : List (Nat × Nat)) (idx t : Nat) (ht : t ≤ lv.length) : (rn lv idx (dnL lv.length t)).1 = preL lv idx (lv.length - t) ∧ ∀ k, k < lv.length → lv.length - t ≤ k → (rn lv idx (dnL lv.length t)).2[k]? = some (dgt lv idx k) := by
  induction t with
  | zero => exact ⟨(pre_end lv idx).symm, fun k h1 h2 => by omega⟩
  | succ t ih =>
    obtain ⟨e1, e2⟩ := ih (by omega)
    have hk : lv.length - 1 - t < lv.length := by omega
    have hk1 : lv.length - t = lv.length - 1 - t + 1 := by omega
    have hk2 : lv.length - (t + 1) = lv.length - 1 - t := by omega
    rw [dnL_succ (by omega), rn_snoc, hk2]
    rw [hk1] at e1 e2
    exact stp_step lv idx _ _ hk e1 e2 (rn_all lv idx _).2
theorem rn_end (lv : List (Nat × Nat)) (idx : Nat) : (rn lv idx (dnL lv.length lv.length)).1 = preL lv idx 0 ∧ (rn lv idx (dnL lv.length lv.length)).2 = splitL lv idx := by
  obtain ⟨e1, e2⟩ := rn_dn lv idx lv.length (Nat.le_refl _)
  rw [Nat.sub_self] at e1 e2
  refine ⟨e1, List.ext_getElem? fun k => ?_⟩
  by_cases hk : k < lv.length
  · rw [e2 k hk (Nat.zero_le _), List.getElem?_eq_getElem (by rw [splitL_length]; exact hk), splitL_get]
  · rw [List.getElem?_eq_none (by rw [(rn_all lv idx _).2]; omega), List.getElem?_eq_none (by rw [splitL_length]; omega)]
/-- cells of uint32 -/
def uC (l : List Nat) : List Value := l.map fun x : Nat => Value.int .u32 (x : Int)
theorem uC_length (l : List Nat) : (uC l).length = l.length := by simp [uC]
theorem uC_set (l : List Nat) (k x : Nat) : (uC l).set k (.int .u32 (x : Int)) = uC (l.set k x) := by simp [uC, List.map_set]
theorem uC_get (l : List Nat) (k : Nat) (h : k < l.length) : (uC l)[k]? = some (.int .u32 ((l[k] : Nat) : Int)) := by simp [uC, h]
theorem info_u32z : (Try.prog.info? 35).map (fun i => (i.zero, i.size, i.bytes)) = some (some (.int .u32 0), 1, 4) := by kernel_rfl
theorem made_u (n : Nat) : madeCells #[.int .u32 0] n = (uC (List.replicate n 0)).toArray := by
  apply Array.ext
  · simp [madeCells, uC]
  · intro i h1 h2
    simp [madeCells, uC, Nat.mod_one]
theorem make_u (n : Nat) (hn : n ≤ 1000) (u : World) : (Instr.makeSlice 32 (.int .i64 (n : Int)) (.int .i64 (n : Int))).run Try.prog u =
    .ok (.slice (some ⟨u.heap.size, 0, none⟩) n n) (u.alloc (.cells (uC (List.replicate n 0)).toArray 35)) := by
  obtain ⟨i0, hi, hz0, hz1, hz2⟩ := info_parts info_u32z
  have h := run_make (P := Try.prog) u 32 35 i0 (.int .u32 0) Try.underlying32 hi hz0 .i64 .i64 (n : Int) (n : Int) (by omega) (Int.le_refl _) (by rw [hz2]; omega) (by omega)
  have e : (n : Int).toNat = n := by omega
  rw [e] at h
  rw [← made_u]
  simpa [hz1, Value.cells] using h
/-- an iterator is handed back -/
def BackIs (v : Value) (w : World) (e : Ending) (w' : World) : Prop := e = .returned (.func (.func 46) #[] #[.pointer (some ⟨w.heap.size, 0, none⟩)]) ∧ w.alloc (.cells #[v] 46) = w'
theorem backward_any (g n c : Nat) (w : World) : Calls Try.prog 35 #[.slice (some ⟨g, 0, none⟩) n c] w (BackIs (.slice (some ⟨g, 0, none⟩) n c) w) := by
  unfold BackIs
  go_enter Try.func35, Try.ntmps35
  go_wp2
  go_ret
  exact ⟨rfl, rfl⟩
/-- where split stands: the index that is left, the leaves so far -/
def SpI (w : World) (lv : List (Nat × Nat)) (idx : Nat) (pre : List (Fin lv.length)) (W : World) : Prop :=
  Boxed W w.heap.size 24 (.int .u64 ((rn lv idx pre).1 : Int)) ∧ Row W (w.heap.size + 1) 35 (uC (rn lv idx pre).2) ∧ Boxed W (w.heap.size + 2) 32 (.slice (some ⟨w.heap.size + 1, 0, none⟩) lv.length lv.length) ∧ Below w.heap.size w W
theorem SpI.go {w W W' : World} {lv : List (Nat × Nat)} {idx : Nat} {pre : List (Fin lv.length)} (h : SpI w lv idx pre W) (b : Below W.heap.size W W') : SpI w lv idx pre W' :=
  ⟨(b.block _ h.1.lt).trans h.1, h.2.1.go b, (b.block _ h.2.2.1.lt).trans h.2.2.1, h.2.2.2.trans (b.mono h.2.2.2.size)⟩
theorem notcells_ne {W : World} {g B : Nat} {T : TypeId} {cs : List Value} {row : Option Nat} (h : Row W g T cs) (hr : ∀ r, row = some r → B ≤ r ∧ ∃ o : Obj, W.heap[r]? = some o ∧ o.isCells = false) : some g ≠ row := by
  intro e
  obtain ⟨_, o, ho, hc⟩ := hr g e.symm
  rw [show W.heap[g]? = _ from h] at ho
  cases ho
  cases hc
theorem Boxed.row1 {W : World} {B : Nat} {t : TypeId} {v : Value} (h : Boxed W B t v) : Row W B t [v] := h
theorem SpI.own (w : World) (lv : List (Nat × Nat)) (idx B : Nat) (hB : w.heap.size ≤ B) : OwnFrom B (SpI w lv idx) := by
  intro pre A C row hs hg hr
  refine ⟨hs.1.kept hg (notcells_ne (Boxed.row1 hs.1) hr), (hg.block _ hs.2.1.lt (notcells_ne hs.2.1 hr)).trans hs.2.1, hs.2.2.1.kept hg (notcells_ne (Boxed.row1 hs.2.2.1) hr), ownFrom_below (Nat.le_refl _) hB pre A C row hs.2.2.2 hg hr⟩
/-- what split hands back -/
def SpE (lv : List (Nat × Nat)) (idx : Nat) : Int := if idx < 2 ^ sumH lv then 0 else 80
def SpIs (lv : List (Nat × Nat)) (idx : Nat) (w : World) (e : Ending) (w' : World) : Prop := ∃ v, e = .returned (.tuple #[v, .int .i64 (SpE lv idx)]) ∧ Below w.heap.size w w' ∧ (SpE lv idx = 0 → Us w' w'.heap.size v (splitL lv idx)) ∧ (SpE lv idx ≠ 0 → v = .slice none 0 0)
theorem pre_pos (lv : List (Nat × Nat)) (idx : Nat) : preL lv idx 0 = 0 ↔ idx < 2 ^ sumH lv := by
  unfold preL
  rw [List.drop_zero]
  have hp := Nat.two_pow_pos (sumH lv)
  constructor
  · intro h
    exact (Nat.div_eq_zero_iff_lt hp).1 h
  · intro h
    exact Nat.div_eq_of_lt h
end Go.Proofs.Ythahnckjmlcehaa
