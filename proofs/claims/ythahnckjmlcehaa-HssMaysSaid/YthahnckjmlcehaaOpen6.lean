/-
  ARGUMENTS OPENED: a set by value.
-/
import Derived.Test.YthahnckjmlcehaaLaw
import Derived.Deep.Matrix
import Derived.WideKeyArr2
import Derived.Deep.Grids
namespace Go.Proofs.Ythahnckjmlcehaa
open Go.ChangeShapes Go.WideShapes Go.ChangeAt Go.RowKit
set_option maxRecDepth 100000
section
variable {H : Type} {enc : TypeId × Value → H}
theorem trod_bool6 {P : Program} {w : World} {base : Nat} {spare : Nat → Bool} {held : Bool} {t : TypeId} {fuel : Nat} {v : Value} {y : DataW H × List MemPlace} (ht : P.underlying t = some .bool) (h : DataW.trod enc P w base spare held fuel t [v] = some y) : ∃ b, v = .bool b := by
  cases fuel with
  | zero => simp [DataW.trod] at h
  | succ m =>
    rw [DataW.trod_step] at h
    unfold DataW.trodStep at h
    simp only [ht] at h
    cases v <;> first | exact ⟨_, rfl⟩ | simp at h
theorem cells_u32L : Try.prog.cellsOf 35 = 1 := by kernel_rfl
theorem cells_intL : Try.prog.cellsOf 3 = 1 := by kernel_rfl
theorem cells_lmsL : Try.prog.cellsOf 37 = 4 := by kernel_rfl
theorem open_lms {W : World} {base : Nat} {v : Value} {d : DataW H} {ps : List MemPlace} (hval : Value.okWide Try.prog W .any base 37 v) (h : DataW.Trod enc Try.prog W 0 (fun _ => true) true 37 v d ps) :
    ∃ (c : Int) (s : Bool) (n : Int) (h : Int), v = .agg #[.int .u32 c, .bool s, .int .i64 n, .int .i64 h] ∧ (Lit.int .u32 c).wf = true ∧ (Lit.int .i64 n).wf = true ∧ (Lit.int .i64 h).wf = true := by
  simp only [Value.okWide, Try.underlying37] at hval
  obtain ⟨xs, rfl, hsz, _⟩ := hval
  rw [cells_lmsL] at hsz
  obtain ⟨fuel, hf⟩ := h
  obtain ⟨ys, k, hk, hxy, _, hxl, hfd⟩ := DataW.trod_struct Try.underlying37 hf
  have hzs : xs.toList.length = 4 := by simpa using hsz
  have hag : Value.agg xs = .agg xs.toList.toArray := by simp
  rw [hag]
  simp only [Value.cells] at hfd
  generalize xs.toList = L at hzs hfd ⊢
  match ys, hxl, L, hzs with
  | [y0, y1, y2, y3], _, [u0, u1, u2, u3], _ =>
      have g0 := hfd 0 _ rfl
      have g1 := hfd 1 _ rfl
      have g2 := hfd 2 _ rfl
      have g3 := hfd 3 _ rfl
      simp [cells_intL, cells_bool, cells_u32L] at g0 g1 g2 g3
      obtain ⟨z0, q0, _, w0⟩ := DataW.trod_int Try.underlying35 g0
      simp only [List.cons.injEq, and_true] at q0
      subst q0
      obtain ⟨z1, rfl⟩ := trod_bool6 Try.underlying4 g1
      obtain ⟨z2, q2, _, w2⟩ := DataW.trod_int Try.underlying3 g2
      simp only [List.cons.injEq, and_true] at q2
      subst q2
      obtain ⟨z3, q3, _, w3⟩ := DataW.trod_int Try.underlying3 g3
      simp only [List.cons.injEq, and_true] at q3
      subst q3
      exact ⟨z0, z1, z2, z3, rfl, w0, w2, w3⟩
theorem cells_otsL : Try.prog.cellsOf 39 = 6 := by kernel_rfl
theorem open_ots {W : World} {base : Nat} {v : Value} {d : DataW H} {ps : List MemPlace} (hval : Value.okWide Try.prog W .any base 39 v) (h : DataW.Trod enc Try.prog W 0 (fun _ => true) true 39 v d ps) :
    ∃ (c : Int) (s : Bool) (n : Int) (wd : Int) (p : Int) (l : Int), v = .agg #[.int .u32 c, .bool s, .int .i64 n, .int .i64 wd, .int .i64 p, .int .i64 l] ∧ (Lit.int .u32 c).wf = true ∧ (Lit.int .i64 n).wf = true ∧ (Lit.int .i64 wd).wf = true ∧ (Lit.int .i64 p).wf = true ∧ (Lit.int .i64 l).wf = true := by
  simp only [Value.okWide, Try.underlying39] at hval
  obtain ⟨xs, rfl, hsz, _⟩ := hval
  rw [cells_otsL] at hsz
  obtain ⟨fuel, hf⟩ := h
  obtain ⟨ys, k, hk, hxy, _, hxl, hfd⟩ := DataW.trod_struct Try.underlying39 hf
  have hzs : xs.toList.length = 6 := by simpa using hsz
  have hag : Value.agg xs = .agg xs.toList.toArray := by simp
  rw [hag]
  simp only [Value.cells] at hfd
  generalize xs.toList = L at hzs hfd ⊢
  match ys, hxl, L, hzs with
  | [y0, y1, y2, y3, y4, y5], _, [u0, u1, u2, u3, u4, u5], _ =>
      have g0 := hfd 0 _ rfl
      have g1 := hfd 1 _ rfl
      have g2 := hfd 2 _ rfl
      have g3 := hfd 3 _ rfl
      have g4 := hfd 4 _ rfl
      have g5 := hfd 5 _ rfl
      simp [cells_intL, cells_bool, cells_u32L] at g0 g1 g2 g3 g4 g5
      obtain ⟨z0, q0, _, w0⟩ := DataW.trod_int Try.underlying35 g0
      simp only [List.cons.injEq, and_true] at q0
      subst q0
      obtain ⟨z1, rfl⟩ := trod_bool6 Try.underlying4 g1
      obtain ⟨z2, q2, _, w2⟩ := DataW.trod_int Try.underlying3 g2
      simp only [List.cons.injEq, and_true] at q2
      subst q2
      obtain ⟨z3, q3, _, w3⟩ := DataW.trod_int Try.underlying3 g3
      simp only [List.cons.injEq, and_true] at q3
      subst q3
      obtain ⟨z4, q4, _, w4⟩ := DataW.trod_int Try.underlying3 g4
      simp only [List.cons.injEq, and_true] at q4
      subst q4
      obtain ⟨z5, q5, _, w5⟩ := DataW.trod_int Try.underlying3 g5
      simp only [List.cons.injEq, and_true] at q5
      subst q5
      exact ⟨z0, z1, z2, z3, z4, z5, rfl, w0, w2, w3, w4, w5⟩
end
end Go.Proofs.Ythahnckjmlcehaa
