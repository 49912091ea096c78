/-
  EQUALITY OF ARRAYS of bytes and of words.
-/
import Derived.Test.YtjondbamnbgiaaaDoorParts
import Derived.Test.YtjondbamnbgiaaaDoorKMath
import Derived.DeepKeys
namespace Go.Proofs.YtjondbamnbgiaaaDoor
open Go.RowKit
set_option maxRecDepth 100000

theorem mapM_all {α β : Type} (f : α → Option β) (g : α → β) (l : List α) (h : ∀ i ∈ l, f i = some (g i)) : l.mapM f = some (l.map g) := by
  induction l with
  | nil => rfl
  | cons x r ih =>
    rw [List.mapM_cons, h x (List.mem_cons_self ..), ih (fun i hi => h i (List.mem_cons_of_mem _ hi))]
    rfl
theorem flat_single {α β : Type} (g : α → β) (l : List α) : (l.map fun i => [g i]).flatten = l.map g := by
  induction l with
  | nil => rfl
  | cons x r ih =>
    rw [List.map_cons, List.flatten_cons, ih]
    rfl
theorem keyLits_arr {P : Program} {k : IntKind} {T e : TypeId} {n d : Nat} (hT : P.underlying T = some (.array n e)) (he : P.underlying e = some (.int k)) (hce : P.cellsOf e = 1) (hcT : P.cellsOf T = n)
    (xs : List Int) (hx : xs.length = n) (hw : ∀ x ∈ xs, (Lit.int k x).wf = true) : P.keyLits (d + 2) T (xs.map (Value.int k)) = some ((List.range n).map fun i => Lit.int k (xs.getD i 0)) := by
  have hl : (xs.map (Value.int k)).length = n := by simp [hx]
  unfold Program.keyLits
  simp only [hT, hl, hcT, if_true, hce, Nat.mul_one]
  rw [mapM_all _ (fun i => [Lit.int k (xs.getD i 0)])]
  · rw [Option.map_some, flat_single]
  · intro i hi
    have hi' : i < xs.length := by rw [hx]; exact List.mem_range.1 hi
    have e1 : ((xs.map (Value.int k)).drop i).take 1 = [Value.int k xs[i]] := by
      rw [List.drop_eq_getElem_cons (by simpa using hi')]
      simp
    rw [e1, getD_get xs i 0 hi']
    unfold Program.keyLits
    simp [he, hw xs[i] (List.getElem_mem hi')]
theorem eq_arr {P : Program} {k : IntKind} {T e : TypeId} {n : Nat} (hk : P.keyTypeAt 2 T = true) (hT : P.underlying T = some (.array n e)) (he : P.underlying e = some (.int k)) (hce : P.cellsOf e = 1) (hcT : P.cellsOf T = n)
    (xs ys : List Int) (hx : xs.length = n) (hy : ys.length = n) (hwx : ∀ x ∈ xs, (Lit.int k x).wf = true) (hwy : ∀ x ∈ ys, (Lit.int k x).wf = true) (w : World) :
    (Op.equalIn 10000 T (.agg (xs.map (Value.int k)).toArray) (.agg (ys.map (Value.int k)).toArray)).run P w = .ok (xs == ys) w := by
  have hf : ∀ l : List Int, l.length = n → (Value.agg (l.map (Value.int k)).toArray).formed P T = true := by
    intro l hl
    simp [Value.formed, hT, hcT, hl]
  obtain ⟨r, hr, hri⟩ := run_equalIn_deep 9998 2 T hk w (0 + 2) (0 + 2) _ _ _ _ (hf xs hx) (hf ys hy) (by simpa [Value.cells] using keyLits_arr (d := 0) hT he hce hcT xs hx hwx) (by simpa [Value.cells] using keyLits_arr (d := 0) hT he hce hcT ys hy hwy)
  have hb : r = (xs == ys) := by
    have hiff : r = true ↔ xs = ys := by
      rw [hri]
      constructor
      · intro h
        apply List.ext_getElem (by rw [hx, hy])
        intro i h1 h2
        have h3 := congrArg (fun l : List Lit => l[i]?) h
        simp only [List.getElem?_map] at h3
        rw [List.getElem?_range (by omega)] at h3
        simp only [Option.map_some, Option.some.injEq, Lit.int.injEq] at h3
        have h4 : xs[i]?.getD 0 = ys[i]?.getD 0 := h3.2
        rw [List.getElem?_eq_getElem h1, List.getElem?_eq_getElem h2] at h4
        exact h4
      · intro h
        rw [h]
    by_cases h : xs = ys
    · rw [hiff.2 h, h]; simp
    · have : r = false := by
        cases r with
        | false => rfl
        | true => exact absurd (hiff.1 rfl) h
      rw [this]
      exact (beq_eq_false_iff_ne.2 h).symm
  rw [← hb]
  exact hr
theorem bytes_ints (bs : List UInt8) : Lib.byteCells bs = (bs.map fun b => (b.toNat : Int)).map (Value.int .u8) := by simp [Lib.byteCells]
theorem words_ints (l : List UInt32) : wordCells l = (l.map fun b => (b.toNat : Int)).map (Value.int .u32) := by simp [wordCells]
theorem bytes_beq (xs ys : List UInt8) : ((xs.map fun b => (b.toNat : Int)) == (ys.map fun b => (b.toNat : Int))) = (xs == ys) := by
  have hinj : (xs.map fun b => (b.toNat : Int)) = (ys.map fun b => (b.toNat : Int)) ↔ xs = ys :=
    ⟨fun h => List.map_inj_right (fun a b e => UInt8.toNat_inj.1 (by exact_mod_cast e)) |>.1 h, fun h => by rw [h]⟩
  by_cases h : xs = ys
  · rw [h]; simp
  · rw [beq_eq_false_iff_ne.2 h, beq_eq_false_iff_ne]
    exact fun e => h (hinj.1 e)
theorem words_beq (xs ys : List UInt32) : ((xs.map fun b => (b.toNat : Int)) == (ys.map fun b => (b.toNat : Int))) = (xs == ys) := by
  have hinj : (xs.map fun b => (b.toNat : Int)) = (ys.map fun b => (b.toNat : Int)) ↔ xs = ys :=
    ⟨fun h => List.map_inj_right (fun a b e => UInt32.toNat_inj.1 (by exact_mod_cast e)) |>.1 h, fun h => by rw [h]⟩
  by_cases h : xs = ys
  · rw [h]; simp
  · rw [beq_eq_false_iff_ne.2 h, beq_eq_false_iff_ne]
    exact fun e => h (hinj.1 e)
theorem eq32 (xs ys : List UInt8) (hx : xs.length = 32) (hy : ys.length = 32) (w : World) :
    (Op.equalIn 10000 31 (.agg (Lib.byteCells xs).toArray) (.agg (Lib.byteCells ys).toArray)).run Tryd.prog w = .ok (xs == ys) w := by
  have hwf : ∀ l : List UInt8, ∀ x ∈ (l.map fun b => (b.toNat : Int)), (Lit.int .u8 x).wf = true := by
    intro l x hx
    simp only [List.mem_map] at hx
    obtain ⟨b, _, rfl⟩ := hx
    have := b.toNat_lt
    simp [Lit.wf, IntKind.min, IntKind.max, IntKind.signed, IntKind.bits]
    omega
  rw [bytes_ints, bytes_ints, eq_arr (k := .u8) (n := 32) (e := 5) (by kernel_rfl) Tryd.underlying31 Tryd.underlying5 (by kernel_rfl) (by kernel_rfl) _ _ (by simpa using hx) (by simpa using hy) (hwf xs) (hwf ys), bytes_beq]
end Go.Proofs.YtjondbamnbgiaaaDoor
