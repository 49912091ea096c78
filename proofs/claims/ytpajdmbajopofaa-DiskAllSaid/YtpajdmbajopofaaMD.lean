/-
 FOUNDATIONS, merged: see the heads of the parts.
-/
import Derived.Test.YtpajdmbajopofaaMC
/-
 WALKS: sha2.keyBlock, masked, Mac, Extract.
-/
namespace Go.Proofs.Ytpajdmbajopofaa
open Go.RowKit
set_option maxRecDepth 100000

/-- copy into a block of 64 zeros -/
theorem wpList_copy_key {ops : Array Oper} {rest : List Oper} {o : Oper} {a : Act} {w : World} {Q : Exit → Act → World → Prop} (hgd : o.guard = none) (d s : Operand)
  (ho : o.op = .call { callee := .builtin .copy, args := #[d, s], argTypes := #[33, 33] })
  (g : Nat) (hd : a.eval d = .slice (some ⟨g, 0, none⟩) 64 64) (t : TypeId) (hr : Row w g t (Lib.byteCells (List.replicate 64 0))) (B : Nat) (v : Value) (hs : a.eval s = v) (l : List UInt8) (hsl : Sl w B v l) (hl : l.length ≤ 64)
  (h : ∀ w', Row w' g t (Lib.byteCells (l ++ List.replicate (64 - l.length) 0)) → Below g w w' → wpList Try.prog ops Q rest (a.put o.dst (goInt l.length)) w') : wpList Try.prog ops Q (o :: rest) a w := by
 obtain ⟨A, c, rfl, h1, h2⟩ := hsl.form
 have hcl : (Lib.byteCells l).length = l.length := Lib.byteCells_length l
 refine wpList_copy_splice hgd d s 33 33 ho 5 Try.underlying33 info_u8s (some ⟨g, 0, none⟩) A 64 64 l.length c hd hs g 0 (Lib.byteCells (List.replicate 64 0)) t hr (Lib.byteCells l) (by rw [hcl]; exact (Nat.min_eq_left hl).symm) (fun hp => ?_) (by rw [hcl, Lib.byteCells_length]; simp; omega) (cell_oneCell _) g w (Below.refl _ _) (Nat.le_refl _) (fun w' hw' hb => ?_)
 ·rw [hcl] at hp
  obtain ⟨b, off, rfl, _, hc⟩ := hsl.at_ hp
  refine ⟨rfl, _, rfl, fun j u hu => ?_⟩
  have hj : j < l.length := by have := (List.getElem?_eq_some_iff.1 hu).1; rwa [hcl] at this
  rw [addr_add, hc j hj, ← hu, byteCells_get _ _ hj]
 ·rw [hcl]
  refine h w' ?_ hb
  have e : splice (Lib.byteCells (List.replicate 64 0)) 0 (Lib.byteCells l) = Lib.byteCells (l ++ List.replicate (64 - l.length) 0) := by
   unfold splice
   rw [hcl, List.take_zero, List.nil_append, Nat.zero_add]
   simp only [Lib.byteCells, List.map_append, ← List.map_drop, List.drop_replicate]
  have := hw'.out
  rw [e] at this
  exact this
theorem keyB_long (k : List UInt8) (h : 64 < k.length) : keyB k = sha k ++ List.replicate (64 - (sha k).length) 0 := by unfold keyB; simp [h]
theorem keyB_short (k : List UInt8) (h : ¬ 64 < k.length) : keyB k = k ++ List.replicate (64 - k.length) 0 := by unfold keyB; simp [h]
theorem flat_one (k : List UInt8) : [k].flatten = k := by simp

end Go.Proofs.Ytpajdmbajopofaa

/-
 WALK: sha2.masked.
-/
namespace Go.Proofs.Ytpajdmbajopofaa
open Go.RowKit
set_option maxRecDepth 100000

theorem xorB_length (k : List UInt8) (c : UInt8) : (xorB k c).length = k.length := by simp [xorB]
end Go.Proofs.Ytpajdmbajopofaa

/-
 WALKS: sha2.Mac, Extract.
-/
namespace Go.Proofs.Ytpajdmbajopofaa
open Go.RowKit
set_option maxRecDepth 100000

end Go.Proofs.Ytpajdmbajopofaa

/-
 WALKS: sha2.Expand; the law's 'few'.
-/
namespace Go.Proofs.Ytpajdmbajopofaa
open Go.RowKit
set_option maxRecDepth 100000

theorem own_step {w w' : World} {base : Nat} {e : TypeId} {v : Value} {n : Nat} {xs : List Value} (h : w.ownsRow base e 1 v n xs) (hb : Below w.heap.size w w') : w'.ownsRow base e 1 v n xs := by
 refine ⟨h.1, ?_⟩
 rcases h.2 with h0 | ⟨g, cap, cur, hv, hg, hr, hrest⟩
 ·exact .inl h0
 ·exact .inr ⟨g, cap, cur, hv, hg, (hb.block g (Array.getElem?_eq_some_iff.1 hr).1).trans hr, hrest⟩
/-- at most 40 texts of at most 3000 bytes each -/
def fewB (bss : List (List UInt8)) : Bool := bss.all (fun b => decide (b.length ≤ 3000)) && decide (bss.length ≤ 40)
theorem few_no (bss : List (List UInt8)) (k : Nat) (h : k < bss.length) (hb : 3000 < bss[k].length) : fewB bss = false := by
 unfold fewB
 have : bss.all (fun b => decide (b.length ≤ 3000)) = false := by
  rw [List.all_eq_false]
  exact ⟨bss[k], List.getElem_mem h, by simp; omega⟩
 rw [this]; rfl
theorem few_yes {bss : List (List UInt8)} (h : fewB bss = true) : (∀ b ∈ bss, b.length ≤ 3000) ∧ bss.length ≤ 40 := by
 unfold fewB at h
 simp only [Bool.and_eq_true, List.all_eq_true, decide_eq_true_eq] at h
 exact h
end Go.Proofs.Ytpajdmbajopofaa
