/-
  WALKS: sha2.keyBlock, masked, Mac, Extract.
-/
import Derived.Test.YthafhghnciofaaaDoorLive
namespace Go.Proofs.YthafhghnciofaaaDoor
open Go.RowKit
set_option maxRecDepth 100000

/-- copy into a block of 64 zeros -/
theorem wpList_copy_key {ops : Array Oper} {rest : List Oper} {o : Oper} {a : Act} {w : World} {Q : Exit → Act → World → Prop} (hgd : o.guard = none) (d s : Operand)
    (ho : o.op = .call { callee := .builtin .copy, args := #[d, s], argTypes := #[30, 30] })
    (g : Nat) (hd : a.eval d = .slice (some ⟨g, 0, none⟩) 64 64) (t : TypeId) (hr : Row w g t (Lib.byteCells (List.replicate 64 0))) (B : Nat) (v : Value) (hs : a.eval s = v) (l : List UInt8) (hsl : Sl w B v l) (hl : l.length ≤ 64)
    (h : ∀ w', Row w' g t (Lib.byteCells (l ++ List.replicate (64 - l.length) 0)) → Below g w w' → wpList Tryd.prog ops Q rest (a.put o.dst (goInt l.length)) w') : wpList Tryd.prog ops Q (o :: rest) a w := by
  obtain ⟨A, c, rfl, h1, h2⟩ := hsl.form
  have hcl : (Lib.byteCells l).length = l.length := Lib.byteCells_length l
  refine wpList_copy_splice hgd d s 30 30 ho 5 Tryd.underlying30 info_u8s (some ⟨g, 0, none⟩) A 64 64 l.length c hd hs g 0 (Lib.byteCells (List.replicate 64 0)) t hr (Lib.byteCells l) (by rw [hcl]; exact (Nat.min_eq_left hl).symm) (fun hp => ?_) (by rw [hcl, Lib.byteCells_length]; simp; omega) (cell_oneCell _) g w (Below.refl _ _) (Nat.le_refl _) (fun w' hw' hb => ?_)
  · rw [hcl] at hp
    obtain ⟨b, off, rfl, _, hc⟩ := hsl.at_ hp
    refine ⟨rfl, _, rfl, fun j u hu => ?_⟩
    have hj : j < l.length := by have := (List.getElem?_eq_some_iff.1 hu).1; rwa [hcl] at this
    rw [addr_add, hc j hj, ← hu, byteCells_get _ _ hj]
  · rw [hcl]
    refine h w' ?_ hb
    have e : splice (Lib.byteCells (List.replicate 64 0)) 0 (Lib.byteCells l) = Lib.byteCells (l ++ List.replicate (64 - l.length) 0) := by
      unfold splice
      rw [hcl, List.take_zero, List.nil_append, Nat.zero_add]
      simp only [Lib.byteCells, List.map_append, ← List.map_drop, List.drop_replicate]
    have := hw'.out
    rw [e] at this
    exact this
theorem keyB_long (k : List UInt8) (h : 64 < k.length) : keyB k = sha k ++ List.replicate (64 - (sha k).length) 0 := by unfold keyB; simp [h]
theorem keyB_short (k : List UInt8) (h : ¬ 64 < k.length) : keyB k = k ++ List.replicate (64 - k.length) 0 := by unfold keyB; simp [h]
theorem flat_one (k : List UInt8) : [k].flatten = k := by simp

set_option maxHeartbeats 1000000 in
theorem keyBlock_any (B : Nat) (v : Value) (k : List UInt8) (w : World) (hs : Sl w B v k) (hB : B ≤ w.heap.size) (hv : Vars w) (hl : k.length ≤ 1000000) :
    Calls Tryd.prog 44 #[v] w (SumIs w (keyB k)) := by
  unfold SumIs
  have hkl := keyB_length k
  obtain ⟨A, c, rfl, _, _⟩ := hs.form
  generalize hn0 : w.heap.size = n0 at *
  by_cases hlong : 64 < k.length
  · have ht : (64 : Int) < (k.length : Int) := by omega
    have hke := keyB_long k hlong
    rw [sha_length] at hke
    have HKE := Lib.hid hke
    clear hke
    have hshl := sha_length k
    go_enter Tryd.func44, Tryd.ntmps44
    go_wp2_with (go_at_call 17; (refine (sum256_any [k] (n0 + 3) _ _ (PartsO.solo (Row.new_ (by rw [asz, asz, hn0]) rfl) (Nat.lt_succ_self _) (by rw [asz, asz, asz, hn0]; omega) ((hs.below (below3 w _ _ _ |>.mono (by rw [hn0]; exact hB))).more (by omega)) ((hs.more (show B ≤ n0 from hB)).off (by rw [asz, asz, asz, hn0]; omega))) (by rw [asz, asz, asz, hn0]; exact Nat.le_refl _) (hv.step (below3 w _ _ _)) (by rw [flat_one]; omega) (by simp)).mono ?_))
    rintro e w1 ⟨rfl, b1⟩
    rw [flat_one]
    rw [asz, asz, asz, hn0] at b1
    have hr2 : Row w1 n0 24 (Lib.byteCells (List.replicate 64 0)) := (((Row.new_ hn0.symm zero64b).alloc _).alloc _).below b1 (by omega)
    have hr3 : Row w1 (n0 + 1) 24 (Lib.byteCells (List.replicate 64 0)) := ((Row.new_ (by rw [asz, hn0]) zero64b).alloc _).below b1 (by omega)
    have hbel1 : Below n0 w w1 := ((below3 w _ _ _).mono (by omega)).trans (b1.mono (by omega))
    have hs1 := b1.size
    rw [asz, asz, asz, hn0] at hs1
    clear b1 hs hv
    generalize sha k = sk at *
    go_wp2_with (refine wpList_store_any rfl 33 (.tmp 4) (.tmp 10) rfl w1.heap.size rfl (Lib.byteCells sk) rfl 33 (Lib.byteCells (List.replicate 32 0)) (Row.new_ rfl zero32b) (info_b32.trans (size_bytes _ _ hshl)) (by rw [Lib.byteCells_length, Lib.byteCells_length, hshl]; rfl) (cell_oneCell _) ?_)
    intro w2 hr4 bt hs2
    try simp only [asz] at bt hs2
    replace hr2 := bt.row (hr2.alloc _) (by omega) (by omega)
    replace hr3 := bt.row (hr3.alloc _) (by omega) (by omega)
    have hbel2 : Below n0 w w2 := (hbel1.alloc (by omega) _).trans (bt.under (by omega) (by omega))
    have hsl : Sl w2 (w1.heap.size + 1) (.slice (some ⟨w1.heap.size, 0, none⟩) 32 32) sk := Sl.of_bytes hr4 (by omega) hshl (by decide)
    go_wp2_with (refine wpList_copy_key rfl (.tmp 12) (.tmp 13) rfl (n0 + 1) rfl 24 hr3 (w1.heap.size + 1) _ rfl sk hsl (by omega) ?_)
    intro w3 hr5 b3
    replace hr5 : Row w3 (n0 + 1) 24 (Lib.byteCells (keyB k)) := by rw [HKE.out]; exact hr5
    replace hr2 := hr2.below b3 (by omega)
    have hbel3 := hbel2.trans (b3.mono (by omega))
    go_wp2_with (first | refine wpList_load_any rfl 24 (.tmp 3) rfl (n0 + 1) rfl 24 (Lib.byteCells (keyB k)) (.array 64 5) hr5 Tryd.underlying24 rfl (info_b64.trans (size_bytes _ _ hkl)) ?_ | refine wpList_store_any rfl 24 (.tmp 2) (.tmp 15) rfl n0 rfl (Lib.byteCells (keyB k)) rfl 24 _ hr2 (info_b64.trans (size_bytes _ _ hkl)) (by rw [Lib.byteCells_length, Lib.byteCells_length, hkl]; rfl) (cell_oneCell _) ?_)
    intro w4 hr6 b4 _
    have hbel4 : Below n0 w w4 := hbel3.trans (b4.under (Nat.le_of_lt hr2.lt) (Nat.le_refl _))
    go_wp2
    exact ret_row Tryd.results44 rfl rfl hr6 Tryd.underlying24 rfl (info_b64.trans (size_bytes _ _ hkl)) ⟨rfl, hbel4⟩
  · have ht : ¬ (64 : Int) < (k.length : Int) := by omega
    have HKE := Lib.hid (keyB_short k hlong)
    have hr2 : Row ((w.alloc (.cells (Lib.byteCells (List.replicate 64 0)).toArray 24)).alloc (.cells (Lib.byteCells (List.replicate 64 0)).toArray 24)) n0 24 (Lib.byteCells (List.replicate 64 0)) := (Row.new_ hn0.symm rfl).alloc _
    have hr3 : Row ((w.alloc (.cells (Lib.byteCells (List.replicate 64 0)).toArray 24)).alloc (.cells (Lib.byteCells (List.replicate 64 0)).toArray 24)) (n0 + 1) 24 (Lib.byteCells (List.replicate 64 0)) := Row.new_ (by rw [asz, hn0]) rfl
    have hb2 : Below n0 w ((w.alloc (.cells (Lib.byteCells (List.replicate 64 0)).toArray 24)).alloc (.cells (Lib.byteCells (List.replicate 64 0)).toArray 24)) := ((Below.refl n0 w).alloc (by omega) _).alloc (by rw [asz]; omega) _
    have hs2 := hs.below (hb2.mono hB)
    go_enter Tryd.func44, Tryd.ntmps44
    go_wp2_with (refine wpList_copy_key rfl (.tmp 12) (.tmp 13) rfl (n0 + 1) rfl 24 hr3 B _ rfl k hs2 (by omega) ?_)
    intro w3 hr5 b3
    replace hr5 : Row w3 (n0 + 1) 24 (Lib.byteCells (keyB k)) := by rw [HKE.out]; exact hr5
    replace hr2 := hr2.below b3 (by omega)
    have hbel3 := hb2.trans (b3.mono (by omega))
    go_wp2_with (first | refine wpList_load_any rfl 24 (.tmp 3) rfl (n0 + 1) rfl 24 (Lib.byteCells (keyB k)) (.array 64 5) hr5 Tryd.underlying24 rfl (info_b64.trans (size_bytes _ _ hkl)) ?_ | refine wpList_store_any rfl 24 (.tmp 2) (.tmp 15) rfl n0 rfl (Lib.byteCells (keyB k)) rfl 24 _ hr2 (info_b64.trans (size_bytes _ _ hkl)) (by rw [Lib.byteCells_length, Lib.byteCells_length, hkl]; rfl) (cell_oneCell _) ?_)
    intro w4 hr6 b4 _
    have hbel4 : Below n0 w w4 := hbel3.trans (b4.under (Nat.le_of_lt hr2.lt) (Nat.le_refl _))
    go_wp2
    exact ret_row Tryd.results44 rfl rfl hr6 Tryd.underlying24 rfl (info_b64.trans (size_bytes _ _ hkl)) ⟨rfl, hbel4⟩
end Go.Proofs.YthafhghnciofaaaDoor
