/-
  WALKS: keccak.Sha3256, keccak.Sha3512.
-/
import Derived.Test.YtjondbamnbgiaaaDoorSqueezed
import Derived.Laws.Cover3
namespace Go.Proofs.YtjondbamnbgiaaaDoor
open Go.RowKit
set_option maxRecDepth 100000

theorem Sp.next_len (s : Sp) (rate : Nat) (h : s.l.length = 25) : (s.next rate).l.length = 25 := by
  by_cases hc : s.at_ = rate
  · rw [Sp.next_full _ _ hc]; exact permL_length _ h
  · rw [Sp.next_more _ _ hc]; exact h
theorem Sp.puts_len (rate : Nat) (l : List UInt8) : ∀ s : Sp, s.l.length = 25 → (s.puts rate l).l.length = 25 := by
  induction l with
  | nil => intro s h; exact h
  | cons b r ih => intro s h; exact ih _ ((List.length_set).trans (s.next_len rate h))
theorem absorbL_len (rate : Nat) (suf : UInt8) (m : List UInt8) : (absorbL rate suf m).l.length = 25 := (List.length_set).trans (Sp.puts_len rate _ _ zero_len)

set_option maxHeartbeats 1000000 in
theorem sha3256_any (bss : List (List UInt8)) (hbl : bss.length ≤ 1000000) (B : Nat) (v : Value) (w : World) (hp : PartsO w B B v bss) (hB : B ≤ w.heap.size) (hv : Vars w) :
    Calls Tryd.prog 17 #[v] w (SumIs w (spongeL 136 6 bss.flatten 32)) := by
  unfold SumIs spongeL
  have hpos := hv.pos
  have hpA : ∀ o, PartsO (w.alloc o) B B v bss := fun o => hp.below ((Below.refl _ w).alloc hB o)
  have hvA : ∀ o, Vars (w.alloc o) := fun o => hv.step ((Below.refl _ w).alloc (Nat.le_refl _) o)
  have hSl := absorbL_len 136 6 bss.flatten
  have hSa : (absorbL 136 6 bss.flatten).at_ ≤ 136 := Nat.le_refl _
  have hSo := Sp.outs_length 136 32 (absorbL 136 6 bss.flatten)
  generalize hn0 : w.heap.size = n0 at *
  have hrA : Row (w.alloc (.cells (Lib.byteCells (List.replicate 32 0)).toArray 31)) n0 31 (Lib.byteCells (List.replicate 32 0)) := Row.new_ hn0.symm rfl
  have hbA : Below n0 w (w.alloc (.cells (Lib.byteCells (List.replicate 32 0)).toArray 31)) := (Below.refl n0 w).alloc (by omega) _
  go_enter Tryd.func17, Tryd.ntmps17
  go_wp2_with (go_at_call 35; refine (absorbed_any 136 (by decide) (by decide) 6 bss hbl B v _ (hpA _) (by rw [asz]; omega) (hvA _)).mono ?_)
  rintro e w1 ⟨rfl, b1⟩
  rw [asz, hn0] at b1
  have hr1 := hrA.below b1 (by omega)
  have hbel1 := hbA.trans (b1.mono (by omega))
  have hv1 := hv.under hbel1 hpos
  have hs1 := b1.size
  rw [asz, hn0] at hs1
  generalize hS : absorbL 136 6 bss.flatten = S at *
  have HS := Lib.hid hS
  clear hS
  clear hpA hvA hrA hbA b1 hp hv
  go_wp2_with (refine wpList_store_any rfl 64 (.tmp 3) (.tmp 5) rfl w1.heap.size rfl (spCells [] S 136 []) rfl 64 (spCells [] ⟨zeroL, 0⟩ 0 []) (Row.new_ rfl zero27) (info_sp.trans (spCells_size _ _ hSl)) (Option.some.inj ((spCells_size _ _ zero_len).symm.trans (spCells_size _ _ hSl))) (sp_oneCell _ _) ?_)
  intro w2 hr2 b2 hz2
  clear hz2
  have hs2 := hr2.lt
  have hsp := SpAt.of_row hr2 hSl
  have hrB := b2.row (hr1.alloc _) (by omega) (by omega)
  have hbel2 := (hbel1.alloc (by omega) _).trans (b2.under (by omega) (by omega))
  have hv2 := hv1.under ((Below.refl _ w1).alloc (Nat.le_refl _) _ |>.trans (b2.under (Nat.le_succ _) (Nat.le_refl _))) (by omega)
  clear hr1 hbel1 hv1 b2 hr2
  go_wp2_with (go_at_call 36; refine (squeezed_any hsp hv2 (by omega) hSa (by decide) (by decide) 32 (by decide)).mono ?_)
  rintro e w3 ⟨rfl, hr3, -, b3⟩
  have hrC := b3.row hrB (by omega) (by omega)
  have hbel3 := hbel2.trans (b3.under (by omega) (by omega))
  have hw3 := b3.size
  have harr := run_arrayAt (P := Tryd.prog) w3 31 5 32 (some ⟨w2.heap.size, 0, none⟩) 32 32 Tryd.underlying31 (Nat.le_refl _)
  clear hsp hv2 b3 hrB hbel2
  go_wp2_with (first
    | refine wpList_load_any rfl 31 (.tmp 7) rfl w2.heap.size rfl 5 (Lib.byteCells (S.outs 136 32)) _ hr3 Tryd.underlying31 rfl (info_b32.trans (size_bytes _ _ hSo)) ?_
    | refine wpList_store_any rfl 31 (.tmp 2) (.tmp 8) rfl n0 rfl (Lib.byteCells (S.outs 136 32)) rfl 31 _ hrC (info_b32.trans (size_bytes _ _ hSo)) (by rw [Lib.byteCells_length, Lib.byteCells_length, hSo, List.length_replicate]) (cell_oneCell _) ?_)
  intro w9 hr9 b9 _
  have hb9 := hbel3.trans (b9.under (by omega) (Nat.le_refl _))
  go_wp2
  exact ret_row Tryd.results17 rfl rfl hr9 Tryd.underlying31 rfl (info_b32.trans (size_bytes _ _ hSo)) ⟨by rw [HS.out], hb9⟩

set_option maxHeartbeats 1000000 in
theorem sha3512_any (bss : List (List UInt8)) (hbl : bss.length ≤ 1000000) (B : Nat) (v : Value) (w : World) (hp : PartsO w B B v bss) (hB : B ≤ w.heap.size) (hv : Vars w) :
    Calls Tryd.prog 18 #[v] w (SumIs w (spongeL 72 6 bss.flatten 64)) := by
  unfold SumIs spongeL
  have hpos := hv.pos
  have hpA : ∀ o, PartsO (w.alloc o) B B v bss := fun o => hp.below ((Below.refl _ w).alloc hB o)
  have hvA : ∀ o, Vars (w.alloc o) := fun o => hv.step ((Below.refl _ w).alloc (Nat.le_refl _) o)
  have hSl := absorbL_len 72 6 bss.flatten
  have hSa : (absorbL 72 6 bss.flatten).at_ ≤ 72 := Nat.le_refl _
  have hSo := Sp.outs_length 72 64 (absorbL 72 6 bss.flatten)
  generalize hn0 : w.heap.size = n0 at *
  have hrA : Row (w.alloc (.cells (Lib.byteCells (List.replicate 64 0)).toArray 33)) n0 33 (Lib.byteCells (List.replicate 64 0)) := Row.new_ hn0.symm rfl
  have hbA : Below n0 w (w.alloc (.cells (Lib.byteCells (List.replicate 64 0)).toArray 33)) := (Below.refl n0 w).alloc (by omega) _
  go_enter Tryd.func18, Tryd.ntmps18
  go_wp2_with (go_at_call 35; refine (absorbed_any 72 (by decide) (by decide) 6 bss hbl B v _ (hpA _) (by rw [asz]; omega) (hvA _)).mono ?_)
  rintro e w1 ⟨rfl, b1⟩
  rw [asz, hn0] at b1
  have hr1 := hrA.below b1 (by omega)
  have hbel1 := hbA.trans (b1.mono (by omega))
  have hv1 := hv.under hbel1 hpos
  have hs1 := b1.size
  rw [asz, hn0] at hs1
  generalize hS : absorbL 72 6 bss.flatten = S at *
  have HS := Lib.hid hS
  clear hS
  clear hpA hvA hrA hbA b1 hp hv
  go_wp2_with (refine wpList_store_any rfl 64 (.tmp 3) (.tmp 5) rfl w1.heap.size rfl (spCells [] S 72 []) rfl 64 (spCells [] ⟨zeroL, 0⟩ 0 []) (Row.new_ rfl zero27) (info_sp.trans (spCells_size _ _ hSl)) (Option.some.inj ((spCells_size _ _ zero_len).symm.trans (spCells_size _ _ hSl))) (sp_oneCell _ _) ?_)
  intro w2 hr2 b2 hz2
  clear hz2
  have hs2 := hr2.lt
  have hsp := SpAt.of_row hr2 hSl
  have hrB := b2.row (hr1.alloc _) (by omega) (by omega)
  have hbel2 := (hbel1.alloc (by omega) _).trans (b2.under (by omega) (by omega))
  have hv2 := hv1.under ((Below.refl _ w1).alloc (Nat.le_refl _) _ |>.trans (b2.under (Nat.le_succ _) (Nat.le_refl _))) (by omega)
  clear hr1 hbel1 hv1 b2 hr2
  go_wp2_with (go_at_call 36; refine (squeezed_any hsp hv2 (by omega) hSa (by decide) (by decide) 64 (by decide)).mono ?_)
  rintro e w3 ⟨rfl, hr3, -, b3⟩
  have hrC := b3.row hrB (by omega) (by omega)
  have hbel3 := hbel2.trans (b3.under (by omega) (by omega))
  have hw3 := b3.size
  have harr := run_arrayAt (P := Tryd.prog) w3 33 5 64 (some ⟨w2.heap.size, 0, none⟩) 64 64 Tryd.underlying33 (Nat.le_refl _)
  clear hsp hv2 b3 hrB hbel2
  go_wp2_with (first
    | refine wpList_load_any rfl 33 (.tmp 7) rfl w2.heap.size rfl 5 (Lib.byteCells (S.outs 72 64)) _ hr3 Tryd.underlying33 rfl (info_b64.trans (size_bytes _ _ hSo)) ?_
    | refine wpList_store_any rfl 33 (.tmp 2) (.tmp 8) rfl n0 rfl (Lib.byteCells (S.outs 72 64)) rfl 33 _ hrC (info_b64.trans (size_bytes _ _ hSo)) (by rw [Lib.byteCells_length, Lib.byteCells_length, hSo, List.length_replicate]) (cell_oneCell _) ?_)
  intro w9 hr9 b9 _
  have hb9 := hbel3.trans (b9.under (by omega) (Nat.le_refl _))
  go_wp2
  exact ret_row Tryd.results18 rfl rfl hr9 Tryd.underlying33 rfl (info_b64.trans (size_bytes _ _ hSo)) ⟨by rw [HS.out], hb9⟩
end Go.Proofs.YtjondbamnbgiaaaDoor
