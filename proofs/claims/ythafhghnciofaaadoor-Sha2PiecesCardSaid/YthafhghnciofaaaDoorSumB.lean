/-
  WALKS: sha2.Sum256, Sum192.
-/
import Derived.Test.YthafhghnciofaaaDoorSum
namespace Go.Proofs.YthafhghnciofaaaDoor
open Go.RowKit
set_option maxRecDepth 100000

set_option maxHeartbeats 1000000 in
theorem sum256_any (bss : List (List UInt8)) (B : Nat) (v : Value) (w : World) (hp : PartsO w B w.heap.size v bss) (hB : B ≤ w.heap.size) (hv : Vars w) (hl : bss.flatten.length ≤ 1000000000) (hn : bss.length ≤ 1000) :
    Calls Tryd.prog 17 #[v] w (SumIs w (sha bss.flatten)) := by
  unfold SumIs
  go_enter Tryd.func17, Tryd.ntmps17
  go_wp2_with (go_at_call 20; refine (new_any _ (hv.step (Below.alloc (Below.refl _ _) (Nat.le_refl _) _))).mono ?_)
  rintro e w1 ⟨g, rfl, hg, hh, b1⟩
  have hr1 : Row w1 w.heap.size 33 (Lib.byteCells (List.replicate 32 0)) := Row.below (Row.new_ (by rfl) zero32b) b1 (by rw [asz]; omega)
  have hb1 : Below w.heap.size w w1 := by
    refine Below.chain ?_ b1
    exact Below.alloc (Below.refl _ _) (Nat.le_refl _) _
  rw [asz] at hg
  have hv1 := hv.step hb1
  have hp1 : PartsO w1 B g v bss := (hp.moved (by omega)).below (hb1.mono hB)
  have hsz := hb1.size
  have hgw : w.heap.size < g := by omega
  clear b1 hv hp hg
  go_wp2_with (go_at_call 21; refine (write_any g [] bss B v w1 hh hp1 (by omega) hv1 (by rw [List.length_nil, Nat.zero_add]; exact Nat.le_trans hl (by decide)) hn).mono ?_)
  rintro e w2 ⟨rfl, hh2, b2⟩
  rw [List.nil_append] at hh2
  have hr2 := b2.row hr1 hr1.lt (by omega)
  have hb2 : Below w.heap.size w w2 := hb1.trans (b2.under hsz (by omega))
  have hv2 := hv1.but b2 hh.1
  go_wp2_with (go_at_call 23; refine (sum_any g _ w2 hh2 hv2 hl).mono ?_)
  rintro e w3 ⟨rfl, b3⟩
  have hr3 := hr2.below b3 hr2.lt
  have hb3 := Below.chain hb2 b3
  go_wp2_with (refine wpList_store_any rfl 33 (.tmp 2) (.tmp 9) rfl w.heap.size rfl (Lib.byteCells (sha bss.flatten)) rfl 33 _ hr3 (info_b32.trans (size_bytes _ _ (sha_length bss.flatten))) (by rw [Lib.byteCells_length, Lib.byteCells_length, sha_length bss.flatten, List.length_replicate]) (cell_oneCell _) ?_)
  intro w4 hr4 b4 _
  have hb4 : Below w.heap.size w w4 := hb3.trans (b4.under (Nat.le_of_lt hr3.lt) (Nat.le_refl _))
  go_wp2
  exact ret_row Tryd.results17 rfl rfl hr4 Tryd.underlying33 rfl (info_b32.trans (size_bytes _ _ (sha_length bss.flatten))) ⟨rfl, hb4⟩
end Go.Proofs.YthafhghnciofaaaDoor
