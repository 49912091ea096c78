/-
  WALKS: sha2.Mac, Extract.
-/
import Derived.Test.YthafhghnciofaaaDoorMac
import Derived.Test.YthafhghnciofaaaDoorMask
namespace Go.Proofs.YthafhghnciofaaaDoor
open Go.RowKit
set_option maxRecDepth 100000

set_option maxHeartbeats 2000000 in
theorem mac_any (B : Nat) (vk vp : Value) (k : List UInt8) (bss : List (List UInt8)) (w : World) (hs : Sl w B vk k) (hp : PartsO w B w.heap.size vp bss) (hB : B ≤ w.heap.size) (hv : Vars w) (hk : k.length ≤ 1000000) (hl : bss.flatten.length ≤ 1000000) (hn : bss.length ≤ 1000) :
    Calls Tryd.prog 25 #[vk, vp] w (SumIs w (macB k bss.flatten)) := by
  unfold SumIs
  generalize hn0 : w.heap.size = n0 at *
  have hkl := keyB_length k
  have HM : Hid (macB k bss.flatten = sha (xorB (keyB k) 0x5c ++ sha (xorB (keyB k) 0x36 ++ bss.flatten))) := Lib.hid rfl
  have hml := macB_length k bss.flatten
  have hx1 : (xorB (keyB k) 0x36).length = 64 := by rw [xorB_length, hkl]
  have hx2 : (xorB (keyB k) 0x5c).length = 64 := by rw [xorB_length, hkl]
  have hhl := sha_length (xorB (keyB k) 0x36 ++ bss.flatten)
  have b0 : Below n0 w (w.alloc (.cells (Lib.byteCells (List.replicate 32 0)).toArray 33)) := (Below.refl n0 w).alloc (by omega) _
  have hsA := hs.below (b0.mono hB)
  have hvA : Vars (w.alloc (.cells (Lib.byteCells (List.replicate 32 0)).toArray 33)) := hv.step (by rw [hn0]; exact b0)
  have hrA : Row (w.alloc (.cells (Lib.byteCells (List.replicate 32 0)).toArray 33)) n0 33 (Lib.byteCells (List.replicate 32 0)) := Row.new_ hn0.symm rfl
  go_enter Tryd.func25, Tryd.ntmps25
  go_wp2_with (go_at_call 44; refine (keyBlock_any B vk k _ hsA (by rw [asz]; omega) hvA hk).mono ?_)
  rintro e w1 ⟨rfl, b1⟩
  rw [asz, hn0] at b1
  have hr1 := hrA.below b1 (by omega)
  have hbel1 : Below n0 w w1 := b0.trans (b1.mono (by omega))
  have hv1 := hv.step (by rw [hn0]; exact hbel1)
  have hs1 := b1.size
  rw [asz, hn0] at hs1
  clear b0 b1 hrA hvA hsA
  obtain ⟨kb, hkb⟩ : ∃ kb, kb = keyB k := ⟨_, rfl⟩
  rw [← hkb] at HM hkl hx1 hx2 hhl
  rw [← hkb]
  clear hkb
  go_wp2_with (first | refine wpList_store_any rfl 24 (.tmp 5) (.tmp 10) rfl w1.heap.size rfl (Lib.byteCells kb) rfl 24 (Lib.byteCells (List.replicate 64 0)) (Row.new_ rfl zero64b) (info_b64.trans (size_bytes _ _ hkl)) (by rw [Lib.byteCells_length, Lib.byteCells_length, hkl]; rfl) (cell_oneCell _) ?_)
  intro w2 hr5 bt hs2
  try simp only [asz] at bt hs2
  have hr2 := bt.row (hr1.alloc _) (by omega) (by omega)
  have hbel2 : Below n0 w w2 := (hbel1.alloc (by omega) _).trans (bt.under (by omega) (by omega))
  have hv2 := hv.step (by rw [hn0]; exact hbel2)
  generalize hn5 : w1.heap.size = n5 at *
  clear bt hbel1 hv1 hr1 hn5
  go_wp2_with (first | refine wpList_load_any rfl 24 (.tmp 5) rfl n5 rfl 24 (Lib.byteCells kb) (.array 64 5) hr5 Tryd.underlying24 rfl (info_b64.trans (size_bytes _ _ hkl)) ?_ | (go_at_call 45; refine (masked_any kb 0x36 _ hkl hv2).mono ?_))
  rintro e w3 ⟨g, rfl, hg, hh3, b3⟩
  have hr3 := hr2.below b3 hr2.lt
  have hr53 := hr5.below b3 hr5.lt
  have hv3 := hv2.step b3
  have hs3 := b3.size
  have hbel3 := hbel2.trans (b3.mono (by omega))
  have hp3 : PartsO w3 B g vp bss := (hp.moved (by omega)).below (hbel3.mono hB)
  have hglt := hh3.lt
  clear b3 hr2 hr5 hv2 hbel2
  go_wp2_with (go_at_call 21; refine (write_any g _ bss B vp _ hh3 hp3 (by omega) hv3 (by rw [hx1]; omega) hn).mono ?_)
  rintro e w4 ⟨rfl, hh4, b4⟩
  have hr4 := b4.row hr3 (by omega) (by omega)
  have hr54 := b4.row hr53 (by omega) (by omega)
  have hv4 := hv3.but b4 hh3.1
  have hs4 := b4.size
  have hbel4 := hbel3.trans (b4.under (by omega) (by omega))
  clear b4 hr3 hr53 hv3 hbel3 hp3
  go_wp2_with (go_at_call 23; refine (sum_any g _ _ hh4 hv4 (by rw [List.length_append, hx1]; omega)).mono ?_)
  rintro e w5 ⟨rfl, b5⟩
  have hr6 := hr4.below b5 hr4.lt
  have hr56 := hr54.below b5 hr54.lt
  have hv5 := hv4.step b5
  have hs5 := b5.size
  have hbel5 := hbel4.trans (b5.mono (by omega))
  clear b5 hr4 hr54 hv4 hbel4 hh4 hh3
  generalize sha (xorB kb 0x36 ++ bss.flatten) = sm at *
  go_wp2_with (first | refine wpList_store_any rfl 33 (.tmp 7) (.tmp 17) rfl w5.heap.size rfl (Lib.byteCells sm) rfl 33 (Lib.byteCells (List.replicate 32 0)) (Row.new_ rfl zero32b) (info_b32.trans (size_bytes _ _ hhl)) (by rw [Lib.byteCells_length, Lib.byteCells_length, hhl]; rfl) (cell_oneCell _) ?_)
  intro w6 hr7 bt hs6
  try simp only [asz] at bt hs6
  have hr8 := bt.row (hr6.alloc _) (by omega) (by omega)
  have hr58 := bt.row (hr56.alloc _) (by omega) (by omega)
  have hbel6 : Below n0 w w6 := (hbel5.alloc (by omega) _).trans (bt.under (by omega) (by omega))
  have hv6 := hv.step (by rw [hn0]; exact hbel6)
  generalize hn7 : w5.heap.size = n7 at *
  clear bt hbel5 hv5 hr6 hr56 hn7
  go_wp2_with (first | refine wpList_load_any rfl 24 (.tmp 5) rfl n5 rfl 24 (Lib.byteCells kb) (.array 64 5) hr58 Tryd.underlying24 rfl (info_b64.trans (size_bytes _ _ hkl)) ?_ | (go_at_call 45; refine (masked_any kb 0x5c _ hkl hv6).mono ?_))
  rintro e w8 ⟨g2, rfl, hg2, hh8, b8⟩
  have hr9 := hr8.below b8 hr8.lt
  have hr79 := hr7.below b8 hr7.lt
  have hv8 := hv6.step b8
  have hs8 := b8.size
  have hbel8 := hbel6.trans (b8.mono (by omega))
  have hglt2 := hh8.lt
  have bA : Below w8.heap.size w8 (w8.alloc (.cells #[.slice (some ⟨n7, 0, none⟩) 32 32] 30)) := Below.alloc (Below.refl _ _) (Nat.le_refl _) _
  have hpA : PartsO (w8.alloc (.cells #[.slice (some ⟨n7, 0, none⟩) 32 32] 30)) (w8.heap.size + 1) g2 (.slice (some ⟨w8.heap.size, 0, none⟩) 1 1) [sm] :=
    PartsO.solo (Row.new_ rfl rfl) (Nat.lt_succ_self _) (by omega) (Sl.of_bytes (hr79.alloc _) (by omega) hhl (by decide)) (Off.at_ (by omega))
  clear b8 hr8 hr7 hr58 hv6 hbel6
  go_wp2_with (go_at_call 21; refine (write_any g2 _ [sm] (w8.heap.size + 1) _ _ (hh8.step bA) hpA (by rw [asz]; exact Nat.le_refl _) (hv8.step bA) (by rw [hx2, flat_one]; omega) (by simp)).mono ?_)
  rintro e w9 ⟨rfl, hh9, b9⟩
  rw [flat_one] at hh9
  have hr10 := b9.row (hr9.alloc _) (by rw [asz]; omega) (by omega)
  have hv9 : Vars w9 := (hv8.step bA).but b9 hh8.1
  have hs9 := b9.size
  rw [asz] at hs9
  have hbel9 : Below n0 w w9 := (hbel8.trans (bA.mono (by omega))).trans (b9.under (by rw [asz]; omega) (by omega))
  clear b9 hr9 hr79 bA hpA hv8 hbel8
  go_wp2_with (go_at_call 23; refine (sum_any g2 _ _ hh9 hv9 (by rw [List.length_append, hx2, hhl]; decide)).mono ?_)
  rintro e w10 ⟨rfl, b10⟩
  rw [← HM.out]
  have hr11 := hr10.below b10 hr10.lt
  have hs10 := b10.size
  have hbel10 := hbel9.trans (b10.mono (by omega))
  go_wp2_with (refine wpList_store_any rfl 33 (.tmp 4) (.tmp 25) rfl n0 rfl (Lib.byteCells (macB k bss.flatten)) rfl 33 _ hr11 (info_b32.trans (size_bytes _ _ hml)) (by rw [Lib.byteCells_length, Lib.byteCells_length, hml]; rfl) (cell_oneCell _) ?_)
  intro w11 hr12 b11 _
  have hbel11 : Below n0 w w11 := hbel10.trans (b11.under (Nat.le_of_lt hr11.lt) (Nat.le_refl _))
  go_wp2
  exact ret_row Tryd.results25 rfl rfl hr12 Tryd.underlying33 rfl (info_b32.trans (size_bytes _ _ hml)) ⟨rfl, hbel11⟩
end Go.Proofs.YthafhghnciofaaaDoor
