/-
  WALK: the law Sha2Keys.
-/
import Derived.Test.YthafhghnciofaaaDoorRefExp
import Derived.Test.YthafhghnciofaaaDoorSums
namespace Go.Proofs.YthafhghnciofaaaDoor
open Go.RowKit
set_option maxRecDepth 100000

/-- a slice and an error; nothing has turned -/
def NoBytes (k : Int) (w : World) (e : Ending) (w' : World) : Prop := e = .returned (.tuple #[.slice none 0 0, .int .i64 k]) ∧ w = w'
def SomeBytes (bs : List UInt8) (w : World) (e : Ending) (w' : World) : Prop := ∃ v, e = .returned (.tuple #[v, .int .i64 0]) ∧ Sl w' w'.heap.size v bs ∧ Below w.heap.size w w'
theorem refAsk_neg (vp vi : Value) (n : Int) (w : World) (h : n < 0) : Calls Tryd.prog 28 #[vp, vi, .int .i64 n] w (NoBytes 1 w) := by
  unfold NoBytes
  go_enter Tryd.func28, Tryd.ntmps28
  go_wp2
  go_ret2
  exact ⟨rfl, rfl⟩
theorem refAsk_long (vp vi : Value) (n : Int) (w : World) (h : 8160 < n) : Calls Tryd.prog 28 #[vp, vi, .int .i64 n] w (NoBytes 3 w) := by
  unfold NoBytes
  have h0 : ¬ n < 0 := by omega
  go_enter Tryd.func28, Tryd.ntmps28
  go_wp2
  go_ret2
  exact ⟨rfl, rfl⟩
theorem expand_neg (vp vi : Value) (n : Int) (w : World) (h : n < 0) : Calls Tryd.prog 27 #[vp, vi, .int .i64 n] w (NoBytes 1 w) := by
  unfold NoBytes
  go_enter Tryd.func27, Tryd.ntmps27
  go_wp2
  go_ret2
  exact ⟨rfl, rfl⟩
theorem expand_long (vp vi : Value) (n : Int) (w : World) (h : 8160 < n) : Calls Tryd.prog 27 #[vp, vi, .int .i64 n] w (NoBytes 3 w) := by
  unfold NoBytes
  have h0 : ¬ n < 0 := by omega
  go_enter Tryd.func27, Tryd.ntmps27
  go_wp2
  go_ret2
  exact ⟨rfl, rfl⟩
theorem refAsk_yes (B : Nat) (vp vi : Value) (prk info : List UInt8) (n : Nat) (w : World) (hsp : Sl w B vp prk) (hsi : Sl w B vi info) (hB : B ≤ w.heap.size) (hp : prk.length ≤ 100000) (hi : info.length ≤ 100000) (hn : n ≤ 8160) :
    Calls Tryd.prog 28 #[vp, vi, .int .i64 (n : Int)] w (SomeBytes (expB prk info n) w) := by
  unfold SomeBytes
  go_enter Tryd.func28, Tryd.ntmps28
  go_wp2_with (go_at_call 46; refine (refExpand_any B vp vi prk info n _ hsp hsi hB hp hi hn).mono ?_)
  rintro e w1 ⟨v1, rfl, s1, b1⟩
  go_wp2
  go_ret2
  exact ⟨_, rfl, s1, b1⟩
theorem extract_any (B : Nat) (vk vm : Value) (k m : List UInt8) (w : World) (hk : Sl w B vk k) (hm : Sl w B vm m) (hB : B ≤ w.heap.size) (hv : Vars w) (hkl : k.length ≤ 1000000) (hml : m.length ≤ 1000000) :
    Calls Tryd.prog 26 #[vk, vm] w (SumIs w (macB k m)) := by
  unfold SumIs
  have hal : ∀ (X : World) o, Below X.heap.size X (X.alloc o) := fun X o => Below.alloc (Below.refl _ _) (Nat.le_refl _) o
  have bA : ∀ o o2, Below w.heap.size w ((w.alloc o).alloc o2) := fun o o2 => (hal w o).trans ((hal _ o2).mono (by rw [asz]; omega))
  have hflat : [m].flatten = m := by simp
  have hcl := macB_length k m
  obtain ⟨mc, HMC⟩ : ∃ mc, Hid (mc = macB k m) := ⟨_, Lib.hid rfl⟩
  rw [← HMC.out] at hcl ⊢
  obtain ⟨Am, cm, rfl, _, _⟩ := hm.form
  generalize hn0 : w.heap.size = n0 at *
  go_enter Tryd.func26, Tryd.ntmps26
  go_wp2_with (go_at_call 25; refine (mac_any (n0 + 2) _ _ k [m] _ ((hk.below ((bA _ _).mono hB)).more (by omega)) (PartsO.solo (q := n0 + 1) (u := .slice Am m.length cm) (Row.new_ (by rw [asz, hn0]) rfl) (Nat.lt_succ_self _) (by rw [asz, asz, hn0]; omega) ((hm.below ((bA _ _).mono hB)).more (by omega)) (hm.off (by rw [asz, asz, hn0]; omega))) (by rw [asz, asz, hn0]; exact Nat.le_refl _) (hv.step (by rw [hn0]; exact bA _ _)) (by omega) (by rw [hflat]; omega) (by simp)).mono ?_)
  rintro e w1 ⟨rfl, b1⟩
  rw [hflat, ← HMC.out]
  rw [asz, asz, hn0] at b1
  have hr1 : Row w1 n0 33 (Lib.byteCells (List.replicate 32 0)) := ((Row.new_ hn0.symm zero32b).alloc _).below b1 (by omega)
  have hb1 : Below n0 w w1 := (bA _ _).trans (b1.mono (by omega))
  clear b1 bA hal hk hm hv
  go_wp2_with (refine wpList_store_any rfl 33 (.tmp 4) (.tmp 8) rfl n0 rfl (Lib.byteCells mc) rfl 33 _ hr1 (info_b32.trans (size_bytes _ _ hcl)) (by rw [Lib.byteCells_length, Lib.byteCells_length, hcl]; rfl) (cell_oneCell _) ?_)
  intro w3 hr3 b3 _
  have hb3 := hb1.trans (b3.under (Nat.le_of_lt hr1.lt) (Nat.le_refl _))
  go_wp2
  exact ret_row Tryd.results26 rfl rfl hr3 Tryd.underlying33 rfl (info_b32.trans (size_bytes _ _ hcl)) ⟨rfl, hb3⟩
theorem expand_some (B : Nat) (vp vi : Value) (prk info : List UInt8) (n : Nat) (w : World) (hsp : Sl w B vp prk) (hsi : Sl w B vi info) (hB : B ≤ w.heap.size) (hv : Vars w) (hp : prk.length ≤ 100000) (hi : info.length ≤ 100000) (hn : n ≤ 8160) :
    Calls Tryd.prog 27 #[vp, vi, .int .i64 (n : Int)] w (SomeBytes (expB prk info n) w) :=
  (expand_any B vp vi prk info n w hsp hsi hB hv hp hi hn).mono fun _ _ ⟨v, he, g⟩ => ⟨v, he, gives_sl g, g.2⟩
end Go.Proofs.YthafhghnciofaaaDoor
