/-
  WALKS: sha2.Sum192; the law Sha2Sums.
-/
import Derived.Test.YthafhghnciofaaaDoorRefSum
import Derived.Test.YthafhghnciofaaaDoorHand
import Derived.Test.YthafhghnciofaaaDoorExp
import Derived.Laws.Cover3
namespace Go.Proofs.YthafhghnciofaaaDoor
open Go.RowKit
set_option maxRecDepth 100000

theorem run_cutS (A : Option Addr) (n c j : Nat) (hj : j ≤ c) (w : World) : (Instr.sliceAt 30 (.slice A n c) none (some (.int .i64 (j : Int))) none).run Tryd.prog w = .ok (sliced A 0 j c 1) w := by
  rw [run_sliceAt_slice _ _ _ _ _ _ slice30, run_slice_h w 30 A n c slice30 .i64 (j : Int) (by omega) (by omega), elem30, run_sizeOf_u8, Result.andThen_ok, Int.toNat_natCast]
set_option maxHeartbeats 1000000 in
theorem sum192_any (bss : List (List UInt8)) (B : Nat) (v : Value) (w : World) (hp : PartsO w B w.heap.size v bss) (hB : B ≤ w.heap.size) (hv : Vars w) (hl : bss.flatten.length ≤ 1000000000) (hn : bss.length ≤ 1000) :
    Calls Tryd.prog 18 #[v] w (SumIs w ((sha bss.flatten).take 24)) := by
  unfold SumIs
  have hal : ∀ o, Below w.heap.size w (w.alloc o) := fun o => Below.alloc (Below.refl _ _) (Nat.le_refl _) o
  generalize hn0 : w.heap.size = n0 at *
  have hvA : ∀ o, Vars (w.alloc o) := fun o => hv.step (by rw [hn0]; exact hal o)
  go_enter Tryd.func18, Tryd.ntmps18
  go_wp2_with (go_at_call 17; refine (sum256_any bss B v _ ((hp.moved (by rw [asz]; omega)).below ((hal _).mono hB)) (by rw [asz]; omega) (hvA _) hl hn).mono ?_)
  rintro e w1 ⟨rfl, b1⟩
  rw [asz, hn0] at b1
  have hr1 : Row w1 n0 35 (Lib.byteCells (List.replicate 24 0)) := (Row.new_ hn0.symm zero24b).below b1 (by omega)
  have hb1 : Below n0 w w1 := (hal _).trans (b1.mono (by omega))
  have hshl := sha_length bss.flatten
  obtain ⟨sm, HSM⟩ : ∃ sm, Hid (sm = sha bss.flatten) := ⟨_, Lib.hid rfl⟩
  rw [← HSM.out] at hshl ⊢
  clear b1 hal hvA hp hv
  go_wp2_with (refine wpList_store_any rfl 33 (.tmp 3) (.tmp 5) rfl w1.heap.size rfl (Lib.byteCells sm) rfl 33 (Lib.byteCells (List.replicate 32 0)) (Row.new_ rfl zero32b) (info_b32.trans (size_bytes _ _ hshl)) (by rw [Lib.byteCells_length, Lib.byteCells_length, hshl]; rfl) (cell_oneCell _) ?_)
  intro w2 hr2 bt hs2
  try simp only [asz] at bt hs2
  replace hr1 := bt.row (hr1.alloc _) (by have := hr1.lt; omega) (by have := hr1.lt; omega)
  have hb2 : Below n0 w w2 := (hb1.alloc (by have := hr1.lt; have := hb1.size; omega) _).trans (bt.under (by have := hb1.size; omega) (by have := hb1.size; omega))
  have hlt := hr1.lt
  generalize w1.heap.size = n1 at *
  have h01 : ¬ n1 = n0 := by
    intro e
    subst e
    have := hr1.symm.trans hr2
    have h2 := congrArg (fun o => match o with | some (Obj.cells a _ _) => a.size | _ => 0) this
    simp [Lib.byteCells_length, hshl] at h2
  have harr := run_arrayAt (P := Tryd.prog) w2 35 5 24 (some ⟨n1, 0, none⟩) 24 32 Tryd.underlying35 (Nat.le_refl _)
  have hmid : w2.rangeAt n1 0 (Lib.byteCells (sm.take 24)) := by
    have := hr2.mid 0 24
    rw [List.drop_zero] at this
    simpa [Lib.byteCells, List.map_take] using this
  have htl : (sm.take 24).length = 24 := by simp; omega
  go_wp2_with (first
    | refine wpList_load_mid rfl 35 (.tmp 7) rfl n1 0 rfl (Lib.byteCells (sm.take 24)) (.array 24 5) hmid Tryd.underlying35 rfl (info_b24.trans (size_bytes _ _ htl)) ?_
    | refine wpList_store_any rfl 35 (.tmp 2) (.tmp 8) rfl n0 rfl (Lib.byteCells (sm.take 24)) rfl 35 _ hr1 (info_b24.trans (size_bytes _ _ htl)) (by rw [Lib.byteCells_length, Lib.byteCells_length, htl]; rfl) (cell_oneCell _) ?_)
  intro w3 hr3 b3 _
  have hb3 := hb2.trans (b3.under (Nat.le_of_lt (by omega)) (Nat.le_refl _))
  rw [HSM.out] at hr3 htl
  go_wp2
  exact ret_row Tryd.results18 rfl rfl hr3 Tryd.underlying35 rfl (info_b24.trans (size_bytes _ _ htl)) ⟨rfl, hb3⟩

set_option maxHeartbeats 1000000 in
theorem sums_walk (v : Value) (bss : List (List UInt8)) (w : World) (hp : PartsO w w.heap.size w.heap.size v bss) (hn : bss.length ≤ 9223372036854775807) (hv : Vars w) :
    Calls Tryd.prog 4 #[v] w (TrueIs w) := by
  unfold TrueIs
  obtain ⟨A, c, rfl⟩ := hp.form
  generalize hn0 : w.heap.size = n0 at *
  go_enter Tryd.func4, Tryd.ntmps4
  go_wp2_with (go_at_call 11; refine (live_any _ hv).mono ?_)
  rintro e w1 ⟨rfl, b1⟩
  rw [hn0] at b1
  have hv1 := hv.step (by rw [hn0]; exact b1)
  have hp1 := hp.below b1
  have hs1 := b1.size
  rw [hn0] at hs1
  go_wp2_with (go_at_call 14; refine (few_any _ _ _ bss _ hp1 hn).mono ?_)
  rintro e w2 ⟨rfl, rfl⟩
  clear hp hv
  cases hf : fewB bss with
  | false =>
    go_wp2_with (go_at_call 11; refine (live_any _ hv1).mono ?_)
    rintro e w3 ⟨rfl, b3⟩
    go_wp2
    go_ret
    exact ⟨rfl, b1.trans (b3.mono hs1)⟩
  | true =>
    obtain ⟨hfa, hfb⟩ := few_yes hf
    have hfl : bss.flatten.length ≤ 3000 * bss.length := by
      clear hf hfb hp1 hn
      induction bss with
      | nil => simp
      | cons x r ih =>
        have h1 := hfa x (by simp)
        have h2 := ih (fun b hb => hfa b (by simp [hb]))
        simp only [List.flatten_cons, List.length_append, List.length_cons]
        omega
    have hfl2 : bss.flatten.length ≤ 120000 := by omega
    clear hf hfa hfl
    go_wp2_with (go_at_call 16; refine (refJoin_any n0 n0 _ bss _ hp1 hs1 (by omega) (by omega)).mono ?_)
    rintro e w3 ⟨v3, rfl, g3⟩
    have s3 := gives_sl g3
    have b3 := g3.2
    have hb3 := b1.trans (b3.mono hs1)
    have hv3 := hv1.step b3
    have hp3 := hp1.below (b3.mono hs1)
    have hs3 := b3.size
    clear g3 b3 hv1 hp1 b1
    go_wp2_with (go_at_call 15; refine (refSum_any w3.heap.size v3 _ _ s3 (Nat.le_refl _) (by omega)).mono ?_)
    rintro e w4 ⟨v4, rfl, g4⟩
    have s4 := gives_sl g4
    obtain ⟨A4, c4, rfl, hc4, _⟩ := s4.form
    have b4 := g4.2
    have hb4 := hb3.trans (b4.mono (by omega))
    have hv4 := hv3.step b4
    have hp4 := hp3.below (b4.mono (by omega))
    have hs4 := b4.size
    clear g4 b4 hv3 hp3 hb3 s3
    go_wp2_with (go_at_call 17; refine (sum256_any bss n0 _ _ (hp4.moved (by omega)) (by omega) hv4 (by omega) (by omega)).mono ?_)
    rintro e w5 ⟨rfl, b5⟩
    have hb5 := hb4.trans (b5.mono (by omega))
    have hv5 := hv4.step b5
    have hp5 := hp4.below (b5.mono (by omega))
    have s5 := s4.below b5
    have hs5 := b5.size
    have hshl := sha_length bss.flatten
    go_wp2_with (go_at_call 18; refine (sum192_any bss n0 _ _ (hp5.moved (by omega)) (by omega) hv5 (by omega) (by omega)).mono ?_)
    rintro e w6 ⟨rfl, b6⟩
    have hb6 := hb5.trans (b6.mono (by omega))
    have s6 := s5.below (b6.mono hs5)
    have hs6 := b6.size
    generalize sha bss.flatten = sm at *
    have htl : (sm.take 24).length = 24 := by simp; omega
    clear b5 b6 hb5 hb4 hv5 hv4 hp5 hp4 s5 s4
    go_wp2_with (refine wpList_store_any rfl 33 (.tmp 4) (.tmp 18) rfl w6.heap.size rfl (Lib.byteCells sm) rfl 33 (Lib.byteCells (List.replicate 32 0)) ((Row.new_ rfl zero32b).alloc _) (info_b32.trans (size_bytes _ _ hshl)) (by rw [Lib.byteCells_length, Lib.byteCells_length, hshl]; rfl) (cell_oneCell _) ?_)
    intro w7 hr7 b7 hs7
    try simp only [asz] at b7 hs7
    have hr8 : Row w7 (w6.heap.size + 1) 35 (Lib.byteCells (List.replicate 24 0)) := b7.row (Row.new_ (by rw [asz]) zero24b) (by omega) (by omega)
    have hb7 : Below n0 w w7 := ((hb6.alloc (by omega) _).alloc (by rw [asz]; omega) _).trans (b7.under (by omega) (by omega))
    have s7 : Sl w7 w4.heap.size (.slice A4 sm.length c4) sm := (s6.below (((Below.refl _ _).alloc (by omega) _).alloc (by rw [asz]; omega) _)).below (b7.under (by omega) (by omega))
    clear b7 s6
    generalize hn6 : w6.heap.size = n6 at *
    clear hn6 hb6
    go_wp2_with (refine wpList_store_any rfl 35 (.tmp 5) (.tmp 20) rfl (n6 + 1) rfl (Lib.byteCells (sm.take 24)) rfl 35 _ hr8 (info_b24.trans (size_bytes _ _ htl)) (by rw [Lib.byteCells_length, Lib.byteCells_length, htl]; rfl) (cell_oneCell _) ?_)
    intro w8 hr9 b8 hs8
    have hr7' := b8.row hr7 (by omega) (by omega)
    have hb8 := hb7.trans (b8.under (by omega) (by omega))
    have s8 := s7.below (b8.under (by omega) (by omega))
    have hcut := s8.cut 0 24 (Nat.zero_le _) (by omega) (by omega)
    rw [List.drop_zero] at hcut
    have hrc := run_cutS A4 sm.length c4 24 (by omega)
    have sx : Sl w8 (n6 + 2) (.slice (some ⟨n6, 0, none⟩) 32 32) sm := Sl.of_bytes hr7' (by omega) hshl (by decide)
    have sy : Sl w8 (n6 + 2) (.slice (some ⟨n6 + 1, 0, none⟩) 24 24) (sm.take 24) := Sl.of_bytes hr9 (by omega) htl (by decide)
    generalize sliced A4 0 24 c4 1 = vc at *
    clear hr9 hr7' hr7 hr8 b8 s7 hb7
    go_wp2
    refine wp_region_held_drew (S := fun w' => w' = w8.drew) (by kernel_rfl) rfl (fun hS => ?_)
    refine held_value 0 _ _ (some 21) (.slice (some ⟨n6, 0, none⟩) 32 32) (by kernel_rfl) (by rfl) (by kernel_rfl) (fun w _ => by first | kernel_rfl | go_simp) (fun _ _ _ _ h => h) rfl ?_
    refine held_value 1 _ _ (some 22) (.slice A4 sm.length c4) (by kernel_rfl) (by rfl) (by kernel_rfl) (fun w _ => by first | kernel_rfl | go_simp) (fun _ _ _ _ h => h) rfl ?_
    refine held_call 2 _ _ (some 23) 19 #[.slice (some ⟨n6, 0, none⟩) 32 32, .slice A4 sm.length c4] (by kernel_rfl) (by rfl) (by kernel_rfl) (by first | kernel_rfl | go_simp) ((refEqual_any _ _ _ _ sm sm _ sx.drew s8.drew).mono ?_)
    rintro e w9 ⟨rfl, rfl⟩
    refine ⟨.bool true, by simp, rfl, ?_⟩
    refine held_value 3 _ _ (some 24) (.bool true) (by kernel_rfl) (by rfl) (by kernel_rfl) (fun w _ => by first | kernel_rfl | go_simp) (fun _ _ _ _ h => h) rfl ?_
    refine held_value 4 _ _ (some 25) (.slice (some ⟨n6 + 1, 0, none⟩) 24 24) (by kernel_rfl) (by rfl) (by kernel_rfl) (fun w _ => by first | kernel_rfl | go_simp) (fun _ _ _ _ h => h) rfl ?_
    refine held_value 5 _ _ (some 26) (.slice A4 sm.length c4) (by kernel_rfl) (by rfl) (by kernel_rfl) (fun w _ => by first | kernel_rfl | go_simp) (fun _ _ _ _ h => h) rfl ?_
    refine held_value 6 (.slice 30 (.tmp 26) none (some (.const (.int .i64 24))) none) 30 (some 27) vc (by kernel_rfl) (by rfl) (by kernel_rfl) (fun w _ => run_slice_op (u := .slice A4 sm.length c4) (h := .int .i64 24) ⟨by kernel_rfl, by kernel_rfl⟩ (hrc w)) (fun _ _ _ _ h => h) rfl ?_
    refine held_call 7 _ _ (some 28) 19 #[.slice (some ⟨n6 + 1, 0, none⟩) 24 24, vc] (by kernel_rfl) (by rfl) (by kernel_rfl) (by first | kernel_rfl | go_simp) ((refEqual_any _ _ _ _ (sm.take 24) (sm.take 24) _ sy.drew hcut.drew).mono ?_)
    rintro e w9 ⟨rfl, rfl⟩
    refine ⟨.bool true, by simp, rfl, ?_⟩
    refine held_value 8 _ _ (some 29) (.bool true) (by kernel_rfl) (by rfl) (by kernel_rfl) (fun w _ => by first | kernel_rfl | go_simp) (fun _ _ _ _ h => h) rfl ?_
    refine held_value 9 _ _ (some 2) (.bool true) (by kernel_rfl) (by rfl) (by kernel_rfl) (fun w _ => by first | kernel_rfl | go_simp) (fun _ _ _ _ h => h) rfl ?_
    refine wpAnyH_done (by kernel_rfl) ?_ _
    simp only [Act.put, List.setIfInBounds_toArray, List.set_cons_zero, List.set_cons_succ]
    go_wp2
    go_ret
    exact ⟨rfl, hb8.drew⟩
end Go.Proofs.YthafhghnciofaaaDoor
