/-
  WALK: the law KeccakSums.
-/
import Derived.Test.YtjondbamnbgiaaaDoorRAsk
import Derived.Test.YtjondbamnbgiaaaDoorMuch
import Derived.Laws.Cover3
namespace Go.Proofs.YtjondbamnbgiaaaDoor
open Go.RowKit
set_option maxRecDepth 100000

theorem much_no {bss : List (List UInt8)} (h : muchB bss = false) : bss.flatten.length ≤ 2000 ∧ bss.length ≤ 200 := by
  unfold muchB at h
  rw [muchFrom_flat bss 0 (by omega)] at h
  simp only [Bool.or_eq_false_iff, decide_eq_false_iff_not] at h
  omega

set_option maxHeartbeats 1000000 in
theorem sums_walk (v : Value) (bss : List (List UInt8)) (w : World) (hp : PartsO w w.heap.size w.heap.size v bss) (hn : bss.length ≤ 281474976710656) (hlen : ∀ i (h : i < bss.length), bss[i].length ≤ 281474976710656) (hv : Vars w) :
    Calls Tryd.prog 4 #[v] w (TrueIs w) := by
  unfold TrueIs
  obtain ⟨A, c, rfl⟩ := hp.form
  generalize hn0 : w.heap.size = n0 at *
  go_enter Tryd.func4, Tryd.ntmps4
  go_wp2_with (go_at_call 12; refine (live_any _ hv).mono ?_)
  rintro e w1 ⟨rfl, b1⟩
  rw [hn0] at b1
  have hv1 := hv.step (by rw [hn0]; exact b1)
  have hp1 := hp.below b1
  have hs1 := b1.size
  rw [hn0] at hs1
  go_wp2_with (go_at_call 15; refine (much_any _ _ _ bss _ hp1 hn hlen).mono ?_)
  rintro e w2 ⟨rfl, rfl⟩
  clear hp hv
  cases hf : muchB bss with
  | true =>
    go_wp2_with (go_at_call 12; refine (live_any _ hv1).mono ?_)
    rintro e w3 ⟨rfl, b3⟩
    go_wp2
    go_ret
    exact ⟨rfl, b1.trans (b3.mono hs1)⟩
  | false =>
    obtain ⟨hfl, hfn⟩ := much_no hf
    clear hf hlen hn
    obtain ⟨m, HM⟩ : ∃ m, Shh (m = bss.flatten) := ⟨_, Shh.mk rfl⟩
    rw [← HM.out] at hfl
    have hJ := refJoin_any n0 n0 _ bss _ hp1 hs1 (by rw [← HM.out]; omega) (by omega)
    rw [← HM.out] at hJ
    go_wp2_with (go_at_call 16; refine hJ.mono ?_)
    rintro e w3 ⟨v3, rfl, g3⟩
    have s3 := gives_sl g3
    obtain ⟨A3, c3, rfl, _, _⟩ := s3.form
    have b3 := g3.2
    have hb3 := b1.trans (b3.mono hs1)
    have hv3 := hv1.step b3
    have hp3 := hp1.below (b3.mono hs1)
    have hs3 := b3.size
    clear g3 b3 hv1 hp1 b1 hJ
    have hX := sha3256_any bss (by omega) n0 _ _ hp3 (by omega) hv3
    have hxl : (spongeL 136 6 bss.flatten 32).length = 32 := Sp.outs_length _ _ _
    have hyl : (spongeL 72 6 bss.flatten 64).length = 64 := Sp.outs_length _ _ _
    obtain ⟨sx, HX⟩ : ∃ s, Shh (s = spongeL 136 6 bss.flatten 32) := ⟨_, Shh.mk rfl⟩
    obtain ⟨sy, HY⟩ : ∃ s, Shh (s = spongeL 72 6 bss.flatten 64) := ⟨_, Shh.mk rfl⟩
    rw [← HX.out] at hX hxl
    rw [← HY.out] at hyl
    go_wp2_with (go_at_call 17; refine hX.mono ?_)
    rintro e w4 ⟨rfl, b4⟩
    have hb4 := hb3.trans (b4.mono (by omega))
    have hv4 := hv3.step b4
    have hp4 := hp3.below (b4.mono (by omega))
    have s4 := s3.below b4
    have hs4 := b4.size
    clear b4 hv3 hp3 hb3 s3 hX
    have hY := sha3512_any bss (by omega) n0 _ _ hp4 (by omega) hv4
    rw [← HY.out] at hY
    go_wp2_with (go_at_call 18; refine hY.mono ?_)
    rintro e w5 ⟨rfl, b5⟩
    have hb5 := hb4.trans (b5.mono (by omega))
    have s5 := s4.below (b5.mono (by omega))
    have hs5 := b5.size
    clear b5 hv4 hp4 hb4 s4 hY
    go_wp2_with (refine wpList_store_any rfl 31 (.tmp 4) (.tmp 16) rfl w5.heap.size rfl (Lib.byteCells sx) rfl 31 (Lib.byteCells (List.replicate 32 0)) ((Row.new_ rfl zero32b).alloc _) (info_b32.trans (size_bytes _ _ hxl)) (by rw [Lib.byteCells_length, Lib.byteCells_length, hxl]; rfl) (cell_oneCell _) ?_)
    intro w7 hr7 b7 hs7
    try simp only [asz] at b7 hs7
    have hr8 : Row w7 (w5.heap.size + 1) 33 (Lib.byteCells (List.replicate 64 0)) := b7.row (Row.new_ (by rw [asz]) zero64b) (by omega) (by omega)
    have hb7 : Below n0 w w7 := ((hb5.alloc (by omega) _).alloc (by rw [asz]; omega) _).trans (b7.under (by omega) (by omega))
    have s7 : Sl w7 w3.heap.size (.slice A3 m.length c3) m := (s5.below (((Below.refl _ _).alloc (by omega) _).alloc (by rw [asz]; omega) _)).below (b7.under (by omega) (by omega))
    clear b7 s5
    generalize hn6 : w5.heap.size = n6 at *
    clear hn6 hb5
    go_wp2_with (refine wpList_store_any rfl 33 (.tmp 5) (.tmp 18) rfl (n6 + 1) rfl (Lib.byteCells sy) rfl 33 _ hr8 (info_b64.trans (size_bytes _ _ hyl)) (by rw [Lib.byteCells_length, Lib.byteCells_length, hyl]; rfl) (cell_oneCell _) ?_)
    intro w8 hr9 b8 hs8
    have hr7' := b8.row hr7 (by omega) (by omega)
    have hb8 := hb7.trans (b8.under (by omega) (by omega))
    have s8 := s7.below (b8.under (by omega) (by omega))
    have hq6 : n6 + 1 < w8.heap.size := hr9.lt
    clear hr7 hr8 b8 s7 hb7
    replace hr7' := hr7'.drew
    replace hr9 := hr9.drew
    replace hb8 := hb8.drew
    replace s8 := s8.drew
    have hdz : w8.drew.heap.size = w8.heap.size := rfl
    have h36 : w3.heap.size ≤ w8.drew.heap.size := by rw [hdz]; omega
    have h68 : n6 + 1 < w8.drew.heap.size := by rw [hdz]; exact hq6
    have h08 : n0 ≤ w8.drew.heap.size := by rw [hdz]; omega
    clear hdz hq6 hs8 hs7
    go_wp2
    refine wp_region_held_drew (S := fun w' => Below w8.drew.heap.size w8.drew w') (by kernel_rfl) (Below.refl _ _) (fun hS => ?_)
    generalize w8.drew = X at *
    refine held_value 0 _ _ (some 19) (.slice (some ⟨n6, 0, none⟩) 32 32) (by kernel_rfl) (by rfl) (by kernel_rfl) (fun w _ => by first | kernel_rfl | go_simp) (fun _ _ _ _ h => h) hS ?_
    refine held_value 1 _ _ (some 20) (.slice A3 m.length c3) (by kernel_rfl) (by rfl) (by kernel_rfl) (fun w _ => by first | kernel_rfl | go_simp) (fun _ _ _ _ h => h) hS ?_
    refine held_call 2 _ _ (some 21) 20 #[.slice A3 m.length c3] (by kernel_rfl) (by rfl) (by kernel_rfl) (by first | kernel_rfl | go_simp) ((refSha3256_any _ _ m _ s8 h36 (by omega)).mono ?_)
    rintro e w9 ⟨v9, rfl, g9⟩
    rw [HM.out, ← HX.out] at g9
    have s9 := gives_sl g9
    have b9 := g9.2
    obtain ⟨A9, c9, rfl, _, _⟩ := s9.form
    rw [hxl] at s9
    clear g9
    refine ⟨_, rfl, b9, ?_⟩
    rw [hxl]
    have t1 : Sl w9 w9.heap.size (.slice (some ⟨n6, 0, none⟩) 32 32) sx := Sl.of_bytes (hr7'.below b9 (by omega)) (by have := b9.size; omega) hxl (by decide)
    refine held_call 3 _ _ (some 22) 19 #[.slice (some ⟨n6, 0, none⟩) 32 32, .slice A9 32 c9] (by kernel_rfl) (by rfl) (by kernel_rfl) (by first | kernel_rfl | go_simp) ((refEqual_any _ _ _ _ sx sx _ t1 s9).mono ?_)
    rintro e w10 ⟨rfl, rfl⟩
    refine ⟨.bool true, by simp, b9, ?_⟩
    refine held_value 4 _ _ (some 23) (.bool true) (by kernel_rfl) (by rfl) (by kernel_rfl) (fun w _ => by first | kernel_rfl | go_simp) (fun _ _ _ _ h => h) b9 ?_
    refine held_value 5 _ _ (some 24) (.slice (some ⟨n6 + 1, 0, none⟩) 64 64) (by kernel_rfl) (by rfl) (by kernel_rfl) (fun w _ => by first | kernel_rfl | go_simp) (fun _ _ _ _ h => h) b9 ?_
    refine held_value 6 _ _ (some 25) (.slice A3 m.length c3) (by kernel_rfl) (by rfl) (by kernel_rfl) (fun w _ => by first | kernel_rfl | go_simp) (fun _ _ _ _ h => h) b9 ?_
    refine held_call 7 _ _ (some 26) 21 #[.slice A3 m.length c3] (by kernel_rfl) (by rfl) (by kernel_rfl) (by first | kernel_rfl | go_simp) ((refSha3512_any _ _ m _ (s8.below (b9.mono h36)) (by have := b9.size; omega) (by omega)).mono ?_)
    rintro e w11 ⟨v11, rfl, g11⟩
    rw [HM.out, ← HY.out] at g11
    have s11 := gives_sl g11
    have b11 := b9.trans (g11.2.mono b9.size)
    obtain ⟨A11, c11, rfl, _, _⟩ := s11.form
    rw [hyl] at s11
    clear g11
    refine ⟨_, rfl, b11, ?_⟩
    rw [hyl]
    have t2 : Sl w11 w11.heap.size (.slice (some ⟨n6 + 1, 0, none⟩) 64 64) sy := Sl.of_bytes (hr9.below b11 (by omega)) (by have := b11.size; omega) hyl (by decide)
    refine held_call 8 _ _ (some 27) 19 #[.slice (some ⟨n6 + 1, 0, none⟩) 64 64, .slice A11 64 c11] (by kernel_rfl) (by rfl) (by kernel_rfl) (by first | kernel_rfl | go_simp) ((refEqual_any _ _ _ _ sy sy _ t2 s11).mono ?_)
    rintro e w12 ⟨rfl, rfl⟩
    refine ⟨.bool true, by simp, b11, ?_⟩
    refine held_value 9 _ _ (some 28) (.bool true) (by kernel_rfl) (by rfl) (by kernel_rfl) (fun w _ => by first | kernel_rfl | go_simp) (fun _ _ _ _ h => h) b11 ?_
    refine held_value 10 _ _ (some 2) (.bool true) (by kernel_rfl) (by rfl) (by kernel_rfl) (fun w _ => by first | kernel_rfl | go_simp) (fun _ _ _ _ h => h) b11 ?_
    refine wpAnyH_done (by kernel_rfl) ?_ _
    simp only [Act.put, List.setIfInBounds_toArray, List.set_cons_zero, List.set_cons_succ]
    go_wp2
    go_ret
    exact ⟨rfl, hb8.trans (b11.mono h08)⟩
end Go.Proofs.YtjondbamnbgiaaaDoor
