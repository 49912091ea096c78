/-
  WALK: the law Sha2Padded.
-/
import Derived.Test.YthafhghnciofaaaDoorSums
namespace Go.Proofs.YthafhghnciofaaaDoor
open Go.RowKit
set_option maxRecDepth 100000

theorem keyB_pad (k : List UInt8) (z : Nat) (h : k.length + z ≤ 64) : keyB (k ++ List.replicate z 0) = keyB k := by
  rw [keyB_short _ (by simp; omega), keyB_short k (by omega), List.append_assoc, List.replicate_append_replicate]
  simp
  omega
theorem keyB_sum (k : List UInt8) (h : 64 < k.length) : keyB (sha k) = keyB k := by
  rw [keyB_short _ (by rw [sha_length]; omega), keyB_long k h]
theorem macB_key (k k' m : List UInt8) (h : keyB k = keyB k') : macB k m = macB k' m := by unfold macB; rw [h]

set_option maxHeartbeats 1000000 in
theorem padded_walk (v0 v2 : Value) (k m : List UInt8) (z : Nat) (w : World) (hz : z ≤ 255) (hs0 : Sl w w.heap.size v0 k) (hs2 : Sl w w.heap.size v2 m) (hv : Vars w) :
    Calls Tryd.prog 9 #[v0, .int .u8 (z : Int), v2] w (TrueIs w) := by
  unfold TrueIs
  obtain ⟨A0, c0, rfl, hc0, hc0'⟩ := hs0.form
  obtain ⟨A2, c2, rfl, hc2, hc2'⟩ := hs2.form
  generalize hn0 : w.heap.size = n0 at *
  go_enter Tryd.func9, Tryd.ntmps9
  go_wp2_with (go_at_call 11; refine (live_any _ hv).mono ?_)
  rintro e w1 ⟨rfl, b1⟩
  rw [hn0] at b1
  have hv1 := hv.step (by rw [hn0]; exact b1)
  have hs1 := b1.size
  rw [hn0] at hs1
  have bA : ∀ o, Below w1.heap.size w1 (w1.alloc o) := fun o => Below.alloc (Below.refl _ _) (Nat.le_refl _) o
  have h0 := hs0.below b1
  have h2 := hs2.below b1
  have hp : ∀ T, PartsO (w1.alloc (.cells #[.slice A0 k.length c0, .slice A2 m.length c2] T)) (w1.heap.size + 1) (w1.heap.size + 1) (.slice (some ⟨w1.heap.size, 0, none⟩) 2 2) [k, m] := fun T =>
    PartsO.two (Nat.lt_succ_self _) (by omega) (Row.new_ rfl rfl) ((h0.below ((bA _).mono hs1)).more (by omega)) (h0.off (by omega)) ((h2.below ((bA _).mono hs1)).more (by omega)) (h2.off (by omega))
  go_wp2_with (go_at_call 14; refine (few_any _ _ _ [k, m] _ (hp _) (by simp)).mono ?_)
  rintro e w2 ⟨rfl, hw2⟩
  have hb2 : Below n0 w w2 := by rw [hw2]; exact b1.trans ((bA _).mono hs1)
  have hv2 : Vars w2 := by rw [hw2]; exact hv1.step (bA _)
  have h02 : Sl w2 n0 (.slice A0 k.length c0) k := by rw [hw2]; exact h0.below ((bA _).mono hs1)
  have h22 : Sl w2 n0 (.slice A2 m.length c2) m := by rw [hw2]; exact h2.below ((bA _).mono hs1)
  have hs2' : n0 ≤ w2.heap.size := by rw [hw2, asz]; omega
  clear hp bA hw2 hs0 hs2 hv hv1 h0 h2 b1 hs1
  cases hf : fewB [k, m] with
  | false =>
    go_wp2_with (go_at_call 11; refine (live_any _ hv2).mono ?_)
    rintro e w3 ⟨rfl, b3⟩
    go_wp2
    go_ret
    exact ⟨rfl, hb2.trans (b3.mono hs2')⟩
  | true =>
    obtain ⟨hfa, _⟩ := few_yes hf
    have hkl : k.length ≤ 3000 := hfa k (by simp)
    have hml : m.length ≤ 3000 := hfa m (by simp)
    clear hfa hf
    have bA : ∀ o, Below w2.heap.size w2 (w2.alloc o) := fun o => Below.alloc (Below.refl _ _) (Nat.le_refl _) o
    go_wp2_with (go_at_call 25; refine (mac_any (w2.heap.size + 1) _ _ k [m] _ ((h02.below ((bA _).mono hs2')).more (by omega)) (PartsO.solo (Row.new_ rfl rfl) (Nat.lt_succ_self _) (by rw [asz]; omega) ((h22.below ((bA _).mono hs2')).more (by omega)) (h22.off (by rw [asz]; omega))) (by rw [asz]; exact Nat.le_refl _) (hv2.step (bA _)) (by omega) (by simp; omega) (by simp)).mono ?_)
    rintro e w3 ⟨rfl, b3⟩
    rw [asz] at b3
    have hb3 : Below n0 w w3 := hb2.trans (((bA _).mono hs2').trans (b3.mono (by omega)))
    have h03 := h02.below (((bA _).mono hs2').trans (b3.mono (by omega)))
    have h23 := h22.below (((bA _).mono hs2').trans (b3.mono (by omega)))
    have hv3 := hv2.step ((bA _).trans (b3.mono (by omega)))
    have hs3 : n0 ≤ w3.heap.size := by have := b3.size; rw [asz] at this; omega
    have hflat : [m].flatten = m := by simp
    rw [hflat]
    have hcl := macB_length k m
    obtain ⟨mc, hmc⟩ : ∃ mc, mc = macB k m := ⟨_, rfl⟩
    have HMC := Lib.hid hmc
    rw [← hmc] at hcl ⊢
    clear hmc bA b3 h02 h22 hv2 hb2
    go_wp2_with (refine wpList_store_any rfl 33 (.tmp 7) (.tmp 22) rfl w3.heap.size rfl (Lib.byteCells mc) rfl 33 (Lib.byteCells (List.replicate 32 0)) (Row.new_ rfl zero32b) (info_b32.trans (size_bytes _ _ hcl)) (by rw [Lib.byteCells_length, Lib.byteCells_length, hcl]; rfl) (cell_oneCell _) ?_)
    intro w4 hr4 bt hs4
    try simp only [asz] at bt hs4
    have b4 : Below w3.heap.size w3 w4 := (Below.alloc (Below.refl _ _) (Nat.le_refl _) _).trans (bt.under (Nat.le_succ _) (Nat.le_refl _))
    have hb4 := hb3.trans (b4.mono hs3)
    have h04 := h03.below (b4.mono hs3)
    have h24 := h23.below (b4.mono hs3)
    have hv4 := hv3.step b4
    have hi33 : (Tryd.prog.info? 33).map (·.size) = some (Lib.byteCells mc).length := info_b32.trans (size_bytes _ _ hcl)
    have heq := eq32 mc mc hcl hcl
    have hbb : (mc == mc) = true := by simp
    rw [hbb] at heq
    have h74 : w3.heap.size < w4.heap.size := by omega
    clear hs4
    generalize hn7 : w3.heap.size = n7 at *
    clear bt b4 hb3 h03 h23 hv3 hbb hn7
    by_cases hlong : 64 < k.length
    · have ht : ¬ (k.length : Int) ≤ 64 := by omega
      go_wp2_with (go_at_call 17; refine (sum256_any [k] (w4.heap.size + 1) _ _ (PartsO.solo (Row.new_ rfl rfl) (Nat.lt_succ_self _) (by rw [asz]; omega) ((h04.below (Below.alloc (Below.refl n0 w4) (by omega) _)).more (by omega)) (h04.off (by rw [asz]; omega))) (by rw [asz]; omega) (hv4.step (Below.alloc (Below.refl _ _) (Nat.le_refl _) _)) (by simp; omega) (by simp)).mono ?_)
      rintro e w5 ⟨rfl, b5⟩
      rw [asz] at b5
      have b5' : Below w4.heap.size w4 w5 := (Below.alloc (Below.refl _ _) (Nat.le_refl _) _).trans (b5.mono (Nat.le_succ _))
      have hr5 := hr4.below b5' hr4.lt
      have hb5 := hb4.trans (b5'.mono (by omega))
      have h25 := h24.below (b5'.mono (by omega))
      have hv5 := hv4.step b5'
      have hs5 := b5'.size
      clear b5 b5' hr4 hb4 h04 h24 hv4
      have hsl := sha_length k
      obtain ⟨sk, hsk⟩ : ∃ sk, sk = sha k := ⟨_, rfl⟩
      have HSK := Lib.hid hsk
      rw [← hsk] at hsl ⊢
      clear hsk
      go_wp2_with (refine wpList_store_any rfl 33 (.tmp 8) (.tmp 43) rfl w5.heap.size rfl (Lib.byteCells sk) rfl 33 (Lib.byteCells (List.replicate 32 0)) (Row.new_ rfl zero32b) (info_b32.trans (size_bytes _ _ hsl)) (by rw [Lib.byteCells_length, Lib.byteCells_length, hsl]; rfl) (cell_oneCell _) ?_)
      intro w6 hr8 bt hs6
      try simp only [asz] at bt hs6
      have b6 : Below w5.heap.size w5 w6 := (Below.alloc (Below.refl _ _) (Nat.le_refl _) _).trans (bt.under (Nat.le_succ _) (Nat.le_refl _))
      have hr4 := hr5.below b6 hr5.lt
      have hb4 := hb5.trans (b6.mono (by omega))
      have h24 := h25.below (b6.mono (by omega))
      have hv4 := hv5.step b6
      have h86 : w5.heap.size < w6.heap.size := by omega
      have h75 : n7 < w5.heap.size := by omega
      clear hs6
      generalize hn8 : w5.heap.size = n8 at *
      clear bt b6 hb5 h25 hv5 hn8 hr5 hs5 h74
      go_wp2
      replace hr4 := hr4.drew
      replace hr8 := hr8.drew
      replace hb4 := hb4.drew
      replace h24 := h24.drew
      replace hv4 := hv4.drew
      replace h86 : n8 < w6.drew.heap.size := h86
      refine wp_region_held_drew (S := fun w' => w'.rangeAt n7 0 (Lib.byteCells mc)) (by kernel_rfl) hr4.range (fun hS => ?_)
      generalize w6.drew = W at *
      refine held_value 0 _ _ (some 44) (.slice (some ⟨n8, 0, none⟩) 32 32) (by kernel_rfl) (by rfl) (by kernel_rfl) (fun w _ => by first | kernel_rfl | go_simp) (fun _ _ _ _ h => h) hr4.range ?_
      refine held_value 1 _ _ (some 45) (.slice A2 m.length c2) (by kernel_rfl) (by rfl) (by kernel_rfl) (fun w _ => by first | kernel_rfl | go_simp) (fun _ _ _ _ h => h) hr4.range ?_
      refine held_load 4 33 (.tmp 7) (some 48) (by kernel_rfl) (by rfl) (by kernel_rfl) n7 0 (by kernel_rfl) (Lib.byteCells mc) (.array 32 5) (fun w h => h) Tryd.underlying33 rfl hi33 (fun _ _ _ _ h => h) hr4.range ?_
      simp only [Act.put, List.setIfInBounds_toArray, List.set_cons_zero, List.set_cons_succ]
      refine held_one 2 (by kernel_rfl) ?_
      have bx : Below W.heap.size W (W.alloc (.cells #[.slice A2 m.length c2] 30)) := Below.alloc (Below.refl _ _) (Nat.le_refl _) _
      refine step_value 2 _ _ (some 46) (.slice (some ⟨W.heap.size, 0, none⟩) 1 1) (W.alloc (.cells #[.slice A2 m.length c2] 30)) (by rfl) (by kernel_rfl) (by first | kernel_rfl | go_simp) (hr4.below bx hr4.lt).range ?_
      simp only [Act.put, List.setIfInBounds_toArray, List.set_cons_zero, List.set_cons_succ]
      have rP : Row (W.alloc (.cells #[.slice A2 m.length c2] 30)) W.heap.size _ _ := Row.new_ rfl rfl
      have zP := asz W (.cells #[.slice A2 m.length c2] 30)
      have hr4 := hr4.below bx hr4.lt
      have hr8 := hr8.below bx hr8.lt
      have hb4 := hb4.trans (bx.mono (by omega))
      have h24 := h24.below (bx.mono (by omega))
      have hv4 := hv4.step bx
      have hNP : W.heap.size < (W.alloc (.cells #[.slice A2 m.length c2] 30)).heap.size := by omega
      generalize W.alloc (.cells #[.slice A2 m.length c2] 30) = X at *
      clear zP bx
      generalize hbP' : W.heap.size = bP at *
      have HMZ : Hid (macB sk m = mc) := Lib.hid (by rw [HMC.out, HSK.out]; exact macB_key _ _ _ (keyB_sum k hlong))
      have hM := mac_any X.heap.size (.slice (some ⟨n8, 0, none⟩) 32 32) (.slice (some ⟨bP, 0, none⟩) 1 1) sk [m] X (Sl.of_bytes hr8 hr8.lt hsl (by decide)) (PartsO.solo rP rP.lt (Nat.ne_of_lt rP.lt) (h24.more (by omega)) (h24.off (by omega))) (Nat.le_refl _) hv4 (by omega) (by rw [hflat]; omega) (by simp)
      refine held_call 3 _ _ (some 47) 25 #[.slice (some ⟨n8, 0, none⟩) 32 32, .slice (some ⟨bP, 0, none⟩) 1 1] (by kernel_rfl) (by rfl) (by kernel_rfl) (by kernel_rfl) ?_
      refine hM.mono ?_
      rintro e XT ⟨rfl, bT⟩
      rw [hflat, HMZ.out]
      have hr5 := hr4.below bT hr4.lt
      refine ⟨_, rfl, hr5.range, ?_⟩
      simp only [Act.put, List.setIfInBounds_toArray, List.set_cons_zero, List.set_cons_succ]
      refine held_value 5 (.binOp .eql 33 (.tmp 47) (.tmp 48) 33) 4 (some 49) (.bool true) (by kernel_rfl) (by rfl) (by kernel_rfl) (fun w _ => run_eql_agg (P := Tryd.prog) (p := (Lib.byteCells mc).toArray) (q := (Lib.byteCells mc).toArray) (by kernel_rfl) (heq w) (by kernel_rfl) (by kernel_rfl)) (fun _ _ _ _ h => h) hr5.range ?_
      simp only [Act.put, List.setIfInBounds_toArray, List.set_cons_zero, List.set_cons_succ]
      refine held_value 6 _ _ (some 6) (.bool true) (by kernel_rfl) (by rfl) (by kernel_rfl) (fun w _ => by first | kernel_rfl | go_simp) (fun _ _ _ _ h => h) hr5.range ?_
      refine wpAnyH_done (by kernel_rfl) ?_ _
      simp only [Act.put, List.setIfInBounds_toArray, List.set_cons_zero, List.set_cons_succ]
      go_wp2
      go_ret
      exact ⟨rfl, hb4.trans (bT.mono (by omega))⟩
    · have ht : (k.length : Int) ≤ 64 := by omega
      obtain ⟨r, hr⟩ : ∃ r, r = 65 - k.length := ⟨_, rfl⟩
      obtain ⟨z2, hz2⟩ : ∃ z2, z2 = z % r := ⟨_, rfl⟩
      have hz2l : z2 ≤ 64 - k.length := by
        have := Nat.mod_lt z (show 0 < r by omega)
        omega
      have qa : IntKind.i64.wrap (65 - (k.length : Int)) = (r : Int) := by rw [IntKind.wrap_i64]; omega
      have qb : (z : Int).tmod (r : Int) = (z2 : Int) := (show (z : Int).tmod (r : Int) = ((z % r : Nat) : Int) from rfl).trans (by rw [hz2])
      have hmk := make_run z2 (by omega)
      have HZ := Lib.hid hz2l
      have hr0 : ¬ r = 0 := by omega
      have qz : IntKind.i64.wrap (z : Int) = (z : Int) := by rw [IntKind.wrap_i64]; omega
      clear hz2 hr hz2l
      go_wp2
      replace hr4 := hr4.drew
      replace hb4 := hb4.drew
      replace h04 := h04.drew
      replace h24 := h24.drew
      replace hv4 := hv4.drew
      replace h74 : n7 < w4.drew.heap.size := h74
      refine wp_region_held_drew (S := fun w' => w'.rangeAt n7 0 (Lib.byteCells mc)) (by kernel_rfl) hr4.range (fun hS => ?_)
      generalize w4.drew = W at *
      refine held_value 0 _ _ (some 26) (.slice A0 k.length c0) (by kernel_rfl) (by rfl) (by kernel_rfl) (fun w _ => by first | kernel_rfl | go_simp) (fun _ _ _ _ h => h) hr4.range ?_
      refine held_value 1 _ _ (some 27) (.int .u8 (z : Int)) (by kernel_rfl) (by rfl) (by kernel_rfl) (fun w _ => by first | kernel_rfl | go_simp) (fun _ _ _ _ h => h) hr4.range ?_
      simp only [Act.put, List.setIfInBounds_toArray, List.set_cons_zero, List.set_cons_succ]
      refine held_value 2 _ _ (some 28) (.int .i64 (z : Int)) (by kernel_rfl) (by rfl) (by kernel_rfl) (fun w _ => by go_simp) (fun _ _ _ _ h => h) hr4.range ?_
      refine held_value 3 _ _ (some 29) (.slice A0 k.length c0) (by kernel_rfl) (by rfl) (by kernel_rfl) (fun w _ => by first | kernel_rfl | go_simp) (fun _ _ _ _ h => h) hr4.range ?_
      refine held_value 4 _ _ (some 30) (.int .i64 (k.length : Int)) (by kernel_rfl) (by rfl) (by kernel_rfl) (fun w _ => by first | kernel_rfl | go_simp) (fun _ _ _ _ h => h) hr4.range ?_
      simp only [Act.put, List.setIfInBounds_toArray, List.set_cons_zero, List.set_cons_succ]
      refine held_value 5 _ _ (some 31) (.int .i64 (r : Int)) (by kernel_rfl) (by rfl) (by kernel_rfl) (fun w _ => by go_simp) (fun _ _ _ _ h => h) hr4.range ?_
      simp only [Act.put, List.setIfInBounds_toArray, List.set_cons_zero, List.set_cons_succ]
      refine held_value 6 _ _ (some 32) (.int .i64 (z2 : Int)) (by kernel_rfl) (by rfl) (by kernel_rfl) (fun w _ => by go_simp) (fun _ _ _ _ h => h) hr4.range ?_
      refine held_value 10 _ _ (some 36) (.slice A2 m.length c2) (by kernel_rfl) (by rfl) (by kernel_rfl) (fun w _ => by first | kernel_rfl | go_simp) (fun _ _ _ _ h => h) hr4.range ?_
      refine held_load 13 33 (.tmp 7) (some 39) (by kernel_rfl) (by rfl) (by kernel_rfl) n7 0 (by kernel_rfl) (Lib.byteCells mc) (.array 32 5) (fun w h => h) Tryd.underlying33 rfl hi33 (fun _ _ _ _ h => h) hr4.range ?_
      simp only [Act.put, List.setIfInBounds_toArray, List.set_cons_zero, List.set_cons_succ]
      have hflk : [k, List.replicate z2 (0 : UInt8)].flatten = k ++ List.replicate z2 0 := two_flat _ _
      have HMZ : Hid (macB (k ++ List.replicate z2 0) m = mc) := Lib.hid (by rw [HMC.out]; exact macB_key _ _ _ (keyB_pad k z2 (by have := HZ.out; omega)))
      have hz64 : z2 ≤ 64 := by have := HZ.out; omega
      have hal : ∀ (X : World) o, Below X.heap.size X (X.alloc o) := fun X o => Below.alloc (Below.refl _ _) (Nat.le_refl _) o
      clear qa qb
      refine held_two 7 11 (by kernel_rfl) ?_ ?_
      · have bx := hal W (.cells (Lib.byteCells (List.replicate z2 0)).toArray 5)
        refine step_value 7 _ _ (some 33) (.slice (some ⟨W.heap.size, 0, none⟩) z2 z2) (W.alloc (.cells (Lib.byteCells (List.replicate z2 0)).toArray 5)) (by rfl) (by kernel_rfl) (run_makeSlice (hmk W)) (hr4.below bx hr4.lt).range ?_
        simp only [Act.put, List.setIfInBounds_toArray, List.set_cons_zero, List.set_cons_succ]
        have rM : Row (W.alloc (.cells (Lib.byteCells (List.replicate z2 0)).toArray 5)) W.heap.size _ _ := Row.new_ rfl rfl
        have zM := asz W (.cells (Lib.byteCells (List.replicate z2 0)).toArray 5)
        have hr4 := hr4.below bx hr4.lt
        have hb4 := hb4.trans (bx.mono (by omega))
        have h04 := h04.below (bx.mono (by omega))
        have h24 := h24.below (bx.mono (by omega))
        have hv4 := hv4.step bx
        have hNM : W.heap.size < (W.alloc (.cells (Lib.byteCells (List.replicate z2 0)).toArray 5)).heap.size := by omega
        generalize W.alloc (.cells (Lib.byteCells (List.replicate z2 0)).toArray 5) = XM at *
        clear zM bx
        generalize hbM' : W.heap.size = bM at *
        refine held_two 8 11 (by kernel_rfl) ?_ ?_
        · have bx := hal XM (.cells #[.slice A0 k.length c0, .slice (some ⟨bM, 0, none⟩) z2 z2] 30)
          refine step_value 8 _ _ (some 34) (.slice (some ⟨XM.heap.size, 0, none⟩) 2 2) (XM.alloc (.cells #[.slice A0 k.length c0, .slice (some ⟨bM, 0, none⟩) z2 z2] 30)) (by rfl) (by kernel_rfl) (by first | kernel_rfl | go_simp) (hr4.below bx hr4.lt).range ?_
          simp only [Act.put, List.setIfInBounds_toArray, List.set_cons_zero, List.set_cons_succ]
          have rB : Row (XM.alloc (.cells #[.slice A0 k.length c0, .slice (some ⟨bM, 0, none⟩) z2 z2] 30)) XM.heap.size _ _ := Row.new_ rfl rfl
          have zB := asz XM (.cells #[.slice A0 k.length c0, .slice (some ⟨bM, 0, none⟩) z2 z2] 30)
          have hr4 := hr4.below bx hr4.lt
          have hb4 := hb4.trans (bx.mono (by omega))
          have h04 := h04.below (bx.mono (by omega))
          have h24 := h24.below (bx.mono (by omega))
          have hv4 := hv4.step bx
          have rM := rM.below bx rM.lt
          have hNB : XM.heap.size < (XM.alloc (.cells #[.slice A0 k.length c0, .slice (some ⟨bM, 0, none⟩) z2 z2] 30)).heap.size := by omega
          generalize XM.alloc (.cells #[.slice A0 k.length c0, .slice (some ⟨bM, 0, none⟩) z2 z2] 30) = XB at *
          clear zB bx
          generalize hbB' : XM.heap.size = bB at *
          refine held_two 9 11 (by kernel_rfl) ?_ ?_
          · refine step_call 9 _ _ (some 35) 16 #[.slice (some ⟨bB, 0, none⟩) 2 2] (by rfl) (by kernel_rfl) (by first | kernel_rfl | go_simp) ((refJoin_any XB.heap.size XB.heap.size _ [k, List.replicate z2 0] XB (PartsO.two rB.lt (Nat.ne_of_lt rB.lt) rB (h04.more (by omega)) (h04.off (by omega)) (Sl.of_bytes rM rM.lt (by simp) (by omega)) (Off.at_ (Nat.ne_of_lt rM.lt))) (Nat.le_refl _) (by rw [hflk, List.length_append, List.length_replicate]; omega) (by simp)).mono ?_)
            rintro e XJ ⟨v35, rfl, gJ⟩
            rw [hflk] at gJ
            have sJ := gives_sl gJ
            obtain ⟨A5, c5, rfl, _, _⟩ := sJ.form
            have bx := gJ.2
            have zJ := bx.size
            have hr4 := hr4.below bx hr4.lt
            have hb4 := hb4.trans (bx.mono (by omega))
            have h04 := h04.below (bx.mono (by omega))
            have h24 := h24.below (bx.mono (by omega))
            have hv4 := hv4.step bx
            have rM := rM.below bx rM.lt
            have rB := rB.below bx rB.lt
            clear gJ bx
            refine ⟨_, rfl, hr4.range, ?_⟩
            simp only [Act.put, List.setIfInBounds_toArray, List.set_cons_zero, List.set_cons_succ]
            refine held_one 11 (by kernel_rfl) ?_
            have bx := hal XJ (.cells #[.slice A2 m.length c2] 30)
            refine step_value 11 _ _ (some 37) (.slice (some ⟨XJ.heap.size, 0, none⟩) 1 1) (XJ.alloc (.cells #[.slice A2 m.length c2] 30)) (by rfl) (by kernel_rfl) (by first | kernel_rfl | go_simp) (hr4.below bx hr4.lt).range ?_
            simp only [Act.put, List.setIfInBounds_toArray, List.set_cons_zero, List.set_cons_succ]
            have rP : Row (XJ.alloc (.cells #[.slice A2 m.length c2] 30)) XJ.heap.size _ _ := Row.new_ rfl rfl
            have zP := asz XJ (.cells #[.slice A2 m.length c2] 30)
            have hr4 := hr4.below bx hr4.lt
            have hb4 := hb4.trans (bx.mono (by omega))
            have h04 := h04.below (bx.mono (by omega))
            have h24 := h24.below (bx.mono (by omega))
            have hv4 := hv4.step bx
            have rM := rM.below bx rM.lt
            have rB := rB.below bx rB.lt
            have sJ := sJ.below bx
            have hNP : XJ.heap.size < (XJ.alloc (.cells #[.slice A2 m.length c2] 30)).heap.size := by omega
            generalize XJ.alloc (.cells #[.slice A2 m.length c2] 30) = XP at *
            clear zP bx
            generalize hbP' : XJ.heap.size = bP at *
            have hM := mac_any XP.heap.size (.slice A5 (k ++ List.replicate z2 0).length c5) (.slice (some ⟨bP, 0, none⟩) 1 1) (k ++ List.replicate z2 0) [m] XP (sJ.more (by omega)) (PartsO.solo rP rP.lt (Nat.ne_of_lt rP.lt) (h24.more (by omega)) (h24.off (by omega))) (Nat.le_refl _) hv4 (by rw [List.length_append, List.length_replicate]; omega) (by rw [hflat]; omega) (by simp)
            refine held_call 12 _ _ (some 38) 25 #[.slice A5 (k ++ List.replicate z2 0).length c5, .slice (some ⟨bP, 0, none⟩) 1 1] (by kernel_rfl) (by rfl) (by kernel_rfl) (by kernel_rfl) ?_
            refine hM.mono ?_
            rintro e XT ⟨rfl, bT⟩
            rw [hflat, HMZ.out]
            have hr5 := hr4.below bT hr4.lt
            refine ⟨_, rfl, hr5.range, ?_⟩
            simp only [Act.put, List.setIfInBounds_toArray, List.set_cons_zero, List.set_cons_succ]
            refine held_value 14 (.binOp .eql 33 (.tmp 38) (.tmp 39) 33) 4 (some 40) (.bool true) (by kernel_rfl) (by rfl) (by kernel_rfl) (fun w _ => run_eql_agg (P := Tryd.prog) (p := (Lib.byteCells mc).toArray) (q := (Lib.byteCells mc).toArray) (by kernel_rfl) (heq w) (by kernel_rfl) (by kernel_rfl)) (fun _ _ _ _ h => h) hr5.range ?_
            simp only [Act.put, List.setIfInBounds_toArray, List.set_cons_zero, List.set_cons_succ]
            refine held_value 15 _ _ (some 6) (.bool true) (by kernel_rfl) (by rfl) (by kernel_rfl) (fun w _ => by first | kernel_rfl | go_simp) (fun _ _ _ _ h => h) hr5.range ?_
            refine wpAnyH_done (by kernel_rfl) ?_ _
            simp only [Act.put, List.setIfInBounds_toArray, List.set_cons_zero, List.set_cons_succ]
            go_wp2
            go_ret
            exact ⟨rfl, hb4.trans (bT.mono (by omega))⟩
          · have bx := hal XB (.cells #[.slice A2 m.length c2] 30)
            refine step_value 11 _ _ (some 37) (.slice (some ⟨XB.heap.size, 0, none⟩) 1 1) (XB.alloc (.cells #[.slice A2 m.length c2] 30)) (by rfl) (by kernel_rfl) (by first | kernel_rfl | go_simp) (hr4.below bx hr4.lt).range ?_
            simp only [Act.put, List.setIfInBounds_toArray, List.set_cons_zero, List.set_cons_succ]
            have rP : Row (XB.alloc (.cells #[.slice A2 m.length c2] 30)) XB.heap.size _ _ := Row.new_ rfl rfl
            have zP := asz XB (.cells #[.slice A2 m.length c2] 30)
            have hr4 := hr4.below bx hr4.lt
            have hb4 := hb4.trans (bx.mono (by omega))
            have h04 := h04.below (bx.mono (by omega))
            have h24 := h24.below (bx.mono (by omega))
            have hv4 := hv4.step bx
            have rM := rM.below bx rM.lt
            have rB := rB.below bx rB.lt
            have hNP : XB.heap.size < (XB.alloc (.cells #[.slice A2 m.length c2] 30)).heap.size := by omega
            generalize XB.alloc (.cells #[.slice A2 m.length c2] 30) = XP at *
            clear zP bx
            generalize hbP' : XB.heap.size = bP at *
            refine held_one 9 (by kernel_rfl) ?_
            refine step_call 9 _ _ (some 35) 16 #[.slice (some ⟨bB, 0, none⟩) 2 2] (by rfl) (by kernel_rfl) (by first | kernel_rfl | go_simp) ((refJoin_any XP.heap.size XP.heap.size _ [k, List.replicate z2 0] XP (PartsO.two rB.lt (Nat.ne_of_lt rB.lt) rB (h04.more (by omega)) (h04.off (by omega)) (Sl.of_bytes rM rM.lt (by simp) (by omega)) (Off.at_ (Nat.ne_of_lt rM.lt))) (Nat.le_refl _) (by rw [hflk, List.length_append, List.length_replicate]; omega) (by simp)).mono ?_)
            rintro e XJ ⟨v35, rfl, gJ⟩
            rw [hflk] at gJ
            have sJ := gives_sl gJ
            obtain ⟨A5, c5, rfl, _, _⟩ := sJ.form
            have bx := gJ.2
            have zJ := bx.size
            have hr4 := hr4.below bx hr4.lt
            have hb4 := hb4.trans (bx.mono (by omega))
            have h04 := h04.below (bx.mono (by omega))
            have h24 := h24.below (bx.mono (by omega))
            have hv4 := hv4.step bx
            have rM := rM.below bx rM.lt
            have rB := rB.below bx rB.lt
            have rP := rP.below bx rP.lt
            clear gJ bx
            refine ⟨_, rfl, hr4.range, ?_⟩
            simp only [Act.put, List.setIfInBounds_toArray, List.set_cons_zero, List.set_cons_succ]
            have hM := mac_any XJ.heap.size (.slice A5 (k ++ List.replicate z2 0).length c5) (.slice (some ⟨bP, 0, none⟩) 1 1) (k ++ List.replicate z2 0) [m] XJ (sJ.more (by omega)) (PartsO.solo rP rP.lt (Nat.ne_of_lt rP.lt) (h24.more (by omega)) (h24.off (by omega))) (Nat.le_refl _) hv4 (by rw [List.length_append, List.length_replicate]; omega) (by rw [hflat]; omega) (by simp)
            refine held_call 12 _ _ (some 38) 25 #[.slice A5 (k ++ List.replicate z2 0).length c5, .slice (some ⟨bP, 0, none⟩) 1 1] (by kernel_rfl) (by rfl) (by kernel_rfl) (by kernel_rfl) ?_
            refine hM.mono ?_
            rintro e XT ⟨rfl, bT⟩
            rw [hflat, HMZ.out]
            have hr5 := hr4.below bT hr4.lt
            refine ⟨_, rfl, hr5.range, ?_⟩
            simp only [Act.put, List.setIfInBounds_toArray, List.set_cons_zero, List.set_cons_succ]
            refine held_value 14 (.binOp .eql 33 (.tmp 38) (.tmp 39) 33) 4 (some 40) (.bool true) (by kernel_rfl) (by rfl) (by kernel_rfl) (fun w _ => run_eql_agg (P := Tryd.prog) (p := (Lib.byteCells mc).toArray) (q := (Lib.byteCells mc).toArray) (by kernel_rfl) (heq w) (by kernel_rfl) (by kernel_rfl)) (fun _ _ _ _ h => h) hr5.range ?_
            simp only [Act.put, List.setIfInBounds_toArray, List.set_cons_zero, List.set_cons_succ]
            refine held_value 15 _ _ (some 6) (.bool true) (by kernel_rfl) (by rfl) (by kernel_rfl) (fun w _ => by first | kernel_rfl | go_simp) (fun _ _ _ _ h => h) hr5.range ?_
            refine wpAnyH_done (by kernel_rfl) ?_ _
            simp only [Act.put, List.setIfInBounds_toArray, List.set_cons_zero, List.set_cons_succ]
            go_wp2
            go_ret
            exact ⟨rfl, hb4.trans (bT.mono (by omega))⟩
        · have bx := hal XM (.cells #[.slice A2 m.length c2] 30)
          refine step_value 11 _ _ (some 37) (.slice (some ⟨XM.heap.size, 0, none⟩) 1 1) (XM.alloc (.cells #[.slice A2 m.length c2] 30)) (by rfl) (by kernel_rfl) (by first | kernel_rfl | go_simp) (hr4.below bx hr4.lt).range ?_
          simp only [Act.put, List.setIfInBounds_toArray, List.set_cons_zero, List.set_cons_succ]
          have rP : Row (XM.alloc (.cells #[.slice A2 m.length c2] 30)) XM.heap.size _ _ := Row.new_ rfl rfl
          have zP := asz XM (.cells #[.slice A2 m.length c2] 30)
          have hr4 := hr4.below bx hr4.lt
          have hb4 := hb4.trans (bx.mono (by omega))
          have h04 := h04.below (bx.mono (by omega))
          have h24 := h24.below (bx.mono (by omega))
          have hv4 := hv4.step bx
          have rM := rM.below bx rM.lt
          have hNP : XM.heap.size < (XM.alloc (.cells #[.slice A2 m.length c2] 30)).heap.size := by omega
          generalize XM.alloc (.cells #[.slice A2 m.length c2] 30) = XP at *
          clear zP bx
          generalize hbP' : XM.heap.size = bP at *
          refine held_one 8 (by kernel_rfl) ?_
          have bx := hal XP (.cells #[.slice A0 k.length c0, .slice (some ⟨bM, 0, none⟩) z2 z2] 30)
          refine step_value 8 _ _ (some 34) (.slice (some ⟨XP.heap.size, 0, none⟩) 2 2) (XP.alloc (.cells #[.slice A0 k.length c0, .slice (some ⟨bM, 0, none⟩) z2 z2] 30)) (by rfl) (by kernel_rfl) (by first | kernel_rfl | go_simp) (hr4.below bx hr4.lt).range ?_
          simp only [Act.put, List.setIfInBounds_toArray, List.set_cons_zero, List.set_cons_succ]
          have rB : Row (XP.alloc (.cells #[.slice A0 k.length c0, .slice (some ⟨bM, 0, none⟩) z2 z2] 30)) XP.heap.size _ _ := Row.new_ rfl rfl
          have zB := asz XP (.cells #[.slice A0 k.length c0, .slice (some ⟨bM, 0, none⟩) z2 z2] 30)
          have hr4 := hr4.below bx hr4.lt
          have hb4 := hb4.trans (bx.mono (by omega))
          have h04 := h04.below (bx.mono (by omega))
          have h24 := h24.below (bx.mono (by omega))
          have hv4 := hv4.step bx
          have rM := rM.below bx rM.lt
          have rP := rP.below bx rP.lt
          have hNB : XP.heap.size < (XP.alloc (.cells #[.slice A0 k.length c0, .slice (some ⟨bM, 0, none⟩) z2 z2] 30)).heap.size := by omega
          generalize XP.alloc (.cells #[.slice A0 k.length c0, .slice (some ⟨bM, 0, none⟩) z2 z2] 30) = XB at *
          clear zB bx
          generalize hbB' : XP.heap.size = bB at *
          refine held_one 9 (by kernel_rfl) ?_
          refine step_call 9 _ _ (some 35) 16 #[.slice (some ⟨bB, 0, none⟩) 2 2] (by rfl) (by kernel_rfl) (by first | kernel_rfl | go_simp) ((refJoin_any XB.heap.size XB.heap.size _ [k, List.replicate z2 0] XB (PartsO.two rB.lt (Nat.ne_of_lt rB.lt) rB (h04.more (by omega)) (h04.off (by omega)) (Sl.of_bytes rM rM.lt (by simp) (by omega)) (Off.at_ (Nat.ne_of_lt rM.lt))) (Nat.le_refl _) (by rw [hflk, List.length_append, List.length_replicate]; omega) (by simp)).mono ?_)
          rintro e XJ ⟨v35, rfl, gJ⟩
          rw [hflk] at gJ
          have sJ := gives_sl gJ
          obtain ⟨A5, c5, rfl, _, _⟩ := sJ.form
          have bx := gJ.2
          have zJ := bx.size
          have hr4 := hr4.below bx hr4.lt
          have hb4 := hb4.trans (bx.mono (by omega))
          have h04 := h04.below (bx.mono (by omega))
          have h24 := h24.below (bx.mono (by omega))
          have hv4 := hv4.step bx
          have rM := rM.below bx rM.lt
          have rP := rP.below bx rP.lt
          have rB := rB.below bx rB.lt
          clear gJ bx
          refine ⟨_, rfl, hr4.range, ?_⟩
          simp only [Act.put, List.setIfInBounds_toArray, List.set_cons_zero, List.set_cons_succ]
          have hM := mac_any XJ.heap.size (.slice A5 (k ++ List.replicate z2 0).length c5) (.slice (some ⟨bP, 0, none⟩) 1 1) (k ++ List.replicate z2 0) [m] XJ (sJ.more (by omega)) (PartsO.solo rP rP.lt (Nat.ne_of_lt rP.lt) (h24.more (by omega)) (h24.off (by omega))) (Nat.le_refl _) hv4 (by rw [List.length_append, List.length_replicate]; omega) (by rw [hflat]; omega) (by simp)
          refine held_call 12 _ _ (some 38) 25 #[.slice A5 (k ++ List.replicate z2 0).length c5, .slice (some ⟨bP, 0, none⟩) 1 1] (by kernel_rfl) (by rfl) (by kernel_rfl) (by kernel_rfl) ?_
          refine hM.mono ?_
          rintro e XT ⟨rfl, bT⟩
          rw [hflat, HMZ.out]
          have hr5 := hr4.below bT hr4.lt
          refine ⟨_, rfl, hr5.range, ?_⟩
          simp only [Act.put, List.setIfInBounds_toArray, List.set_cons_zero, List.set_cons_succ]
          refine held_value 14 (.binOp .eql 33 (.tmp 38) (.tmp 39) 33) 4 (some 40) (.bool true) (by kernel_rfl) (by rfl) (by kernel_rfl) (fun w _ => run_eql_agg (P := Tryd.prog) (p := (Lib.byteCells mc).toArray) (q := (Lib.byteCells mc).toArray) (by kernel_rfl) (heq w) (by kernel_rfl) (by kernel_rfl)) (fun _ _ _ _ h => h) hr5.range ?_
          simp only [Act.put, List.setIfInBounds_toArray, List.set_cons_zero, List.set_cons_succ]
          refine held_value 15 _ _ (some 6) (.bool true) (by kernel_rfl) (by rfl) (by kernel_rfl) (fun w _ => by first | kernel_rfl | go_simp) (fun _ _ _ _ h => h) hr5.range ?_
          refine wpAnyH_done (by kernel_rfl) ?_ _
          simp only [Act.put, List.setIfInBounds_toArray, List.set_cons_zero, List.set_cons_succ]
          go_wp2
          go_ret
          exact ⟨rfl, hb4.trans (bT.mono (by omega))⟩
      · have bx := hal W (.cells #[.slice A2 m.length c2] 30)
        refine step_value 11 _ _ (some 37) (.slice (some ⟨W.heap.size, 0, none⟩) 1 1) (W.alloc (.cells #[.slice A2 m.length c2] 30)) (by rfl) (by kernel_rfl) (by first | kernel_rfl | go_simp) (hr4.below bx hr4.lt).range ?_
        simp only [Act.put, List.setIfInBounds_toArray, List.set_cons_zero, List.set_cons_succ]
        have rP : Row (W.alloc (.cells #[.slice A2 m.length c2] 30)) W.heap.size _ _ := Row.new_ rfl rfl
        have zP := asz W (.cells #[.slice A2 m.length c2] 30)
        have hr4 := hr4.below bx hr4.lt
        have hb4 := hb4.trans (bx.mono (by omega))
        have h04 := h04.below (bx.mono (by omega))
        have h24 := h24.below (bx.mono (by omega))
        have hv4 := hv4.step bx
        have hNP : W.heap.size < (W.alloc (.cells #[.slice A2 m.length c2] 30)).heap.size := by omega
        generalize W.alloc (.cells #[.slice A2 m.length c2] 30) = XP at *
        clear zP bx
        generalize hbP' : W.heap.size = bP at *
        refine held_one 7 (by kernel_rfl) ?_
        have bx := hal XP (.cells (Lib.byteCells (List.replicate z2 0)).toArray 5)
        refine step_value 7 _ _ (some 33) (.slice (some ⟨XP.heap.size, 0, none⟩) z2 z2) (XP.alloc (.cells (Lib.byteCells (List.replicate z2 0)).toArray 5)) (by rfl) (by kernel_rfl) (run_makeSlice (hmk XP)) (hr4.below bx hr4.lt).range ?_
        simp only [Act.put, List.setIfInBounds_toArray, List.set_cons_zero, List.set_cons_succ]
        have rM : Row (XP.alloc (.cells (Lib.byteCells (List.replicate z2 0)).toArray 5)) XP.heap.size _ _ := Row.new_ rfl rfl
        have zM := asz XP (.cells (Lib.byteCells (List.replicate z2 0)).toArray 5)
        have hr4 := hr4.below bx hr4.lt
        have hb4 := hb4.trans (bx.mono (by omega))
        have h04 := h04.below (bx.mono (by omega))
        have h24 := h24.below (bx.mono (by omega))
        have hv4 := hv4.step bx
        have rP := rP.below bx rP.lt
        have hNM : XP.heap.size < (XP.alloc (.cells (Lib.byteCells (List.replicate z2 0)).toArray 5)).heap.size := by omega
        generalize XP.alloc (.cells (Lib.byteCells (List.replicate z2 0)).toArray 5) = XM at *
        clear zM bx
        generalize hbM' : XP.heap.size = bM at *
        refine held_one 8 (by kernel_rfl) ?_
        have bx := hal XM (.cells #[.slice A0 k.length c0, .slice (some ⟨bM, 0, none⟩) z2 z2] 30)
        refine step_value 8 _ _ (some 34) (.slice (some ⟨XM.heap.size, 0, none⟩) 2 2) (XM.alloc (.cells #[.slice A0 k.length c0, .slice (some ⟨bM, 0, none⟩) z2 z2] 30)) (by rfl) (by kernel_rfl) (by first | kernel_rfl | go_simp) (hr4.below bx hr4.lt).range ?_
        simp only [Act.put, List.setIfInBounds_toArray, List.set_cons_zero, List.set_cons_succ]
        have rB : Row (XM.alloc (.cells #[.slice A0 k.length c0, .slice (some ⟨bM, 0, none⟩) z2 z2] 30)) XM.heap.size _ _ := Row.new_ rfl rfl
        have zB := asz XM (.cells #[.slice A0 k.length c0, .slice (some ⟨bM, 0, none⟩) z2 z2] 30)
        have hr4 := hr4.below bx hr4.lt
        have hb4 := hb4.trans (bx.mono (by omega))
        have h04 := h04.below (bx.mono (by omega))
        have h24 := h24.below (bx.mono (by omega))
        have hv4 := hv4.step bx
        have rP := rP.below bx rP.lt
        have rM := rM.below bx rM.lt
        have hNB : XM.heap.size < (XM.alloc (.cells #[.slice A0 k.length c0, .slice (some ⟨bM, 0, none⟩) z2 z2] 30)).heap.size := by omega
        generalize XM.alloc (.cells #[.slice A0 k.length c0, .slice (some ⟨bM, 0, none⟩) z2 z2] 30) = XB at *
        clear zB bx
        generalize hbB' : XM.heap.size = bB at *
        refine held_one 9 (by kernel_rfl) ?_
        refine step_call 9 _ _ (some 35) 16 #[.slice (some ⟨bB, 0, none⟩) 2 2] (by rfl) (by kernel_rfl) (by first | kernel_rfl | go_simp) ((refJoin_any XB.heap.size XB.heap.size _ [k, List.replicate z2 0] XB (PartsO.two rB.lt (Nat.ne_of_lt rB.lt) rB (h04.more (by omega)) (h04.off (by omega)) (Sl.of_bytes rM rM.lt (by simp) (by omega)) (Off.at_ (Nat.ne_of_lt rM.lt))) (Nat.le_refl _) (by rw [hflk, List.length_append, List.length_replicate]; omega) (by simp)).mono ?_)
        rintro e XJ ⟨v35, rfl, gJ⟩
        rw [hflk] at gJ
        have sJ := gives_sl gJ
        obtain ⟨A5, c5, rfl, _, _⟩ := sJ.form
        have bx := gJ.2
        have zJ := bx.size
        have hr4 := hr4.below bx hr4.lt
        have hb4 := hb4.trans (bx.mono (by omega))
        have h04 := h04.below (bx.mono (by omega))
        have h24 := h24.below (bx.mono (by omega))
        have hv4 := hv4.step bx
        have rP := rP.below bx rP.lt
        have rM := rM.below bx rM.lt
        have rB := rB.below bx rB.lt
        clear gJ bx
        refine ⟨_, rfl, hr4.range, ?_⟩
        simp only [Act.put, List.setIfInBounds_toArray, List.set_cons_zero, List.set_cons_succ]
        have hM := mac_any XJ.heap.size (.slice A5 (k ++ List.replicate z2 0).length c5) (.slice (some ⟨bP, 0, none⟩) 1 1) (k ++ List.replicate z2 0) [m] XJ (sJ.more (by omega)) (PartsO.solo rP rP.lt (Nat.ne_of_lt rP.lt) (h24.more (by omega)) (h24.off (by omega))) (Nat.le_refl _) hv4 (by rw [List.length_append, List.length_replicate]; omega) (by rw [hflat]; omega) (by simp)
        refine held_call 12 _ _ (some 38) 25 #[.slice A5 (k ++ List.replicate z2 0).length c5, .slice (some ⟨bP, 0, none⟩) 1 1] (by kernel_rfl) (by rfl) (by kernel_rfl) (by kernel_rfl) ?_
        refine hM.mono ?_
        rintro e XT ⟨rfl, bT⟩
        rw [hflat, HMZ.out]
        have hr5 := hr4.below bT hr4.lt
        refine ⟨_, rfl, hr5.range, ?_⟩
        simp only [Act.put, List.setIfInBounds_toArray, List.set_cons_zero, List.set_cons_succ]
        refine held_value 14 (.binOp .eql 33 (.tmp 38) (.tmp 39) 33) 4 (some 40) (.bool true) (by kernel_rfl) (by rfl) (by kernel_rfl) (fun w _ => run_eql_agg (P := Tryd.prog) (p := (Lib.byteCells mc).toArray) (q := (Lib.byteCells mc).toArray) (by kernel_rfl) (heq w) (by kernel_rfl) (by kernel_rfl)) (fun _ _ _ _ h => h) hr5.range ?_
        simp only [Act.put, List.setIfInBounds_toArray, List.set_cons_zero, List.set_cons_succ]
        refine held_value 15 _ _ (some 6) (.bool true) (by kernel_rfl) (by rfl) (by kernel_rfl) (fun w _ => by first | kernel_rfl | go_simp) (fun _ _ _ _ h => h) hr5.range ?_
        refine wpAnyH_done (by kernel_rfl) ?_ _
        simp only [Act.put, List.setIfInBounds_toArray, List.set_cons_zero, List.set_cons_succ]
        go_wp2
        go_ret
        exact ⟨rfl, hb4.trans (bT.mono (by omega))⟩
end Go.Proofs.YthafhghnciofaaaDoor
