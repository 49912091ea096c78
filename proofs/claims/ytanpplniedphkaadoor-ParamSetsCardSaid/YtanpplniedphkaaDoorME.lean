/-
  FOUNDATIONS, merged: see the heads of the parts.
-/
import Derived.Test.YtanpplniedphkaaDoorMC
import Derived.StillTailTactics
import Derived.Test.YtanpplniedphkaaDoorMD
/-
  WALKS: the document's own word, constants.
-/
namespace Go.Proofs.YtanpplniedphkaaDoor
open Go.RowKit
set_option maxRecDepth 100000

def WordOk (w : World) (x : UInt32) (e : Ending) (w' : World) : Prop := e = .returned (.int .u32 (x.toNat : Int)) ∧ Below w.heap.size w w'
theorem cell_alloc_keep {w : World} {b o : Nat} {v : Value} {ob : Obj} (h : w.cell? ⟨b, o, none⟩ = some v) (hb : b < w.heap.size) : (w.alloc ob).cell? ⟨b, o, none⟩ = some v :=
  ((Below.alloc (Below.refl _ _) (Nat.le_refl _) ob).cell (p := ⟨b, o, none⟩) hb).trans h

set_option maxHeartbeats 400000 in
theorem word_any (b : List UInt8) (t : Nat) (w : World) (hb : b.length = 64) (ht : t < 16) :
    Calls Tryd.prog 127 #[.agg (Lib.byteCells b).toArray, .int .i64 (t : Int)] w (WordOk w (wordB b t)) := by
  unfold WordOk
  generalize hn0 : w.heap.size = n0 at *
  have hr : ∀ o, Row ((w.alloc (.cells (Lib.byteCells b).toArray 139)).alloc o) n0 139 (Lib.byteCells b) := fun o => (Row.new_ hn0.symm rfl).alloc _
  have hr0 : Row (w.alloc (.cells (Lib.byteCells b).toArray 139)) n0 139 (Lib.byteCells b) := Row.new_ hn0.symm rfl
  have HW : Hid (((bigN [b[4 * t]'(by omega), b[4 * t + 1]'(by omega), b[4 * t + 2]'(by omega), b[4 * t + 3]'(by omega)] : Nat) : Int) % 4294967296 = ((wordB b t).toNat : Int)) := Lib.hid (by
    rw [← wordB_of b t (by omega)]
    have := (wordB b t).toNat_lt
    omega)
  have k0 := hr0.cell (4 * t)
  have k1 := hr0.cell (4 * t + 1)
  have k2 := hr0.cell (4 * t + 2)
  have k3 := hr0.cell (4 * t + 3)
  rw [byteCells_get b _ (by omega)] at k0 k1 k2 k3
  generalize b[4 * t]'(by omega) = x0 at *
  generalize b[4 * t + 1]'(by omega) = x1 at *
  generalize b[4 * t + 2]'(by omega) = x2 at *
  generalize b[4 * t + 3]'(by omega) = x3 at *
  clear hr
  obtain ⟨i0, hi0⟩ : ∃ i0, i0 = 4 * t := ⟨_, rfl⟩
  obtain ⟨i1, hi1⟩ : ∃ i1, i1 = 4 * t + 1 := ⟨_, rfl⟩
  obtain ⟨i2, hi2⟩ : ∃ i2, i2 = 4 * t + 2 := ⟨_, rfl⟩
  obtain ⟨i3, hi3⟩ : ∃ i3, i3 = 4 * t + 3 := ⟨_, rfl⟩
  rw [← hi0] at k0
  rw [← hi1] at k1
  rw [← hi2] at k2
  rw [← hi3] at k3
  have q0 : IntKind.i64.wrap (4 * (t : Int)) = (i0 : Int) := by rw [IntKind.wrap_i64]; omega
  have q1 : IntKind.i64.wrap ((i0 : Int) + 1) = (i1 : Int) := by rw [IntKind.wrap_i64]; omega
  have q2 : IntKind.i64.wrap ((i0 : Int) + 2) = (i2 : Int) := by rw [IntKind.wrap_i64]; omega
  have q3 : IntKind.i64.wrap ((i0 : Int) + 3) = (i3 : Int) := by rw [IntKind.wrap_i64]; omega
  have g0 : (i0 : Int) < 64 := by omega
  have g1 : (i1 : Int) < 64 := by omega
  have g2 : (i2 : Int) < 64 := by omega
  have g3 : (i3 : Int) < 64 := by omega
  clear hi0 hi1 hi2 hi3
  generalize hWA : w.alloc (.cells (Lib.byteCells b).toArray 139) = wA at *
  have hszA : wA.heap.size = n0 + 1 := by rw [← hWA, asz, hn0]
  have hbA : Below n0 w wA := by rw [← hWA]; exact (Below.refl _ _).alloc (by omega) _
  have hnA : n0 < wA.heap.size := by omega
  have hsl : ∀ T, Sl (wA.drew.alloc (.cells #[.int .u8 (x0.toNat : Int), .int .u8 (x1.toNat : Int), .int .u8 (x2.toNat : Int), .int .u8 (x3.toNat : Int)] T)) (wA.heap.size + 1) (.slice (some ⟨wA.heap.size, 0, none⟩) 4 4) [x0, x1, x2, x3] := fun T =>
    Sl.of_bytes (T := T) (Row.new_ (by rfl) (by rfl)) (Nat.lt_succ_self _) (by rfl) (by decide)
  have d0 : wA.drew.cell? ⟨n0, i0, none⟩ = some (.int .u8 (x0.toNat : Int)) := k0
  have d1 : wA.drew.cell? ⟨n0, i1, none⟩ = some (.int .u8 (x1.toNat : Int)) := k1
  have d2 : wA.drew.cell? ⟨n0, i2, none⟩ = some (.int .u8 (x2.toNat : Int)) := k2
  have d3 : wA.drew.cell? ⟨n0, i3, none⟩ = some (.int .u8 (x3.toNat : Int)) := k3
  have hnD : n0 < wA.drew.heap.size := hnA
  go_enter Tryd.func127, Tryd.ntmps127
  go_wp2
  go_still_tail 19, (by kernel_rfl)
  change wpList _ _ _ _ _ wA.drew
  have hb2 : ∀ o, Below n0 w (wA.drew.alloc o) := fun o => hbA.drew.alloc (by show n0 ≤ wA.heap.size; omega) o
  have hsw : wA.heap.size = wA.drew.heap.size := rfl
  rw [hsw] at hsl
  clear hWA hr0 k0 k1 k2 k3 d0 d1 d2 d3 hbA hsw hszA hnA hnD
  generalize wA.drew = w2 at *
  go_wp2_with (go_at_call 135; refine (refNumber_any (w2.heap.size + 1) (.slice (some ⟨w2.heap.size, 0, none⟩) 4 4) [x0, x1, x2, x3] _ (hsl _) (by simp) (by simp)).mono ?_)
  rintro e w' ⟨rfl, rfl⟩
  go_wp2
  go_ret
  refine ⟨?_, hb2 _⟩
  rw [← HW.out]
  rfl

theorem constants_any (w : World) : Calls Tryd.prog 126 #[] w fun e w' => e = .returned (.agg (wordCells cK).toArray) ∧ Below w.heap.size w w' := by
  have hl : cK.length = 64 := rfl
  go_enter Tryd.func126, Tryd.ntmps126
  go_wp2_with (first | refine wpList_build_eq rfl 155 _ rfl (wordCells cK).toArray (by kernel_rfl) ?_ | refine wpList_store_any rfl 155 (.tmp 0) (.tmp 1) rfl w.heap.size rfl (wordCells cK) rfl 155 (wordCells (List.replicate 64 0)) (Row.new_ rfl zero64w) (info_w64.trans (size_words _ _ hl)) (by rw [wordCells_length, wordCells_length]; rfl) (cell_oneWord _) ?_)
  intro w2 hr2 bt _
  try simp only [asz] at bt
  go_wp2
  exact ret_row Tryd.results126 rfl rfl hr2 Tryd.underlying155 rfl (info_w64.trans (size_words _ _ hl)) ⟨rfl, (Below.alloc (Below.refl _ _) (Nat.le_refl _) _).trans (bt.under (Nat.le_succ _) (Nat.le_refl _))⟩
end Go.Proofs.YtanpplniedphkaaDoor

/-
  WALK: the document's own Compress, its first half: the schedule.
-/
namespace Go.Proofs.YtanpplniedphkaaDoor
open Go.RowKit
set_option maxRecDepth 100000

theorem sm1_bits (y : UInt32) : bits .xor .u32 (bits .xor .u32 ((rotr y 17).toNat : Int) ((rotr y 19).toNat : Int)) ((y.toNat : Int) / 1024) = ((sm1 y).toNat : Int) := by
  have h := u32_shr y 10
  simp only [Int.reducePow] at h
  rw [h, u32_xor, u32_xor]
  rfl
theorem sm0_bits (y : UInt32) : bits .xor .u32 (bits .xor .u32 ((rotr y 7).toNat : Int) ((rotr y 18).toNat : Int)) ((y.toNat : Int) / 8) = ((sm0 y).toNat : Int) := by
  have h := u32_shr y 3
  simp only [Int.reducePow] at h
  rw [h, u32_xor, u32_xor]
  rfl

theorem addSt_comm (s v : St) : addSt s v = addSt v s := by simp [addSt, UInt32.add_comm]
theorem rot_17 (x : UInt32) (w : World) : Calls Tryd.prog 128 #[.int .u32 (x.toNat : Int), .int .u64 17] w (WordIs w (rotr x 17)) := rot_any x 17 (by decide) (by decide) w
theorem rot_19 (x : UInt32) (w : World) : Calls Tryd.prog 128 #[.int .u32 (x.toNat : Int), .int .u64 19] w (WordIs w (rotr x 19)) := rot_any x 19 (by decide) (by decide) w
theorem rot_7 (x : UInt32) (w : World) : Calls Tryd.prog 128 #[.int .u32 (x.toNat : Int), .int .u64 7] w (WordIs w (rotr x 7)) := rot_any x 7 (by decide) (by decide) w
theorem rot_18 (x : UInt32) (w : World) : Calls Tryd.prog 128 #[.int .u32 (x.toNat : Int), .int .u64 18] w (WordIs w (rotr x 18)) := rot_any x 18 (by decide) (by decide) w
theorem rot_6 (x : UInt32) (w : World) : Calls Tryd.prog 128 #[.int .u32 (x.toNat : Int), .int .u64 6] w (WordIs w (rotr x 6)) := rot_any x 6 (by decide) (by decide) w
theorem rot_11 (x : UInt32) (w : World) : Calls Tryd.prog 128 #[.int .u32 (x.toNat : Int), .int .u64 11] w (WordIs w (rotr x 11)) := rot_any x 11 (by decide) (by decide) w
theorem rot_25 (x : UInt32) (w : World) : Calls Tryd.prog 128 #[.int .u32 (x.toNat : Int), .int .u64 25] w (WordIs w (rotr x 25)) := rot_any x 25 (by decide) (by decide) w
theorem rot_2 (x : UInt32) (w : World) : Calls Tryd.prog 128 #[.int .u32 (x.toNat : Int), .int .u64 2] w (WordIs w (rotr x 2)) := rot_any x 2 (by decide) (by decide) w
theorem rot_13 (x : UInt32) (w : World) : Calls Tryd.prog 128 #[.int .u32 (x.toNat : Int), .int .u64 13] w (WordIs w (rotr x 13)) := rot_any x 13 (by decide) (by decide) w
theorem rot_22 (x : UInt32) (w : World) : Calls Tryd.prog 128 #[.int .u32 (x.toNat : Int), .int .u64 22] w (WordIs w (rotr x 22)) := rot_any x 22 (by decide) (by decide) w

set_option maxHeartbeats 1000000 in
theorem refCompress_any (s : St) (b : List UInt8) (hb : b.length = 64) (w : World) :
    Calls Tryd.prog 119 #[.agg (wordCells s.list).toArray, .agg (Lib.byteCells b).toArray] w (StIs w (comp s b)) := by
  unfold StIs
  generalize hn0 : w.heap.size = n0 at *
  have hKl := cK_length
  go_enter Tryd.func119, Tryd.ntmps119
  go_wp2_with (go_at_call 126; refine (constants_any _).mono ?_)
  rintro e w1 ⟨rfl, b1⟩
  rw [asz, asz, asz, hn0] at b1
  have hr0 : Row w1 n0 146 (wordCells s.list) := (((Row.new_ hn0.symm rfl).alloc _).alloc _).below b1 (by omega)
  have hr1 : Row w1 (n0 + 1) 139 (Lib.byteCells b) := ((Row.new_ (by rw [asz, hn0]) rfl).alloc _).below b1 (by omega)
  have hr2 : Row w1 (n0 + 2) 146 (wordCells (List.replicate 8 0)) := (Row.new_ (by rw [asz, asz, hn0]) zero8w).below b1 (by omega)
  have hb1 : Below n0 w w1 := ((((Below.refl n0 w).alloc (by omega) _).alloc (by rw [asz]; omega) _).alloc (by rw [asz, asz]; omega) _).trans (b1.mono (by omega))
  have hs1 := b1.size
  rw [asz, asz, asz, hn0] at hs1
  clear b1
  go_wp2_with (refine wpList_store_any rfl 155 (.tmp 5) (.tmp 19) rfl w1.heap.size rfl (wordCells cK) rfl 155 (wordCells (List.replicate 64 0)) (Row.new_ rfl zero64w) (info_w64.trans (size_words _ _ hKl)) (by rw [wordCells_length, wordCells_length]; rfl) (cell_oneWord _) ?_)
  intro w2 hr5 bt hs2
  try simp only [asz] at bt hs2
  replace hr0 := bt.row (hr0.alloc _) (by omega) (by omega)
  replace hr1 := bt.row (hr1.alloc _) (by omega) (by omega)
  replace hr2 := bt.row (hr2.alloc _) (by omega) (by omega)
  have hb2 : Below n0 w w2 := (hb1.alloc (by omega) _).trans (bt.under (by omega) (by omega))
  generalize hn5 : w1.heap.size = n5 at *
  clear bt hb1 hn5
  have h5 : n0 + 2 < n5 := by omega
  clear hs1
  go_wp2
  have hr6 : Row (w2.alloc (.cells (wordCells (List.replicate 64 0)).toArray 155)) w2.heap.size 155 (wordCells (List.replicate 64 0)) := Row.new_ rfl rfl
  have h6 : n5 < w2.heap.size := by omega
  replace hr0 := hr0.alloc (.cells (wordCells (List.replicate 64 0)).toArray 155)
  replace hr1 := hr1.alloc (.cells (wordCells (List.replicate 64 0)).toArray 155)
  replace hr2 := hr2.alloc (.cells (wordCells (List.replicate 64 0)).toArray 155)
  replace hr5 := hr5.alloc (.cells (wordCells (List.replicate 64 0)).toArray 155)
  replace hb2 := hb2.alloc (o := .cells (wordCells (List.replicate 64 0)).toArray 155) (by omega)
  rw [hs2] at hr6
  clear h6
  go_loopw [7, 8, 9, 20] (fun _ _ _ i wr => ∃ k : Nat, k ≤ 64 ∧ i = .int .i64 k ∧ Row wr n0 146 (wordCells s.list) ∧ Row wr (n0 + 1) 139 (Lib.byteCells b) ∧ Row wr (n0 + 2) 146 (wordCells (List.replicate 8 0)) ∧ Row wr n5 155 (wordCells cK) ∧ Row wr (n5 + 1) 155 (wordCells (sched b k ++ List.replicate (64 - k) 0)) ∧ Below n0 w wr) (fun _ _ _ i _ => 64 - (intOf i).toNat)
  case atStart => exact ⟨0, by omega, rfl, hr0, hr1, hr2, hr5, hr6, hb2⟩
  case round =>
    clear hr0 hr1 hr2 hr5 hr6 hb2
    obtain ⟨k, hk, rfl, hr0, hr1, hr2, hr5, hr6, hb2⟩ := hrel
    by_cases hlt : k < 64
    · have hcx := hr6.cell k
      rw [wordCells_get _ _ (by simp [sched_length]; omega)] at hcx
      have hf := hr6.free k
      by_cases h16 : k < 16
      · have hhx : ∀ wz, Row wz (n5 + 1) 155 (wordCells (sched b k ++ List.replicate (64 - k) 0)) → Row (wz.setCell ⟨(n5 + 1), k, none⟩ (.int .u32 ((wordB b k).toNat : Int))) (n5 + 1) 155 (wordCells (sched b (k + 1) ++ List.replicate (64 - (k + 1)) 0)) := fun wz hz => by
          have hs := hz.set_ k (.int .u32 ((nextW b (sched b k)).toNat : Int))
          rw [wordCells_set, sched_set b k 64 _ (by omega) rfl, nextW_lo b k h16] at hs
          exact hs
        have hcx2 : ∃ z : UInt32, (sched b k ++ List.replicate (64 - k) (0 : UInt32))[k]? = some z := ⟨_, List.getElem?_eq_getElem (by simp [sched_length]; omega)⟩
        go_wp2_with (first | refine wpList_load_any rfl 139 (.tmp 3) rfl (n0 + 1) rfl 139 (Lib.byteCells b) (.array 64 5) hr1 Tryd.underlying139 rfl (info_b64.trans (size_bytes _ _ hb)) ?_ | (go_at_call 127; refine (word_any b k _ hb h16).mono ?_))
        rintro e w7 ⟨rfl, b7⟩
        have r0 := hr0.below b7 hr0.lt
        have r1 := hr1.below b7 hr1.lt
        have r2 := hr2.below b7 hr2.lt
        have r5 := hr5.below b7 hr5.lt
        have r6 := hr6.below b7 hr6.lt
        have hb7 := hb2.trans (b7.mono (Nat.le_of_lt hr0.lt))
        have hcy := r6.cell k
        rw [wordCells_get _ _ (by simp [sched_length]; omega)] at hcy
        have hfy := r6.free k
        have HR := Lib.hid (hhx w7 r6)
        clear hr0 hr1 hr2 hr5 hr6 hb2 b7 hcx hf hhx hcx2
        generalize wordB b k = x at *
        go_wp2
        go_roundw
        case rel => exact ⟨k + 1, by omega, by go_num, r0.other _ _ (by show n0 ≠ (n5 + 1); omega), r1.other _ _ (by show n0 + 1 ≠ (n5 + 1); omega), r2.other _ _ (by show n0 + 2 ≠ (n5 + 1); omega), r5.other _ _ (by show n5 ≠ (n5 + 1); omega), HR.out, hb7.setCell (p := ⟨(n5 + 1), k, none⟩) (by show n0 ≤ (n5 + 1); omega) _⟩
        case measure => simp [intOf]; omega
      · have hk1 : 16 ≤ k := by omega
        have hw : ∀ d (h1 : 1 ≤ d) (h2 : d ≤ 16), ∃ (j : Nat) (x : UInt32), (j + d = k ∧ x = (sched b k).getD (k - d) 0) ∧ wr.cell? ⟨n5 + 1, j, none⟩ = some (.int .u32 (x.toNat : Int)) ∧ IntKind.i64.wrap ((k : Int) - (d : Int)) = (j : Int) ∧ (j : Int) < 64 ∧ ¬ j = k := fun d h1 h2 => by
          refine ⟨k - d, _, ⟨by omega, rfl⟩, ?_, by rw [IntKind.wrap_i64]; omega, by omega, by omega⟩
          rw [hr6.cell (k - d), wordCells_get _ _ (by simp [sched_length]; omega), List.getElem_append_left (by rw [sched_length]; omega)]
          simp [List.getD, sched_length, show k - d < k by omega]
        obtain ⟨j2, x2, hx2, hc2, q2, b2, e2⟩ := hw 2 (by omega) (by omega)
        obtain ⟨j7, x7, hx7, hc7, q7, b7, e7⟩ := hw 7 (by omega) (by omega)
        obtain ⟨j15, x15, hx15, hc15, q15, b15, e15⟩ := hw 15 (by omega) (by omega)
        obtain ⟨j16, x16, hx16, hc16, q16, b16, e16⟩ := hw 16 (by omega) (by omega)
        clear hw
        replace q2 : IntKind.i64.wrap ((k : Int) - 2) = (j2 : Int) := q2
        replace q7 : IntKind.i64.wrap ((k : Int) - 7) = (j7 : Int) := q7
        replace q15 : IntKind.i64.wrap ((k : Int) - 15) = (j15 : Int) := q15
        replace q16 : IntKind.i64.wrap ((k : Int) - 16) = (j16 : Int) := q16
        have HX := Lib.hid (And.intro hx2 (And.intro hx7 (And.intro hx15 hx16)))
        clear hx2 hx7 hx15 hx16
        go_wp2
        go_quiet (fail)
        go_wp2
        replace hr0 : Row (wr.drewN nq) n0 146 (wordCells s.list) := hr0
        replace hr1 : Row (wr.drewN nq) (n0 + 1) 139 (Lib.byteCells b) := hr1
        replace hr2 : Row (wr.drewN nq) (n0 + 2) 146 (wordCells (List.replicate 8 0)) := hr2
        replace hr5 : Row (wr.drewN nq) n5 155 (wordCells cK) := hr5
        replace hr6 : Row (wr.drewN nq) (n5 + 1) 155 (wordCells (sched b k ++ List.replicate (64 - k) 0)) := hr6
        replace hb2 : Below n0 w (wr.drewN nq) := below_drewN hb2 nq
        replace hc7 : (wr.drewN nq).cell? ⟨n5 + 1, j7, none⟩ = some (.int .u32 (x7.toNat : Int)) := hc7
        replace hc16 : (wr.drewN nq).cell? ⟨n5 + 1, j16, none⟩ = some (.int .u32 (x16.toNat : Int)) := hc16
        replace hf : (wr.drewN nq).frozen? ⟨n5 + 1, k, none⟩ = false := hf
        replace hcx : (wr.drewN nq).cell? ⟨n5 + 1, k, none⟩ = some _ := hcx
        clear hc2 hc15
        generalize wr.drewN nq = wq at *
        go_region_held3 (fun w' => w'.cell? ⟨n5 + 1, j7, none⟩ = some (.int .u32 (x7.toNat : Int)) ∧ w'.cell? ⟨n5 + 1, j16, none⟩ = some (.int .u32 (x16.toNat : Int))) (first | exact ⟨cell_set_other hc7 e7, cell_set_other hc16 e16⟩ | exact ⟨hc7, hc16⟩) (first | (go_at_call 128; (with_reducible refine (rot_17 _ _).mono ?_); rintro e w' ⟨rfl, rfl⟩) | (go_at_call 128; (with_reducible refine (rot_19 _ _).mono ?_); rintro e w' ⟨rfl, rfl⟩) | (go_at_call 128; (with_reducible refine (rot_7 _ _).mono ?_); rintro e w' ⟨rfl, rfl⟩) | (go_at_call 128; (with_reducible refine (rot_18 _ _).mono ?_); rintro e w' ⟨rfl, rfl⟩))
        go_wp2
        go_roundw
        case rel =>
          refine ⟨k + 1, by omega, by go_num, hr0.beside (by omega), hr1.beside (by omega), hr2.beside (by omega), hr5.beside (by omega), ?_, below_set2 hb2 (by omega)⟩
          have hs := hr6.set_ k (.int .u32 ((nextW b (sched b k)).toNat : Int))
          obtain ⟨⟨_, y2⟩, ⟨_, y7⟩, ⟨_, y15⟩, ⟨_, y16⟩⟩ := HX.out
          rw [wordCells_set, sched_set b k 64 _ (by omega) rfl, nextW_hi b k hk1, ← y2, ← y7, ← y15, ← y16] at hs
          simp only [sm1_bits, sm0_bits, u32_add]
          exact hs
        case measure => simp [intOf]; omega
    · rw [show k = 64 by omega, Nat.sub_self, List.replicate_zero, List.append_nil] at hr6
      have hWl := sched_length b 64
      obtain ⟨W, HW⟩ : ∃ W, Hid (W = sched b 64) := ⟨_, Lib.hid rfl⟩
      rw [← HW.out] at hr6 hWl
      have h56 := hr6.lt
      go_wp2_with (first | refine wpList_load_any rfl 146 (.tmp 2) rfl n0 rfl 146 (wordCells s.list) (.array 8 44) hr0 Tryd.underlying146 rfl (info_w8.trans (size_words _ _ rfl)) ?_ | refine wpList_store_any rfl 146 (.tmp 10) (.tmp 68) rfl wr.heap.size rfl (wordCells s.list) rfl 146 (wordCells (List.replicate 8 0)) (Row.new_ rfl zero8w) (info_w8.trans (size_words _ _ rfl)) rfl (cell_oneWord _) ?_)
      intro w9 hv0 bt hs9
      try simp only [asz] at bt hs9
      replace hr0 := bt.row (hr0.alloc _) (by omega) (by omega)
      replace hr2 := bt.row (hr2.alloc _) (by omega) (by omega)
      replace hr5 := bt.row (hr5.alloc _) (by omega) (by omega)
      replace hr6 := bt.row (hr6.alloc _) (by omega) (by omega)
      replace hb2 : Below n0 w w9 := (hb2.alloc (by omega) _).trans (bt.under (by omega) (by omega))
      clear hr1 bt hs9
      generalize wr.heap.size = n10 at *
      go_wp2
      go_loopw [11, 12, 13, 14, 15, 16, 17, 69] (fun _ _ _ _ _ _ _ i wr => ∃ (k : Nat) (v : St), k ≤ 64 ∧ i = .int .i64 k ∧ Hid (rounds s W k = v) ∧ Row wr n10 146 (wordCells v.list) ∧ Row wr n0 146 (wordCells s.list) ∧ Row wr (n0 + 2) 146 (wordCells (List.replicate 8 0)) ∧ Row wr n5 155 (wordCells cK) ∧ Row wr (n5 + 1) 155 (wordCells W) ∧ Below n0 w wr) (fun _ _ _ _ _ _ _ i _ => 64 - (intOf i).toNat)
      case atStart => exact ⟨0, s, by omega, rfl, Lib.hid rfl, hv0, hr0, hr2, hr5, hr6, hb2⟩
      case round =>
        clear hv0 hr0 hr2 hr5 hr6 hb2
        obtain ⟨k2, v, hk2, rfl, HV, hv0, hr0, hr2, hr5, hr6, hb2⟩ := hrel
        by_cases hlt2 : k2 < 64
        · have hc : ∀ j (h : j < 8), wr.cell? ⟨n10, j, none⟩ = some (.int .u32 ((v.list[j]'h).toNat : Int)) := fun j h => by rw [hv0.cell j, wordCells_get _ _ h]
          have ck := hr5.cell k2
          rw [wordCells_get _ _ (by rw [hKl]; exact hlt2)] at ck
          have cw := hr6.cell k2
          rw [wordCells_get _ _ (by omega)] at cw
          obtain ⟨kk, hkk⟩ : ∃ kk, kk = cK[k2]'(by rw [hKl]; exact hlt2) := ⟨_, rfl⟩
          obtain ⟨ww, hww⟩ : ∃ ww, ww = W[k2]'(by omega) := ⟨_, rfl⟩
          rw [← hkk] at ck
          rw [← hww] at cw
          have HR2 : Hid (rounds s W (k2 + 1) = rnd v kk ww) := Lib.hid (by
            rw [rounds, HV.out, hkk, hww, getD_get W k2 0 (by omega), getD_get cK k2 0 (by rw [hKl]; exact hlt2)])
          clear hkk hww HV
          have c0 : wr.cell? ⟨n10, 0, none⟩ = some (.int .u32 (v.a.toNat : Int)) := hc 0 (by decide)
          have c1 : wr.cell? ⟨n10, 1, none⟩ = some (.int .u32 (v.b.toNat : Int)) := hc 1 (by decide)
          have c2 : wr.cell? ⟨n10, 2, none⟩ = some (.int .u32 (v.c.toNat : Int)) := hc 2 (by decide)
          have c3 : wr.cell? ⟨n10, 3, none⟩ = some (.int .u32 (v.d.toNat : Int)) := hc 3 (by decide)
          have c4 : wr.cell? ⟨n10, 4, none⟩ = some (.int .u32 (v.e.toNat : Int)) := hc 4 (by decide)
          have c5 : wr.cell? ⟨n10, 5, none⟩ = some (.int .u32 (v.f.toNat : Int)) := hc 5 (by decide)
          have c6 : wr.cell? ⟨n10, 6, none⟩ = some (.int .u32 (v.g.toNat : Int)) := hc 6 (by decide)
          have c7 : wr.cell? ⟨n10, 7, none⟩ = some (.int .u32 (v.h.toNat : Int)) := hc 7 (by decide)
          clear hc
          go_wp2
          go_quiet (fail)
          go_wp2
          replace c0 : (wr.drewN nq).cell? ⟨n10, 0, none⟩ = some (.int .u32 (v.a.toNat : Int)) := c0
          replace c1 : (wr.drewN nq).cell? ⟨n10, 1, none⟩ = some (.int .u32 (v.b.toNat : Int)) := c1
          replace c2 : (wr.drewN nq).cell? ⟨n10, 2, none⟩ = some (.int .u32 (v.c.toNat : Int)) := c2
          replace c3 : (wr.drewN nq).cell? ⟨n10, 3, none⟩ = some (.int .u32 (v.d.toNat : Int)) := c3
          replace c4 : (wr.drewN nq).cell? ⟨n10, 4, none⟩ = some (.int .u32 (v.e.toNat : Int)) := c4
          replace c5 : (wr.drewN nq).cell? ⟨n10, 5, none⟩ = some (.int .u32 (v.f.toNat : Int)) := c5
          replace c6 : (wr.drewN nq).cell? ⟨n10, 6, none⟩ = some (.int .u32 (v.g.toNat : Int)) := c6
          replace c7 : (wr.drewN nq).cell? ⟨n10, 7, none⟩ = some (.int .u32 (v.h.toNat : Int)) := c7
          replace hv0 : Row (wr.drewN nq) n10 146 (wordCells v.list) := hv0
          replace hr0 : Row (wr.drewN nq) n0 146 (wordCells s.list) := hr0
          replace hr2 : Row (wr.drewN nq) (n0 + 2) 146 (wordCells (List.replicate 8 0)) := hr2
          replace hr5 : Row (wr.drewN nq) n5 155 (wordCells cK) := hr5
          replace hr6 : Row (wr.drewN nq) (n5 + 1) 155 (wordCells W) := hr6
          replace hb2 : Below n0 w (wr.drewN nq) := below_drewN hb2 nq
          replace ck : (wr.drewN nq).cell? ⟨n5, k2, none⟩ = some (.int .u32 (kk.toNat : Int)) := ck
          replace cw : (wr.drewN nq).cell? ⟨n5 + 1, k2, none⟩ = some (.int .u32 (ww.toNat : Int)) := cw
          generalize wr.drewN nq = wq at *
          go_region_held3 (fun w' => w'.cell? ⟨n10, 7, none⟩ = some (.int .u32 (v.h.toNat : Int)) ∧ w'.cell? ⟨n5, k2, none⟩ = some (.int .u32 (kk.toNat : Int)) ∧ w'.cell? ⟨n5 + 1, k2, none⟩ = some (.int .u32 (ww.toNat : Int))) (exact ⟨c7, ck, cw⟩) (first | (go_at_call 128; (with_reducible refine (rot_6 _ _).mono ?_); rintro e w' ⟨rfl, rfl⟩) | (go_at_call 128; (with_reducible refine (rot_11 _ _).mono ?_); rintro e w' ⟨rfl, rfl⟩) | (go_at_call 128; (with_reducible refine (rot_25 _ _).mono ?_); rintro e w' ⟨rfl, rfl⟩))
          go_wp2_with (first | (go_at_call 128; (with_reducible refine (rot_2 _ _).mono ?_); rintro e w' ⟨rfl, rfl⟩) | (go_at_call 128; (with_reducible refine (rot_13 _ _).mono ?_); rintro e w' ⟨rfl, rfl⟩) | (go_at_call 128; (with_reducible refine (rot_22 _ _).mono ?_); rintro e w' ⟨rfl, rfl⟩) | refine wpList_store_any rfl 146 (.tmp 10) (.tmp 149) rfl n10 rfl _ rfl 146 (wordCells v.list) hv0 (info_w8.trans rfl) rfl (by intro u hu; simp only [List.mem_cons, List.not_mem_nil, or_false] at hu; rcases hu with rfl | rfl | rfl | rfl | rfl | rfl | rfl | rfl <;> rfl) ?_)
          intro w5 hv5 bt5 _
          simp only [u32_not, u32_and, u32_or, u32_xor] at hv5
          have hv6 : Row w5 n10 146 (wordCells (rnd v kk ww).list) := by
            refine Eq.mp (congrArg (Row w5 n10 146) ?_) hv5
            simp only [wordCells, St.list, rnd, List.map_cons, List.map_nil, List.cons.injEq, Value.int.injEq, true_and, and_true]
            constructor
            · simp only [UInt32.toNat_add, bg1, chw, bg0, mjw]
              omega
            · simp only [UInt32.toNat_add, bg1, chw]
              omega
          have x0 := bt5.row (show Row _ n0 _ _ from hr0) (Nat.lt_trans (by omega) hv0.lt) (by omega)
          have x2 := bt5.row (show Row _ (n0 + 2) _ _ from hr2) (Nat.lt_trans (by omega) hv0.lt) (by omega)
          have x5 := bt5.row (show Row _ n5 _ _ from hr5) (Nat.lt_trans (by omega) hv0.lt) (by omega)
          have x6 := bt5.row (show Row _ (n5 + 1) _ _ from hr6) (Nat.lt_trans (by omega) hv0.lt) (by omega)
          have xb : Below n0 w w5 := hb2.drew.trans (bt5.under (Nat.le_of_lt (Nat.lt_trans (by omega) hv0.lt)) (by omega))
          clear hv5 bt5 hv0 hr0 hr2 hr5 hr6 hb2 c0 c1 c2 c3 c4 c5 c6 c7 ck cw
          go_wp2
          go_roundw
          case rel => exact ⟨k2 + 1, _, by omega, by go_num, HR2, hv6, x0, x2, x5, x6, xb⟩
          case measure => simp [intOf]; omega
        · rw [show k2 = 64 by omega] at HV
          clear hr5 hr6
          have HF : Hid (addSt v s = comp s b) := Lib.hid (by rw [comp, ← HW.out, HV.out, addSt_comm])
          go_wp2
          go_loopw [18, 151] (fun _ i wr => ∃ (k : Nat), k ≤ 8 ∧ i = .int .i64 k ∧ Row wr n10 146 (wordCells (addL v.list s.list k)) ∧ Row wr n0 146 (wordCells s.list) ∧ Row wr (n0 + 2) 146 (wordCells (List.replicate 8 0)) ∧ Below n0 w wr) (fun _ i _ => 8 - (intOf i).toNat)
          case atStart => exact ⟨0, by omega, rfl, hv0, hr0, hr2, hb2⟩
          case round =>
            clear hv0 hr0 hr2 hb2
            obtain ⟨j, hj, rfl, hv0, hr0, hr2, hb2⟩ := hrel
            by_cases hlt3 : j < 8
            · have hsl : s.list.length = 8 := rfl
              have hvl : v.list.length = 8 := rfl
              have hc := hv0.cell j
              rw [wordCells_get _ _ (by rw [addL_length _ _ _ (by omega) (by omega)]; omega), (List.getElem_eq_iff (by rw [addL_length _ _ _ (by omega) (by omega)]; omega)).2 (addL_get v.list s.list j (by omega) (by omega))] at hc
              have hd := hr0.cell j
              rw [wordCells_get _ _ (by omega)] at hd
              have hf := hv0.free j
              have HS := Lib.hid (addL_step v.list s.list j (by omega) (by omega))
              obtain ⟨x, hx⟩ : ∃ x, x = v.list[j]'(by omega) := ⟨_, rfl⟩
              obtain ⟨y, hy⟩ : ∃ y, y = s.list[j]'(by omega) := ⟨_, rfl⟩
              rw [← hx] at hc
              rw [← hy] at hd
              rw [← hx, ← hy] at HS
              clear hx hy
              go_wp2
              go_region
              go_wp2
              go_roundw
              case rel =>
                have hs := hv0.set_ j (.int .u32 ((x + y).toNat : Int))
                rw [wordCells_set, HS.out] at hs
                refine ⟨j + 1, by omega, by go_num, ?_, hr0.beside (by omega), hr2.beside (by omega), below_set2 hb2 (by omega)⟩
                simp only [u32_add]
                exact hs
              case measure => simp [intOf]; omega
            · obtain rfl : j = 8 := by omega
              rw [addL_all] at hv0
              obtain ⟨cc, HC⟩ : ∃ cc, Hid (cc = addSt v s) := ⟨_, Lib.hid rfl⟩
              rw [← HC.out] at hv0 HF
              clear hr0
              go_wp2_with (first | refine wpList_load_any rfl 146 (.tmp 10) rfl n10 rfl 146 (wordCells cc.list) (.array 8 44) hv0 Tryd.underlying146 rfl (info_w8.trans (size_words 8 cc.list (St.list_length cc))) ?_ | refine wpList_store_any rfl 146 (.tmp 4) (.tmp 163) rfl (n0 + 2) rfl (wordCells cc.list) rfl 146 _ hr2 (info_w8.trans (size_words 8 cc.list (St.list_length cc))) rfl (cell_oneWord _) ?_)
              intro w12 hr12 b12 _
              rw [HF.out] at hr12
              have hb12 : Below n0 w w12 := hb2.trans (b12.under (Nat.le_trans (Nat.le_add_right n0 2) (Nat.le_of_lt hr2.lt)) (by omega))
              clear HC HF hv0
              go_wp2
              have hsz := info_w8.trans (size_words 8 (comp s b).list (St.list_length (comp s b)))
              exact ret_row Tryd.results119 rfl rfl hr12 Tryd.underlying146 rfl hsz ⟨rfl, hb12⟩
end Go.Proofs.YtanpplniedphkaaDoor

/-
  WALK: the document's own Join, parts wherever they lie.
-/
namespace Go.Proofs.YtanpplniedphkaaDoor
open Go.RowKit
set_option maxRecDepth 100000

/-- bytes of its own are handed back -/
def OwnIs (w : World) (bs : List UInt8) (e : Ending) (w' : World) : Prop := ∃ v, e = .returned v ∧ Gives w bs v w'

set_option maxHeartbeats 1000000 in
theorem refJoin_any (B g : Nat) (v : Value) (bss : List (List UInt8)) (w : World) (hp : PartsO w B g v bss) (hB : B ≤ w.heap.size) (hl : bss.flatten.length ≤ 1099511627776) (hn : bss.length ≤ 1000000) :
    Calls Tryd.prog 12 #[v] w (OwnIs w bss.flatten) := by
  obtain ⟨i0, hi, hz0, hz1, hz2⟩ := info_parts info_u8
  obtain ⟨A, c, rfl⟩ := hp.form
  go_enter Tryd.func12, Tryd.ntmps12
  go_wp2
  go_loopw [3, 5, 9] (fun o _ i wr => ∃ k : Nat, k ≤ bss.length ∧ i = .int .i64 k ∧ wr.ownsRow w.heap.size 5 1 o (bss.take k).flatten.length (Lib.byteCells (bss.take k).flatten) ∧ Below w.heap.size w wr) (fun _ _ i _ => bss.length - (intOf i).toNat)
  case atStart =>
    exact ⟨0, Nat.zero_le _, rfl, World.ownsRow_made w #[] 0 (Nat.le_refl _) (Nat.zero_le _) rfl, (Below.refl _ _).alloc (Nat.le_refl _) _⟩
  case round =>
    obtain ⟨k, hk, rfl, hown, hbel⟩ := hrel
    have hsz := hbel.size
    by_cases hlt : k < bss.length
    · have hpr := hp.below (hbel.mono hB)
      obtain ⟨q, off, rfl, hq, hqg, hcc⟩ := hpr.at_ (by omega)
      obtain ⟨u, hu, hs, ho⟩ := hcc k hlt
      have hfs := flat_snoc bss k hlt
      have hfl := flat_le bss (k + 1)
      rw [hfs, List.length_append] at hfl
      have HF := Lib.hid hfs
      clear hfs hpr hcc
      generalize bss[k] = cs at *
      generalize (bss.take k).flatten = f0 at *
      go_wp2_with (at_builtin; refine wp_appendSl _ 22 5 i0 Tryd.underlying22 hi hz0 hz1 hz2 rfl _ _ rfl hown hs rfl rfl (by omega) hsz ?_)
      intro v' w1 hown1 _ hb1
      rw [← HF.out] at hown1
      have HO := Lib.hid (own_len hown1 (show f0.length + cs.length = (bss.take (k + 1)).flatten.length by rw [HF.out, List.length_append]))
      clear hown1
      go_wp2
      go_roundw
      case rel => exact ⟨k + 1, by omega, by go_num, HO.out, hbel.trans (hb1 _ (Nat.le_refl _))⟩
      case measure => simp [intOf]; omega
    · obtain rfl : k = bss.length := by omega
      rw [List.take_of_length_le (Nat.le_refl _)] at hown
      have HO := Lib.hid hown
      clear hown
      go_wp2
      go_ret
      exact ⟨_, rfl, HO.out, hbel⟩
end Go.Proofs.YtanpplniedphkaaDoor

/-
  WALK: the document's own Sum256.
-/
namespace Go.Proofs.YtanpplniedphkaaDoor
open Go.RowKit
set_option maxRecDepth 100000

theorem start_any (w : World) : Calls Tryd.prog 118 #[] w (StIs w start) := by
  unfold StIs
  go_enter Tryd.func118, Tryd.ntmps118
  go_wp2_with (first | refine wpList_build_eq rfl 146 _ rfl (wordCells start.list).toArray (by kernel_rfl) ?_ | refine wpList_store_any rfl 146 (.tmp 0) (.tmp 1) rfl w.heap.size rfl (wordCells start.list) rfl 146 (wordCells (List.replicate 8 0)) (Row.new_ rfl zero8w) (info_w8.trans (size_words _ _ rfl)) rfl (cell_oneWord _) ?_)
  intro w2 hr2 bt _
  try simp only [asz] at bt
  go_wp2
  exact ret_row Tryd.results118 rfl rfl hr2 Tryd.underlying146 rfl (info_w8.trans (size_words _ _ rfl)) ⟨rfl, (Below.alloc (Below.refl _ _) (Nat.le_refl _) _).trans (bt.under (Nat.le_succ _) (Nat.le_refl _))⟩

theorem two_flat (a b : List UInt8) : [a, b].flatten = a ++ b := by simp
theorem zeros_lt (n k : Nat) (h : k < zerosOf n) : ¬ (n + 1 + k) % 64 = 56 := by unfold zerosOf at h; omega
theorem zeros_eq (n : Nat) : (n + 1 + zerosOf n) % 64 = 56 := by unfold zerosOf; omega
theorem zeros_le (n : Nat) : zerosOf n ≤ 63 := by unfold zerosOf; omega
theorem padB_eq (m : List UInt8) : m ++ [128] ++ List.replicate (zerosOf m.length) 0 ++ bigB (8 * m.length) 8 = padB m := by simp [padB]
theorem padB_len (m : List UInt8) : (padB m).length ≤ m.length + 72 := by
  have := zeros_le m.length
  simp only [padB, List.length_append, List.length_cons, List.length_replicate, bigB_length]
  omega
theorem outB_snoc (s : St) (k : Nat) (h : k < s.list.length) : (outB s).take (4 * (k + 1)) = (outB s).take (4 * k) ++ bigB ((s.list[k]'h).toNat) 4 := by
  have e : ∀ (l : List UInt32) k (h : k < l.length), (l.flatMap fun x => bigB x.toNat 4).take (4 * (k + 1)) = (l.flatMap fun x => bigB x.toNat 4).take (4 * k) ++ bigB (l[k]'h).toNat 4 := by
    intro l
    induction l with
    | nil => intro k h; simp at h
    | cons x r ih =>
      intro k h
      rw [List.flatMap_cons]
      cases k with
      | zero =>
        rw [Nat.mul_zero, List.take_zero, List.nil_append, List.take_append_of_le_length (by rw [bigB_length]; omega), List.take_of_length_le (by rw [bigB_length]; omega)]
        rfl
      | succ k =>
        rw [List.take_append, List.take_append, bigB_length, List.take_of_length_le (l := bigB x.toNat 4) (by rw [bigB_length]; omega), List.take_of_length_le (l := bigB x.toNat 4) (by rw [bigB_length]; omega), show 4 * (k + 1 + 1) - 4 = 4 * (k + 1) by omega, show 4 * (k + 1) - 4 = 4 * k by omega, ih k (by simpa using h), List.append_assoc]
        rfl
  exact e s.list k h

theorem own_mono {w : World} {base base' e n : Nat} {v : Value} {xs : List Value} (h : w.ownsRow base' e 1 v n xs) (hb : base ≤ base') : w.ownsRow base e 1 v n xs := by
  refine ⟨h.1, ?_⟩
  rcases h.2 with h0 | ⟨g, cap, cur, h1, h2, h3⟩
  · exact .inl h0
  · exact .inr ⟨g, cap, cur, h1, Nat.le_trans hb h2, h3⟩
theorem blockAt_length (m : List UInt8) (n : Nat) (h : 64 * n + 64 ≤ m.length) : (blockAt m n).length = 64 := by
  simp [blockAt]; omega
theorem blockAt_get (m : List UInt8) (n k : Nat) (h : 64 * n + 64 ≤ m.length) (hk : k < 64) : (blockAt m n)[k]'(by rw [blockAt_length m n h]; exact hk) = m[64 * n + k]'(by omega) := by
  simp [blockAt]

set_option maxHeartbeats 1000000 in
theorem refSum_any (B : Nat) (v : Value) (m : List UInt8) (w : World) (hs : Sl w B v m) (hB : B ≤ w.heap.size) (hl : m.length ≤ 1000000000) :
    Calls Tryd.prog 105 #[v] w (OwnIs w (sha m)) := by
  unfold OwnIs
  obtain ⟨A, c, rfl, _, _⟩ := hs.form
  obtain ⟨i0, hi, hz0, hz1, hz2⟩ := info_parts info_u8
  generalize hn0 : w.heap.size = n0 at *
  have hb2 : ∀ o o2, Below n0 w ((w.alloc o).alloc o2) := fun o o2 => ((Below.refl n0 w).alloc (by omega) _).alloc (by rw [asz]; omega) _
  go_enter Tryd.func105, Tryd.ntmps105
  go_wp2_with (go_at_call 12; refine (refJoin_any (n0 + 2) (n0 + 2) _ [m, [128]] _ (PartsO.two (Nat.lt_succ_self _) (by omega) (Row.new_ (by rw [asz, hn0]) rfl) ((hs.below ((hb2 _ _).mono hB)).more (by omega)) (hs.off (by omega)) (Sl.of_bytes (T := 5) ((Row.new_ hn0.symm rfl).alloc _) (by omega) rfl (by decide)) (Off.at_ (by omega))) (by rw [asz, asz, hn0]; exact Nat.le_refl _) (by rw [two_flat, List.length_append, List.length_singleton]; omega) (by simp)).mono ?_)
  rintro e w1 ⟨v1, rfl, g1⟩
  rw [two_flat] at g1
  have o1 := g1.1
  have b1 : Below n0 w w1 := (hb2 _ _).trans (g1.2.mono (by rw [asz, asz, hn0]; omega))
  have hs1 := g1.2.size
  rw [asz, asz, hn0] at o1 hs1
  clear g1
  go_wp2
  go_loopw [3] (fun o wr => ∃ k : Nat, k ≤ zerosOf m.length ∧ wr.ownsRow (n0 + 2) 5 1 o (m ++ [128] ++ List.replicate k 0).length (Lib.byteCells (m ++ [128] ++ List.replicate k 0)) ∧ Below n0 w wr ∧ n0 + 2 ≤ wr.heap.size) (fun o _ => zerosOf m.length + m.length + 1 - slLen o)
  case atStart => exact ⟨0, Nat.zero_le _, by simpa using o1, b1, hs1⟩
  case round =>
    clear o1 b1 hs1
    obtain ⟨k, hk, o1, b1, hs1⟩ := hrel
    obtain ⟨A1, c1, rfl⟩ := own_form o1
    have hzl := zeros_le m.length
    have hlen : (m ++ [128] ++ List.replicate k (0 : UInt8)).length = m.length + 1 + k := by simp; omega
    rw [hlen] at o1
    obtain ⟨R, hR⟩ : ∃ R, R = (m.length + 1 + k) % 64 := ⟨_, rfl⟩
    obtain ⟨L, hL⟩ : ∃ L, L = m.length + 1 + k := ⟨_, rfl⟩
    have qa : (L : Int).tmod 64 = (R : Int) := (show (L : Int).tmod 64 = ((L % 64 : Nat) : Int) from rfl).trans (by omega)
    have qa2 : (L : Int) % 64 = (R : Int) := by omega
    rw [hlen, ← hL]
    rw [← hL] at o1
    by_cases hlt : k < zerosOf m.length
    · have hne : ¬ R = 56 := by rw [hR]; exact zeros_lt _ _ hlt
      have HL := Lib.hid hL
      have hLb : L ≤ 1000000100 := by omega
      clear hR hL hlen
      go_wp2_with (at_builtin; refine wp_append1 _ 22 5 i0 (.int .u8 0) Tryd.underlying22 hi hz0 hz1 hz2 rfl rfl _ _ rfl o1 rfl rfl rfl (by omega) hs1 ?_)
      intro v' w2 o2 _ b2
      have HO : Hid (w2.ownsRow (n0 + 2) 5 1 v' (m ++ [128] ++ List.replicate (k + 1) 0).length (Lib.byteCells (m ++ [128] ++ List.replicate (k + 1) 0))) := Lib.hid (by
        have e1 : (m ++ [128] ++ List.replicate (k + 1) (0 : UInt8)).length = L + 1 := by have := HL.out; simp; omega
        have e2 : Lib.byteCells (m ++ [128] ++ List.replicate (k + 1) (0 : UInt8)) = Lib.byteCells (m ++ [128] ++ List.replicate k 0) ++ [.int .u8 0] := by
          rw [List.replicate_succ', ← List.append_assoc]
          simp [Lib.byteCells]
        rw [e1, e2]
        simpa using o2)
      have hs2 := (b2 _ (Nat.le_refl _)).size
      obtain ⟨A2, c2, rfl⟩ := own_form o2
      have HL2 := HL.out
      clear o2 o1
      go_wp2
      go_roundw
      case rel => exact ⟨k + 1, by omega, HO.out, b1.trans (b2 _ (by omega)), by omega⟩
      case measure => simp only [slLen]; omega
    · have hkz : k = zerosOf m.length := by omega
      have hne : R = 56 := by rw [hR, hkz]; exact zeros_eq _
      subst hkz
      have sb := Sl.of_own o1
      have ob : Off (wr.heap.size + 1) (.slice A1 L c1) := sb.off (by omega)
      have HL := Lib.hid (And.intro hL hlen)
      have hLb : L ≤ 1000000100 := by omega
      have hml := hl
      clear hR hL hlen o1
      subst hne
      generalize hp1 : m ++ [128] ++ List.replicate (zerosOf m.length) (0 : UInt8) = p1 at *
      have q8 : IntKind.u64.wrap (m.length : Int) = (m.length : Int) := by rw [IntKind.wrap_u64]; omega
      go_wp2_with (go_at_call 117; refine (refBig_any (8 * m.length) 8 _ (by omega) (by omega)).mono ?_)
      rintro e w3 ⟨v3, rfl, g3⟩
      have s3 := gives_sl g3
      obtain ⟨A3, c3, rfl, _, _⟩ := s3.form
      have b3 := g3.2
      have sb3 := sb.below b3
      have hs3 := b3.size
      have hbel3 := b1.trans (b3.mono (by omega))
      have hal : ∀ o, Below w3.heap.size w3 (w3.alloc o) := fun o => Below.alloc (Below.refl _ _) (Nat.le_refl _) o
      clear g3 qa qa2 b3
      go_wp2_with (go_at_call 12; refine (refJoin_any (w3.heap.size + 1) (w3.heap.size + 1) _ [p1, bigB (8 * m.length) 8] _ (PartsO.two (Nat.lt_succ_self _) (by omega) (Row.new_ rfl rfl) ((sb3.below ((hal _).mono hs3)).more (by omega)) (sb3.off (by omega)) ((s3.below (hal _)).more (by omega)) (s3.off (by omega))) (by rw [asz]; exact Nat.le_refl _) (by rw [two_flat, List.length_append, bigB_length]; have := HL.out; omega) (by simp)).mono ?_)
      rintro e w4 ⟨v4, rfl, g4⟩
      rw [two_flat, ← hp1, padB_eq] at g4
      have s4 := gives_sl g4
      have b4 := (hal _).trans (g4.2.mono (by rw [asz]; omega))
      have hbel4 := hbel3.trans (b4.mono (by omega))
      have hs4 := b4.size
      clear g4 b4 hal s3 sb3 sb ob hbel3
      have hpl := padB_length m
      have hpl2 := padB_len m
      obtain ⟨A4, c4, rfl, _, _⟩ := s4.form
      obtain ⟨pd, hpd⟩ : ∃ pd, pd = padB m := ⟨_, rfl⟩
      have HP := Lib.hid hpd
      rw [← hpd] at s4 hpl hpl2 ⊢
      clear hpd
      go_wp2_with (go_at_call 118; refine (start_any _).mono ?_)
      rintro e w5 ⟨rfl, b5⟩
      have s5 := s4.below b5
      have hbel5 := hbel4.trans (b5.mono (by omega))
      have hs5 := b5.size
      clear s4 b5 hbel4
      go_wp2_with (refine wpList_store_any rfl 146 (.tmp 4) (.tmp 29) rfl w5.heap.size rfl (wordCells start.list) rfl 146 (wordCells (List.replicate 8 0)) (Row.new_ rfl zero8w) (info_w8.trans (size_words _ _ rfl)) rfl (cell_oneWord _) ?_)
      intro w6 hr6 bt hs6
      try simp only [asz] at bt hs6
      have s6 : Sl w6 w4.heap.size (.slice A4 pd.length c4) pd := (s5.below ((Below.alloc (Below.refl _ _) (Nat.le_refl _) _).mono hs5)).below (bt.under (by omega) (by omega))
      have hbel6 : Below n0 w w6 := (hbel5.alloc (by omega) _).trans (bt.under (by omega) (by omega))
      generalize hn6 : w5.heap.size = n6 at *
      clear s5 bt hbel5 hn6
      go_wp2
      have h46 : w4.heap.size ≤ n6 := hs5
      have h04 : n0 ≤ w4.heap.size := by omega
      generalize w4.heap.size = n4 at *
      clear hs1 hs3 hs4 hs5 hs6 HL hb2 b1 hp1
      go_loopw [5, 6, 7] (fun i _ _ wr => ∃ n : Nat, 64 * n ≤ pd.length ∧ i = .int .i64 ((64 * n : Nat) : Int) ∧ Row wr n6 146 (wordCells (states pd n).list) ∧ Sl wr n4 (.slice A4 pd.length c4) pd ∧ Below n0 w wr) (fun i _ _ _ => pd.length - (intOf i).toNat)
      case atStart => exact ⟨0, Nat.zero_le _, rfl, hr6, s6, hbel6⟩
      case round =>
        clear hr6 s6 hbel6
        obtain ⟨n, hn, rfl, hr6, s6, hbel6⟩ := hrel
        obtain ⟨a, ha⟩ : ∃ a, a = 64 * n := ⟨_, rfl⟩
        have HA := Lib.hid ha
        rw [← ha] at hn ⊢
        by_cases hlt : a < pd.length
        · have hfull : 64 * n + 64 ≤ pd.length := by omega
          have hfa : a + 64 ≤ pd.length := by omega
          have hXl := blockAt_length pd n hfull
          have HX := Lib.hid (fun k hk => blockAt_get pd n k hfull hk)
          obtain ⟨X, hX⟩ : ∃ X, X = blockAt pd n := ⟨_, rfl⟩
          have HXE := Lib.hid hX
          obtain ⟨st, hst⟩ : ∃ st, st = states pd n := ⟨_, rfl⟩
          have HST := Lib.hid hst
          rw [← hst] at hr6
          rw [← hX] at hXl
          clear ha hX hst
          go_wp2
          have h67 : n6 < wr.heap.size := hr6.lt
          have hr7 : Row (wr.alloc (.cells (Lib.byteCells (List.replicate 64 0)).toArray 139)) wr.heap.size 139 (Lib.byteCells (List.replicate 64 0)) := Row.new_ rfl rfl
          replace hr6 := hr6.alloc (.cells (Lib.byteCells (List.replicate 64 0)).toArray 139)
          replace s6 := s6.below (Below.alloc (o := .cells (Lib.byteCells (List.replicate 64 0)).toArray 139) (Below.refl n4 wr) (by omega))
          replace hbel6 := hbel6.alloc (o := .cells (Lib.byteCells (List.replicate 64 0)).toArray 139) (by omega)
          generalize hn7 : wr.heap.size = n7 at *
          have hz7 : (wr.alloc (.cells (Lib.byteCells (List.replicate 64 0)).toArray 139)).heap.size = n7 + 1 := by rw [asz, hn7]
          go_loopw [7, 36] (fun _ i wr => ∃ k : Nat, k ≤ 64 ∧ i = .int .i64 k ∧ Row wr n7 139 (Lib.byteCells (X.take k ++ List.replicate (64 - k) 0)) ∧ Row wr n6 146 (wordCells st.list) ∧ Sl wr n4 (.slice A4 pd.length c4) pd ∧ Below n0 w wr) (fun _ i _ => 64 - (intOf i).toNat)
          case atStart => exact ⟨0, Nat.zero_le _, rfl, hr7, hr6, s6, hbel6⟩
          case round =>
            clear hr7 hr6 s6 hbel6
            obtain ⟨k, hk, rfl, hr7, hr6, s6, hbel6⟩ := hrel
            by_cases hlk : k < 64
            · obtain ⟨b, off, rfl, hbb, hcc⟩ := s6.at_ (by omega)
              obtain ⟨j, hj⟩ : ∃ j, j = a + k := ⟨_, rfl⟩
              have hjl : j < pd.length := by omega
              have hc := hcc j hjl
              have hjs : (a : Int) + (k : Int) = (j : Int) := by omega
              have hset := hr7.set_ k (.int .u8 ((X[k]'(by rw [hXl]; exact hlk)).toNat : Int))
              have hbs : (Lib.byteCells (X.take k ++ List.replicate (64 - k) 0)).set k (.int .u8 ((X[k]'(by rw [hXl]; exact hlk)).toNat : Int)) = Lib.byteCells (X.take (k + 1) ++ List.replicate (64 - (k + 1)) 0) := by
                rw [← setk X k 64 hXl hlk _ rfl]
                simp [Lib.byteCells, List.map_set]
              rw [hbs] at hset
              have hxe : X[k]'(by rw [hXl]; exact hlk) = pd[j] := by
                have h1 := HX.out k hlk
                have e1 := HXE.out
                subst e1
                rw [h1]
                have e2 := HA.out
                subst hj
                subst e2
                rfl
              rw [hxe] at hset
              have hcx := hr7.cell k
              rw [byteCells_get _ k (by simp; omega)] at hcx
              have hf := hr7.free k
              have HSET := Lib.hid hset
              have k6 := Lib.hid (hr6.other ⟨n7, k, none⟩ (.int .u8 (pd[j].toNat : Int)) (by show n6 ≠ n7; omega))
              have ks := Lib.hid (s6.below (Below.setCell (p := ⟨n7, k, none⟩) (Below.refl n4 wr) (by show n4 ≤ n7; omega) (.int .u8 (pd[j].toNat : Int))))
              have kb := Lib.hid (hbel6.setCell (p := ⟨n7, k, none⟩) (by show n0 ≤ n7; omega) (.int .u8 (pd[j].toNat : Int)))
              clear hcc hj hset hbs hxe hr7 hr6 s6 hbel6
              generalize pd[j] = y at *
              go_wp2
              go_roundw
              case rel => exact ⟨k + 1, by omega, by go_num, HSET.out, k6.out, ks.out, kb.out⟩
              case measure => simp [intOf]; omega
            · obtain rfl : k = 64 := by omega
              rw [List.take_of_length_le (by omega), Nat.sub_self, List.replicate_zero, List.append_nil] at hr7
              have hi24 : (Tryd.prog.info? 139).map (·.size) = some (Lib.byteCells X).length := info_b64.trans (size_bytes 64 X hXl)
              go_wp2_with (first
                | refine wpList_load_any rfl 146 (.tmp 4) rfl n6 rfl 146 (wordCells st.list) (.array 8 44) hr6 Tryd.underlying146 rfl (info_w8.trans (size_words _ _ rfl)) ?_
                | refine wpList_load_any rfl 139 (.tmp 6) rfl n7 rfl 139 (Lib.byteCells X) (.array 64 5) hr7 Tryd.underlying139 rfl hi24 ?_
                | (go_at_call 119; refine (refCompress_any st X hXl _).mono ?_))
              rintro e w9 ⟨rfl, b9⟩
              obtain ⟨cc, HC⟩ : ∃ cc, Hid (cc = comp st X) := ⟨_, Lib.hid rfl⟩
              rw [← HC.out]
              have hr69 := hr6.below b9 hr6.lt
              have s69 := s6.below (b9.mono (Nat.le_of_lt (Nat.lt_of_le_of_lt h46 hr6.lt)))
              have hbel9 := hbel6.trans (b9.mono (Nat.le_of_lt (Nat.lt_of_le_of_lt (Nat.le_trans h04 h46) hr6.lt)))
              clear hr6 s6 hbel6 b9 hr7
              go_wp2_with (refine wpList_store_any rfl 146 (.tmp 4) (.tmp 50) rfl n6 rfl (wordCells cc.list) rfl 146 _ hr69 (info_w8.trans (size_words _ _ rfl)) rfl (cell_oneWord _) ?_)
              intro w10 hr10 b10 _
              have s10 := s69.below (b10.under (Nat.le_trans h46 (Nat.le_of_lt hr69.lt)) h46)
              have hbel10 := hbel9.trans (b10.under (Nat.le_trans (Nat.le_trans h04 h46) (Nat.le_of_lt hr69.lt)) (Nat.le_trans h04 h46))
              have HR : Hid (Row w10 n6 146 (wordCells (states pd (n + 1)).list)) := Lib.hid (by
                have e : states pd (n + 1) = cc := by rw [HC.out, HST.out, HXE.out]; rfl
                rw [e]; exact hr10)
              have hA := HA.out
              clear hr10 b10 hr69 s69 hbel9
              go_wp2
              go_roundw
              case rel => exact ⟨n + 1, by omega, by rw [show 64 * (n + 1) = a + 64 by omega]; go_num, HR.out, s10, hbel10⟩
              case measure => simp [intOf]; omega
        · have hae : a = pd.length := by omega
          have HN : Hid (outB (states pd n) = sha m) := Lib.hid (by
            rw [sha, ← HP.out]
            congr 2
            have := HA.out
            omega)
          obtain ⟨st, hst⟩ : ∃ st, st = states pd n := ⟨_, rfl⟩
          rw [← hst] at HN hr6
          clear hst hpl hpl2 hn HA ha s6 hae
          have h6lt := hr6.lt
          have hown0 : (wr.alloc (.cells #[] 5)).ownsRow n0 5 1 (.slice (some ⟨wr.heap.size, 0, none⟩) 0 0) 0 [] := World.ownsRow_made wr #[] 0 (by omega) (Nat.zero_le _) rfl
          have h46 : n0 ≤ n6 := by omega
          replace hr6 := hr6.alloc (.cells #[] 5)
          replace hbel6 := hbel6.alloc (o := .cells #[] 5) (by omega)
          go_wp2
          go_loopw [8, 9, 52] (fun o _ i wr => ∃ k : Nat, k ≤ 8 ∧ i = .int .i64 k ∧ wr.ownsRow n0 5 1 o ((outB st).take (4 * k)).length (Lib.byteCells ((outB st).take (4 * k))) ∧ Row wr n6 146 (wordCells st.list) ∧ Below n0 w wr) (fun _ _ i _ => 8 - (intOf i).toNat)
          case atStart => exact ⟨0, Nat.zero_le _, rfl, hown0, hr6, hbel6⟩
          case round =>
            clear hr6 hbel6 hown0 h6lt
            obtain ⟨k, hk, rfl, hown0, hr6, hbel6⟩ := hrel
            by_cases hlk : k < 8
            · have hc := hr6.cell k
              rw [wordCells_get _ k (by rw [St.list_length]; exact hlk)] at hc
              have HO := Lib.hid (outB_snoc st k (by rw [St.list_length]; exact hlk))
              obtain ⟨x, hx⟩ : ∃ x, x = st.list[k]'(by rw [St.list_length]; exact hlk) := ⟨_, rfl⟩
              rw [← hx] at hc HO
              have hxl := x.toNat_lt
              have so := Sl.of_own hown0
              obtain ⟨Ao, co, rfl⟩ := own_form hown0
              have hol : ((outB st).take (4 * k)).length ≤ 32 := by rw [List.length_take, outB_length]; omega
              have h6 := hr6.lt
              clear hx hown0
              generalize (outB st).take (4 * k) = ob at *
              go_wp2_with (go_at_call 117; refine (refBig_any x.toNat 4 _ (by omega) (by omega)).mono ?_)
              rintro e w3 ⟨v3, rfl, g3⟩
              have s3 := gives_sl g3
              obtain ⟨A3, c3, rfl, _, _⟩ := s3.form
              have b3 := g3.2
              have so3 := so.below b3
              have hs3 := b3.size
              have hr63 := hr6.below b3 h6
              have hbel3 := hbel6.trans (b3.mono (by omega))
              have hal : ∀ o, Below w3.heap.size w3 (w3.alloc o) := fun o => Below.alloc (Below.refl _ _) (Nat.le_refl _) o
              clear g3 b3 hr6 hbel6 so
              go_wp2_with (go_at_call 12; refine (refJoin_any (w3.heap.size + 1) (w3.heap.size + 1) _ [ob, bigB x.toNat 4] _ (PartsO.two (Nat.lt_succ_self _) (by omega) (Row.new_ rfl rfl) ((so3.below ((hal _).mono hs3)).more (by omega)) (so3.off (by omega)) ((s3.below (hal _)).more (by omega)) (s3.off (by omega))) (by rw [asz]; exact Nat.le_refl _) (by rw [two_flat, List.length_append, bigB_length]; omega) (by simp)).mono ?_)
              rintro e w4 ⟨v4, rfl, g4⟩
              rw [two_flat, ← HO.out] at g4
              have o4 := Lib.hid (own_mono (base := n0) g4.1 (by rw [asz]; omega))
              have b4 := (hal _).trans (g4.2.mono (by rw [asz]; omega))
              have hr64 := hr63.below b4 (by omega)
              have hbel4 := hbel3.trans (b4.mono (by omega))
              clear g4 b4 hal s3 so3 hr63 hbel3 HO
              go_wp2
              go_roundw
              case rel => exact ⟨k + 1, by omega, by go_num, o4.out, hr64, hbel4⟩
              case measure => simp [intOf]; omega
            · obtain rfl : k = 8 := by omega
              rw [List.take_of_length_le (by rw [outB_length]; omega), HN.out] at hown0
              have HO := Lib.hid hown0
              clear hown0
              go_wp2
              go_ret
              rw [← hn0] at HO hbel6
              exact ⟨_, rfl, HO.out, hbel6⟩
end Go.Proofs.YtanpplniedphkaaDoor

/-
  WALKS: the document's own turned, Mac.
-/
namespace Go.Proofs.YtanpplniedphkaaDoor
open Go.RowKit
set_option maxRecDepth 100000

set_option maxHeartbeats 1000000 in
theorem turned_any (c : UInt8) (B : Nat) (v : Value) (k : List UInt8) (w : World) (hs : Sl w B v k) (hB : B ≤ w.heap.size) (hl : k.length ≤ 1000000) :
    Calls Tryd.prog 106 #[v, .int .u8 (c.toNat : Int)] w (OwnIs w (xorB (keyB k) c)) := by
  unfold OwnIs
  obtain ⟨A, ca, rfl, _, _⟩ := hs.form
  generalize hn0 : w.heap.size = n0 at *
  by_cases hlong : 64 < k.length
  · have ht : (64 : Int) < (k.length : Int) := by omega
    go_enter Tryd.func106, Tryd.ntmps106
    go_wp2_with (go_at_call 105; refine (refSum_any B _ k _ hs (by omega) (by omega)).mono ?_)
    rintro e w1 ⟨v1, rfl, g1⟩
    obtain ⟨l, HL⟩ : ∃ l, Hid (l = sha k) := ⟨_, Lib.hid rfl⟩
    rw [← HL.out] at g1
    have hll : l.length ≤ 64 := by rw [HL.out, sha_length]; decide
    have HKE : Hid (keyB k = l ++ List.replicate (64 - l.length) 0) := Lib.hid (by rw [HL.out]; exact keyB_long k hlong)
    obtain ⟨Bl, hBle⟩ : ∃ Bl, Bl = w1.heap.size := ⟨_, rfl⟩
    have sl : Sl w1 Bl v1 l := by rw [hBle]; exact gives_sl g1
    obtain ⟨Al, cl, rfl, _, _⟩ := sl.form
    have hb1 : Below n0 w w1 := by rw [← hn0]; exact g1.2
    have hBl : Bl ≤ w1.heap.size := by omega
    clear g1 hBle
    obtain ⟨K, HK2⟩ : ∃ K, Hid (K = keyB k) := ⟨_, Lib.hid rfl⟩
    have hKl : K.length = 64 := by rw [HK2.out]; exact keyB_length k
    have hKe : Hid (∀ j (h : j < 64), K[j]'(by omega) = if h' : j < l.length then l[j] else 0) := Lib.hid (fun j h => by
      have e := HK2.out.trans HKE.out
      subst e
      split
      · rename_i h'
        rw [List.getElem_append_left h']
      · rename_i h'
        rw [List.getElem_append_right (by omega)]
        simp)
    have hXl : (xorB K c).length = 64 := by rw [xorB_length, hKl]
    have hmk : ∀ u, (Instr.makeSlice 22 (.int .i64 64) (.int .i64 64)).run Tryd.prog u = .ok (.slice (some ⟨u.heap.size, 0, none⟩) 64 64) (u.alloc (.cells (Lib.byteCells (List.replicate 64 0)).toArray 5)) := make_run 64 (by decide)
    have hsz : n0 ≤ w1.heap.size := by have := hb1.size; omega
    have hal : Below w1.heap.size w1 (w1.alloc (.cells (Lib.byteCells (List.replicate 64 0)).toArray 5)) := Below.alloc (Below.refl _ _) (Nat.le_refl _) _
    have hr : Row (w1.alloc (.cells (Lib.byteCells (List.replicate 64 0)).toArray 5)) w1.heap.size 5 (Lib.byteCells (List.replicate 64 0)) := Row.new_ rfl rfl
    have hsA := sl.below (hal.mono hBl)
    have hbA := hb1.trans (hal.mono hsz)
    clear hal sl HKE
    go_wp2
    generalize w1.heap.size = nb at *
    go_loopw [6, 13] (fun _ i wr => ∃ j : Nat, j ≤ 64 ∧ i = .int .i64 j ∧ Row wr nb 5 (Lib.byteCells ((xorB K c).take j ++ List.replicate (64 - j) 0)) ∧ Sl wr Bl (.slice Al l.length cl) l ∧ Below n0 w wr) (fun _ i _ => 64 - (intOf i).toNat)
    case atStart => exact ⟨0, Nat.zero_le _, rfl, hr, hsA, hbA⟩
    case round =>
      clear hr hsA hbA
      obtain ⟨j, hj, rfl, hr, hsA, hbA⟩ := hrel
      by_cases hlt : j < 64
      · have hgz : ((xorB K c).take j ++ List.replicate (64 - j) (0 : UInt8))[j]? = some 0 := by
          rw [List.getElem?_append_right (by rw [List.length_take, hXl]; omega), List.length_take, hXl, Nat.min_eq_left (Nat.le_of_lt hlt), Nat.sub_self, List.getElem?_replicate, if_pos (by omega)]
        have hll : j < ((xorB K c).take j ++ List.replicate (64 - j) (0 : UInt8)).length := by simp; omega
        have hc := hr.cell j
        rw [byteCells_get _ _ hll, (List.getElem_eq_iff hll).2 hgz] at hc
        have hf := hr.free j
        have hke := hKe.out j hlt
        obtain ⟨y, hy⟩ : ∃ y, y = K[j]'(by omega) := ⟨_, rfl⟩
        have hset : ∀ a, Row ((wr.setCell ⟨nb, j, none⟩ a).setCell ⟨nb, j, none⟩ (.int .u8 ((y ^^^ c).toNat : Int))) nb 5 (Lib.byteCells ((xorB K c).take (j + 1) ++ List.replicate (64 - (j + 1)) 0)) := fun a => by
          have h2 := (hr.set_ j a).set_ j (.int .u8 ((y ^^^ c).toNat : Int))
          rw [List.set_set] at h2
          rw [← setk (xorB K c) j 64 hXl hlt (y ^^^ c) (by rw [hy]; simp [xorB])]
          have e : Lib.byteCells (((xorB K c).take j ++ List.replicate (64 - j) 0).set j (y ^^^ c)) = (Lib.byteCells ((xorB K c).take j ++ List.replicate (64 - j) 0)).set j (.int .u8 ((y ^^^ c).toNat : Int)) := by simp [Lib.byteCells, List.map_set]
          rw [e]; exact h2
        have hset1 : Row (wr.setCell ⟨nb, j, none⟩ (.int .u8 ((y ^^^ c).toNat : Int))) nb 5 (Lib.byteCells ((xorB K c).take (j + 1) ++ List.replicate (64 - (j + 1)) 0)) := by
          have h2 := hr.set_ j (.int .u8 ((y ^^^ c).toNat : Int))
          rw [← setk (xorB K c) j 64 hXl hlt (y ^^^ c) (by rw [hy]; simp [xorB])]
          have e : Lib.byteCells (((xorB K c).take j ++ List.replicate (64 - j) 0).set j (y ^^^ c)) = (Lib.byteCells ((xorB K c).take j ++ List.replicate (64 - j) 0)).set j (.int .u8 ((y ^^^ c).toNat : Int)) := by simp [Lib.byteCells, List.map_set]
          rw [e]; exact h2
        rw [← hy] at hke
        have HS := Lib.hid hset
        have HS1 := Lib.hid hset1
        have HX := Lib.hid (u8_xor y c)
        clear hset hset1 hgz hll hy
        by_cases hjl : j < l.length
        · rw [dif_pos hjl] at hke
          obtain ⟨b, off, rfl, hb, hcc⟩ := hsA.at_ (by omega)
          have hck := hcc j hjl
          rw [← hke] at hck
          have hc2 : (wr.setCell ⟨nb, j, none⟩ (.int .u8 (y.toNat : Int))).cell? ⟨nb, j, none⟩ = some (.int .u8 (y.toNat : Int)) := by
            rw [(hr.set_ j _).cell j, List.getElem?_set_self (by rw [Lib.byteCells_length]; simp; omega)]
          have hf2 := (hr.set_ j (.int .u8 (y.toNat : Int))).free j
          have ks := Lib.hid (hsA.below ((Below.setCell (p := ⟨nb, j, none⟩) (Below.refl Bl wr) (by show Bl ≤ nb; omega) (.int .u8 (y.toNat : Int))).setCell (p := ⟨nb, j, none⟩) (by show Bl ≤ nb; omega) (.int .u8 ((y ^^^ c).toNat : Int))))
          have kb := Lib.hid ((hbA.setCell (p := ⟨nb, j, none⟩) (by show n0 ≤ nb; omega) (.int .u8 (y.toNat : Int))).setCell (p := ⟨nb, j, none⟩) (by show n0 ≤ nb; omega) (.int .u8 ((y ^^^ c).toNat : Int)))
          clear hcc hr hsA hbA hke
          go_wp2
          go_roundw
          case rel => exact ⟨j + 1, by omega, by go_num, by rw [HX.out]; exact HS.out _, by rw [HX.out]; exact ks.out, by rw [HX.out]; exact kb.out⟩
          case measure => simp [intOf]; omega
        · rw [dif_neg hjl] at hke
          have ks := Lib.hid (hsA.below (Below.setCell (p := ⟨nb, j, none⟩) (Below.refl Bl wr) (by show Bl ≤ nb; omega) (.int .u8 ((y ^^^ c).toNat : Int))))
          have kb := Lib.hid (hbA.setCell (p := ⟨nb, j, none⟩) (by show n0 ≤ nb; omega) (.int .u8 ((y ^^^ c).toNat : Int)))
          have HX0 : Hid (bits .xor .u8 0 (c.toNat : Int) = ((y ^^^ c).toNat : Int)) := Lib.hid (by rw [← HX.out, hke]; rfl)
          clear hr hsA hbA hke
          go_wp2
          go_roundw
          case rel => exact ⟨j + 1, by omega, by go_num, by rw [HX0.out]; exact HS1.out, by rw [HX0.out]; exact ks.out, by rw [HX0.out]; exact kb.out⟩
          case measure => simp [intOf]; omega
      · obtain rfl : j = 64 := by omega
        rw [List.take_of_length_le (by omega), Nat.sub_self, List.replicate_zero, List.append_nil] at hr
        have ho : Hid (wr.ownsRow n0 5 1 (.slice (some ⟨nb, 0, none⟩) 64 64) (xorB (keyB k) c).length (Lib.byteCells (xorB (keyB k) c))) := Lib.hid (by
          rw [← HK2.out]
          have := Blk.own (w := wr) (g := nb) (bs := xorB K c) (base := n0) hr (by omega) (by rw [hXl]; unfold maxLen; omega)
          rw [hXl] at this ⊢
          exact this)
        clear hr hsA
        go_wp2
        go_ret
        refine ⟨_, rfl, ?_⟩
        unfold Gives
        rw [hn0]
        exact ⟨ho.out, hbA⟩
  · have ht : ¬ (64 : Int) < (k.length : Int) := by omega
    obtain ⟨l, HL⟩ : ∃ l, l = k := ⟨_, rfl⟩
    have hll : l.length ≤ 64 := by rw [HL]; omega
    have HKE : Hid (keyB k = l ++ List.replicate (64 - l.length) 0) := Lib.hid (by rw [HL]; exact keyB_short k hlong)
    obtain ⟨Bl, hBle⟩ : ∃ Bl, Bl = B := ⟨_, rfl⟩
    obtain ⟨Al, hAl⟩ : ∃ Al, Al = A := ⟨_, rfl⟩
    obtain ⟨cl, hcl⟩ : ∃ cl, cl = ca := ⟨_, rfl⟩
    have sl : Sl w Bl (.slice Al l.length cl) l := by rw [hBle, hAl, hcl, HL]; exact hs
    have hb1 : Below n0 w w := Below.refl _ _
    have hBl : Bl ≤ w.heap.size := by omega
    go_enter Tryd.func106, Tryd.ntmps106
    rw [← hAl, ← hcl, ← HL]
    rw [← HL] at ht
    clear hBle hs hAl hcl
    have HLL := Lib.hid HL
    clear HL hlong
    obtain ⟨K, HK2⟩ : ∃ K, Hid (K = keyB k) := ⟨_, Lib.hid rfl⟩
    have hKl : K.length = 64 := by rw [HK2.out]; exact keyB_length k
    have hKe : Hid (∀ j (h : j < 64), K[j]'(by omega) = if h' : j < l.length then l[j] else 0) := Lib.hid (fun j h => by
      have e := HK2.out.trans HKE.out
      subst e
      split
      · rename_i h'
        rw [List.getElem_append_left h']
      · rename_i h'
        rw [List.getElem_append_right (by omega)]
        simp)
    have hXl : (xorB K c).length = 64 := by rw [xorB_length, hKl]
    have hmk : ∀ u, (Instr.makeSlice 22 (.int .i64 64) (.int .i64 64)).run Tryd.prog u = .ok (.slice (some ⟨u.heap.size, 0, none⟩) 64 64) (u.alloc (.cells (Lib.byteCells (List.replicate 64 0)).toArray 5)) := make_run 64 (by decide)
    have hsz : n0 ≤ w.heap.size := by have := hb1.size; omega
    have hal : Below w.heap.size w (w.alloc (.cells (Lib.byteCells (List.replicate 64 0)).toArray 5)) := Below.alloc (Below.refl _ _) (Nat.le_refl _) _
    have hr : Row (w.alloc (.cells (Lib.byteCells (List.replicate 64 0)).toArray 5)) w.heap.size 5 (Lib.byteCells (List.replicate 64 0)) := Row.new_ rfl rfl
    have hsA := sl.below (hal.mono hBl)
    have hbA := hb1.trans (hal.mono hsz)
    clear hal sl HKE
    go_wp2
    rw [hn0] at hr hBl
    clear hsz
    go_loopw [6, 13] (fun _ i wr => ∃ j : Nat, j ≤ 64 ∧ i = .int .i64 j ∧ Row wr n0 5 (Lib.byteCells ((xorB K c).take j ++ List.replicate (64 - j) 0)) ∧ Sl wr Bl (.slice Al l.length cl) l ∧ Below n0 w wr) (fun _ i _ => 64 - (intOf i).toNat)
    case atStart => exact ⟨0, Nat.zero_le _, rfl, hr, hsA, hbA⟩
    case round =>
      clear hr hsA hbA
      obtain ⟨j, hj, rfl, hr, hsA, hbA⟩ := hrel
      by_cases hlt : j < 64
      · have hgz : ((xorB K c).take j ++ List.replicate (64 - j) (0 : UInt8))[j]? = some 0 := by
          rw [List.getElem?_append_right (by rw [List.length_take, hXl]; omega), List.length_take, hXl, Nat.min_eq_left (Nat.le_of_lt hlt), Nat.sub_self, List.getElem?_replicate, if_pos (by omega)]
        have hll : j < ((xorB K c).take j ++ List.replicate (64 - j) (0 : UInt8)).length := by simp; omega
        have hc := hr.cell j
        rw [byteCells_get _ _ hll, (List.getElem_eq_iff hll).2 hgz] at hc
        have hf := hr.free j
        have hke := hKe.out j hlt
        obtain ⟨y, hy⟩ : ∃ y, y = K[j]'(by omega) := ⟨_, rfl⟩
        have hset : ∀ a, Row ((wr.setCell ⟨n0, j, none⟩ a).setCell ⟨n0, j, none⟩ (.int .u8 ((y ^^^ c).toNat : Int))) n0 5 (Lib.byteCells ((xorB K c).take (j + 1) ++ List.replicate (64 - (j + 1)) 0)) := fun a => by
          have h2 := (hr.set_ j a).set_ j (.int .u8 ((y ^^^ c).toNat : Int))
          rw [List.set_set] at h2
          rw [← setk (xorB K c) j 64 hXl hlt (y ^^^ c) (by rw [hy]; simp [xorB])]
          have e : Lib.byteCells (((xorB K c).take j ++ List.replicate (64 - j) 0).set j (y ^^^ c)) = (Lib.byteCells ((xorB K c).take j ++ List.replicate (64 - j) 0)).set j (.int .u8 ((y ^^^ c).toNat : Int)) := by simp [Lib.byteCells, List.map_set]
          rw [e]; exact h2
        have hset1 : Row (wr.setCell ⟨n0, j, none⟩ (.int .u8 ((y ^^^ c).toNat : Int))) n0 5 (Lib.byteCells ((xorB K c).take (j + 1) ++ List.replicate (64 - (j + 1)) 0)) := by
          have h2 := hr.set_ j (.int .u8 ((y ^^^ c).toNat : Int))
          rw [← setk (xorB K c) j 64 hXl hlt (y ^^^ c) (by rw [hy]; simp [xorB])]
          have e : Lib.byteCells (((xorB K c).take j ++ List.replicate (64 - j) 0).set j (y ^^^ c)) = (Lib.byteCells ((xorB K c).take j ++ List.replicate (64 - j) 0)).set j (.int .u8 ((y ^^^ c).toNat : Int)) := by simp [Lib.byteCells, List.map_set]
          rw [e]; exact h2
        rw [← hy] at hke
        have HS := Lib.hid hset
        have HS1 := Lib.hid hset1
        have HX := Lib.hid (u8_xor y c)
        clear hset hset1 hgz hll hy
        by_cases hjl : j < l.length
        · rw [dif_pos hjl] at hke
          obtain ⟨b, off, rfl, hb, hcc⟩ := hsA.at_ (by omega)
          have hck := hcc j hjl
          rw [← hke] at hck
          have hc2 : (wr.setCell ⟨n0, j, none⟩ (.int .u8 (y.toNat : Int))).cell? ⟨n0, j, none⟩ = some (.int .u8 (y.toNat : Int)) := by
            rw [(hr.set_ j _).cell j, List.getElem?_set_self (by rw [Lib.byteCells_length]; simp; omega)]
          have hf2 := (hr.set_ j (.int .u8 (y.toNat : Int))).free j
          have ks := Lib.hid (hsA.below ((Below.setCell (p := ⟨n0, j, none⟩) (Below.refl Bl wr) (by show Bl ≤ n0; omega) (.int .u8 (y.toNat : Int))).setCell (p := ⟨n0, j, none⟩) (by show Bl ≤ n0; omega) (.int .u8 ((y ^^^ c).toNat : Int))))
          have kb := Lib.hid ((hbA.setCell (p := ⟨n0, j, none⟩) (by show n0 ≤ n0; omega) (.int .u8 (y.toNat : Int))).setCell (p := ⟨n0, j, none⟩) (by show n0 ≤ n0; omega) (.int .u8 ((y ^^^ c).toNat : Int)))
          clear hcc hr hsA hbA hke
          go_wp2
          go_roundw
          case rel => exact ⟨j + 1, by omega, by go_num, by rw [HX.out]; exact HS.out _, by rw [HX.out]; exact ks.out, by rw [HX.out]; exact kb.out⟩
          case measure => simp [intOf]; omega
        · rw [dif_neg hjl] at hke
          have ks := Lib.hid (hsA.below (Below.setCell (p := ⟨n0, j, none⟩) (Below.refl Bl wr) (by show Bl ≤ n0; omega) (.int .u8 ((y ^^^ c).toNat : Int))))
          have kb := Lib.hid (hbA.setCell (p := ⟨n0, j, none⟩) (by show n0 ≤ n0; omega) (.int .u8 ((y ^^^ c).toNat : Int)))
          have HX0 : Hid (bits .xor .u8 0 (c.toNat : Int) = ((y ^^^ c).toNat : Int)) := Lib.hid (by rw [← HX.out, hke]; rfl)
          clear hr hsA hbA hke
          go_wp2
          go_roundw
          case rel => exact ⟨j + 1, by omega, by go_num, by rw [HX0.out]; exact HS1.out, by rw [HX0.out]; exact ks.out, by rw [HX0.out]; exact kb.out⟩
          case measure => simp [intOf]; omega
      · obtain rfl : j = 64 := by omega
        rw [List.take_of_length_le (by omega), Nat.sub_self, List.replicate_zero, List.append_nil] at hr
        have ho : Hid (wr.ownsRow n0 5 1 (.slice (some ⟨n0, 0, none⟩) 64 64) (xorB (keyB k) c).length (Lib.byteCells (xorB (keyB k) c))) := Lib.hid (by
          rw [← HK2.out]
          have := Blk.own (w := wr) (g := n0) (bs := xorB K c) (base := n0) hr (by omega) (by rw [hXl]; unfold maxLen; omega)
          rw [hXl] at this ⊢
          exact this)
        clear hr hsA
        go_wp2
        go_ret
        refine ⟨_, rfl, ?_⟩
        unfold Gives
        rw [hn0, HLL.out]
        exact ⟨ho.out, hbA⟩

set_option maxHeartbeats 1000000 in
theorem refMac_any (B : Nat) (vk vm : Value) (k m : List UInt8) (w : World) (hk : Sl w B vk k) (hm : Sl w B vm m) (hB : B ≤ w.heap.size) (hkl : k.length ≤ 1000000) (hml : m.length ≤ 1000000) :
    Calls Tryd.prog 93 #[vk, vm] w (OwnIs w (macB k m)) := by
  unfold OwnIs
  obtain ⟨Ak, ck, rfl, _, _⟩ := hk.form
  obtain ⟨Am, cm, rfl, _, _⟩ := hm.form
  have HM : Hid (macB k m = sha (xorB (keyB k) 0x5c ++ sha (xorB (keyB k) 0x36 ++ m))) := Lib.hid rfl
  have hx1 : (xorB (keyB k) 0x36).length ≤ 64 := by rw [xorB_length, keyB_length]; decide
  have hx2 : (xorB (keyB k) 0x5c).length ≤ 64 := by rw [xorB_length, keyB_length]; decide
  go_enter Tryd.func93, Tryd.ntmps93
  go_wp2_with (go_at_call 106; refine (turned_any 0x5c B _ k _ hk hB hkl).mono ?_)
  rintro e w1 ⟨v1, rfl, g1⟩
  have s1 := gives_sl g1
  obtain ⟨A1, c1, rfl, _, _⟩ := s1.form
  have b1 := g1.2
  have hk1 := hk.below (b1.mono hB)
  have hm1 := hm.below (b1.mono hB)
  have z1 := b1.size
  clear g1
  go_wp2_with (go_at_call 106; refine (turned_any 0x36 B _ k _ hk1 (by omega) hkl).mono ?_)
  rintro e w2 ⟨v2, rfl, g2⟩
  have s2 := gives_sl g2
  obtain ⟨A2, c2, rfl, _, _⟩ := s2.form
  have b2 := b1.trans (g2.2.mono z1)
  have s12 := s1.below g2.2
  have hm2 := hm1.below (g2.2.mono (by omega))
  have z2 := g2.2.size
  clear g2 b1 s1 hk1 hm1 hk hm
  generalize xorB (keyB k) 0x5c = x5 at *
  generalize xorB (keyB k) 0x36 = x3 at *
  have hal : ∀ (X : World) o, Below X.heap.size X (X.alloc o) := fun X o => Below.alloc (Below.refl _ _) (Nat.le_refl _) o
  go_wp2_with (go_at_call 12; refine (refJoin_any (w2.heap.size + 1) (w2.heap.size + 1) _ [x3, m] _ (PartsO.two (Nat.lt_succ_self _) (by omega) (Row.new_ rfl rfl) ((s2.below (hal w2 _)).more (by omega)) (s2.off (by omega)) ((hm2.below ((hal w2 _).mono (by omega))).more (by omega)) (hm2.off (by omega))) (by rw [asz]; exact Nat.le_refl _) (by rw [two_flat, List.length_append]; omega) (by simp)).mono ?_)
  rintro e w3 ⟨v3, rfl, g3⟩
  rw [two_flat] at g3
  have s3 := gives_sl g3
  have b3' := (hal _ _).trans (g3.2.mono (by rw [asz]; omega))
  have b3 := b2.trans (b3'.mono (by omega))
  have s13 := s12.below (b3'.mono z2)
  have z3 := b3'.size
  clear g3 b3' b2 s12 s2 hm2
  go_wp2_with (go_at_call 105; refine (refSum_any _ _ _ _ s3 (Nat.le_refl _) (by rw [List.length_append]; omega)).mono ?_)
  rintro e w4 ⟨v4, rfl, g4⟩
  have s4 := gives_sl g4
  obtain ⟨A4, c4, rfl, _, _⟩ := s4.form
  have hshl : (sha (x3 ++ m)).length ≤ 32 := by rw [sha_length]; decide
  generalize sha (x3 ++ m) = s9 at *
  have b4 := b3.trans (g4.2.mono (by omega))
  have s14 := s13.below (g4.2.mono (by omega))
  have z4 := g4.2.size
  clear g4 b3 s13 s3
  go_wp2_with (go_at_call 12; refine (refJoin_any (w4.heap.size + 1) (w4.heap.size + 1) _ [x5, s9] _ (PartsO.two (Nat.lt_succ_self _) (by omega) (Row.new_ rfl rfl) ((s14.below ((hal w4 _).mono (by omega))).more (by omega)) (s14.off (by omega)) ((s4.below (hal w4 _)).more (by omega)) (s4.off (by omega))) (by rw [asz]; exact Nat.le_refl _) (by rw [two_flat, List.length_append]; omega) (by simp)).mono ?_)
  rintro e w5 ⟨v5, rfl, g5⟩
  rw [two_flat] at g5
  have s5 := gives_sl g5
  have b5' := (hal _ _).trans (g5.2.mono (by rw [asz]; omega))
  have b5 := b4.trans (b5'.mono (by omega))
  have z5 := b5'.size
  clear g5 b5' b4 s14 s4
  go_wp2_with (go_at_call 105; refine (refSum_any _ _ _ _ s5 (Nat.le_refl _) (by rw [List.length_append]; omega)).mono ?_)
  rintro e w6 ⟨v6, rfl, g6⟩
  rw [← HM.out] at g6
  go_wp2
  go_ret
  exact ⟨_, rfl, own_mono g6.1 (by omega), b5.trans (g6.2.mono (by omega))⟩
end Go.Proofs.YtanpplniedphkaaDoor

/-
  WALKS: the document's own Expand, Ask; sha2.Extract; sha2.Expand's errors.
-/
namespace Go.Proofs.YtanpplniedphkaaDoor
open Go.RowKit
set_option maxRecDepth 100000

/-- bytes are handed back, wherever they lie -/
def BytesIs (w : World) (bs : List UInt8) (e : Ending) (w' : World) : Prop := ∃ v, e = .returned v ∧ Sl w' w'.heap.size v bs ∧ Below w.heap.size w w'
theorem three_flat (a b c : List UInt8) : [a, b, c].flatten = a ++ b ++ c := by simp
theorem run_cutE (A : Option Addr) (n c j : Nat) (hj : j ≤ c) (w : World) : (Instr.sliceAt 22 (.slice A n c) none (some (.int .i64 (j : Int))) none).run Tryd.prog w = .ok (sliced A 0 j c 1) w := by
  rw [run_sliceAt_slice _ _ _ _ _ _ slice30, run_slice_h w 22 A n c slice30 .i64 (j : Int) (by omega) (by omega), elem30, run_sizeOf_u8, Result.andThen_ok, Int.toNat_natCast]
theorem tB_le (prk info : List UInt8) (j : Nat) : (tB prk info j).length ≤ 32 := by
  cases j with
  | zero => simp [tB]
  | succ j => rw [tB_length]; omega

end Go.Proofs.YtanpplniedphkaaDoor
