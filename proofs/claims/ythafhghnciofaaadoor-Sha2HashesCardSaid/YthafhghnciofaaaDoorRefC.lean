/-
  WALK: the document's own Compress, its first half: the schedule.
-/
import Derived.Test.YthafhghnciofaaaDoorRefW
namespace Go.Proofs.YthafhghnciofaaaDoor
open Go.RowKit
set_option maxRecDepth 100000

theorem sm1_bits (y : UInt32) : bits .xor .u32 (bits .xor .u32 ((rotr y 17).toNat : Int) ((rotr y 19).toNat : Int)) ((y.toNat : Int) / 1024) = ((sm1 y).toNat : Int) := by
  have h := u32_shr y 10
  simp only [Int.reducePow] at h
  rw [h, u32_xor, u32_xor]
  rfl
theorem sm0_bits (y : UInt32) : bits .xor .u32 (bits .xor .u32 ((rotr y 7).toNat : Int) ((rotr y 18).toNat : Int)) ((y.toNat : Int) / 8) = ((sm0 y).toNat : Int) := by
  have h := u32_shr y 3
  simp only [Int.reducePow] at h
  rw [h, u32_xor, u32_xor]
  rfl

theorem addSt_comm (s v : St) : addSt s v = addSt v s := by simp [addSt, UInt32.add_comm]
theorem rot_17 (x : UInt32) (w : World) : Calls Tryd.prog 38 #[.int .u32 (x.toNat : Int), .int .u64 17] w (WordIs w (rotr x 17)) := rot_any x 17 (by decide) (by decide) w
theorem rot_19 (x : UInt32) (w : World) : Calls Tryd.prog 38 #[.int .u32 (x.toNat : Int), .int .u64 19] w (WordIs w (rotr x 19)) := rot_any x 19 (by decide) (by decide) w
theorem rot_7 (x : UInt32) (w : World) : Calls Tryd.prog 38 #[.int .u32 (x.toNat : Int), .int .u64 7] w (WordIs w (rotr x 7)) := rot_any x 7 (by decide) (by decide) w
theorem rot_18 (x : UInt32) (w : World) : Calls Tryd.prog 38 #[.int .u32 (x.toNat : Int), .int .u64 18] w (WordIs w (rotr x 18)) := rot_any x 18 (by decide) (by decide) w
theorem rot_6 (x : UInt32) (w : World) : Calls Tryd.prog 38 #[.int .u32 (x.toNat : Int), .int .u64 6] w (WordIs w (rotr x 6)) := rot_any x 6 (by decide) (by decide) w
theorem rot_11 (x : UInt32) (w : World) : Calls Tryd.prog 38 #[.int .u32 (x.toNat : Int), .int .u64 11] w (WordIs w (rotr x 11)) := rot_any x 11 (by decide) (by decide) w
theorem rot_25 (x : UInt32) (w : World) : Calls Tryd.prog 38 #[.int .u32 (x.toNat : Int), .int .u64 25] w (WordIs w (rotr x 25)) := rot_any x 25 (by decide) (by decide) w
theorem rot_2 (x : UInt32) (w : World) : Calls Tryd.prog 38 #[.int .u32 (x.toNat : Int), .int .u64 2] w (WordIs w (rotr x 2)) := rot_any x 2 (by decide) (by decide) w
theorem rot_13 (x : UInt32) (w : World) : Calls Tryd.prog 38 #[.int .u32 (x.toNat : Int), .int .u64 13] w (WordIs w (rotr x 13)) := rot_any x 13 (by decide) (by decide) w
theorem rot_22 (x : UInt32) (w : World) : Calls Tryd.prog 38 #[.int .u32 (x.toNat : Int), .int .u64 22] w (WordIs w (rotr x 22)) := rot_any x 22 (by decide) (by decide) w

set_option maxHeartbeats 1000000 in
theorem refCompress_any (s : St) (b : List UInt8) (hb : b.length = 64) (w : World) :
    Calls Tryd.prog 13 #[.agg (wordCells s.list).toArray, .agg (Lib.byteCells b).toArray] w (StIs w (comp s b)) := by
  unfold StIs
  generalize hn0 : w.heap.size = n0 at *
  have hKl := cK_length
  go_enter Tryd.func13, Tryd.ntmps13
  go_wp2_with (go_at_call 36; refine (constants_any _).mono ?_)
  rintro e w1 ⟨rfl, b1⟩
  rw [asz, asz, asz, hn0] at b1
  have hr0 : Row w1 n0 23 (wordCells s.list) := (((Row.new_ hn0.symm rfl).alloc _).alloc _).below b1 (by omega)
  have hr1 : Row w1 (n0 + 1) 24 (Lib.byteCells b) := ((Row.new_ (by rw [asz, hn0]) rfl).alloc _).below b1 (by omega)
  have hr2 : Row w1 (n0 + 2) 23 (wordCells (List.replicate 8 0)) := (Row.new_ (by rw [asz, asz, hn0]) zero8w).below b1 (by omega)
  have hb1 : Below n0 w w1 := ((((Below.refl n0 w).alloc (by omega) _).alloc (by rw [asz]; omega) _).alloc (by rw [asz, asz]; omega) _).trans (b1.mono (by omega))
  have hs1 := b1.size
  rw [asz, asz, asz, hn0] at hs1
  clear b1
  go_wp2_with (refine wpList_store_any rfl 63 (.tmp 5) (.tmp 19) rfl w1.heap.size rfl (wordCells cK) rfl 63 (wordCells (List.replicate 64 0)) (Row.new_ rfl zero64w) (info_w64.trans (size_words _ _ hKl)) (by rw [wordCells_length, wordCells_length]; rfl) (cell_oneWord _) ?_)
  intro w2 hr5 bt hs2
  try simp only [asz] at bt hs2
  replace hr0 := bt.row (hr0.alloc _) (by omega) (by omega)
  replace hr1 := bt.row (hr1.alloc _) (by omega) (by omega)
  replace hr2 := bt.row (hr2.alloc _) (by omega) (by omega)
  have hb2 : Below n0 w w2 := (hb1.alloc (by omega) _).trans (bt.under (by omega) (by omega))
  generalize hn5 : w1.heap.size = n5 at *
  clear bt hb1 hn5
  have h5 : n0 + 2 < n5 := by omega
  clear hs1
  go_wp2
  have hr6 : Row (w2.alloc (.cells (wordCells (List.replicate 64 0)).toArray 63)) w2.heap.size 63 (wordCells (List.replicate 64 0)) := Row.new_ rfl rfl
  have h6 : n5 < w2.heap.size := by omega
  replace hr0 := hr0.alloc (.cells (wordCells (List.replicate 64 0)).toArray 63)
  replace hr1 := hr1.alloc (.cells (wordCells (List.replicate 64 0)).toArray 63)
  replace hr2 := hr2.alloc (.cells (wordCells (List.replicate 64 0)).toArray 63)
  replace hr5 := hr5.alloc (.cells (wordCells (List.replicate 64 0)).toArray 63)
  replace hb2 := hb2.alloc (o := .cells (wordCells (List.replicate 64 0)).toArray 63) (by omega)
  rw [hs2] at hr6
  clear h6
  go_loopw [7, 8, 9, 20] (fun _ _ _ i wr => ∃ k : Nat, k ≤ 64 ∧ i = .int .i64 k ∧ Row wr n0 23 (wordCells s.list) ∧ Row wr (n0 + 1) 24 (Lib.byteCells b) ∧ Row wr (n0 + 2) 23 (wordCells (List.replicate 8 0)) ∧ Row wr n5 63 (wordCells cK) ∧ Row wr (n5 + 1) 63 (wordCells (sched b k ++ List.replicate (64 - k) 0)) ∧ Below n0 w wr) (fun _ _ _ i _ => 64 - (intOf i).toNat)
  case atStart => exact ⟨0, by omega, rfl, hr0, hr1, hr2, hr5, hr6, hb2⟩
  case round =>
    clear hr0 hr1 hr2 hr5 hr6 hb2
    obtain ⟨k, hk, rfl, hr0, hr1, hr2, hr5, hr6, hb2⟩ := hrel
    by_cases hlt : k < 64
    · have hcx := hr6.cell k
      rw [wordCells_get _ _ (by simp [sched_length]; omega)] at hcx
      have hf := hr6.free k
      by_cases h16 : k < 16
      · have hhx : ∀ wz, Row wz (n5 + 1) 63 (wordCells (sched b k ++ List.replicate (64 - k) 0)) → Row (wz.setCell ⟨(n5 + 1), k, none⟩ (.int .u32 ((wordB b k).toNat : Int))) (n5 + 1) 63 (wordCells (sched b (k + 1) ++ List.replicate (64 - (k + 1)) 0)) := fun wz hz => by
          have hs := hz.set_ k (.int .u32 ((nextW b (sched b k)).toNat : Int))
          rw [wordCells_set, sched_set b k 64 _ (by omega) rfl, nextW_lo b k h16] at hs
          exact hs
        have hcx2 : ∃ z : UInt32, (sched b k ++ List.replicate (64 - k) (0 : UInt32))[k]? = some z := ⟨_, List.getElem?_eq_getElem (by simp [sched_length]; omega)⟩
        go_wp2_with (first | refine wpList_load_any rfl 24 (.tmp 3) rfl (n0 + 1) rfl 24 (Lib.byteCells b) (.array 64 5) hr1 Tryd.underlying24 rfl (info_b64.trans (size_bytes _ _ hb)) ?_ | (go_at_call 37; refine (word_any b k _ hb h16).mono ?_))
        rintro e w7 ⟨rfl, b7⟩
        have r0 := hr0.below b7 hr0.lt
        have r1 := hr1.below b7 hr1.lt
        have r2 := hr2.below b7 hr2.lt
        have r5 := hr5.below b7 hr5.lt
        have r6 := hr6.below b7 hr6.lt
        have hb7 := hb2.trans (b7.mono (Nat.le_of_lt hr0.lt))
        have hcy := r6.cell k
        rw [wordCells_get _ _ (by simp [sched_length]; omega)] at hcy
        have hfy := r6.free k
        have HR := Lib.hid (hhx w7 r6)
        clear hr0 hr1 hr2 hr5 hr6 hb2 b7 hcx hf hhx hcx2
        generalize wordB b k = x at *
        go_wp2
        go_roundw
        case rel => exact ⟨k + 1, by omega, by go_num, r0.other _ _ (by show n0 ≠ (n5 + 1); omega), r1.other _ _ (by show n0 + 1 ≠ (n5 + 1); omega), r2.other _ _ (by show n0 + 2 ≠ (n5 + 1); omega), r5.other _ _ (by show n5 ≠ (n5 + 1); omega), HR.out, hb7.setCell (p := ⟨(n5 + 1), k, none⟩) (by show n0 ≤ (n5 + 1); omega) _⟩
        case measure => simp [intOf]; omega
      · have hk1 : 16 ≤ k := by omega
        have hw : ∀ d (h1 : 1 ≤ d) (h2 : d ≤ 16), ∃ (j : Nat) (x : UInt32), (j + d = k ∧ x = (sched b k).getD (k - d) 0) ∧ wr.cell? ⟨n5 + 1, j, none⟩ = some (.int .u32 (x.toNat : Int)) ∧ IntKind.i64.wrap ((k : Int) - (d : Int)) = (j : Int) ∧ (j : Int) < 64 ∧ ¬ j = k := fun d h1 h2 => by
          refine ⟨k - d, _, ⟨by omega, rfl⟩, ?_, by rw [IntKind.wrap_i64]; omega, by omega, by omega⟩
          rw [hr6.cell (k - d), wordCells_get _ _ (by simp [sched_length]; omega), List.getElem_append_left (by rw [sched_length]; omega)]
          simp [List.getD, sched_length, show k - d < k by omega]
        obtain ⟨j2, x2, hx2, hc2, q2, b2, e2⟩ := hw 2 (by omega) (by omega)
        obtain ⟨j7, x7, hx7, hc7, q7, b7, e7⟩ := hw 7 (by omega) (by omega)
        obtain ⟨j15, x15, hx15, hc15, q15, b15, e15⟩ := hw 15 (by omega) (by omega)
        obtain ⟨j16, x16, hx16, hc16, q16, b16, e16⟩ := hw 16 (by omega) (by omega)
        clear hw
        replace q2 : IntKind.i64.wrap ((k : Int) - 2) = (j2 : Int) := q2
        replace q7 : IntKind.i64.wrap ((k : Int) - 7) = (j7 : Int) := q7
        replace q15 : IntKind.i64.wrap ((k : Int) - 15) = (j15 : Int) := q15
        replace q16 : IntKind.i64.wrap ((k : Int) - 16) = (j16 : Int) := q16
        have HX := Lib.hid (And.intro hx2 (And.intro hx7 (And.intro hx15 hx16)))
        clear hx2 hx7 hx15 hx16
        go_wp2
        go_quiet (fail)
        go_wp2
        replace hr0 : Row (wr.drewN nq) n0 23 (wordCells s.list) := hr0
        replace hr1 : Row (wr.drewN nq) (n0 + 1) 24 (Lib.byteCells b) := hr1
        replace hr2 : Row (wr.drewN nq) (n0 + 2) 23 (wordCells (List.replicate 8 0)) := hr2
        replace hr5 : Row (wr.drewN nq) n5 63 (wordCells cK) := hr5
        replace hr6 : Row (wr.drewN nq) (n5 + 1) 63 (wordCells (sched b k ++ List.replicate (64 - k) 0)) := hr6
        replace hb2 : Below n0 w (wr.drewN nq) := below_drewN hb2 nq
        replace hc7 : (wr.drewN nq).cell? ⟨n5 + 1, j7, none⟩ = some (.int .u32 (x7.toNat : Int)) := hc7
        replace hc16 : (wr.drewN nq).cell? ⟨n5 + 1, j16, none⟩ = some (.int .u32 (x16.toNat : Int)) := hc16
        replace hf : (wr.drewN nq).frozen? ⟨n5 + 1, k, none⟩ = false := hf
        replace hcx : (wr.drewN nq).cell? ⟨n5 + 1, k, none⟩ = some _ := hcx
        clear hc2 hc15
        generalize wr.drewN nq = wq at *
        go_region_held3 (fun w' => w'.cell? ⟨n5 + 1, j7, none⟩ = some (.int .u32 (x7.toNat : Int)) ∧ w'.cell? ⟨n5 + 1, j16, none⟩ = some (.int .u32 (x16.toNat : Int))) (first | exact ⟨cell_set_other hc7 e7, cell_set_other hc16 e16⟩ | exact ⟨hc7, hc16⟩) (first | (go_at_call 38; (with_reducible refine (rot_17 _ _).mono ?_); rintro e w' ⟨rfl, rfl⟩) | (go_at_call 38; (with_reducible refine (rot_19 _ _).mono ?_); rintro e w' ⟨rfl, rfl⟩) | (go_at_call 38; (with_reducible refine (rot_7 _ _).mono ?_); rintro e w' ⟨rfl, rfl⟩) | (go_at_call 38; (with_reducible refine (rot_18 _ _).mono ?_); rintro e w' ⟨rfl, rfl⟩))
        go_wp2
        go_roundw
        case rel =>
          refine ⟨k + 1, by omega, by go_num, hr0.beside (by omega), hr1.beside (by omega), hr2.beside (by omega), hr5.beside (by omega), ?_, below_set2 hb2 (by omega)⟩
          have hs := hr6.set_ k (.int .u32 ((nextW b (sched b k)).toNat : Int))
          obtain ⟨⟨_, y2⟩, ⟨_, y7⟩, ⟨_, y15⟩, ⟨_, y16⟩⟩ := HX.out
          rw [wordCells_set, sched_set b k 64 _ (by omega) rfl, nextW_hi b k hk1, ← y2, ← y7, ← y15, ← y16] at hs
          simp only [sm1_bits, sm0_bits, u32_add]
          exact hs
        case measure => simp [intOf]; omega
    · rw [show k = 64 by omega, Nat.sub_self, List.replicate_zero, List.append_nil] at hr6
      have hWl := sched_length b 64
      obtain ⟨W, HW⟩ : ∃ W, Hid (W = sched b 64) := ⟨_, Lib.hid rfl⟩
      rw [← HW.out] at hr6 hWl
      have h56 := hr6.lt
      go_wp2_with (first | refine wpList_load_any rfl 23 (.tmp 2) rfl n0 rfl 23 (wordCells s.list) (.array 8 22) hr0 Tryd.underlying23 rfl (info_w8.trans (size_words _ _ rfl)) ?_ | refine wpList_store_any rfl 23 (.tmp 10) (.tmp 68) rfl wr.heap.size rfl (wordCells s.list) rfl 23 (wordCells (List.replicate 8 0)) (Row.new_ rfl zero8w) (info_w8.trans (size_words _ _ rfl)) rfl (cell_oneWord _) ?_)
      intro w9 hv0 bt hs9
      try simp only [asz] at bt hs9
      replace hr0 := bt.row (hr0.alloc _) (by omega) (by omega)
      replace hr2 := bt.row (hr2.alloc _) (by omega) (by omega)
      replace hr5 := bt.row (hr5.alloc _) (by omega) (by omega)
      replace hr6 := bt.row (hr6.alloc _) (by omega) (by omega)
      replace hb2 : Below n0 w w9 := (hb2.alloc (by omega) _).trans (bt.under (by omega) (by omega))
      clear hr1 bt hs9
      generalize wr.heap.size = n10 at *
      go_wp2
      go_loopw [11, 12, 13, 14, 15, 16, 17, 69] (fun _ _ _ _ _ _ _ i wr => ∃ (k : Nat) (v : St), k ≤ 64 ∧ i = .int .i64 k ∧ Hid (rounds s W k = v) ∧ Row wr n10 23 (wordCells v.list) ∧ Row wr n0 23 (wordCells s.list) ∧ Row wr (n0 + 2) 23 (wordCells (List.replicate 8 0)) ∧ Row wr n5 63 (wordCells cK) ∧ Row wr (n5 + 1) 63 (wordCells W) ∧ Below n0 w wr) (fun _ _ _ _ _ _ _ i _ => 64 - (intOf i).toNat)
      case atStart => exact ⟨0, s, by omega, rfl, Lib.hid rfl, hv0, hr0, hr2, hr5, hr6, hb2⟩
      case round =>
        clear hv0 hr0 hr2 hr5 hr6 hb2
        obtain ⟨k2, v, hk2, rfl, HV, hv0, hr0, hr2, hr5, hr6, hb2⟩ := hrel
        by_cases hlt2 : k2 < 64
        · have hc : ∀ j (h : j < 8), wr.cell? ⟨n10, j, none⟩ = some (.int .u32 ((v.list[j]'h).toNat : Int)) := fun j h => by rw [hv0.cell j, wordCells_get _ _ h]
          have ck := hr5.cell k2
          rw [wordCells_get _ _ (by rw [hKl]; exact hlt2)] at ck
          have cw := hr6.cell k2
          rw [wordCells_get _ _ (by omega)] at cw
          obtain ⟨kk, hkk⟩ : ∃ kk, kk = cK[k2]'(by rw [hKl]; exact hlt2) := ⟨_, rfl⟩
          obtain ⟨ww, hww⟩ : ∃ ww, ww = W[k2]'(by omega) := ⟨_, rfl⟩
          rw [← hkk] at ck
          rw [← hww] at cw
          have HR2 : Hid (rounds s W (k2 + 1) = rnd v kk ww) := Lib.hid (by
            rw [rounds, HV.out, hkk, hww, getD_get W k2 0 (by omega), getD_get cK k2 0 (by rw [hKl]; exact hlt2)])
          clear hkk hww HV
          have c0 : wr.cell? ⟨n10, 0, none⟩ = some (.int .u32 (v.a.toNat : Int)) := hc 0 (by decide)
          have c1 : wr.cell? ⟨n10, 1, none⟩ = some (.int .u32 (v.b.toNat : Int)) := hc 1 (by decide)
          have c2 : wr.cell? ⟨n10, 2, none⟩ = some (.int .u32 (v.c.toNat : Int)) := hc 2 (by decide)
          have c3 : wr.cell? ⟨n10, 3, none⟩ = some (.int .u32 (v.d.toNat : Int)) := hc 3 (by decide)
          have c4 : wr.cell? ⟨n10, 4, none⟩ = some (.int .u32 (v.e.toNat : Int)) := hc 4 (by decide)
          have c5 : wr.cell? ⟨n10, 5, none⟩ = some (.int .u32 (v.f.toNat : Int)) := hc 5 (by decide)
          have c6 : wr.cell? ⟨n10, 6, none⟩ = some (.int .u32 (v.g.toNat : Int)) := hc 6 (by decide)
          have c7 : wr.cell? ⟨n10, 7, none⟩ = some (.int .u32 (v.h.toNat : Int)) := hc 7 (by decide)
          clear hc
          go_wp2
          go_quiet (fail)
          go_wp2
          replace c0 : (wr.drewN nq).cell? ⟨n10, 0, none⟩ = some (.int .u32 (v.a.toNat : Int)) := c0
          replace c1 : (wr.drewN nq).cell? ⟨n10, 1, none⟩ = some (.int .u32 (v.b.toNat : Int)) := c1
          replace c2 : (wr.drewN nq).cell? ⟨n10, 2, none⟩ = some (.int .u32 (v.c.toNat : Int)) := c2
          replace c3 : (wr.drewN nq).cell? ⟨n10, 3, none⟩ = some (.int .u32 (v.d.toNat : Int)) := c3
          replace c4 : (wr.drewN nq).cell? ⟨n10, 4, none⟩ = some (.int .u32 (v.e.toNat : Int)) := c4
          replace c5 : (wr.drewN nq).cell? ⟨n10, 5, none⟩ = some (.int .u32 (v.f.toNat : Int)) := c5
          replace c6 : (wr.drewN nq).cell? ⟨n10, 6, none⟩ = some (.int .u32 (v.g.toNat : Int)) := c6
          replace c7 : (wr.drewN nq).cell? ⟨n10, 7, none⟩ = some (.int .u32 (v.h.toNat : Int)) := c7
          replace hv0 : Row (wr.drewN nq) n10 23 (wordCells v.list) := hv0
          replace hr0 : Row (wr.drewN nq) n0 23 (wordCells s.list) := hr0
          replace hr2 : Row (wr.drewN nq) (n0 + 2) 23 (wordCells (List.replicate 8 0)) := hr2
          replace hr5 : Row (wr.drewN nq) n5 63 (wordCells cK) := hr5
          replace hr6 : Row (wr.drewN nq) (n5 + 1) 63 (wordCells W) := hr6
          replace hb2 : Below n0 w (wr.drewN nq) := below_drewN hb2 nq
          replace ck : (wr.drewN nq).cell? ⟨n5, k2, none⟩ = some (.int .u32 (kk.toNat : Int)) := ck
          replace cw : (wr.drewN nq).cell? ⟨n5 + 1, k2, none⟩ = some (.int .u32 (ww.toNat : Int)) := cw
          generalize wr.drewN nq = wq at *
          go_region_held3 (fun w' => w'.cell? ⟨n10, 7, none⟩ = some (.int .u32 (v.h.toNat : Int)) ∧ w'.cell? ⟨n5, k2, none⟩ = some (.int .u32 (kk.toNat : Int)) ∧ w'.cell? ⟨n5 + 1, k2, none⟩ = some (.int .u32 (ww.toNat : Int))) (exact ⟨c7, ck, cw⟩) (first | (go_at_call 38; (with_reducible refine (rot_6 _ _).mono ?_); rintro e w' ⟨rfl, rfl⟩) | (go_at_call 38; (with_reducible refine (rot_11 _ _).mono ?_); rintro e w' ⟨rfl, rfl⟩) | (go_at_call 38; (with_reducible refine (rot_25 _ _).mono ?_); rintro e w' ⟨rfl, rfl⟩))
          go_wp2_with (first | (go_at_call 38; (with_reducible refine (rot_2 _ _).mono ?_); rintro e w' ⟨rfl, rfl⟩) | (go_at_call 38; (with_reducible refine (rot_13 _ _).mono ?_); rintro e w' ⟨rfl, rfl⟩) | (go_at_call 38; (with_reducible refine (rot_22 _ _).mono ?_); rintro e w' ⟨rfl, rfl⟩) | refine wpList_store_any rfl 23 (.tmp 10) (.tmp 149) rfl n10 rfl _ rfl 23 (wordCells v.list) hv0 (info_w8.trans rfl) rfl (by intro u hu; simp only [List.mem_cons, List.not_mem_nil, or_false] at hu; rcases hu with rfl | rfl | rfl | rfl | rfl | rfl | rfl | rfl <;> rfl) ?_)
          intro w5 hv5 bt5 _
          simp only [u32_not, u32_and, u32_or, u32_xor] at hv5
          have hv6 : Row w5 n10 23 (wordCells (rnd v kk ww).list) := by
            refine Eq.mp (congrArg (Row w5 n10 23) ?_) hv5
            simp only [wordCells, St.list, rnd, List.map_cons, List.map_nil, List.cons.injEq, Value.int.injEq, true_and, and_true]
            constructor
            · simp only [UInt32.toNat_add, bg1, chw, bg0, mjw]
              omega
            · simp only [UInt32.toNat_add, bg1, chw]
              omega
          have x0 := bt5.row (show Row _ n0 _ _ from hr0) (Nat.lt_trans (by omega) hv0.lt) (by omega)
          have x2 := bt5.row (show Row _ (n0 + 2) _ _ from hr2) (Nat.lt_trans (by omega) hv0.lt) (by omega)
          have x5 := bt5.row (show Row _ n5 _ _ from hr5) (Nat.lt_trans (by omega) hv0.lt) (by omega)
          have x6 := bt5.row (show Row _ (n5 + 1) _ _ from hr6) (Nat.lt_trans (by omega) hv0.lt) (by omega)
          have xb : Below n0 w w5 := hb2.drew.trans (bt5.under (Nat.le_of_lt (Nat.lt_trans (by omega) hv0.lt)) (by omega))
          clear hv5 bt5 hv0 hr0 hr2 hr5 hr6 hb2 c0 c1 c2 c3 c4 c5 c6 c7 ck cw
          go_wp2
          go_roundw
          case rel => exact ⟨k2 + 1, _, by omega, by go_num, HR2, hv6, x0, x2, x5, x6, xb⟩
          case measure => simp [intOf]; omega
        · rw [show k2 = 64 by omega] at HV
          clear hr5 hr6
          have HF : Hid (addSt v s = comp s b) := Lib.hid (by rw [comp, ← HW.out, HV.out, addSt_comm])
          go_wp2
          go_loopw [18, 151] (fun _ i wr => ∃ (k : Nat), k ≤ 8 ∧ i = .int .i64 k ∧ Row wr n10 23 (wordCells (addL v.list s.list k)) ∧ Row wr n0 23 (wordCells s.list) ∧ Row wr (n0 + 2) 23 (wordCells (List.replicate 8 0)) ∧ Below n0 w wr) (fun _ i _ => 8 - (intOf i).toNat)
          case atStart => exact ⟨0, by omega, rfl, hv0, hr0, hr2, hb2⟩
          case round =>
            clear hv0 hr0 hr2 hb2
            obtain ⟨j, hj, rfl, hv0, hr0, hr2, hb2⟩ := hrel
            by_cases hlt3 : j < 8
            · have hsl : s.list.length = 8 := rfl
              have hvl : v.list.length = 8 := rfl
              have hc := hv0.cell j
              rw [wordCells_get _ _ (by rw [addL_length _ _ _ (by omega) (by omega)]; omega), (List.getElem_eq_iff (by rw [addL_length _ _ _ (by omega) (by omega)]; omega)).2 (addL_get v.list s.list j (by omega) (by omega))] at hc
              have hd := hr0.cell j
              rw [wordCells_get _ _ (by omega)] at hd
              have hf := hv0.free j
              have HS := Lib.hid (addL_step v.list s.list j (by omega) (by omega))
              obtain ⟨x, hx⟩ : ∃ x, x = v.list[j]'(by omega) := ⟨_, rfl⟩
              obtain ⟨y, hy⟩ : ∃ y, y = s.list[j]'(by omega) := ⟨_, rfl⟩
              rw [← hx] at hc
              rw [← hy] at hd
              rw [← hx, ← hy] at HS
              clear hx hy
              go_wp2
              go_region
              go_wp2
              go_roundw
              case rel =>
                have hs := hv0.set_ j (.int .u32 ((x + y).toNat : Int))
                rw [wordCells_set, HS.out] at hs
                refine ⟨j + 1, by omega, by go_num, ?_, hr0.beside (by omega), hr2.beside (by omega), below_set2 hb2 (by omega)⟩
                simp only [u32_add]
                exact hs
              case measure => simp [intOf]; omega
            · obtain rfl : j = 8 := by omega
              rw [addL_all] at hv0
              obtain ⟨cc, HC⟩ : ∃ cc, Hid (cc = addSt v s) := ⟨_, Lib.hid rfl⟩
              rw [← HC.out] at hv0 HF
              clear hr0
              go_wp2_with (first | refine wpList_load_any rfl 23 (.tmp 10) rfl n10 rfl 23 (wordCells cc.list) (.array 8 22) hv0 Tryd.underlying23 rfl (info_w8.trans (size_words 8 cc.list (St.list_length cc))) ?_ | refine wpList_store_any rfl 23 (.tmp 4) (.tmp 163) rfl (n0 + 2) rfl (wordCells cc.list) rfl 23 _ hr2 (info_w8.trans (size_words 8 cc.list (St.list_length cc))) rfl (cell_oneWord _) ?_)
              intro w12 hr12 b12 _
              rw [HF.out] at hr12
              have hb12 : Below n0 w w12 := hb2.trans (b12.under (Nat.le_trans (Nat.le_add_right n0 2) (Nat.le_of_lt hr2.lt)) (by omega))
              clear HC HF hv0
              go_wp2
              have hsz := info_w8.trans (size_words 8 (comp s b).list (St.list_length (comp s b)))
              exact ret_row Tryd.results13 rfl rfl hr12 Tryd.underlying23 rfl hsz ⟨rfl, hb12⟩
end Go.Proofs.YthafhghnciofaaaDoor
