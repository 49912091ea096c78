/-
  WALK: sha2.Compress.
-/
import Derived.Test.YthafhghnciofaaaDoorVars
namespace Go.Proofs.YthafhghnciofaaaDoor
open Go.RowKit
set_option maxRecDepth 100000

set_option maxHeartbeats 2000000 in
theorem compress_any (s : St) (b : List UInt8) (hb : b.length = 64) (w : World) (hv : Vars w) :
    Calls Tryd.prog 12 #[.agg (wordCells s.list).toArray, .agg (Lib.byteCells b).toArray] w (StIs w (comp s b)) := by
  unfold StIs comp
  have hsch := schedule_any b hb
  have hWl := sched_length b 64
  generalize sched b 64 = W at hsch hWl ⊢
  have hpos := hv.pos
  go_enter Tryd.func12, Tryd.ntmps12
  generalize hn0 : w.heap.size = n0 at *
  go_wp2_with (first | refine wpList_load_row rfl 24 (.tmp 3) rfl _ rfl 24 (Lib.byteCells b).toArray (0, 0) _ (show Row _ _ _ (Lib.byteCells b) from (Row.new_ (by rw [asz, hn0]) rfl).alloc _) Tryd.underlying24 rfl (by rw [info_b64]; simp [Lib.byteCells, hb]) ?_ | (go_at_call 31; refine (hsch _).mono ?_))
  rintro e w1 ⟨rfl, b1⟩
  rw [asz, asz, asz, hn0] at b1
  have hr0 : Row w1 n0 23 (wordCells s.list) := (((Row.new_ hn0.symm rfl).alloc _).alloc _).below b1 (by omega)
  have hr2 : Row w1 (n0 + 2) 23 (wordCells (List.replicate 8 0)) := (Row.new_ (by rw [asz, asz, hn0]) zero8w).below b1 (by omega)
  have hb1 : Below n0 w w1 := ((((Below.refl n0 w).alloc (by omega) _).alloc (by rw [asz]; omega) _).alloc (by rw [asz, asz]; omega) _).trans (b1.mono (by omega))
  have hsz := b1.size
  rw [asz, asz, asz, hn0] at hsz
  have hv1 : Vars w1 := hv.step (by rw [hn0]; exact hb1)
  clear b1 hv hb hsch
  go_wp2_with (refine wpList_store_any rfl 63 (.tmp 5) (.tmp 20) rfl w1.heap.size rfl (wordCells W) rfl 63 (wordCells (List.replicate 64 0)) (Row.new_ rfl zero64w) (info_w64.trans (size_words _ _ (hWl))) (by simp [wordCells_length, hWl]) (cell_oneWord _) ?_)
  intro w2 hr5 bt hs2
  try simp only [asz] at bt hs2
  replace hr0 := bt.row (hr0.alloc _) (by omega) (by omega)
  replace hr2 := bt.row (hr2.alloc _) (by omega) (by omega)
  have hb2 : Below n0 w w2 := (hb1.alloc (by omega) _).trans (bt.under (by omega) (by omega))
  have hv2 : Vars w2 := (hv1.step (Below.alloc (Below.refl _ _) (Nat.le_refl _) _)).but (by rw [asz]; exact bt) (by omega)
  generalize hn5 : w1.heap.size = n5 at *
  clear bt hb1 hv1 hs2 hn5 w1
  have hc : ∀ k (h : k < 8), w2.cell? ⟨n0, k, none⟩ = some (.int .u32 ((s.list[k]'h).toNat : Int)) := fun k h => by rw [hr0.cell k, wordCells_get _ _ h]
  have c0 : w2.cell? ⟨n0, 0, none⟩ = some (.int .u32 (s.a.toNat : Int)) := hc 0 (by decide)
  have c1 : w2.cell? ⟨n0, 1, none⟩ = some (.int .u32 (s.b.toNat : Int)) := hc 1 (by decide)
  have c2 : w2.cell? ⟨n0, 2, none⟩ = some (.int .u32 (s.c.toNat : Int)) := hc 2 (by decide)
  have c3 : w2.cell? ⟨n0, 3, none⟩ = some (.int .u32 (s.d.toNat : Int)) := hc 3 (by decide)
  have c4 : w2.cell? ⟨n0, 4, none⟩ = some (.int .u32 (s.e.toNat : Int)) := hc 4 (by decide)
  have c5 : w2.cell? ⟨n0, 5, none⟩ = some (.int .u32 (s.f.toNat : Int)) := hc 5 (by decide)
  have c6 : w2.cell? ⟨n0, 6, none⟩ = some (.int .u32 (s.g.toNat : Int)) := hc 6 (by decide)
  have c7 : w2.cell? ⟨n0, 7, none⟩ = some (.int .u32 (s.h.toNat : Int)) := hc 7 (by decide)
  clear hc
  go_wp2
  go_quiet (fail)
  go_wp2
  go_loopw [6, 7, 8, 9, 10, 11, 12, 13, 37] (fun v6 v7 v8 v9 v10 v11 v12 v13 i wr => ∃ (k : Nat) (a1 b1 c1 d1 e1 f1 g1 h1 : UInt32), k ≤ 64 ∧ i = .int .i64 k ∧ v6 = .int .u32 (a1.toNat : Int) ∧ v7 = .int .u32 (b1.toNat : Int) ∧ v8 = .int .u32 (c1.toNat : Int) ∧ v9 = .int .u32 (d1.toNat : Int) ∧ v10 = .int .u32 (e1.toNat : Int) ∧ v11 = .int .u32 (f1.toNat : Int) ∧ v12 = .int .u32 (g1.toNat : Int) ∧ v13 = .int .u32 (h1.toNat : Int) ∧ Hid (rounds s W k = ⟨a1, b1, c1, d1, e1, f1, g1, h1⟩) ∧ Row wr n0 23 (wordCells s.list) ∧ Row wr (n0 + 2) 23 (wordCells (List.replicate 8 0)) ∧ Row wr n5 63 (wordCells W) ∧ Vars wr ∧ Below n0 w wr) (fun _ _ _ _ _ _ _ _ i _ => 64 - (intOf i).toNat)
  case atStart => exact ⟨0, s.a, s.b, s.c, s.d, s.e, s.f, s.g, s.h, Nat.zero_le _, rfl, rfl, rfl, rfl, rfl, rfl, rfl, rfl, rfl, Lib.hid rfl, hr0, hr2, hr5, hv2, below_drewN hb2 _⟩
  case round =>
    clear hr0 hr2 hr5 hv2 hb2 c0 c1 c2 c3 c4 c5 c6 c7
    obtain ⟨k, a1, b1, c1, d1, e1, f1, g1, h1, hk, rfl, rfl, rfl, rfl, rfl, rfl, rfl, rfl, rfl, HR, hr0, hr2, hr5, hv3, hb3⟩ := hrel
    by_cases hlt : k < 64
    · have ck := hv3 k hlt
      have cw := hr5.cell k
      rw [wordCells_get _ _ (by omega)] at cw
      obtain ⟨kk, hkk⟩ : ∃ kk, kk = cK.getD k 0 := ⟨_, rfl⟩
      obtain ⟨ww, hww⟩ : ∃ ww, ww = W[k]'(by omega) := ⟨_, rfl⟩
      rw [← hkk] at ck
      rw [← hww] at cw
      have HR2 : Hid (rounds s W (k + 1) = rnd ⟨a1, b1, c1, d1, e1, f1, g1, h1⟩ kk ww) := Lib.hid (by
        rw [rounds, HR.out, hkk, hww, getD_get W k 0 (by omega)])
      clear hkk hww HR
      go_wp2
      go_region_held3 (fun w' => w'.cell? ⟨0, k, none⟩ = some (.int .u32 (kk.toNat : Int)) ∧ w'.cell? ⟨n5, k, none⟩ = some (.int .u32 (ww.toNat : Int))) (exact ⟨ck, cw⟩) (first | (go_at_call 32; refine (sum1_any _ _).mono ?_; rintro e w' ⟨rfl, rfl⟩) | (go_at_call 33; refine (choice_any _ _ _ _).mono ?_; rintro e w' ⟨rfl, rfl⟩))
      go_wp2_with (first | (go_at_call 34; refine (sum0_any _ _).mono ?_) | (go_at_call 35; refine (majority_any _ _ _ _).mono ?_))
      rintro e w3 ⟨rfl, rfl⟩
      go_wp2_with (first | (go_at_call 34; refine (sum0_any _ _).mono ?_) | (go_at_call 35; refine (majority_any _ _ _ _).mono ?_))
      rintro e w3 ⟨rfl, rfl⟩
      go_wp2
      go_roundw
      case rel =>
        refine ⟨k + 1, _, _, _, _, _, _, _, _, by omega, by go_num, ?_, rfl, rfl, rfl, ?_, rfl, rfl, rfl, HR2, hr0, hr2, hr5, hv3, hb3.drew⟩
        · simp only [u32_add]
        · simp only [u32_add]
      case measure => simp [intOf]; omega
    · have HF : Hid (addSt s (rounds s W 64) = addSt s ⟨a1, b1, c1, d1, e1, f1, g1, h1⟩) := Lib.hid (by
        rw [← HR.out, show k = 64 by omega])
      clear HR
      generalize hv : (⟨a1, b1, c1, d1, e1, f1, g1, h1⟩ : St) = v at *
      have hL : (#[.int .u32 (a1.toNat : Int), .int .u32 (b1.toNat : Int), .int .u32 (c1.toNat : Int), .int .u32 (d1.toNat : Int), .int .u32 (e1.toNat : Int), .int .u32 (f1.toNat : Int), .int .u32 (g1.toNat : Int), .int .u32 (h1.toNat : Int)] : Array Value) = (wordCells v.list).toArray := by rw [← hv]; rfl
      have HV := Lib.hid hL
      clear hv hL
      go_wp2
      rw [HV.out]
      clear HV
      go_loopw [86] (fun i wr => ∃ (k : Nat), k ≤ 8 ∧ i = .int .i64 k ∧ Row wr n0 23 (wordCells (addL s.list v.list k)) ∧ Row wr (n0 + 2) 23 (wordCells (List.replicate 8 0)) ∧ Below n0 w wr) (fun i _ => 8 - (intOf i).toNat)
      case atStart => exact ⟨0, Nat.zero_le _, rfl, hr0, hr2, hb3⟩
      case round =>
        clear hr0 hr2 hr5 hv3 hb3
        obtain ⟨j, hj, rfl, hr0, hr2, hb3⟩ := hrel
        by_cases hlt2 : j < 8
        · have hsl : s.list.length = 8 := rfl
          have hvl : v.list.length = 8 := rfl
          generalize s.list = sl at *
          generalize v.list = vl at *
          have hix := index_words vl hvl j hlt2
          have hc := hr0.cell j
          rw [wordCells_get _ _ (by rw [addL_length _ _ _ (by omega) (by omega)]; omega), (List.getElem_eq_iff (by rw [addL_length _ _ _ (by omega) (by omega)]; omega)).2 (addL_get sl vl j (by omega) (by omega))] at hc
          have hf := hr0.free j
          have HS := Lib.hid (addL_step sl vl j (by omega) (by omega))
          obtain ⟨x, hx⟩ : ∃ x, x = sl[j]'(by omega) := ⟨_, rfl⟩
          obtain ⟨y, hy⟩ : ∃ y, y = vl[j]'(by omega) := ⟨_, rfl⟩
          rw [← hy] at hix
          rw [← hx] at hc
          rw [← hx, ← hy] at HS
          clear hx hy
          generalize (wordCells vl).toArray = arr at *
          go_wp2
          go_roundw
          case rel =>
            have hs := hr0.set_ j (.int .u32 ((x + y).toNat : Int))
            rw [wordCells_set, HS.out] at hs
            refine ⟨j + 1, by omega, by go_num, ?_, hr2.other ⟨n0, j, none⟩ _ (by show n0 + 2 ≠ n0; omega), hb3.setCell (p := ⟨n0, j, none⟩) (Nat.le_refl _) _⟩
            simp only [u32_add]
            exact hs
          case measure => simp [intOf]; omega
        · obtain rfl : j = 8 := by omega
          rw [addL_all] at hr0
          go_wp2_with (first | refine wpList_load_any rfl 23 (.tmp 2) rfl n0 rfl 23 (wordCells (addSt s v).list) _ hr0 Tryd.underlying23 rfl (info_w8.trans (size_words _ _ rfl)) ?_ | refine wpList_store_any rfl 23 (.tmp 4) (.tmp 97) rfl (n0 + 2) rfl (wordCells (addSt s v).list) rfl 23 _ hr2 (info_w8.trans (size_words _ _ rfl)) rfl (cell_oneWord _) ?_)
          intro w9 hr9 b9 _
          have HE : wordCells (addSt s v).list = wordCells (addSt s (rounds s W 64)).list := by rw [HF.out]
          rw [HE] at hr9
          have hb9 : Below n0 w w9 := hb3.trans (b9.under (Nat.le_trans (Nat.le_add_right n0 2) (Nat.le_of_lt hr2.lt)) (by omega))
          clear HE HF
          go_wp2
          exact ret_row Tryd.results12 rfl rfl hr9 Tryd.underlying23 rfl (info_w8.trans (size_words _ _ rfl)) ⟨rfl, hb9⟩
end Go.Proofs.YthafhghnciofaaaDoor
